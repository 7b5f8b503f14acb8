/-
  Kind: the document's own Check, CheckLimits, by contract.
-/
import Derived.Test.YtcgjlbpokmlkbaaDoorKindCheck
import Derived.Deep.RegionHeldLaw
namespace Go.Proofs.YtcgjlbpokmlkbaaDoor.Kind
open Go.RowKit

set_option maxHeartbeats 800000 in
theorem refCheckLimits_any (n x : Int) (c : Bool) (most : Int) (w : World) : Calls Tryd.prog 24 #[.agg #[.int .u32 n, .int .u32 x, .bool c], .int .u32 most] w
    fun e w' => e = .returned (.int .i64 (codeLim n x c most)) ∧ Below w.heap.size w w' := by
  by_cases h1 : most < n
  · have HC : Hid (codeLim n x c most = 2) := by show _ = _; unfold codeLim okLim; rw [if_neg]; simp; omega
    go_enter Tryd.func24, Tryd.ntmps24
    go_wp2
    go_ret
    exact ⟨ret_int HC.out.symm, (Below.refl _ _).alloc (Nat.le_refl _) _⟩
  · cases c
    · by_cases h2 : x = 0
      · subst h2
        have HC : Hid (codeLim n 0 false most = 0) := by show _ = _; unfold codeLim okLim; rw [if_pos]; simp; omega
        go_enter Tryd.func24, Tryd.ntmps24
        go_wp2
        go_ret
        exact ⟨ret_int HC.out.symm, (Below.refl _ _).alloc (Nat.le_refl _) _⟩
      · have HC : Hid (codeLim n x false most = 2) := by show _ = _; unfold codeLim okLim; rw [if_neg]; simp; omega
        have h3 : (x != 0) = true := by simp [h2]
        go_enter Tryd.func24, Tryd.ntmps24
        go_wp2
        go_ret
        exact ⟨ret_int HC.out.symm, (Below.refl _ _).alloc (Nat.le_refl _) _⟩
    · by_cases h2 : x < n
      · have HC : Hid (codeLim n x true most = 2) := by show _ = _; unfold codeLim okLim; rw [if_neg]; simp; omega
        go_enter Tryd.func24, Tryd.ntmps24
        go_wp2
        go_ret
        exact ⟨ret_int HC.out.symm, (Below.refl _ _).alloc (Nat.le_refl _) _⟩
      · by_cases h3 : most < x
        · have HC : Hid (codeLim n x true most = 2) := by show _ = _; unfold codeLim okLim; rw [if_neg]; simp; omega
          go_enter Tryd.func24, Tryd.ntmps24
          go_wp2
          go_ret
          exact ⟨ret_int HC.out.symm, (Below.refl _ _).alloc (Nat.le_refl _) _⟩
        · have HC : Hid (codeLim n x true most = 0) := by show _ = _; unfold codeLim okLim; rw [if_pos]; simp; omega
          go_enter Tryd.func24, Tryd.ntmps24
          go_wp2
          go_ret
          exact ⟨ret_int HC.out.symm, (Below.refl _ _).alloc (Nat.le_refl _) _⟩

end Go.Proofs.YtcgjlbpokmlkbaaDoor.Kind
