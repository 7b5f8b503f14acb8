/-
  NUM: Arity by contract, wherever the table of arities lies as it was laid. (For seats that hold no other operation of num.)
-/
import Derived.Test.YtcgjlbpokmlkbaaDoorNumPlain
import Derived.Test.YtcgjlbpokmlkbaaDoorBase2
namespace Go.Proofs.YtcgjlbpokmlkbaaDoor.Num
open Go.RowKit

/-- The table of arities, as the program's text lays it. -/
def arTab : List Int := List.replicate 69 0 ++ [1] ++ List.replicate 10 2 ++ List.replicate 23 0 ++ [1, 1, 1] ++ List.replicate 15 2
/-- The table of arities lies as it was laid. -/
def Arit (w : World) : Prop := ∀ j, j < 121 → w.cell? ⟨0, j, none⟩ = some (.int .u8 (arTab.getD j 0))
theorem Arit.below {w w' : World} (h : Arit w) (hb : Below w.heap.size w w') : Arit w' := fun j hj => keep hb (h j hj)
theorem arTab_at : ∀ j : Fin 121, arTab.getD j.val 0 = arity (j.val : Int) := by decide +kernel
theorem arity_range (op : Int) : 0 ≤ arity op ∧ arity op ≤ 2 := by unfold arity; split <;> (try split) <;> omega
theorem arity_out {op : Int} (h : op < 0 ∨ 121 ≤ op) : arity op = 0 := by unfold arity; rw [if_neg (by omega), if_neg (by omega)]

set_option maxHeartbeats 400000 in
theorem Arity_any (op : Int) (w : World) (hT : Arit w) : Calls Tryd.prog 53 #[.int .i64 op] w fun e w' => e = .returned (.int .i64 (arity op)) ∧ w = w' := by
  obtain ⟨v, hv⟩ : ∃ v, arity op = v := ⟨_, rfl⟩
  by_cases h : 0 ≤ op ∧ op < 121
  · have hc := hT op.toNat (by omega)
    rw [arTab_at ⟨op.toNat, by omega⟩] at hc
    simp only [Int.toNat_of_nonneg h.1] at hc
    have hr := arity_range op
    rw [hv] at hr hc ⊢
    obtain ⟨h0, h1⟩ := h
    obtain ⟨r0, r1⟩ := hr
    clear hv hT
    go_enter Tryd.func53, Tryd.ntmps53
    go_wp2
    go_ret
    exact ⟨rfl, rfl⟩
  · rw [arity_out (by omega)]
    clear hv hT
    have h' : op < 0 ∨ 121 ≤ op := by omega
    clear h
    rcases h' with h' | h'
    all_goals
      go_enter Tryd.func53, Tryd.ntmps53
      go_wp2
      go_ret
      exact ⟨rfl, rfl⟩
end Go.Proofs.YtcgjlbpokmlkbaaDoor.Num
