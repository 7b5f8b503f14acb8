/-
  INSTR: the statements' Pick, by contract.
-/
import Derived.Test.YtcjamlgdidiaeaaDoorInstrPlain
import Derived.Test.YtcjamlgdidiaeaaDoorBase2
namespace Go.Proofs.YtcjamlgdidiaeaaDoor.Instr
open Go.RowKit

theorem Pick_any (x n : Int) (h1 : 1 ≤ n) (h2 : n ≤ 1000000) (w : World) : Calls Tryd.prog 25 #[.int .i64 x, .int .i64 n] w fun e w' => (∃ m : Int, e = .returned (.int .i64 m) ∧ 0 ≤ m ∧ m < n) ∧ w = w' := by
  have hb1 : -n < x.tmod n ∧ x.tmod n < n := by
    exact ⟨Int.lt_tmod_of_pos x (by omega), Int.tmod_lt_of_pos x (by omega)⟩
  obtain ⟨q, hq⟩ : ∃ q, x.tmod n = q := ⟨_, rfl⟩
  rw [hq] at hb1
  obtain ⟨b0, b1⟩ := hb1
  by_cases hs : q < 0
  · go_enter Tryd.func25, Tryd.ntmps25
    go_wp2
    go_ret
    exact ⟨⟨q + n, rfl, by omega, by omega⟩, rfl⟩
  · have hs' : 0 ≤ q := by omega
    go_enter Tryd.func25, Tryd.ntmps25
    go_wp2
    go_ret
    exact ⟨⟨q, rfl, by omega, by omega⟩, rfl⟩
end Go.Proofs.YtcjamlgdidiaeaaDoor.Instr
