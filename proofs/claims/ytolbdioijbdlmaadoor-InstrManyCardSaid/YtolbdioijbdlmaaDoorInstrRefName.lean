/-
  INSTR: the document's own names by contract.
-/
import Derived.Test.YtolbdioijbdlmaaDoorInstrRefNameA
import Derived.Test.YtolbdioijbdlmaaDoorInstrRefNameB
namespace Go.Proofs.YtolbdioijbdlmaaDoor.Instr
open Go.RowKit

set_option maxHeartbeats 4000000 in
theorem refName_any (op : Int) (w : World) : Calls Tryd.prog 12 #[.int .i64 op] w fun e w' => e = .returned (.string (strOfNums (nameL op))) ∧ Below w.heap.size w w' := by
  have hor : (¬(69 ≤ op ∧ op ≤ 79) ∧ ¬(103 ≤ op ∧ op ≤ 120)) ∨ op = 69 ∨ op = 70 ∨ op = 71 ∨ op = 72 ∨ op = 73 ∨ op = 74 ∨ op = 75 ∨ op = 76 ∨ op = 77 ∨ op = 78 ∨ op = 79 ∨ op = 103 ∨ op = 104 ∨ op = 105 ∨ op = 106 ∨ op = 107 ∨ op = 108 ∨ op = 109 ∨ op = 110 ∨ op = 111 ∨ op = 112 ∨ op = 113 ∨ op = 114 ∨ op = 115 ∨ op = 116 ∨ op = 117 ∨ op = 118 ∨ op = 119 ∨ op = 120 := by omega
  rcases hor with h | hor
  · have C := fun w' => other_any op w' h
    obtain ⟨v, hv⟩ : ∃ v, strOfNums (nameL op) = v := ⟨_, rfl⟩
    simp only [hv] at C
    rw [hv]
    clear hv
    have h1 : decide (69 ≤ op) = false ∨ decide (op ≤ 79) = false := by simp; omega
    have h2 : decide (103 ≤ op) = false ∨ decide (op ≤ 120) = false := by simp; omega
    clear h
    rcases h1 with h1 | h1 <;> rcases h2 with h2 | h2
    all_goals
      go_enter Tryd.func12, Tryd.ntmps12
      go_wp2_with (go_at_call 24; refine (C _).mono ?_; rintro e w1 ⟨rfl, rfl⟩)
      all_goals go_ret
      all_goals exact ⟨rfl, thenA (thenA (Below.refl _ _) _) _⟩
  · have h3 : (op = 69 ∨ op = 70 ∨ op = 71 ∨ op = 72 ∨ op = 73 ∨ op = 74 ∨ op = 75 ∨ op = 76 ∨ op = 77 ∨ op = 78 ∨ op = 79) ∨ (op = 103 ∨ op = 104 ∨ op = 105 ∨ op = 106 ∨ op = 107 ∨ op = 108 ∨ op = 109 ∨ op = 110 ∨ op = 111) ∨ (op = 112 ∨ op = 113 ∨ op = 114 ∨ op = 115 ∨ op = 116 ∨ op = 117 ∨ op = 118 ∨ op = 119 ∨ op = 120) := by omega
    rcases h3 with h | h | h
    · exact refName_a op w h
    · exact refName_b op w h
    · exact refName_c op w h
end Go.Proofs.YtolbdioijbdlmaaDoor.Instr
