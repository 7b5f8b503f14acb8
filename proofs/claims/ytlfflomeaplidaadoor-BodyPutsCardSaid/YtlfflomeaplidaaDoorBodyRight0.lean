/-
  BODY: the document's own test of one instruction, by contract. (tools/gen_bodyright.py)
-/
import Derived.Test.YtlfflomeaplidaaDoorBodyRefName
import Derived.Test.YtlfflomeaplidaaDoorBodyPlain
import Derived.Test.YtlfflomeaplidaaDoorInstrHeap
import Derived.Test.YtlfflomeaplidaaDoorBodyIns
namespace Go.Proofs.YtlfflomeaplidaaDoor.Body
set_option linter.unusedVariables false
open Go.RowKit Go.Proofs.YtlfflomeaplidaaDoor.Instr

theorem lists_kind (op : Int) : listsP op = decide (kindP op = 1) := by
  unfold listsP kindP
  (repeat' split) <;> simp_all <;> omega
theorem which_kind (op : Int) : whichP op = decide (kindP op = 2 ∨ kindP op = 3) := by
  unfold whichP kindP
  (repeat' split) <;> simp_all <;> omega
theorem stored_kind (op : Int) : storedP op = decide (kindP op = 5) := by
  unfold storedP kindP
  (repeat' split) <;> simp_all <;> omega
theorem four_kind {op : Int} : op = 14 ↔ kindP op = 4 := by
  unfold kindP
  (repeat' split) <;> simp_all <;> omega
theorem seven_kind {op : Int} : op = 65 ↔ kindP op = 7 := by
  unfold kindP
  (repeat' split) <;> simp_all <;> omega
theorem right_none (op res a b n : Int) (tl ln en : Nat) (ta la ea : Option Addr) (tc lc ec : Nat) (w : World) (h : nameL op = []) :
    Calls Tryd.prog 101 #[.agg #[.int .i64 op, .int .i64 res, .int .u32 a, .int .u32 b, .int .i32 n, .slice ta tl tc, .slice la ln lc, .slice ea en ec]] w fun e w' => e = .returned (.bool false) ∧ Below w.heap.size w w' := by
  have FA := hid (fun W => refAlign_any op W)
  have FN := hid (fun W => refName_any op W)
  have hs : strOfNums (nameL op) = ⟨#[]⟩ := by rw [h]; rfl
  rw [hs] at FN
  obtain ⟨al, hal⟩ : ∃ al, alignP op = al := ⟨_, rfl⟩
  obtain ⟨st, hst⟩ : ∃ st, storedP op = st := ⟨_, rfl⟩
  rw [hal, hst] at FA
  have M := hid ((fun o => (Below.refl w.heap.size w).alloc (Nat.le_refl _) o) (.cells #[.int .i64 op, .int .i64 res, .int .u32 a, .int .u32 b, .int .i32 n, .slice ta tl tc, .slice la ln lc, .slice ea en ec] 61))
  clear h hs hal hst
  go_enter Tryd.func101, Tryd.ntmps101
  go_wp2_with fail
  refine (FA.out _).mono ?_
  rintro e w1 ⟨rfl, rfl⟩
  go_wp2_with fail
  refine (FN.out _).mono ?_
  rintro e w1 ⟨rfl, hb1⟩
  have HB := hid (M.out.trans (hb1.mono M.out.size))
  clear hb1
  go_wp2
  go_ret
  exact ⟨rfl, HB.out⟩
end Go.Proofs.YtlfflomeaplidaaDoor.Body
