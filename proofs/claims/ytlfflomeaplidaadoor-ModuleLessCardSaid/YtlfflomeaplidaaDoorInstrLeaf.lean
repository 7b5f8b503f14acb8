/-
  INSTR: Name, Align, used, shapeOf and Shape by contracts.
-/
import Derived.Test.YtlfflomeaplidaaDoorInstrPlain
import Derived.Test.YtlfflomeaplidaaDoorStrs
import Derived.BigQuiet
namespace Go.Proofs.YtlfflomeaplidaaDoor.Instr
open Go.RowKit

theorem drewN {B n : Nat} {a w : World} (h : Below B a w) : Below B a (w.drewN n) := ⟨h.os, h.tape, h.output, h.size, h.block⟩
/-- The table of names lies as it was laid. -/
def Nams (w : World) : Prop := ∀ j, j < 121 → w.cell? ⟨0, j, none⟩ = some (.string (strOfNums (nameTab.getD j [])))
theorem Nams.below {w w' : World} (h : Nams w) (hb : Below w.heap.size w w') : Nams w' := fun j hj => keep hb (h j hj)

theorem Name_any (op : Int) (w : World) (hT : Nams w) : Calls Tryd.prog 93 #[.int .i64 op] w fun e w' => e = .returned (.string (strOfNums (nameL op))) ∧ w = w' := by
  by_cases h : 0 ≤ op ∧ op < 121
  · have hc := hT op.toNat (by omega)
    have hn : nameTab.getD op.toNat [] = nameL op := by unfold nameL; rw [if_pos h]
    rw [hn] at hc
    obtain ⟨v, hv⟩ : ∃ v, strOfNums (nameL op) = v := ⟨_, rfl⟩
    rw [hv] at hc ⊢
    obtain ⟨h0, h1⟩ := h
    clear hv hT hn
    go_enter Tryd.func93, Tryd.ntmps93
    go_wp2
    go_ret
    exact ⟨rfl, rfl⟩
  · have hn : nameL op = [] := by unfold nameL; rw [if_neg h]
    rw [hn]
    clear hn hT
    have h' : op < 0 ∨ 121 ≤ op := by omega
    clear h
    rcases h' with h' | h'
    all_goals
      go_enter Tryd.func93, Tryd.ntmps93
      go_wp2
      go_ret
      exact ⟨rfl, rfl⟩

/-- Aligned by what, at most; and whether an operation loads or stores. -/
def alignP (op : Int) : Int := if op = 40 ∨ op = 54 then 2 else if op = 46 ∨ op = 47 ∨ op = 59 then 1 else 0
def storedP (op : Int) : Bool := decide (op = 40 ∨ op = 54 ∨ op = 46 ∨ op = 47 ∨ op = 59 ∨ op = 44 ∨ op = 45 ∨ op = 58)
theorem Align_any (op : Int) (w : World) : Calls Tryd.prog 120 #[.int .i64 op] w fun e w' => e = .returned (.tuple #[.int .u32 (alignP op), .bool (storedP op)]) ∧ w = w' := by
  obtain ⟨u, hu⟩ : ∃ u, alignP op = u := ⟨_, rfl⟩
  obtain ⟨v, hv⟩ : ∃ v, storedP op = v := ⟨_, rfl⟩
  rw [hu, hv]
  have HU := hid hu
  have HV := hid hv
  clear hu hv
  go_enter Tryd.func120, Tryd.ntmps120
  go_wp2
  all_goals go_ret2
  all_goals
    refine ⟨?_, rfl⟩
    have hu := HU.out
    have hv := HV.out
    clear HU HV
    simp only [beq_iff_eq, beq_eq_false_iff_ne, ne_eq] at *
    subst hu hv
    refine congrArg Ending.returned (congrArg Value.tuple ?_)
    simp [alignP, storedP, *]
theorem used_any (op : Int) (w : World) : Calls Tryd.prog 95 #[.int .i64 op] w fun e w' => e = .returned (.int .u8 (usedP op)) ∧ w = w' := by
  have CA := Align_any op w
  obtain ⟨u, hu⟩ : ∃ u, alignP op = u := ⟨_, rfl⟩
  rw [hu] at CA
  clear hu
  obtain ⟨v, hv⟩ : ∃ v, usedP op = v := ⟨_, rfl⟩
  rw [hv]
  have HV := hid hv
  clear hv
  cases hs : storedP op
  all_goals
    rw [hs] at CA
    have HS := hid hs
    have C := hid CA
    clear hs CA
    go_enter Tryd.func95, Tryd.ntmps95
    go_wp2_with fail
    refine C.out.mono ?_
    clear C
    rintro e w1 ⟨rfl, rfl⟩
    go_wp2
  all_goals go_ret
  all_goals
    refine ⟨?_, rfl⟩
    have hv := HV.out
    have hs := HS.out
    clear HV HS
    simp only [beq_iff_eq, beq_eq_false_iff_ne, ne_eq] at *
    subst hv
    refine ret_int ?_
    simp only [storedP, decide_eq_true_eq, decide_eq_false_iff_not] at hs
    unfold usedP
    (repeat' split) <;> first | rfl | (exfalso; omega)
end Go.Proofs.YtlfflomeaplidaaDoor.Instr
