/-
  INSTR: the document's own names, shapes and alignments by contracts.
-/
import Derived.Test.YtolbdioijbdlmaaDoorInstrShape
import Derived.Test.YtolbdioijbdlmaaDoorInstrText
namespace Go.Proofs.YtolbdioijbdlmaaDoor.Instr
open Go.RowKit

theorem nameTab_none : ∀ j : Fin 121, (¬(69 ≤ j.val ∧ j.val ≤ 79) ∧ ¬(103 ≤ j.val ∧ j.val ≤ 120) ∧ j.val ≠ 0 ∧ j.val ≠ 1 ∧ j.val ≠ 2 ∧ j.val ≠ 3 ∧ j.val ≠ 4 ∧ j.val ≠ 12 ∧ j.val ≠ 13 ∧ j.val ≠ 14 ∧ j.val ≠ 15 ∧ j.val ≠ 16 ∧ j.val ≠ 17 ∧ j.val ≠ 26 ∧ j.val ≠ 27 ∧ j.val ≠ 32 ∧ j.val ≠ 33 ∧ j.val ≠ 34 ∧ j.val ≠ 35 ∧ j.val ≠ 36 ∧ j.val ≠ 40 ∧ j.val ≠ 44 ∧ j.val ≠ 45 ∧ j.val ≠ 46 ∧ j.val ≠ 47 ∧ j.val ≠ 54 ∧ j.val ≠ 58 ∧ j.val ≠ 59 ∧ j.val ≠ 63 ∧ j.val ≠ 64 ∧ j.val ≠ 65) → nameTab.getD j.val [] = [] := by decide +kernel
theorem nameL_none (op : Int) (h : ¬(69 ≤ op ∧ op ≤ 79) ∧ ¬(103 ≤ op ∧ op ≤ 120) ∧ op ≠ 0 ∧ op ≠ 1 ∧ op ≠ 2 ∧ op ≠ 3 ∧ op ≠ 4 ∧ op ≠ 12 ∧ op ≠ 13 ∧ op ≠ 14 ∧ op ≠ 15 ∧ op ≠ 16 ∧ op ≠ 17 ∧ op ≠ 26 ∧ op ≠ 27 ∧ op ≠ 32 ∧ op ≠ 33 ∧ op ≠ 34 ∧ op ≠ 35 ∧ op ≠ 36 ∧ op ≠ 40 ∧ op ≠ 44 ∧ op ≠ 45 ∧ op ≠ 46 ∧ op ≠ 47 ∧ op ≠ 54 ∧ op ≠ 58 ∧ op ≠ 59 ∧ op ≠ 63 ∧ op ≠ 64 ∧ op ≠ 65) : nameL op = [] := by
  unfold nameL
  split
  · exact nameTab_none ⟨op.toNat, by omega⟩ (by simp only; omega)
  · rfl
set_option maxHeartbeats 2000000 in
theorem stored_any (op : Int) (w : World) (h : ¬(69 ≤ op ∧ op ≤ 79) ∧ ¬(103 ≤ op ∧ op ≤ 120) ∧ op ≠ 0 ∧ op ≠ 1 ∧ op ≠ 2 ∧ op ≠ 3 ∧ op ≠ 4 ∧ op ≠ 12 ∧ op ≠ 13 ∧ op ≠ 14 ∧ op ≠ 15 ∧ op ≠ 16 ∧ op ≠ 17 ∧ op ≠ 26 ∧ op ≠ 27) : Calls Tryd.prog 33 #[.int .i64 op] w fun e w' => e = .returned (.string (strOfNums (nameL op))) ∧ w = w' := by
  by_cases hin : op ≠ 32 ∧ op ≠ 33 ∧ op ≠ 34 ∧ op ≠ 35 ∧ op ≠ 36 ∧ op ≠ 40 ∧ op ≠ 44 ∧ op ≠ 45 ∧ op ≠ 46 ∧ op ≠ 47 ∧ op ≠ 54 ∧ op ≠ 58 ∧ op ≠ 59 ∧ op ≠ 63 ∧ op ≠ 64 ∧ op ≠ 65
  · have hn : nameL op = [] := nameL_none op (by omega)
    rw [hn]
    clear hn h
    obtain ⟨n32, n33, n34, n35, n36, n40, n44, n45, n46, n47, n54, n58, n59, n63, n64, n65⟩ := hin
    go_enter Tryd.func33, Tryd.ntmps33
    go_wp2
    go_ret
    exact ⟨rfl, rfl⟩
  · have hor : op = 32 ∨ op = 33 ∨ op = 34 ∨ op = 35 ∨ op = 36 ∨ op = 40 ∨ op = 44 ∨ op = 45 ∨ op = 46 ∨ op = 47 ∨ op = 54 ∨ op = 58 ∨ op = 59 ∨ op = 63 ∨ op = 64 ∨ op = 65 := by omega
    clear hin h
    rcases hor with rfl | rfl | rfl | rfl | rfl | rfl | rfl | rfl | rfl | rfl | rfl | rfl | rfl | rfl | rfl | rfl
    all_goals
      go_enter Tryd.func33, Tryd.ntmps33
      go_wp2
      go_ret
      exact ⟨by kernel_rfl, rfl⟩
set_option maxHeartbeats 2000000 in
theorem other_any (op : Int) (w : World) (h : ¬(69 ≤ op ∧ op ≤ 79) ∧ ¬(103 ≤ op ∧ op ≤ 120)) : Calls Tryd.prog 24 #[.int .i64 op] w fun e w' => e = .returned (.string (strOfNums (nameL op))) ∧ w = w' := by
  have CS := fun hh => stored_any op w hh
  obtain ⟨v, hv⟩ : ∃ v, strOfNums (nameL op) = v := ⟨_, rfl⟩
  rw [hv] at CS ⊢
  have HV := hid hv
  have HH := hid h
  have HC := hid CS
  clear hv h CS
  by_cases hin : op ≠ 0 ∧ op ≠ 1 ∧ op ≠ 2 ∧ op ≠ 3 ∧ op ≠ 4 ∧ op ≠ 12 ∧ op ≠ 13 ∧ op ≠ 14 ∧ op ≠ 15 ∧ op ≠ 16 ∧ op ≠ 17 ∧ op ≠ 26 ∧ op ≠ 27
  · have hne : op ≠ 0 ∧ op ≠ 1 ∧ op ≠ 2 ∧ op ≠ 3 ∧ op ≠ 4 ∧ op ≠ 12 ∧ op ≠ 13 ∧ op ≠ 14 ∧ op ≠ 15 ∧ op ≠ 16 ∧ op ≠ 17 ∧ op ≠ 26 ∧ op ≠ 27 := by
      have := HH.out
      omega
    have C := HC.out ⟨HH.out.1, HH.out.2, hne⟩
    clear HC HH HV
    obtain ⟨n0, n1, n2, n3, n4, n12, n13, n14, n15, n16, n17, n26, n27⟩ := hin
    clear hne
    go_enter Tryd.func24, Tryd.ntmps24
    go_wp2_with (go_at_call 33; refine C.mono ?_; rintro e w1 ⟨rfl, rfl⟩)
    go_ret
    exact ⟨rfl, rfl⟩
  · clear HC
    have hor : op = 0 ∨ op = 1 ∨ op = 2 ∨ op = 3 ∨ op = 4 ∨ op = 12 ∨ op = 13 ∨ op = 14 ∨ op = 15 ∨ op = 16 ∨ op = 17 ∨ op = 26 ∨ op = 27 := by omega
    clear hin
    have hv := HV.out
    clear HV HH
    rcases hor with rfl | rfl | rfl | rfl | rfl | rfl | rfl | rfl | rfl | rfl | rfl | rfl | rfl
    all_goals
      subst hv
      go_enter Tryd.func24, Tryd.ntmps24
      go_wp2
      go_ret
      exact ⟨by kernel_rfl, rfl⟩
end Go.Proofs.YtolbdioijbdlmaaDoor.Instr
