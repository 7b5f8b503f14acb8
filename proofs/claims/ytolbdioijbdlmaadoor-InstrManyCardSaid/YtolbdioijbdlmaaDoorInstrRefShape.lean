/-
  INSTR: the document's own shapes and alignments by contracts.
-/
import Derived.Test.YtolbdioijbdlmaaDoorInstrShape
namespace Go.Proofs.YtolbdioijbdlmaaDoor.Instr
open Go.RowKit Num

set_option maxHeartbeats 800000 in
theorem refArity_any (op : Int) (w : World) : Calls Tryd.prog 23 #[.int .i64 op] w fun e w' => e = .returned (.int .i64 (arity op)) ∧ w = w' := by
  have hh : op < 69 ∨ op = 69 ∨ (70 ≤ op ∧ op ≤ 79) ∨ (80 ≤ op ∧ op ≤ 102) ∨ (103 ≤ op ∧ op ≤ 105) ∨ (106 ≤ op ∧ op ≤ 120) ∨ 120 < op := by omega
  have H : Hid (arity op = if op = 69 ∨ (103 ≤ op ∧ op ≤ 105) then 1 else if (70 ≤ op ∧ op ≤ 79) ∨ (106 ≤ op ∧ op ≤ 120) then 2 else 0) := hid rfl
  rcases hh with h | h | ⟨h, h'⟩ | ⟨h, h'⟩ | ⟨h, h'⟩ | ⟨h, h'⟩ | h
  · rw [H.out, if_neg (by omega), if_neg (by omega)]
    clear H
    go_enter Tryd.func23, Tryd.ntmps23
    go_wp2
    go_ret
    exact ⟨rfl, rfl⟩
  · subst h
    clear H
    go_enter Tryd.func23, Tryd.ntmps23
    go_wp2
    go_ret
    exact ⟨rfl, rfl⟩
  · rw [H.out, if_neg (by omega), if_pos (by omega)]
    clear H
    go_enter Tryd.func23, Tryd.ntmps23
    go_wp2
    go_ret
    exact ⟨rfl, rfl⟩
  · rw [H.out, if_neg (by omega), if_neg (by omega)]
    clear H
    go_enter Tryd.func23, Tryd.ntmps23
    go_wp2
    go_ret
    exact ⟨rfl, rfl⟩
  · rw [H.out, if_pos (by omega)]
    clear H
    go_enter Tryd.func23, Tryd.ntmps23
    go_wp2
    go_ret
    exact ⟨rfl, rfl⟩
  · rw [H.out, if_neg (by omega), if_pos (by omega)]
    clear H
    have e1 : decide (op ≤ 105) = false := by simp; omega
    have e2 : (op == 69) = false := by simp; omega
    go_enter Tryd.func23, Tryd.ntmps23
    go_wp2
    go_ret
    exact ⟨rfl, rfl⟩
  · rw [H.out, if_neg (by omega), if_neg (by omega)]
    clear H
    have e1 : decide (op ≤ 105) = false := by simp; omega
    have e2 : (op == 69) = false := by simp; omega
    have e3 : decide (op ≤ 79) = false := by simp; omega
    have e4 : decide (op ≤ 120) = false := by simp; omega
    go_enter Tryd.func23, Tryd.ntmps23
    go_wp2
    go_ret
    exact ⟨rfl, rfl⟩

theorem refAlign_any (op : Int) (w : World) : Calls Tryd.prog 10 #[.int .i64 op] w fun e w' => e = .returned (.tuple #[.int .u32 (alignP op), .bool (storedP op)]) ∧ w = w' := by
  obtain ⟨u, hu⟩ : ∃ u, alignP op = u := ⟨_, rfl⟩
  obtain ⟨v, hv⟩ : ∃ v, storedP op = v := ⟨_, rfl⟩
  rw [hu, hv]
  have HU := hid hu
  have HV := hid hv
  clear hu hv
  go_enter Tryd.func10, Tryd.ntmps10
  go_wp2
  all_goals go_ret2
  all_goals
    refine ⟨?_, rfl⟩
    have hu := HU.out
    have hv := HV.out
    clear HU HV
    simp only [beq_iff_eq, beq_eq_false_iff_ne, ne_eq] at *
    subst hu hv
    refine congrArg Ending.returned (congrArg Value.tuple ?_)
    simp [alignP, storedP, *]
theorem shape_none : ∀ j : Fin 66, (j.val ≠ 1 ∧ j.val ≠ 26 ∧ j.val ≠ 27 ∧ j.val ≠ 32 ∧ j.val ≠ 33 ∧ j.val ≠ 34 ∧ j.val ≠ 35 ∧ j.val ≠ 36 ∧ j.val ≠ 40 ∧ j.val ≠ 44 ∧ j.val ≠ 45 ∧ j.val ≠ 46 ∧ j.val ≠ 47 ∧ j.val ≠ 54 ∧ j.val ≠ 58 ∧ j.val ≠ 59 ∧ j.val ≠ 63 ∧ j.val ≠ 64 ∧ j.val ≠ 65) → takesTab.getD j.val 0 = 0 ∧ leavesTab.getD j.val 0 = 0 ∧ knownTab.getD j.val false = false := by decide +kernel
theorem shapeO_none (op : Int) (h : op ≠ 1 ∧ op ≠ 26 ∧ op ≠ 27 ∧ op ≠ 32 ∧ op ≠ 33 ∧ op ≠ 34 ∧ op ≠ 35 ∧ op ≠ 36 ∧ op ≠ 40 ∧ op ≠ 44 ∧ op ≠ 45 ∧ op ≠ 46 ∧ op ≠ 47 ∧ op ≠ 54 ∧ op ≠ 58 ∧ op ≠ 59 ∧ op ≠ 63 ∧ op ≠ 64 ∧ op ≠ 65) : takesO op = 0 ∧ leavesO op = 0 ∧ knownO op = false := by
  unfold takesO leavesO knownO
  split
  · exact shape_none ⟨op.toNat, by omega⟩ (by simp only; omega)
  · exact ⟨rfl, rfl, rfl⟩
set_option maxHeartbeats 4000000 in
theorem refShape_any (op : Int) (w : World) : Calls Tryd.prog 8 #[.int .i64 op] w fun e w' => e = .returned (.tuple #[.int .i64 (takesP op), .int .i64 (leavesP op), .bool (knownP op)]) ∧ w = w' := by
  have CN := refArity_any op w
  have CA := refAlign_any op w
  unfold takesP leavesP knownP
  by_cases hp : 0 < Num.arity op
  · rw [if_pos hp, if_pos hp, if_pos hp]
    obtain ⟨n, hn⟩ : ∃ n, Num.arity op = n := ⟨_, rfl⟩
    rw [hn] at CN hp ⊢
    clear hn CA
    have C := hid CN
    clear CN
    go_enter Tryd.func8, Tryd.ntmps8
    go_wp2_with fail
    refine C.out.mono ?_
    clear C
    rintro e w1 ⟨rfl, rfl⟩
    go_wp2
    go_ret3
    exact ⟨rfl, rfl⟩
  · rw [if_neg hp, if_neg hp, if_neg hp]
    have h0 : Num.arity op = 0 := by have := arity_range op; omega
    rw [h0] at CN
    clear hp
    by_cases hin : op ≠ 1 ∧ op ≠ 26 ∧ op ≠ 27 ∧ op ≠ 32 ∧ op ≠ 33 ∧ op ≠ 34 ∧ op ≠ 35 ∧ op ≠ 36 ∧ op ≠ 40 ∧ op ≠ 44 ∧ op ≠ 45 ∧ op ≠ 46 ∧ op ≠ 47 ∧ op ≠ 54 ∧ op ≠ 58 ∧ op ≠ 59 ∧ op ≠ 63 ∧ op ≠ 64 ∧ op ≠ 65
    · obtain ⟨t1, t2, t3⟩ := shapeO_none op hin
      have hs : storedP op = false := by unfold storedP; simp; omega
      rw [hs] at CA
      rw [t1, t2, t3]
      obtain ⟨u, hu⟩ : ∃ u, alignP op = u := ⟨_, rfl⟩
      rw [hu] at CA
      clear hu hs t1 t2 t3 h0
      have C := hid CN
      have D := hid CA
      clear CN CA
      obtain ⟨n1, n26, n27, n32, n33, n34, n35, n36, n40, n44, n45, n46, n47, n54, n58, n59, n63, n64, n65⟩ := hin
      have e1 : (op == 1) = false := by simpa using n1
      have e26 : (op == 26) = false := by simpa using n26
      have e27 : (op == 27) = false := by simpa using n27
      have e32 : (op == 32) = false := by simpa using n32
      have e33 : (op == 33) = false := by simpa using n33
      have e34 : (op == 34) = false := by simpa using n34
      have e35 : (op == 35) = false := by simpa using n35
      have e36 : (op == 36) = false := by simpa using n36
      have e40 : (op == 40) = false := by simpa using n40
      have e44 : (op == 44) = false := by simpa using n44
      have e45 : (op == 45) = false := by simpa using n45
      have e46 : (op == 46) = false := by simpa using n46
      have e47 : (op == 47) = false := by simpa using n47
      have e54 : (op == 54) = false := by simpa using n54
      have e58 : (op == 58) = false := by simpa using n58
      have e59 : (op == 59) = false := by simpa using n59
      have e63 : (op == 63) = false := by simpa using n63
      have e64 : (op == 64) = false := by simpa using n64
      have e65 : (op == 65) = false := by simpa using n65
      go_enter Tryd.func8, Tryd.ntmps8
      go_wp2_with fail
      refine C.out.mono ?_
      clear C
      rintro e w1 ⟨rfl, rfl⟩
      go_wp2_with fail
      refine D.out.mono ?_
      clear D
      rintro e w1 ⟨rfl, rfl⟩
      go_wp2
      go_ret3
      exact ⟨rfl, rfl⟩
    · have hor : op = 1 ∨ op = 26 ∨ op = 27 ∨ op = 32 ∨ op = 33 ∨ op = 34 ∨ op = 35 ∨ op = 36 ∨ op = 40 ∨ op = 44 ∨ op = 45 ∨ op = 46 ∨ op = 47 ∨ op = 54 ∨ op = 58 ∨ op = 59 ∨ op = 63 ∨ op = 64 ∨ op = 65 := by omega
      clear hin h0
      rcases hor with rfl | rfl | rfl | rfl | rfl | rfl | rfl | rfl | rfl | rfl | rfl | rfl | rfl | rfl | rfl | rfl | rfl | rfl | rfl
      all_goals
        have C := hid CN
        have D := hid CA
        clear CN CA
        go_enter Tryd.func8, Tryd.ntmps8
        go_wp2_with fail
        refine C.out.mono ?_
        clear C
        rintro e w1 ⟨rfl, rfl⟩
        go_wp2_with fail
        refine D.out.mono ?_
        clear D
        rintro e w1 ⟨rfl, rfl⟩
        go_wp2
        go_ret3
        exact ⟨by kernel_rfl, rfl⟩
end Go.Proofs.YtolbdioijbdlmaaDoor.Instr
