/-
  MODULE: the small predicates: what is wrong with a number, an import, a function, an export, a type, limits; how long a name is.
-/
import Derived.Test.YtlfflomeaplidaaDoorModHeap
import Derived.Test.YtlfflomeaplidaaDoorKindCheck
namespace Go.Proofs.YtlfflomeaplidaaDoor.Mod
open Go.RowKit Go.Proofs.YtlfflomeaplidaaDoor.Instr

theorem wrongN_any (n : Int) (w : World) : Calls Tryd.prog 86 #[.int .i64 n] w fun e w' => e = .returned (.bool (wrongN n)) ∧ w = w' := by
  have H : Hid (wrongN n = (decide (n < 0) || decide (2147483647 < n))) := rfl
  by_cases h : n < 0
  · have HE : Hid (wrongN n = true) := by show _ = _; rw [H.out]; simp [h]
    go_enter Tryd.func86, Tryd.ntmps86
    go_wp2
    go_ret
    exact ⟨ret_bool HE.out.symm, rfl⟩
  · have h' : decide (n < 0) = false := by simpa using h
    have HE : Hid (wrongN n = decide (2147483647 < n)) := by show _ = _; rw [H.out, h', Bool.false_or]
    clear H
    go_enter Tryd.func86, Tryd.ntmps86
    go_wp2
    go_ret
    exact ⟨ret_bool HE.out.symm, rfl⟩
theorem wrongI_any (x : Imp) (w : World) : Calls Tryd.prog 51 #[.agg #[.string x.mo, .string x.na, .int .i64 x.ty]] w fun e w' => e = .returned (.bool (wrongI x)) ∧ Below w.heap.size w w' := by
  unfold wrongI
  obtain ⟨q, hq⟩ : ∃ q, wrongN x.ty = q := ⟨_, rfl⟩
  have C := hid (fun w => wrongN_any x.ty w)
  rw [hq] at C ⊢
  clear hq
  go_enter Tryd.func51, Tryd.ntmps51
  go_wp2_with fail
  refine (C.out _).mono ?_
  rintro e w1 ⟨rfl, rfl⟩
  go_wp2
  go_ret
  exact ⟨rfl, (Below.refl _ _).alloc (Nat.le_refl _) _⟩
set_option maxHeartbeats 800000 in
theorem wrongF_any (x : Fn) (w : World) : Calls Tryd.prog 54 #[.agg #[.int .i64 x.ty, .int .i64 x.lo, .slice x.l.a x.l.t.len x.l.c]] w fun e w' => e = .returned (.bool (wrongF x)) ∧ Below w.heap.size w w' := by
  have H : Hid (wrongF x = (wrongN x.ty || (decide (x.lo < 0) || decide (50000 < x.lo)))) := rfl
  obtain ⟨q, hq⟩ : ∃ q, wrongN x.ty = q := ⟨_, rfl⟩
  have C := hid (fun w => wrongN_any x.ty w)
  rw [hq] at C H
  clear hq
  obtain ⟨lo, hlo⟩ : ∃ lo, x.lo = lo := ⟨_, rfl⟩
  rw [hlo] at H ⊢
  clear hlo
  cases q with
  | true =>
    have HE : Hid (wrongF x = true) := by show _ = _; rw [H.out]; rfl
    go_enter Tryd.func54, Tryd.ntmps54
    go_wp2_with fail
    refine (C.out _).mono ?_
    rintro e w1 ⟨rfl, rfl⟩
    go_wp2
    go_ret
    exact ⟨ret_bool HE.out.symm, (Below.refl _ _).alloc (Nat.le_refl _) _⟩
  | false =>
    by_cases h : lo < 0
    · have HE : Hid (wrongF x = true) := by show _ = _; rw [H.out]; simp [h]
      go_enter Tryd.func54, Tryd.ntmps54
      go_wp2_with fail
      refine (C.out _).mono ?_
      rintro e w1 ⟨rfl, rfl⟩
      go_wp2
      go_ret
      exact ⟨ret_bool HE.out.symm, (Below.refl _ _).alloc (Nat.le_refl _) _⟩
    · have h' : decide (lo < 0) = false := by simpa using h
      have HE : Hid (wrongF x = decide (50000 < lo)) := by show _ = _; rw [H.out, h', Bool.false_or, Bool.false_or]
      go_enter Tryd.func54, Tryd.ntmps54
      go_wp2_with fail
      refine (C.out _).mono ?_
      rintro e w1 ⟨rfl, rfl⟩
      go_wp2
      go_ret
      exact ⟨ret_bool HE.out.symm, (Below.refl _ _).alloc (Nat.le_refl _) _⟩
theorem wrongE_any (x : Ex) (w : World) : Calls Tryd.prog 57 #[.agg #[.string x.na, .int .i64 x.k, .int .u32 x.i]] w fun e w' => e = .returned (.bool (wrongE x)) ∧ Below w.heap.size w w' := by
  have H : Hid (wrongE x = (decide (x.k < 0) || decide (3 < x.k))) := rfl
  obtain ⟨lo, hlo⟩ : ∃ lo, x.k = lo := ⟨_, rfl⟩
  rw [hlo] at H ⊢
  clear hlo
  by_cases h : lo < 0
  · have HE : Hid (wrongE x = true) := by show _ = _; rw [H.out]; simp [h]
    go_enter Tryd.func57, Tryd.ntmps57
    go_wp2
    go_ret
    exact ⟨ret_bool HE.out.symm, (Below.refl _ _).alloc (Nat.le_refl _) _⟩
  · have h' : decide (lo < 0) = false := by simpa using h
    have HE : Hid (wrongE x = decide (3 < lo)) := by show _ = _; rw [H.out, h', Bool.false_or]
    go_enter Tryd.func57, Tryd.ntmps57
    go_wp2
    go_ret
    exact ⟨ret_bool HE.out.symm, (Below.refl _ _).alloc (Nat.le_refl _) _⟩
theorem isLong_any (s : ByteArray) (w : World) : Calls Tryd.prog 40 #[.string s] w fun e w' => e = .returned (.bool (longS s)) ∧ Below w.heap.size w w' := by
  have HE : Hid (longS s = decide (1000 < s.size)) := rfl
  go_enter Tryd.func40, Tryd.ntmps40
  go_wp2
  go_ret
  exact ⟨ret_bool (by rw [HE.out]; simp; omega), Below.refl _ _⟩
theorem wrongT_any (x : Int × Int) (w : World) : Calls Tryd.prog 48 #[.agg #[.int .i64 x.1, .int .i64 x.2]] w fun e w' => e = .returned (.bool (wrongT x)) ∧ Below w.heap.size w w' := by
  have C := hid (fun w => Kind.check_any x.1 x.2 w)
  unfold Kind.codeType at C
  unfold wrongT
  obtain ⟨q, hq⟩ : ∃ q, Kind.okType x.1 x.2 = q := ⟨_, rfl⟩
  rw [hq] at C ⊢
  clear hq
  cases q
  all_goals
    simp only [Bool.false_eq_true, if_true, if_false] at C
    go_enter Tryd.func48, Tryd.ntmps48
    go_wp2_with fail
    refine (C.out _).mono ?_
    rintro e w1 ⟨rfl, hb1⟩
    go_wp2
    go_ret
    exact ⟨rfl, thenB ((Below.refl _ _).alloc (Nat.le_refl _) _) hb1⟩
theorem beyond_any (x : Li) (g : Nat) (most : Int) (w : World) (hc : w.cell? ⟨g, 0, none⟩ = some (.int .u32 most)) :
    Calls Tryd.prog 89 #[.agg #[.int .u32 x.n, .int .u32 x.x, .bool x.c], .pointer (some ⟨g, 0, none⟩)] w fun e w' => e = .returned (.bool (beyond most x)) ∧ Below w.heap.size w w' := by
  have C := hid (fun w => Kind.checkLimits_any x.n x.x x.c most w)
  unfold Kind.codeLim at C
  unfold beyond
  obtain ⟨q, hq⟩ : ∃ q, Kind.okLim x.n x.x x.c most = q := ⟨_, rfl⟩
  rw [hq] at C ⊢
  clear hq
  have hg := World.block_lt_of_cell? w _ hc
  cases q
  all_goals
    simp only [Bool.false_eq_true, if_true, if_false] at C
    go_enter Tryd.func89, Tryd.ntmps89
    go_wp2_with fail
    refine (C.out _).mono ?_
    rintro e w1 ⟨rfl, hb1⟩
    go_wp2
    go_ret
    exact ⟨rfl, thenB ((Below.refl _ _).alloc (Nat.le_refl _) _) hb1⟩
end Go.Proofs.YtlfflomeaplidaaDoor.Mod
