import Derived.Test.YtckdnhafookcgaaGreatDoorPn01
import Derived.Test.YtckdnhafookcgaaGreatDoorPn02
import Derived.Test.YtckdnhafookcgaaGreatDoorPn05
import Derived.Test.YtckdnhafookcgaaGreatDoorPn04
import Derived.Deep.RegionHeld3
import Derived.Shelf.Abstract
import Derived.Shelf.RegionOpen
import Derived.OwnWalkIn
import Derived.TacticsInMore
import Derived.LoopNIn
import Derived.LoopIn
import Derived.Maps.OwnOps
import Derived.Maps.Views
import Derived.Laws.CopyOwn
import Derived.LaidEqlPtr
import Derived.ChangeKeysEq
import Derived.Deep.RegionLaw
import Derived.Laws.AppendOwnNone
import Derived.Lib.OthersKept
import Derived.Laws.MakeOwn
import Derived.Laws.OwnMore
import Derived.Laws.Tables
import Derived.Deep.WholeRow
import Derived.RegionTactic
import Derived.BigRegion
import Derived.Deep.QuietTactic
import Derived.BigQuiet
import Derived.Laws.Rows
import Derived.Laws.IdiomCopy
namespace Go.Proofs.YtckdnhafookcgaaGreatDoor.Instr
end Go.Proofs.YtckdnhafookcgaaGreatDoor.Instr
namespace Go.Proofs.YtckdnhafookcgaaGreatDoor.Mod
end Go.Proofs.YtckdnhafookcgaaGreatDoor.Mod
namespace Go.Proofs.YtckdnhafookcgaaGreatDoor.Stk
end Go.Proofs.YtckdnhafookcgaaGreatDoor.Stk
namespace Go.Proofs.YtckdnhafookcgaaGreatDoor.Num
end Go.Proofs.YtckdnhafookcgaaGreatDoor.Num
namespace Go.Proofs.YtckdnhafookcgaaGreatDoor.Kind
open Go.RowKit

theorem nearestType_any (p r : Int) (w : World) : Calls Tryz.prog 212 #[.agg #[.int .i64 p, .int .i64 r]] w
    fun e w' => e = .returned (.agg #[.int .i64 (min (max p 0) 255), .int .i64 (min (max r 0) 1)]) ∧ Below w.heap.size w w' := by
  go_enter Tryz.func212, Tryz.ntmps212
  go_wp2
  all_goals
    refine bodyPost_ret (v := .agg #[.int .i64 (min (max p 0) 255), .int .i64 (min (max r 0) 1)]) ?_ rfl ⟨rfl, ((Below.refl _ _).alloc (Nat.le_refl _) _).alloc (by simp) _⟩
    first
      | (simp [results, Tryz.results212, go_sem]; done)
      | (simp [results, Tryz.results212, go_sem]; omega)
theorem near_ok {p r : Int} (h : okType p r = true) : min (max p 0) 255 = p ∧ min (max r 0) 1 = r := by
  unfold okType at h; simp at h; omega
theorem near_no {p r : Int} (h : okType p r = false) : ¬ (p = min (max p 0) 255 ∧ r = min (max r 0) 1) := by
  rintro ⟨h1, h2⟩
  have : okType p r = true := by unfold okType; simp; omega
  rw [h] at this; cases this
theorem box_start (w : World) (x y : Value) (t : TypeId) : Below w.heap.size w (w.alloc (.cells #[x, y] t)).drew ∧ (w.alloc (.cells #[x, y] t)).drew.cell? ⟨w.heap.size, 0, none⟩ = some x ∧ (w.alloc (.cells #[x, y] t)).drew.cell? ⟨w.heap.size, 1, none⟩ = some y :=
  ⟨((Below.refl _ _).alloc (Nat.le_refl _) _).drew, by go_simp, by go_simp⟩
theorem box_keep {w w1 w2 : World} {x y : Value} {k : Nat} (h : Below w.heap.size w w1 ∧ w1.cell? ⟨k, 0, none⟩ = some x ∧ w1.cell? ⟨k, 1, none⟩ = some y) (hb : Below w1.heap.size w1 w2) :
    Below w.heap.size w w2 ∧ w2.cell? ⟨k, 0, none⟩ = some x ∧ w2.cell? ⟨k, 1, none⟩ = some y := ⟨thenB h.1 hb, keep hb h.2.1, keep hb h.2.2⟩
theorem box_out {w w1 : World} {x y : Value} {k : Nat} (h : Below w.heap.size w w1 ∧ w1.cell? ⟨k, 0, none⟩ = some x ∧ w1.cell? ⟨k, 1, none⟩ = some y) : Below w.heap.size w w1 := h.1
def codeType (p r : Int) : Int := if okType p r then 0 else 2
set_option maxHeartbeats 800000 in
theorem check_any (p r : Int) (w : World) : Calls Tryz.prog 183 #[.agg #[.int .i64 p, .int .i64 r]] w
    fun e w' => e = .returned (.int .i64 (codeType p r)) ∧ Below w.heap.size w w' := by
  have q1 := eqType
  have q2 := guardType
  have hN := fun w => nearestType_any p r w
  by_cases h : okType p r = true
  · obtain ⟨e1, e2⟩ := near_ok h
    have HC : Hid (codeType p r = 0) := by unfold codeType; rw [if_pos h]; rfl
    simp only [e1, e2] at hN
    clear h e1 e2
    go_enter Tryz.func183, Tryz.ntmps183
    go_wp2
    go_region_held3 (fun w' => Below w.heap.size w w' ∧ w'.cell? ⟨w.heap.size, 0, none⟩ = some (.int .i64 p) ∧ w'.cell? ⟨w.heap.size, 1, none⟩ = some (.int .i64 r)) (first | assumption | exact box_start w _ _ _ | exact box_keep (by assumption) (by assumption))
      (first
        | (go_at_call 212; refine (hN _).mono ?_; rintro e w2 ⟨rfl, hb2⟩))
    go_wp2
    go_ret
    exact ⟨ret_int HC.out.symm, box_out (x := .int .i64 p) (y := .int .i64 r) (k := w.heap.size) (by assumption)⟩
  · have h' : okType p r = false := by simpa using h
    have hn := near_no h'
    have HC : Hid (codeType p r = 2) := by unfold codeType; rw [h']; rfl
    generalize min (max p 0) 255 = m1 at *
    generalize min (max r 0) 1 = m2 at *
    have hor : (p == m1) = false ∧ (p != m1) = true ∨ (r == m2) = false ∧ (r != m2) = true := by
      by_cases h1 : p = m1
      · right
        have : r ≠ m2 := fun h2 => hn ⟨h1, h2⟩
        simp [this]
      · left; simp [h1]
    clear h h' hn
    rcases hor with ⟨n1, n2⟩ | ⟨n1, n2⟩
    all_goals
      go_enter Tryz.func183, Tryz.ntmps183
      go_wp2
      go_region_held3 (fun w' => Below w.heap.size w w' ∧ w'.cell? ⟨w.heap.size, 0, none⟩ = some (.int .i64 p) ∧ w'.cell? ⟨w.heap.size, 1, none⟩ = some (.int .i64 r)) (first | assumption | exact box_start w _ _ _ | exact box_keep (by assumption) (by assumption))
        (first
          | (go_at_call 212; refine (hN _).mono ?_; rintro e w2 ⟨rfl, hb2⟩))
      go_wp2
      go_ret
      exact ⟨ret_int HC.out.symm, box_out (x := .int .i64 p) (y := .int .i64 r) (k := w.heap.size) (by assumption)⟩

theorem nearestLimits_any (n x most : Int) (c : Bool) (w : World) : Calls Tryz.prog 208 #[.agg #[.int .u32 n, .int .u32 x, .bool c], .int .u32 most] w
    fun e w' => e = .returned (.agg #[.int .u32 (min n most), .int .u32 (if c then min (max x (min n most)) most else 0), .bool c]) ∧ Below w.heap.size w w' := by
  cases c
  · go_enter Tryz.func208, Tryz.ntmps208
    go_wp2
    all_goals
      refine bodyPost_ret (v := .agg #[.int .u32 (min n most), .int .u32 0, .bool false]) ?_ rfl ⟨rfl, ?_⟩
      · simp [results, Tryz.results208, go_sem]
        try omega
      · first | exact ((Below.refl _ _).alloc (Nat.le_refl _) _).alloc (by simp) _ | trace_state
  · go_enter Tryz.func208, Tryz.ntmps208
    go_wp2
    all_goals
      refine bodyPost_ret (v := .agg #[.int .u32 (min n most), .int .u32 (min (max x (min n most)) most), .bool true]) ?_ rfl ⟨rfl, ?_⟩
      · simp [results, Tryz.results208, go_sem]
        try omega
      · first | exact ((Below.refl _ _).alloc (Nat.le_refl _) _).alloc (by simp) _ | trace_state
theorem nearL_ok {n x most : Int} {c : Bool} (h : okLim n x c most = true) : min n most = n ∧ (if c then min (max x (min n most)) most else 0) = x := by
  unfold okLim at h; cases c <;> simp at h ⊢ <;> omega
theorem nearL_no {n x most : Int} {c : Bool} (h : okLim n x c most = false) : ¬ (n = min n most ∧ x = (if c then min (max x (min n most)) most else 0)) := by
  rintro ⟨h1, h2⟩
  have : okLim n x c most = true := by unfold okLim; cases c <;> simp at h2 ⊢ <;> omega
  rw [h] at this; cases this
def codeLim (n x : Int) (c : Bool) (most : Int) : Int := if okLim n x c most then 0 else 2
theorem box3_start (w : World) (x y z : Value) (t : TypeId) : Below w.heap.size w (w.alloc (.cells #[x, y, z] t)).drew ∧ (w.alloc (.cells #[x, y, z] t)).drew.cell? ⟨w.heap.size, 0, none⟩ = some x ∧ (w.alloc (.cells #[x, y, z] t)).drew.cell? ⟨w.heap.size, 1, none⟩ = some y ∧ (w.alloc (.cells #[x, y, z] t)).drew.cell? ⟨w.heap.size, 2, none⟩ = some z :=
  ⟨((Below.refl _ _).alloc (Nat.le_refl _) _).drew, by go_simp, by go_simp, by go_simp⟩
theorem box3_keep {w w1 w2 : World} {x y z : Value} {k : Nat} (h : Below w.heap.size w w1 ∧ w1.cell? ⟨k, 0, none⟩ = some x ∧ w1.cell? ⟨k, 1, none⟩ = some y ∧ w1.cell? ⟨k, 2, none⟩ = some z) (hb : Below w1.heap.size w1 w2) :
    Below w.heap.size w w2 ∧ w2.cell? ⟨k, 0, none⟩ = some x ∧ w2.cell? ⟨k, 1, none⟩ = some y ∧ w2.cell? ⟨k, 2, none⟩ = some z := ⟨thenB h.1 hb, keep hb h.2.1, keep hb h.2.2.1, keep hb h.2.2.2⟩
theorem box3_out {w w1 : World} {x y z : Value} {k : Nat} (h : Below w.heap.size w w1 ∧ w1.cell? ⟨k, 0, none⟩ = some x ∧ w1.cell? ⟨k, 1, none⟩ = some y ∧ w1.cell? ⟨k, 2, none⟩ = some z) : Below w.heap.size w w1 := h.1
set_option maxHeartbeats 800000 in
theorem checkLimits_any (n x : Int) (c : Bool) (most : Int) (w : World) : Calls Tryz.prog 173 #[.agg #[.int .u32 n, .int .u32 x, .bool c], .int .u32 most] w
    fun e w' => e = .returned (.int .i64 (codeLim n x c most)) ∧ Below w.heap.size w w' := by
  have q1 := eqLim
  have q2 := guardLim
  have hN := fun w => nearestLimits_any n x most c w
  by_cases h : okLim n x c most = true
  · obtain ⟨e1, e2⟩ := nearL_ok h
    have HC : Hid (codeLim n x c most = 0) := by unfold codeLim; rw [if_pos h]; rfl
    rw [e2] at hN
    simp only [e1] at hN
    clear h e1 e2
    go_enter Tryz.func173, Tryz.ntmps173
    go_wp2
    go_region_held3 (fun w' => Below w.heap.size w w' ∧ w'.cell? ⟨w.heap.size, 0, none⟩ = some (.int .u32 n) ∧ w'.cell? ⟨w.heap.size, 1, none⟩ = some (.int .u32 x) ∧ w'.cell? ⟨w.heap.size, 2, none⟩ = some (.bool c)) (first | assumption | exact box3_start w _ _ _ _ | exact box3_keep (by assumption) (by assumption))
      (first
        | (go_at_call 208; refine (hN _).mono ?_; rintro e w2 ⟨rfl, hb2⟩))
    go_wp2
    go_ret
    exact ⟨ret_int HC.out.symm, box3_out (x := .int .u32 n) (y := .int .u32 x) (z := .bool c) (k := w.heap.size) (by assumption)⟩
  · have h' : okLim n x c most = false := by simpa using h
    have hn := nearL_no h'
    have HC : Hid (codeLim n x c most = 2) := by unfold codeLim; rw [h']; rfl
    generalize (if c then min (max x (min n most)) most else 0) = m2 at *
    generalize min n most = m1 at *
    have hor : (n == m1) = false ∧ (n != m1) = true ∨ (x == m2) = false ∧ (x != m2) = true := by
      by_cases h1 : n = m1
      · right
        have : x ≠ m2 := fun h2 => hn ⟨h1, h2⟩
        simp [this]
      · left; simp [h1]
    clear h h' hn
    rcases hor with ⟨n1, n2⟩ | ⟨n1, n2⟩
    all_goals
      go_enter Tryz.func173, Tryz.ntmps173
      go_wp2
      go_region_held3 (fun w' => Below w.heap.size w w' ∧ w'.cell? ⟨w.heap.size, 0, none⟩ = some (.int .u32 n) ∧ w'.cell? ⟨w.heap.size, 1, none⟩ = some (.int .u32 x) ∧ w'.cell? ⟨w.heap.size, 2, none⟩ = some (.bool c)) (first | assumption | exact box3_start w _ _ _ _ | exact box3_keep (by assumption) (by assumption))
        (first
          | (go_at_call 208; refine (hN _).mono ?_; rintro e w2 ⟨rfl, hb2⟩))
      go_wp2
      go_ret
      exact ⟨ret_int HC.out.symm, box3_out (x := .int .u32 n) (y := .int .u32 x) (z := .bool c) (k := w.heap.size) (by assumption)⟩
end Go.Proofs.YtckdnhafookcgaaGreatDoor.Kind

namespace Go.Proofs.YtckdnhafookcgaaGreatDoor.Mod
open Go.RowKit Go.Proofs.YtckdnhafookcgaaGreatDoor.Instr

theorem wrongN_any (n : Int) (w : World) : Calls Tryz.prog 185 #[.int .i64 n] w fun e w' => e = .returned (.bool (wrongN n)) ∧ w = w' := by
  have H : Hid (wrongN n = (decide (n < 0) || decide (2147483647 < n))) := rfl
  by_cases h : n < 0
  · have HE : Hid (wrongN n = true) := by show _ = _; rw [H.out]; simp [h]
    go_enter Tryz.func185, Tryz.ntmps185
    go_wp2
    go_ret
    exact ⟨ret_bool HE.out.symm, rfl⟩
  · have h' : decide (n < 0) = false := by simpa using h
    have HE : Hid (wrongN n = decide (2147483647 < n)) := by show _ = _; rw [H.out, h', Bool.false_or]
    clear H
    go_enter Tryz.func185, Tryz.ntmps185
    go_wp2
    go_ret
    exact ⟨ret_bool HE.out.symm, rfl⟩
theorem wrongI_any (x : Imp) (w : World) : Calls Tryz.prog 125 #[.agg #[.string x.mo, .string x.na, .int .i64 x.ty]] w fun e w' => e = .returned (.bool (wrongI x)) ∧ Below w.heap.size w w' := by
  unfold wrongI
  obtain ⟨q, hq⟩ : ∃ q, wrongN x.ty = q := ⟨_, rfl⟩
  have C := hid (fun w => wrongN_any x.ty w)
  rw [hq] at C ⊢
  clear hq
  go_enter Tryz.func125, Tryz.ntmps125
  go_wp2_with fail
  refine (C.out _).mono ?_
  rintro e w1 ⟨rfl, rfl⟩
  go_wp2
  go_ret
  exact ⟨rfl, (Below.refl _ _).alloc (Nat.le_refl _) _⟩
set_option maxHeartbeats 800000 in
theorem wrongF_any (x : Fn) (w : World) : Calls Tryz.prog 128 #[.agg #[.int .i64 x.ty, .int .i64 x.lo, .slice x.l.a x.l.t.len x.l.c]] w fun e w' => e = .returned (.bool (wrongF x)) ∧ Below w.heap.size w w' := by
  have H : Hid (wrongF x = (wrongN x.ty || (decide (x.lo < 0) || decide (50000 < x.lo)))) := rfl
  obtain ⟨q, hq⟩ : ∃ q, wrongN x.ty = q := ⟨_, rfl⟩
  have C := hid (fun w => wrongN_any x.ty w)
  rw [hq] at C H
  clear hq
  obtain ⟨lo, hlo⟩ : ∃ lo, x.lo = lo := ⟨_, rfl⟩
  rw [hlo] at H ⊢
  clear hlo
  cases q with
  | true =>
    have HE : Hid (wrongF x = true) := by show _ = _; rw [H.out]; rfl
    go_enter Tryz.func128, Tryz.ntmps128
    go_wp2_with fail
    refine (C.out _).mono ?_
    rintro e w1 ⟨rfl, rfl⟩
    go_wp2
    go_ret
    exact ⟨ret_bool HE.out.symm, (Below.refl _ _).alloc (Nat.le_refl _) _⟩
  | false =>
    by_cases h : lo < 0
    · have HE : Hid (wrongF x = true) := by show _ = _; rw [H.out]; simp [h]
      go_enter Tryz.func128, Tryz.ntmps128
      go_wp2_with fail
      refine (C.out _).mono ?_
      rintro e w1 ⟨rfl, rfl⟩
      go_wp2
      go_ret
      exact ⟨ret_bool HE.out.symm, (Below.refl _ _).alloc (Nat.le_refl _) _⟩
    · have h' : decide (lo < 0) = false := by simpa using h
      have HE : Hid (wrongF x = decide (50000 < lo)) := by show _ = _; rw [H.out, h', Bool.false_or, Bool.false_or]
      go_enter Tryz.func128, Tryz.ntmps128
      go_wp2_with fail
      refine (C.out _).mono ?_
      rintro e w1 ⟨rfl, rfl⟩
      go_wp2
      go_ret
      exact ⟨ret_bool HE.out.symm, (Below.refl _ _).alloc (Nat.le_refl _) _⟩
theorem wrongE_any (x : Ex) (w : World) : Calls Tryz.prog 131 #[.agg #[.string x.na, .int .i64 x.k, .int .u32 x.i]] w fun e w' => e = .returned (.bool (wrongE x)) ∧ Below w.heap.size w w' := by
  have H : Hid (wrongE x = (decide (x.k < 0) || decide (3 < x.k))) := rfl
  obtain ⟨lo, hlo⟩ : ∃ lo, x.k = lo := ⟨_, rfl⟩
  rw [hlo] at H ⊢
  clear hlo
  by_cases h : lo < 0
  · have HE : Hid (wrongE x = true) := by show _ = _; rw [H.out]; simp [h]
    go_enter Tryz.func131, Tryz.ntmps131
    go_wp2
    go_ret
    exact ⟨ret_bool HE.out.symm, (Below.refl _ _).alloc (Nat.le_refl _) _⟩
  · have h' : decide (lo < 0) = false := by simpa using h
    have HE : Hid (wrongE x = decide (3 < lo)) := by show _ = _; rw [H.out, h', Bool.false_or]
    go_enter Tryz.func131, Tryz.ntmps131
    go_wp2
    go_ret
    exact ⟨ret_bool HE.out.symm, (Below.refl _ _).alloc (Nat.le_refl _) _⟩
theorem isLong_any (s : ByteArray) (w : World) : Calls Tryz.prog 114 #[.string s] w fun e w' => e = .returned (.bool (longS s)) ∧ Below w.heap.size w w' := by
  have HE : Hid (longS s = decide (1000 < s.size)) := rfl
  go_enter Tryz.func114, Tryz.ntmps114
  go_wp2
  go_ret
  exact ⟨ret_bool (by rw [HE.out]; simp; omega), Below.refl _ _⟩
theorem wrongT_any (x : Int × Int) (w : World) : Calls Tryz.prog 122 #[.agg #[.int .i64 x.1, .int .i64 x.2]] w fun e w' => e = .returned (.bool (wrongT x)) ∧ Below w.heap.size w w' := by
  have C := hid (fun w => Kind.check_any x.1 x.2 w)
  unfold Kind.codeType at C
  unfold wrongT
  obtain ⟨q, hq⟩ : ∃ q, Kind.okType x.1 x.2 = q := ⟨_, rfl⟩
  rw [hq] at C ⊢
  clear hq
  cases q
  all_goals
    simp only [Bool.false_eq_true, if_true, if_false] at C
    go_enter Tryz.func122, Tryz.ntmps122
    go_wp2_with fail
    refine (C.out _).mono ?_
    rintro e w1 ⟨rfl, hb1⟩
    go_wp2
    go_ret
    exact ⟨rfl, thenB ((Below.refl _ _).alloc (Nat.le_refl _) _) hb1⟩
theorem beyond_any (x : Li) (g : Nat) (most : Int) (w : World) (hc : w.cell? ⟨g, 0, none⟩ = some (.int .u32 most)) :
    Calls Tryz.prog 189 #[.agg #[.int .u32 x.n, .int .u32 x.x, .bool x.c], .pointer (some ⟨g, 0, none⟩)] w fun e w' => e = .returned (.bool (beyond most x)) ∧ Below w.heap.size w w' := by
  have C := hid (fun w => Kind.checkLimits_any x.n x.x x.c most w)
  unfold Kind.codeLim at C
  unfold beyond
  obtain ⟨q, hq⟩ : ∃ q, Kind.okLim x.n x.x x.c most = q := ⟨_, rfl⟩
  rw [hq] at C ⊢
  clear hq
  have hg := World.block_lt_of_cell? w _ hc
  cases q
  all_goals
    simp only [Bool.false_eq_true, if_true, if_false] at C
    go_enter Tryz.func189, Tryz.ntmps189
    go_wp2_with fail
    refine (C.out _).mono ?_
    rintro e w1 ⟨rfl, hb1⟩
    go_wp2
    go_ret
    exact ⟨rfl, thenB ((Below.refl _ _).alloc (Nat.le_refl _) _) hb1⟩
end Go.Proofs.YtckdnhafookcgaaGreatDoor.Mod

namespace Go.Proofs.YtckdnhafookcgaaGreatDoor.Mod
open Go.RowKit Go.Shelf Go.Proofs.YtckdnhafookcgaaGreatDoor.Instr

theorem entersB : ∀ args w, (callFunc 189 args).run Tryz.prog w = .ok (.enter 189 args) w := enters_of Tryz.func189 (by kernel_rfl) rfl
set_option maxHeartbeats 1000000 in
theorem anyBeyond_any (l : List Li) (a : Option Addr) (n c : Nat) (most : Int) (w : World) (hn : l.length = n) (hr : Rows w.heap.size w a 3 (l.map Li.v)) (hl : n ≤ 140737488351232) :
    Calls Tryz.prog 133 #[.slice a n c, .int .u32 most] w fun e w' => e = .returned (.bool (l.any (beyond most))) ∧ Below w.heap.size w w' := by
  have hB := (Below.refl w.heap.size w).alloc (Nat.le_refl _) (.cells #[.int .u32 most] 28)
  have hc : (w.alloc (.cells #[.int .u32 most] 28)).cell? ⟨w.heap.size, 0, none⟩ = some (.int .u32 most) := by go_simp
  have C := hid (any_li l a n c (w.alloc (.cells #[.int .u32 most] 28)) hn ((hr.below hB).more hB.size) hl 189 #[.pointer (some ⟨w.heap.size, 0, none⟩)] entersB (beyond most)
    (fun W x _ hW => beyond_any x _ most W (Go.Proofs.YtckdnhafookcgaaGreatDoor.keep hW hc)))
  have HB := hid hB
  clear hB hc hn hr
  go_enter Tryz.func133, Tryz.ntmps133
  go_wp2_with fail
  refine C.out.mono ?_
  rintro e w1 ⟨rfl, hb1⟩
  clear C
  go_wp2
  go_ret
  exact ⟨rfl, HB.out.trans (hb1.mono HB.out.size)⟩

theorem Bad_any (zs : List Int) (a : Option Addr) (n c : Nat) (w : World) (hT : Utf.Tabs w) (hn : zs.length = n) (hz : Bytes w a zs) :
    Calls Tryz.prog 181 #[.slice a n c] w fun e w' => e = .returned (.int .i64 (Utf.badL zs)) ∧ Below w.heap.size w w' := by
  have e1 := str_of hz n c hn
  have C := hid (Utf.bad_any zs hz.byte w hT)
  clear hn hz
  go_enter Tryz.func181, Tryz.ntmps181
  go_wp2_with fail
  refine C.out.mono ?_
  rintro e w1 ⟨rfl, hb1⟩
  clear C
  go_wp2
  go_ret
  exact ⟨rfl, hb1⟩
set_option maxHeartbeats 400000 in
theorem isNoText_any (s : ByteArray) (w : World) (hT : Utf.Tabs w) (hs : s.size ≤ 140737488351232) : Calls Tryz.prog 119 #[.string s] w fun e w' => e = .returned (.bool (noText s)) ∧ Below w.heap.size w w' := by
  unfold noText
  obtain ⟨b, c, w1, e1, hz, hb1⟩ := bytes_of (numsOf s) (numsOf_bytes s) (by rw [numsOf_length]; exact hs) w
  rw [str_numsOf] at e1
  have C := hid (Bad_any (numsOf s) _ _ c w1 (hT.below hb1) rfl hz)
  obtain ⟨q, hq⟩ : ∃ q, Utf.badL (numsOf s) = q := ⟨_, rfl⟩
  rw [hq] at C ⊢
  obtain ⟨n, hn⟩ : ∃ n, (numsOf s).length = n := ⟨_, rfl⟩
  rw [hn] at C e1
  have HB := hid hb1
  clear hq hn hz hb1 hT
  go_enter Tryz.func119, Tryz.ntmps119
  go_wp2_with fail
  refine C.out.mono ?_
  rintro e w2 ⟨rfl, hb2⟩
  clear C e1
  go_wp2
  go_ret
  exact ⟨rfl, thenB HB.out hb2⟩
theorem asks_long (w : World) : Asks w 114 longS := ⟨enters_of Tryz.func114 (by kernel_rfl) rfl, fun W s _ _ => isLong_any s W⟩
theorem asks_text (w : World) (hT : Utf.Tabs w) : Asks w 119 noText := ⟨enters_of Tryz.func119 (by kernel_rfl) rfl, fun W s hs hW => isNoText_any s W (hT.below hW) hs⟩
end Go.Proofs.YtckdnhafookcgaaGreatDoor.Mod

namespace Go.Proofs.YtckdnhafookcgaaGreatDoor.Instr
open Go.RowKit Go.Shelf

attribute [local go_sem] Oper.semAt_some

theorem RoundIn.anyD {m m' : Nat} {P : Program} {l : Nat} {f : FuncId} {tmps : Array Value} {assign body : Code} {w : World} {R : Ending → World → Prop}
    (h : RoundIn Fence.wide m P l f tmps assign body w R) : RoundIn Fence.wide m' P l f tmps assign body w R := ⟨h.1, fun c cs _ => h.2 c cs (fun d h => by cases h)⟩
theorem YieldAt.anyD {m m' : Nat} {P : Program} {l : Nat} {args : Array Value} {W : World} {R : Ending → World → Prop} (h : YieldAt Fence.wide m P l args W R) : YieldAt Fence.wide m' P l args W R := by
  obtain ⟨fn, tmps, assign, body, hy, hR⟩ := h
  exact ⟨fn, tmps, assign, body, hy, RoundIn.anyD hR⟩

def encs (p : Int × Ix) : Array Value := #[.int .i64 p.1, .agg p.2.vals]

set_option maxHeartbeats 4000000 in
set_option maxRecDepth 100000 in
theorem descend_in (l n₀ n₁ N : Nat) (J Jx : List (Int × Ix) → World → Prop) (B : Nat) (hJ : AbidesFrom B J) (hn : n₀ ≤ n₁)
    (hY : ∀ m pre x W, J pre W → pre.length < N → n₁ ≤ W.heap.size → YieldAt Fence.wide m Tryz.prog l (encs x) W fun e W' =>
      (e = .returned (.bool true) ∧ J (pre ++ [x]) W' ∧ Kept n₀ n₁ W W') ∨ (e = .returned (.bool false) ∧ Jx (pre ++ [x]) W')) :
    ∀ (m : Nat) (t : Il) (n : Nat) (a : Option Addr) (len cap : Nat) (d : Int) (pre : List (Int × Ix)) (W : World), t.count ≤ m → ListAt n₀ W a len t → J pre W → pre.length + t.count ≤ N → n₁ ≤ W.heap.size → 0 ≤ d → d + t.deep ≤ 4611686018427387904 → len ≤ 140737488351232 →
      CallsIn Fence.wide n Tryz.prog 152 #[.slice a len cap, .int .i64 d, .func (.yield l) #[] #[]] W fun e W' =>
        (e = .returned (.bool true) ∧ J (pre ++ t.walk d) W' ∧ Kept n₀ n₁ W W') ∨ (e = .returned (.bool false) ∧ ∃ q, q <+: t.walk d ∧ Jx (pre ++ q) W') := by
  intro m
  induction m with
  | zero =>
    intro t n a len cap d pre W hm hl hJ0 hN hW hd0 hd1 hlen
    cases t with
    | cons x l e r => simp only [Il.count] at hm; omega
    | nil =>
      have h0 : len = 0 := hl.1.symm
      subst h0
      clear hm hl hN hd1
      refine callsIn_of_wp Tryz.func152 rfl trivial ?_ rfl
      simp only [Tryz.ntmps152, List.size_toArray, List.length_cons, List.length_nil, Nat.reduceAdd, Nat.reduceSub, Array.replicate_succ, Array.replicate_zero, List.push_toArray, List.append_toArray, List.nil_append, List.cons_append]
      gi_wp2
      gi_loopw [11] (fun i wr => i = .int .i64 0 ∧ J pre wr ∧ Kept n₀ n₁ W wr) (fun _ _ => 0)
      case atStart => exact ⟨rfl, hJ0, Kept.refl _ _ _⟩
      case round =>
        obtain ⟨rfl, hJs, hk⟩ := hrel
        gi_wp2
        go_ret
        exact .inl ⟨rfl, by simpa [Il.walk] using hJs, hk⟩
  | succ m ih =>
    intro t n a len cap d pre W hm hl hJ0 hN hW hd0 hd1 hlen
    have hA : ∀ s W, J s W → ∀ o, J s (W.alloc o) := fun s W h o => hJ s W _ none h (World.grownBy_alloc W o none) (fun r e => by cases e)
    obtain ⟨hl1, hl2⟩ := hl
    have HT := hid hm
    have HN := hid hN
    have HD := hid hd1
    have HL := hid hl1
    clear hm hN hd1 hl1
    rcases hl2 with rfl | ⟨b, off, rfl, hi⟩
    · have h0 : len = 0 := HL.out.symm
      subst h0
      refine callsIn_of_wp Tryz.func152 rfl trivial ?_ rfl
      simp only [Tryz.ntmps152, List.size_toArray, List.length_cons, List.length_nil, Nat.reduceAdd, Nat.reduceSub, Array.replicate_succ, Array.replicate_zero, List.push_toArray, List.append_toArray, List.nil_append, List.cons_append]
      gi_wp2
      gi_loopw [11] (fun i wr => i = .int .i64 0 ∧ J pre wr ∧ Kept n₀ n₁ W wr) (fun _ _ => 0)
      case atStart => exact ⟨rfl, hJ0, Kept.refl _ _ _⟩
      case round =>
        obtain ⟨rfl, hJs, hk⟩ := hrel
        gi_wp2
        go_ret
        exact .inl ⟨rfl, by simpa [Il.walk] using hJs, hk⟩
    · refine callsIn_of_wp Tryz.func152 rfl trivial ?_ rfl
      simp only [Tryz.ntmps152, List.size_toArray, List.length_cons, List.length_nil, Nat.reduceAdd, Nat.reduceSub, Array.replicate_succ, Array.replicate_zero, List.push_toArray, List.append_toArray, List.nil_append, List.cons_append]
      gi_wp2
      gi_loopw [11] (fun i wr => ∃ (k : Nat) (done : List (Int × Ix)) (rest : Il), i = .int .i64 k ∧ k ≤ len ∧ Hid (k + rest.len = len ∧ done ++ rest.walk d = t.walk d ∧ rest.count ≤ t.count ∧ rest.deep ≤ t.deep) ∧ Items n₀ wr b (off + k * 8) rest ∧ J (pre ++ done) wr ∧ Kept n₀ n₁ W wr)
        (fun i _ => len - (intOf i).toNat)
      case atStart => exact ⟨0, [], t, rfl, Nat.zero_le _, ⟨by have := HL.out; omega, rfl, Nat.le_refl _, Nat.le_refl _⟩, by simpa using hi, by simpa using hJ0, Kept.refl _ _ _⟩
      case round =>
        obtain ⟨k, done, rest, rfl, hk, HR, hir, hJs, hkw⟩ := hrel
        cases rest with
        | nil =>
          obtain ⟨r1, r2, _, _⟩ := HR.out
          have hkl : k = len := by simpa [Il.len] using r1
          subst hkl
          gi_wp2
          go_ret
          exact .inl ⟨rfl, by rw [← r2]; simpa [Il.walk] using hJs, hkw⟩
        | cons x tl te r =>
          obtain ⟨hbn, hx, ⟨c0, c1, c2, c3, c4, c5, c6, c7⟩, ht, hLl, hLe, hir'⟩ := hir
          have hlt : k < len := by have := HR.out.1; simp only [Il.len] at this; omega
          obtain ⟨fn, tmps, assign, body, hy, hR⟩ := hY (n - 1) (pre ++ done) (d, x) (wr.alloc (.cells x.vals 105)) (hA _ _ hJs _) (by
            have h1 := congrArg List.length HR.out.2.1
            have h2 := walk_length t d
            have h3 := HN.out
            simp only [List.length_append, Il.walk, List.length_cons] at h1 ⊢
            omega) (by have := hkw.below.size; simp; omega)
          simp only [encs, Ix.vals] at hy hR
          have hbx := At.made x wr
          have hg : n₁ ≤ wr.heap.size := Nat.le_trans hW hkw.below.size
          have hw1 : IntKind.i64.wrap (d + 1) = d + 1 := by have := HD.out; rw [IntKind.wrap_i64]; omega
          have hB1 : Kept n₀ n₁ W (wr.alloc (.cells x.vals 105)) := hkw.alloc _ (Nat.le_trans hn hg)
          have hcounts : tl.count + te.count + r.count + 1 ≤ m + 1 ∧ tl.deep + 1 ≤ t.deep ∧ te.deep + 1 ≤ t.deep := by
            have h1 := HR.out.2.2
            have h2 := HT.out
            simp only [Il.count, Il.deep] at h1
            omega
          have HC := hid hcounts
          clear hcounts
          have hlens : (pre ++ done).length + 1 + tl.count + te.count + r.count ≤ N := by
            have h1 := congrArg List.length HR.out.2.1
            have h2 := HN.out
            simp only [List.length_append, Il.walk, List.length_cons, walk_length] at h1 ⊢
            omega
          have HLN := hid hlens
          clear hlens
          gi_wp2_with fail
          refine ⟨fun h => (by cases h), ?_⟩
          refine hR.mono ?_
          clear hR hy
          rintro e W2 (⟨rfl, hJ2, hk2⟩ | ⟨rfl, hx2⟩)
          · have hb2 := hbx.kept hk2 hg
            obtain ⟨d0, d1, d2, d3, d4, d5, d6, d7⟩ := hb2
            gi_wp2_with fail
            refine ⟨trivial, fun h => (by cases h), ?_⟩
            have hL2 : ListAt n₀ W2 x.la x.ln tl := ListAt.below (((Below.refl _ wr).alloc (Nat.le_trans hn hg) _).trans hk2.below) hLl
            refine (ih tl (n - 1) x.la x.ln x.lc (d + 1) (pre ++ done ++ [(d, x)]) W2 (by have := HC.out; omega) hL2 hJ2 (by have := HLN.out; simp only [List.length_append, List.length_cons, List.length_nil] at this ⊢; omega)
              (by have := hk2.below.size; simp at this; omega) (by omega) (by have := HC.out; have := HD.out; omega) hx.ln).mono ?_
            rintro e W3 (⟨rfl, hJ3, hk3⟩ | ⟨rfl, q, hq, hx3⟩)
            · have hb3 := hbx.kept (hk2.trans hk3) hg
              clear d0 d1 d2 d3 d4 d5 d6 d7
              obtain ⟨d0, d1, d2, d3, d4, d5, d6, d7⟩ := hb3
              gi_wp2_with fail
              refine ⟨trivial, fun h => (by cases h), ?_⟩
              have hL3 : ListAt n₀ W3 x.ea x.en te := ListAt.below ((((Below.refl _ wr).alloc (Nat.le_trans hn hg) _).trans hk2.below).trans hk3.below) hLe
              refine (ih te (n - 1) x.ea x.en x.ec (d + 1) (pre ++ done ++ [(d, x)] ++ tl.walk (d + 1)) W3 (by have := HC.out; omega) hL3 hJ3 (by have := HLN.out; simp only [List.length_append, List.length_cons, List.length_nil, walk_length] at this ⊢; omega)
                (by have := (hk2.trans hk3).below.size; simp at this; omega) (by omega) (by have := HC.out; have := HD.out; omega) hx.en).mono ?_
              rintro e W4 (⟨rfl, hJ4, hk4⟩ | ⟨rfl, q, hq, hx4⟩)
              · clear d0 d1 d2 d3 d4 d5 d6 d7
                gi_wp2
                have hkz : Kept n₀ n₁ W W4 := hB1.trans ((hk2.trans hk3).trans hk4)
                go_roundw
                case rel =>
                  refine ⟨k + 1, done ++ [(d, x)] ++ tl.walk (d + 1) ++ te.walk (d + 1), r, by simp, by omega, ?_, ?_, ?_, hkz⟩
                  · have h1 := HR.out
                    refine ⟨by simp only [Il.len] at h1; omega, ?_, by simp only [Il.count] at h1; omega, by simp only [Il.deep] at h1; omega⟩
                    rw [← h1.2.1]; simp [Il.walk, List.append_assoc]
                  · have := Items.below ((((((Below.refl _ wr).alloc (Nat.le_trans hn hg) (.cells x.vals 105)).trans hk2.below).trans hk3.below)).trans hk4.below) hir'
                    rw [show off + (k + 1) * 8 = off + k * 8 + 8 by omega]
                    exact this
                  · simpa [List.append_assoc] using hJ4
                case measure => simp [intOf]; omega
              · gi_wp2
                go_ret
                refine .inr ⟨rfl, done ++ [(d, x)] ++ tl.walk (d + 1) ++ q, ?_, by simpa [List.append_assoc] using hx4⟩
                rw [← HR.out.2.1]
                obtain ⟨z, hz⟩ := hq
                exact ⟨z ++ r.walk d, by rw [Il.walk, ← hz]; simp [List.append_assoc]⟩
            · gi_wp2
              refine ⟨trivial, ?_⟩
              gi_wp2
              go_ret
              refine .inr ⟨rfl, done ++ [(d, x)] ++ q, ?_, by simpa [List.append_assoc] using hx3⟩
              rw [← HR.out.2.1]
              obtain ⟨z, hz⟩ := hq
              exact ⟨z ++ (te.walk (d + 1) ++ r.walk d), by rw [Il.walk, ← hz]; simp [List.append_assoc]⟩
          · gi_wp2
            refine ⟨trivial, ?_⟩
            gi_wp2
            refine ⟨trivial, ?_⟩
            gi_wp2
            go_ret
            refine .inr ⟨rfl, done ++ [(d, x)], ?_, by simpa [List.append_assoc] using hx2⟩
            rw [← HR.out.2.1]
            exact ⟨tl.walk (d + 1) ++ (te.walk (d + 1) ++ r.walk d), by simp [Il.walk, List.append_assoc]⟩

set_option maxHeartbeats 1000000 in
/-- The function that within hands back. -/
theorem within_stops (n n₀ n₁ Bs : Nat) (a : Option Addr) (len cap : Nat) (t : Il) (w : World) (hBs : Bs < w.heap.size) (hn : n₀ ≤ n₁) (hw : n₁ ≤ w.heap.size)
    (hc : w.cell? ⟨Bs, 0, none⟩ = some (.slice a len cap)) (hl : ListAt n₀ w a len t) (hd : t.deep ≤ 4611686018427387900) (hlen : len ≤ 140737488351232) :
    SeqStopsK Fence.wide n Tryz.prog 151 #[.pointer (some ⟨Bs, 0, none⟩)] encs (Kept n₀ n₁) (fun ys => ys = t.walk 1) (fun pre => pre <+: t.walk 1) t.count w := fun l J Jx W hW hJ _ hY h0 => by
  have hc' := (hW.cell (p := ⟨Bs, 0, none⟩) hBs).trans hc
  have hp := descend_in l n₀ n₁ t.count J Jx W.heap.size hJ hn (fun m pre x W1 hj hl1 _ => YieldAt.anyD (hY pre x W1 hj hl1)) t.count t (n - 1) a len cap 1 [] W (Nat.le_refl _) (hl.below (hW.mono (Nat.le_trans hn hw))) h0 (by simp) (Nat.le_trans hw hW.size) (by omega) (by omega) hlen
  have C := hid hp
  clear hp hl hd hc hY
  refine callsIn_of_wp Tryz.func151 rfl trivial ?_ rfl
  simp only [Tryz.ntmps151, List.size_toArray, List.length_cons, List.length_nil, Nat.reduceAdd, Nat.reduceSub, Array.replicate_succ, Array.replicate_zero, List.push_toArray, List.append_toArray, List.nil_append, List.cons_append]
  gi_wp2_with fail
  refine ⟨trivial, fun h => (by cases h), ?_⟩
  refine C.out.mono ?_
  clear C
  rintro e W1 (⟨rfl, hJ1, _⟩ | ⟨rfl, q, hq, hx⟩)
  · gi_wp2
    go_end0
    exact ⟨⟨_, rfl⟩, .inl ⟨_, rfl, by simpa using hJ1⟩⟩
  · gi_wp2
    go_end0
    exact ⟨⟨_, rfl⟩, .inr ⟨q, hq, by simpa using hx⟩⟩
theorem within_in (n : Nat) (a : Option Addr) (len cap : Nat) (w : World) :
    CallsIn Fence.wide n Tryz.prog 75 #[.slice a len cap] w fun e w' => e = .returned (.func (.func 151) #[] #[.pointer (some ⟨w.heap.size, 0, none⟩)]) ∧ w' = w.alloc (.cells #[.slice a len cap] 85) := by
  refine callsIn_of_wp Tryz.func75 rfl trivial ?_ rfl
  simp only [Tryz.ntmps75, List.size_toArray, List.length_cons, List.length_nil, Nat.reduceAdd, Nat.reduceSub, Array.replicate_succ, Array.replicate_zero, List.push_toArray, List.append_toArray, List.nil_append, List.cons_append]
  gi_wp2
  go_ret
  exact ⟨rfl, rfl⟩
end Go.Proofs.YtckdnhafookcgaaGreatDoor.Instr

namespace Go.Proofs.YtckdnhafookcgaaGreatDoor.Instr
open Go.RowKit Go.Shelf

theorem cell_new (W : World) (v : Value) (t : TypeId) : (W.alloc (.cells #[v] t)).cell? ⟨W.heap.size, 0, none⟩ = some v ∧ (W.alloc (.cells #[v] t)).frozen? ⟨W.heap.size, 0, none⟩ = false := by
  constructor <;> go_simp
theorem cell_alloc' {W : World} {a : Addr} {v : Value} (o : Obj) (h : W.cell? a = some v) : (W.alloc o).cell? a = some v := cell_kept h (World.grownBy_alloc W o none) (fun r e => by cases e)
end Go.Proofs.YtckdnhafookcgaaGreatDoor.Instr

namespace Go.Proofs.YtckdnhafookcgaaGreatDoor.Instr
open Go.RowKit Go.Shelf

attribute [local go_sem] Oper.semAt_some

theorem lawful_any (x : Ix) (w : World) (hT : Nams w) : Calls Tryz.prog 207 #[.agg x.vals] w fun e w' => e = .returned (.bool (lawfulP x)) ∧ Below w.heap.size w w' := by
  by_cases h : nameL x.op = []
  · have : lawfulP x = false := by simp [lawfulP, h]
    rw [this]
    exact lawful_noname x w hT h
  · have : lawfulP x = (decide (overP x = 0) && (decide (x.res = 0) || decide (x.res = 1))) := by simp [lawfulP, h]
    rw [this]
    exact lawful_name x w hT h
def manyP (l : List (Int × Ix)) : Bool := decide (262144 < l.length) || (l.any fun p => decide (16384 < p.2.tags.length)) || decide (900 < deepest l)
theorem manyP_snoc (l : List (Int × Ix)) (p : Int × Ix) : manyP (l ++ [p]) = (manyP l || (decide (262144 < l.length + 1) || (decide (16384 < p.2.tags.length) || decide (900 < p.1)))) := by
  unfold manyP
  rw [deepest_snoc]
  simp only [List.length_append, List.length_cons, List.length_nil, List.any_append, List.any_cons, List.any_nil, Bool.or_false]
  rw [Bool.eq_iff_iff]
  simp only [Bool.or_eq_true, decide_eq_true_eq]
  constructor
  · rintro ((h | h | h) | h)
    · right; left; omega
    · left; left; right; exact h
    · right; right; left; exact h
    · rcases Int.le_total (deepest l) p.1 with h1 | h1
      · right; right; right; omega
      · left; right; omega
  · rintro (((h | h) | h) | h | h | h)
    · left; left; omega
    · left; right; left; exact h
    · right; omega
    · left; left; omega
    · left; right; right; exact h
    · right; omega
theorem manyP_walk (t : Il) : manyP (t.walk 1) = decide (262144 < t.count ∨ 900 < t.deep ∨ t.tags = true) := by
  unfold manyP
  rw [walk_length, walk_tags, deepest_walk, Bool.eq_iff_iff]
  simp only [Bool.or_eq_true, decide_eq_true_eq]
  constructor
  · rintro ((h | h) | h)
    · exact .inl h
    · exact .inr (.inr h)
    · exact .inr (.inl (by omega))
  · rintro (h | h | h)
    · exact .inl (.inl h)
    · exact .inr (by omega)
    · exact .inl (.inr h)

def allP (l : List (Int × Ix)) : Bool := l.all fun p => lawfulP p.2
theorem allP_snoc (l : List (Int × Ix)) (p : Int × Ix) : allP (l ++ [p]) = (allP l && lawfulP p.2) := by simp [allP, List.all_append]
theorem allP_walk (t : Il) (d : Int) : allP (t.walk d) = t.all := walk_all t d
theorem keepsFrom_below {B : Nat} {w w' : World} (h : Below w.heap.size w w') : KeepsFrom B w w' := ⟨h.size, fun k _ _ hk _ => (h.block k (Array.getElem?_eq_some_iff.1 hk).1).trans hk⟩
theorem At.own {x : Ix} {g : Nat} {A B : World} {row : Option Nat} (h : At x g A) (hg : A.grownBy B row) (hr : ∀ r, row = some r → ∃ o : Obj, A.heap[r]? = some o ∧ o.isCells = false) : At x g B :=
  ⟨cell_kept h.c0 hg hr, cell_kept h.c1 hg hr, cell_kept h.c2 hg hr, cell_kept h.c3 hg hr, cell_kept h.c4 hg hr, cell_kept h.c5 hg hr, cell_kept h.c6 hg hr, cell_kept h.c7 hg hr⟩

/-- What the loop of Check holds in its own cells: result, count, many. -/
structure Chk (g : Nat) (r : Int) (n : Int) (m : Bool) (W : World) : Prop where
  res : W.cell? ⟨g, 0, none⟩ = some (.int .i64 r)
  num : W.cell? ⟨g + 1, 0, none⟩ = some (.int .i64 n)
  many : W.cell? ⟨g + 2, 0, none⟩ = some (.bool m)
  fres : W.frozen? ⟨g, 0, none⟩ = false
  fnum : W.frozen? ⟨g + 1, 0, none⟩ = false
  fmany : W.frozen? ⟨g + 2, 0, none⟩ = false
theorem Chk.own {g : Nat} {r n : Int} {m : Bool} {A B : World} {row : Option Nat} (h : Chk g r n m A) (hg : A.grownBy B row) (hr : ∀ r, row = some r → ∃ o : Obj, A.heap[r]? = some o ∧ o.isCells = false) : Chk g r n m B :=
  ⟨cell_kept h.res hg hr, cell_kept h.num hg hr, cell_kept h.many hg hr, (frozen_kept h.res hg hr).trans h.fres, (frozen_kept h.num hg hr).trans h.fnum, (frozen_kept h.many hg hr).trans h.fmany⟩
theorem Chk.below {g : Nat} {r n : Int} {m : Bool} {A B : World} (h : Chk g r n m A) (hb : Below A.heap.size A B) : Chk g r n m B :=
  have f : ∀ p v, A.cell? p = some v → A.frozen? p = false → B.frozen? p = false := fun p _ hc hf => (hb.frozen (World.block_lt_of_cell? A p hc)).trans hf
  ⟨keep hb h.res, keep hb h.num, keep hb h.many, f _ _ h.res h.fres, f _ _ h.num h.fnum, f _ _ h.many h.fmany⟩

theorem Chk.next {g : Nat} {r n n' n2 : Int} {m m' m2 : Bool} {A : World} (h : Chk g r n m A) (hn : n' = n2) (hm : m' = m2) : Chk g r n' m' ((A.setCell ⟨g + 1, 0, none⟩ (.int .i64 n2)).setCell ⟨g + 1 + 1, 0, none⟩ (.bool m2)) := by
  obtain ⟨r1, r2, r3, f1, f2, f3⟩ := h
  subst hn hm
  constructor <;> simp [go_sem, *]

set_option maxRecDepth 100000 in
set_option maxHeartbeats 4000000 in
theorem Check_any (a : Option Addr) (len cap : Nat) (t : Il) (w : World) (hT : Nams w) (hl : ListAt w.heap.size w a len t) (hc : t.count ≤ 4611686018427387900) (hlen : len ≤ 140737488351232) :
    Calls Tryz.prog 172 #[.slice a len cap] w fun e w' => e = .returned (.int .i64 (checkP t)) ∧ Below w.heap.size w w' := by
  have HC := hid hc
  clear hc
  refine (callsIn_wide (n := 3)).1 ?_
  refine callsIn_of_wp_marks Tryz.func172 rfl trivial ?_ rfl
  simp only [Tryz.ntmps172, List.size_toArray, List.length_cons, List.length_nil, Nat.reduceAdd, Nat.reduceSub, Array.replicate_succ, Array.replicate_zero, List.push_toArray, List.append_toArray, List.nil_append, List.cons_append]
  gi_wp2_with (refine ⟨trivial, ?_⟩; refine (within_in _ _ _ _ _).mono ?_; rintro e w' ⟨rfl, rfl⟩)
  have hS0 : Chk w.heap.size 0 0 false (((w.alloc (.cells #[.int .i64 0] 38)).alloc (.cells #[.int .i64 0] 3)).alloc (.cells #[.bool false] 4)) := by constructor <;> go_simp
  have hb := cell_new (((w.alloc (.cells #[.int .i64 0] 38)).alloc (.cells #[.int .i64 0] 3)).alloc (.cells #[.bool false] 4)) (.slice a len cap) 85
  have hS1 := hS0.below ((Below.refl _ _).alloc (Nat.le_refl _) (.cells #[.slice a len cap] 85))
  have hB0 : Below w.heap.size w ((((w.alloc (.cells #[.int .i64 0] 38)).alloc (.cells #[.int .i64 0] 3)).alloc (.cells #[.bool false] 4)).alloc (.cells #[.slice a len cap] 85)) := thenA (thenA (thenA (thenA (Below.refl _ _) _) _) _) _
  have hsz : ((((w.alloc (.cells #[.int .i64 0] 38)).alloc (.cells #[.int .i64 0] 3)).alloc (.cells #[.bool false] 4)).alloc (.cells #[.slice a len cap] 85)).heap.size = w.heap.size + 4 := by simp
  have hsz3 : (((w.alloc (.cells #[.int .i64 0] 38)).alloc (.cells #[.int .i64 0] 3)).alloc (.cells #[.bool false] 4)).heap.size = w.heap.size + 1 + 1 + 1 := by simp
  rw [hsz3] at hb
  clear hS0 hsz3
  obtain ⟨W0, hW0⟩ : ∃ W0, (((w.alloc (.cells #[.int .i64 0] 38)).alloc (.cells #[.int .i64 0] 3)).alloc (.cells #[.bool false] 4)).alloc (.cells #[.slice a len cap] 85) = W0 := ⟨_, rfl⟩
  rw [hW0] at hb hS1 hB0 hsz ⊢
  clear hW0
  refine wpIn_rangeFunc_ownH rfl (by omega) (gf := 151) (lb := #[.pointer (some ⟨w.heap.size + 1 + 1 + 1, 0, none⟩)]) rfl trivial (enters_of Tryz.func151 (by kernel_rfl) rfl)
    (within_stops _ w.heap.size (w.heap.size + 4) (w.heap.size + 1 + 1 + 1) a len cap t W0 (by omega) (by omega) (by omega) hb.1 (hl.below hB0) (by have := HC.out; have := deep_le_count t; omega) hlen) (fun h k => h.trans k) (kept_b (by omega)) (Below.refl _ _) (fun _ => rfl)
    (fun pre W => (allP pre = true ∧ Chk w.heap.size 0 pre.length (manyP pre) W ∧ w.heap.size + 4 ≤ W.heap.size) ∧ Below w.heap.size w W)
    (fun c pre W => (c = .ret ∧ allP pre = false ∧ W.cell? ⟨w.heap.size, 0, none⟩ = some (.int .i64 2)) ∧ Below w.heap.size w W)
    (OwnFrom.and (Own.from (fun s A B row hs hg hr => ⟨hs.1, hs.2.1.own hg hr, Nat.le_trans hs.2.2 hg.size⟩) _) (ownFrom_below (Nat.le_refl _) (by omega)))
    (fun c => OwnFrom.and (Own.from (fun s A B row hs hg hr => ⟨hs.1, hs.2.1, cell_kept hs.2.2 hg hr⟩) _) (ownFrom_below (Nat.le_refl _) (by omega)))
    ⟨⟨rfl, by simpa [manyP, deepest] using hS1, by omega⟩, hB0⟩
    (fun x a' W => ∃ Bx, w.heap.size + 4 ≤ Bx ∧ At x.2 Bx W ∧ a' = { tmps := #[.slice a len cap, undef, .pointer (some ⟨w.heap.size, 0, none⟩), .pointer (some ⟨w.heap.size + 1, 0, none⟩), .pointer (some ⟨w.heap.size + 1 + 1, 0, none⟩), .int .i64 x.1, .pointer (some ⟨Bx, 0, none⟩), .slice a len cap, .func (.func 151) #[] #[.pointer (some ⟨w.heap.size + 1 + 1 + 1, 0, none⟩)], .int .i64 x.1, .agg x.2.vals, undef, undef, undef, undef, undef, undef, undef, undef, undef, undef, undef, undef, undef, undef, undef, undef, undef, undef, undef, undef, undef], defers := [] })
    (fun x a' _ X Y row hs hg hr => by obtain ⟨Bx, h1, h2, h3⟩ := hs; exact ⟨Bx, h1, h2.own hg (fun r e => (hr r e).2), h3⟩)
    ?assign ?body ?done ?stop
  case assign =>
    rintro l pre ⟨d, x⟩ W K ⟨⟨hla, hch, hz⟩, hB1⟩ hK
    simp only [encs, Ix.vals] at hK ⊢
    gi_wp2
    exact hK _ _ ((KeepsOthers.alloc _ _).from _) ((Kept.refl _ _ W).alloc _ (by omega)) ⟨⟨hla, hch.below ((Below.refl _ _).alloc (Nat.le_refl _) _), by simp; omega⟩, thenA hB1 _⟩ ⟨W.heap.size, hz, At.made x W, rfl⟩
  case body =>
    rintro l pre ⟨d, x⟩ a' W hl' ⟨r, hr⟩ ⟨⟨hla, hch, hz⟩, hB1⟩ ⟨Bx, hBx, bX, rfl⟩ hlt
    clear hsz hl'
    have CL := callsIn_wide (n := 3 - 1 - 1 - 1) |>.2 (lawful_any x W (hT.below hB1))
    obtain ⟨q, hq⟩ : ∃ q, lawfulP x = q := ⟨_, rfl⟩
    rw [hq] at CL
    obtain ⟨cnt, hcnt⟩ : ∃ cnt : Int, (pre.length : Int) = cnt := ⟨_, rfl⟩
    have hcb : 0 ≤ cnt ∧ cnt + 1 ≤ 4611686018427387900 := by have := HC.out; omega
    obtain ⟨m, hm⟩ : ∃ m, manyP pre = m := ⟨_, rfl⟩
    have hsn := manyP_snoc pre (d, x)
    have HSN := hid hsn
    have HQ := hid hq
    have HM := hid hm
    have HCN := hid hcnt
    have HLA := hid hla
    rw [hcnt, hm] at hch
    clear hsn hq hm hcnt hla hlt
    unfold Ix.vals at CL
    simp only [Ix.vals]
    obtain ⟨hc0, hc1⟩ := hcb
    have hch' := hch
    have bX' := bX
    obtain ⟨b0, b1, b2, b3, b4, b5, b6, b7⟩ := bX
    obtain ⟨r1, r2, r3, f1, f2, f3⟩ := hch
    gi_wp2_with fail
    refine ⟨trivial, ?_⟩
    refine (CallsIn.inRound l CL).mono ?_
    rintro e W3 ⟨rfl, hb3⟩
    clear CL b0 b1 b2 b3 b4 b5 b6 b7 r1 r2 r3 f1 f2 f3
    have hch3 := hch'.below hb3
    obtain ⟨r1, r2, r3, f1, f2, f3⟩ := hch3
    have bX3 := bX'.below hb3
    obtain ⟨b0, b1, b2, b3, b4, b5, b6, b7⟩ := bX3
    have hkf : KeepsFrom W0.heap.size W W3 := keepsFrom_below hb3
    have hkp : Kept w.heap.size (w.heap.size + 4) W W3 := Kept.of_below hb3 (by omega)
    cases q
    · gi_wp2
      exact ⟨hkf.trans ((KeepsOthers.setCell _ _ _).from _), ⟨rfl, by rw [allP_snoc, HQ.out, Bool.and_false], World.cell?_setCell_same' _ _ _ (by rw [r1]; rfl)⟩, (thenB hB1 hb3).setCell (p := ⟨w.heap.size, 0, none⟩) (Nat.le_refl _) _⟩
    · have hch3 : Chk w.heap.size 0 cnt m W3 := hch'.below hb3
      have hln : (((pre ++ [(d, x)]).length : Nat) : Int) = cnt + 1 := by rw [← HCN.out]; simp
      have HLN := hid hln
      clear hln
      gi_wp2
      all_goals
        refine ⟨hkf.trans (((KeepsOthers.setCell _ _ _).trans (KeepsOthers.setCell _ _ _)).from _), (hkp.setCell (p := ⟨w.heap.size + 1, 0, none⟩) (by simp) (by simp) _).setCell (p := ⟨w.heap.size + 1 + 1, 0, none⟩) (by simp; omega) (by simp) _,
          ⟨by rw [allP_snoc, HLA.out, HQ.out]; rfl, hch3.next HLN.out ?_, by have := hb3.size; simp [World.setCell]; omega⟩, ((thenB hB1 hb3).setCell (p := ⟨w.heap.size + 1, 0, none⟩) (by simp) _).setCell (p := ⟨w.heap.size + 1 + 1, 0, none⟩) (by simp; omega) _⟩
        rw [HSN.out, HM.out]
        have hcn := HCN.out
        cases m
        · simp only [Bool.false_or]
          rw [Bool.eq_iff_iff]
          simp only [Bool.or_eq_true, decide_eq_true_eq]
          constructor <;> intro hh <;> first | rfl | trivial | contradiction | omega | trace_state
        · simp_all
  case done =>
    rintro D ys W hD rfl ⟨⟨hla, hch, hz⟩, hB⟩ hK
    rw [allP_walk] at hla
    rw [manyP_walk] at hch
    obtain ⟨m, hm⟩ : ∃ m, decide (262144 < t.count ∨ 900 < t.deep ∨ t.tags = true) = m := ⟨_, rfl⟩
    rw [hm] at hch
    have HR : Hid (checkP t = if m then 141 else 0) := by show _ = _; unfold checkP; rw [if_pos hla, ← hm]; simp
    clear hm hla
    obtain ⟨r1, r2, r3, f1, f2, f3⟩ := hch
    cases m
    · gi_wp2
      have hK' := (KeepsOthers.setCell W ⟨w.heap.size, 0, none⟩ (.int .i64 0)).same D _ hK rfl
      refine ⟨by simp, .inl ⟨_, _, rfl, run_takeDeferred hK', ?_⟩⟩
      have hc5 := cell_kept (World.cell?_setCell_same' W ⟨w.heap.size, 0, none⟩ (.int .i64 0) (by rw [r1]; rfl)) (grownBy_putObj' _ D (.deferred none)) (fun r e => by cases e; exact ⟨_, hK', rfl⟩)
      refine ⟨.int .i64 0, ?_, by rw [HR.out]; rfl, (hB.setCell (p := ⟨w.heap.size, 0, none⟩) (Nat.le_refl _) _).trans (belowK_b (w := w) (Nat.le_refl _) _ D _ _ (by omega) hK' rfl rfl)⟩
      simp [results, Tryz.f172, go_sem, hc5]
    · gi_wp2
      have hK' := (KeepsOthers.setCell W ⟨w.heap.size, 0, none⟩ (.int .i64 141)).same D _ hK rfl
      refine ⟨by simp, .inl ⟨_, _, rfl, run_takeDeferred hK', ?_⟩⟩
      have hc5 := cell_kept (World.cell?_setCell_same' W ⟨w.heap.size, 0, none⟩ (.int .i64 141) (by rw [r1]; rfl)) (grownBy_putObj' _ D (.deferred none)) (fun r e => by cases e; exact ⟨_, hK', rfl⟩)
      refine ⟨.int .i64 141, ?_, by rw [HR.out]; rfl, (hB.setCell (p := ⟨w.heap.size, 0, none⟩) (Nat.le_refl _) _).trans (belowK_b (w := w) (Nat.le_refl _) _ D _ _ (by omega) hK' rfl rfl)⟩
      simp [results, Tryz.f172, go_sem, hc5]
  case stop =>
    rintro D c pre W hD hpre ⟨⟨rfl, hla, hc2⟩, hB⟩ hK
    have hall : t.all = false := by
      rw [← allP_walk t 1]
      obtain ⟨z, hz⟩ := hpre
      unfold allP at hla ⊢
      rw [← hz, List.all_append, hla]
      rfl
    have HR : Hid (checkP t = 2) := by show _ = _; unfold checkP; rw [hall]; rfl
    clear hall hla hpre
    gi_wp2
    refine ⟨by simp, .inl ⟨_, _, rfl, run_takeDeferred hK, ?_⟩⟩
    have hc5 := cell_kept hc2 (grownBy_putObj' _ D (.deferred none)) (fun r e => by cases e; exact ⟨_, hK, rfl⟩)
    refine ⟨.int .i64 2, ?_, by rw [HR.out], hB.trans (belowK_b (w := w) (Nat.le_refl _) W D _ _ (by omega) hK rfl rfl)⟩
    simp [results, Tryz.f172, go_sem, hc5]
end Go.Proofs.YtckdnhafookcgaaGreatDoor.Instr

namespace Go.Proofs.YtckdnhafookcgaaGreatDoor.Val
open Go.RowKit Go.Proofs.YtckdnhafookcgaaGreatDoor.Instr Go.Proofs.YtckdnhafookcgaaGreatDoor.Mod
open Go.Proofs.YtckdnhafookcgaaGreatDoor.Stk (Fr R pushR popR deadR enterR leaveR labelR newR StAt MadeP OwnF valid lastF)
set_option linter.unusedVariables false

theorem tagsS_step {k : Int} {z : List Int} {j : Nat} (hj : j < z.length) (b : Bool) (s : St) : tagsS k (z.drop j) b s = tagsS k (z.drop (j + 1)) (decide ((labelS z[j] s).1 = k) && b) (labelS z[j] s).2 := by
  rw [List.drop_eq_getElem_cons hj, tagsS]
set_option maxRecDepth 100000 in
set_option maxHeartbeats 4000000 in
theorem labels_m (g n₀ : Nat) (m : Md) (lo re : Int) (s : St) (ta : Option Addr) (tc : Nat) (tags : List Int) (last : Int) (w : World) (h : Ck g n₀ m lo re s w) (ht : TagsAt n₀ w ta tags) (hz : ∀ z ∈ tags, 0 ≤ z ∧ z < 4294967296) (hl : 0 ≤ last ∧ last < 4294967296) (hlen : tags.length ≤ 140737488351232) :
    Calls Tryz.prog 221 #[.pointer (some ⟨g, 0, none⟩), .slice ta tags.length tc, .int .u32 last] w (Done g n₀ m lo re w (tableS tags last s)) := by
  have HC := hid h
  have HZ := hid hz
  have HT := hid ht
  have C1 := hid (label_m g n₀ m lo re s last w h hl)
  obtain ⟨p, hp⟩ : ∃ p, labelS last s = p := ⟨_, rfl⟩
  have HE : Hid (tableS tags last s = if (tagsS p.1 tags true p.2).1 then (tagsS p.1 tags true p.2).2 else failS 214 (tagsS p.1 tags true p.2).2) := by show _ = _; rw [← hp]; rfl
  rw [hp] at C1
  obtain ⟨k0, s1⟩ := p
  simp only at C1 HE
  obtain ⟨len, hle⟩ : ∃ n, tags.length = n := ⟨_, rfl⟩
  have HLE := hid hle
  rw [hle] at hlen ⊢
  clear h hz ht hp hle hl
  go_enter Tryz.func221, Tryz.ntmps221
  go_wp2_with fail
  refine C1.out.mono ?_
  rintro e1 w1 ⟨rfl, hc1, hs1⟩
  have HC1 := hid hc1
  have HS1 := hid hs1
  clear C1 hc1 hs1
  go_wp2
  go_loopw [7, 15] (fun vb vi wr => ∃ (k : Nat) (b : Bool) (s' : St), vi = .int .i64 k ∧ k ≤ len ∧ vb = .bool b ∧ Hid (tagsS k0 tags true s1 = tagsS k0 (tags.drop k) b s') ∧ Hid (Ck g n₀ m lo re s' wr) ∧ Hid (Save g w wr)) (fun _ vi _ => len - (intOf vi).toNat)
  case atStart => exact ⟨0, true, s1, rfl, Nat.zero_le _, rfl, rfl, HC1, HS1⟩
  case round =>
    clear HC1 HS1
    obtain ⟨k, b, s', rfl, hk, rfl, HR, HK, HS⟩ := hrel
    by_cases hlt : k < len
    · have hkl : k < tags.length := by rw [HLE.out]; exact hlt
      have hki : (k : Int) < (len : Int) := by omega
      obtain ⟨z, hzz⟩ : ∃ z, tags[k] = z := ⟨_, rfl⟩
      have hb := HC.out.below HS.out
      have hta := HT.out.below hb
      have hzr := HZ.out tags[k] (List.getElem_mem hkl)
      have hstep := tagsS_step (k := k0) hkl b s'
      rw [hzz] at hzr hstep
      have hcell : ∃ bb off, ta = some ⟨bb, off, none⟩ ∧ wr.cell? ⟨bb, off + k, none⟩ = some (.int .u32 z) := by
        rcases hta with h0 | ⟨bb, off, ha, _, hc⟩
        · rw [h0] at hkl; simp at hkl
        · refine ⟨bb, off, ha, ?_⟩
          have := hc k hkl
          rw [show tags.getD k 0 = tags[k] by simp [hkl], hzz] at this
          exact this
      obtain ⟨bb, off, rfl, cz⟩ := hcell
      have C2 := hid (label_m g n₀ m lo re s' z wr HK.out hzr)
      obtain ⟨q, hq⟩ : ∃ q, labelS z s' = q := ⟨_, rfl⟩
      rw [hq] at C2 hstep
      obtain ⟨kz, s2⟩ := q
      simp only at C2 hstep
      have HST := hid (HR.out.trans hstep)
      clear hzz hb hta hzr hstep hq hkl
      by_cases hkk : kz = k0
      · subst hkk
        have e2 : Hid (∀ c : Bool, (decide (kz = kz) && c) = c) := fun c => by simp
        go_wp2_with fail
        refine C2.out.mono ?_
        rintro e2 w2 ⟨rfl, hc2, hs2⟩
        have HC2 := hid hc2
        have HS2 := hid (HS.out.trans hs2)
        clear C2 hc2 hs2 cz
        go_wp2
        go_roundw
        case rel => exact ⟨k + 1, b, s2, by go_num, by omega, rfl, hid (by rw [HST.out, e2.out]), HC2, HS2⟩
        case measure => simp [intOf]; omega
      · have e2 : Hid (∀ c : Bool, (decide (kz = k0) && c) = false) := fun c => by simp [hkk]
        have hkb : (kz == k0) = false := by simpa using hkk
        go_wp2_with fail
        refine C2.out.mono ?_
        rintro e2 w2 ⟨rfl, hc2, hs2⟩
        have HC2 := hid hc2
        have HS2 := hid (HS.out.trans hs2)
        clear C2 hc2 hs2 cz
        go_wp2
        go_roundw
        case rel => exact ⟨k + 1, false, s2, by go_num, by omega, rfl, hid (by rw [HST.out, e2.out]), HC2, HS2⟩
        case measure => simp [intOf]; omega
    · obtain rfl : len = k := by omega
      have hdr : tags.drop len = [] := by rw [← HLE.out]; simp
      have HF := hid (show tagsS k0 tags true s1 = (b, s') by rw [HR.out, hdr]; rfl)
      have HG1 := hid (show b = true → tableS tags last s = s' from fun hb => by rw [HE.out, HF.out, hb]; rfl)
      have HG0 := hid (show b = false → tableS tags last s = failS 214 s' from fun hb => by rw [HE.out, HF.out, hb]; rfl)
      clear hdr HR hk hlt HE HF
      cases b with
      | true =>
        have HG := hid (HG1.out rfl)
        clear HG1 HG0
        go_wp2
        go_end0
        refine ⟨rfl, ?_, HS.out⟩
        rw [HG.out]; exact HK.out
      | false =>
        have HG := hid (HG0.out rfl)
        clear HG1 HG0
        have C3 := hid (fail_m g n₀ m lo re s' 214 wr HK.out)
        go_wp2_with fail
        refine C3.out.mono ?_
        rintro e3 w3 ⟨rfl, hc3, hs3⟩
        have HC3 := hid hc3
        have HS3 := hid (HS.out.trans hs3)
        clear C3 hc3 hs3
        go_wp2
        go_end0
        refine ⟨rfl, ?_, HS3.out⟩
        rw [HG.out]; exact HC3.out
end Go.Proofs.YtckdnhafookcgaaGreatDoor.Val

namespace Go.Proofs.YtckdnhafookcgaaGreatDoor.Mem
open Go.RowKit
open Go.Maps (Keyed int_keyed IsMap)
set_option linter.unusedVariables false

/-- A pointer to a page, as the datum of a number. -/
def ptrElem (v : Value) : Option (DataW Unit × List MemPlace) :=
  match v with
  | .pointer none => some (.nil, [])
  | .pointer (some ⟨g, 0, none⟩) => some (.lit (.int .i64 g), [])
  | _ => none
theorem ptrElem_inv {v : Value} {d : DataW Unit} {ps : List MemPlace} (h : ptrElem v = some (d, ps)) : (v = .pointer none ∧ d = .nil) ∨ ∃ g : Nat, v = .pointer (some ⟨g, 0, none⟩) ∧ d = .lit (.int .i64 g) := by
  unfold ptrElem at h
  split at h
  · cases h; exact .inl ⟨rfl, rfl⟩
  · cases h; exact .inr ⟨_, rfl, rfl⟩
  · cases h
theorem keyed : Keyed Tryz.prog 136 := int_keyed Tryz.underlying136
/-- Is it a block of a memory's own? -/
def isOwn : Obj → Bool
  | .map _ _ => true
  | .cells _ t _ => t == 146 || t == 187
  | _ => false
/-- All stands but what is a memory's own. -/
structure Keep (W W' : World) : Prop where
  os : W'.os = W.os
  tape : W'.tape = W.tape
  output : W'.output = W.output
  size : W.heap.size ≤ W'.heap.size
  block : ∀ (j : Nat) (o : Obj), W.heap[j]? = some o → isOwn o = false → W'.heap[j]? = some o
theorem Keep.refl (W : World) : Keep W W := ⟨rfl, rfl, rfl, Nat.le_refl _, fun _ _ h _ => h⟩
theorem Keep.trans {a b c : World} (h : Keep a b) (g : Keep b c) : Keep a c :=
  ⟨g.os.trans h.os, g.tape.trans h.tape, g.output.trans h.output, Nat.le_trans h.size g.size, fun j o hj ho => g.block j o (h.block j o hj ho) ho⟩
theorem Keep.of_below {W W' : World} (h : Below W.heap.size W W') : Keep W W' :=
  ⟨h.os, h.tape, h.output, h.size, fun j o hj _ => (h.block j (Array.getElem?_eq_some_iff.1 hj).1).trans hj⟩
theorem Keep.of_save {W W' : World} {g : Nat} {o : Obj} (h : Save g W W') (hg : W.heap[g]? = some o) (ho : isOwn o = true) : Keep W W' :=
  ⟨h.os, h.tape, h.output, h.size, fun j o' hj ho' => (h.block j (Array.getElem?_eq_some_iff.1 hj).1 (fun e => by
    subst e; rw [hg] at hj; cases hj; rw [ho] at ho'; cases ho')).trans hj⟩
theorem Keep.cells {W W' : World} (h : Keep W W') {g : Nat} {C : Array Value} {t : TypeId} {m : Nat × Nat} (hg : W.heap[g]? = some (.cells C t m)) (ht : (t == 146 || t == 187) = false) : W'.heap[g]? = some (.cells C t m) :=
  h.block g _ hg ht
/-- A page: its bytes. -/
def PageAt (W : World) (g : Nat) (f : Nat → Int) (k : Nat) : Prop := ∃ L : List Int, W.heap[g]? = some (.cells (L.map (Value.int .u8)).toArray 187 (0, 0)) ∧ L.length = 65536 ∧ ∀ i, i < 65536 → L.getD i 0 = f (k * 65536 + i)
/-- A memory. -/
structure MemAt (B : Nat) (W : World) (p mb K : Nat) (D : DataW Unit) (m : Mm) : Prop where
  box : W.heap[p]? = some (.cells #[.pointer (some ⟨p, 0, none⟩), .int .u32 m.n, .int .u32 m.most, .map (some mb)] 146 (0, 0))
  bp : B ≤ p
  bm : B ≤ mb
  map : W.ownsMap Tryz.prog 136 ptrElem mb K D
  isMap : IsMap D
  ok : m.ok
  at_ : ∀ k : Nat, (D.atKey (.int .u64 k) .nil = .nil ∧ ∀ i, i < 65536 → m.f (k * 65536 + i) = 0) ∨ ∃ g : Nat, B ≤ g ∧ D.atKey (.int .u64 k) .nil = .lit (.int .i64 g) ∧ PageAt W g m.f k
  apart : ∀ k k' g : Nat, D.atKey (.int .u64 k) .nil = .lit (.int .i64 g) → D.atKey (.int .u64 k') .nil = .lit (.int .i64 g) → k = k'
theorem MemAt.mblock {B : Nat} {W : World} {p mb K : Nat} {D : DataW Unit} {m : Mm} (h : MemAt B W p mb K D m) : ∃ es ck, W.heap[mb]? = some (.map es ck) := by
  obtain ⟨es, ck, hh, _⟩ := h.map
  exact ⟨es, ck, hh⟩
theorem MemAt.below {B : Nat} {W W' : World} {p mb K : Nat} {D : DataW Unit} {m : Mm} (h : MemAt B W p mb K D m) (hb : Below W.heap.size W W') : MemAt B W' p mb K D m := by
  refine ⟨(hb.block p (Array.getElem?_eq_some_iff.1 h.box).1).trans h.box, h.bp, h.bm, ?_, h.isMap, h.ok, fun k => ?_, h.apart⟩
  · have hl := World.ownsMap.lt h.map
    obtain ⟨es, ck, hh, r⟩ := h.map
    exact ⟨es, ck, (hb.block mb hl).trans hh, r⟩
  · rcases h.at_ k with h1 | ⟨g, hg, h1, L, h2, h3⟩
    · exact .inl h1
    · exact .inr ⟨g, hg, h1, L, (hb.block g (Array.getElem?_eq_some_iff.1 h2).1).trans h2, h3⟩
/-- A block that is none of the memory's own is written. -/
theorem MemAt.save {B : Nat} {W W' : World} {p mb K g : Nat} {D : DataW Unit} {m : Mm} (h : MemAt B W p mb K D m) {o : Obj} (hs : Save g W W') (hg : W.heap[g]? = some o) (ho : isOwn o = false) : MemAt B W' p mb K D m := by
  have ne : ∀ (j : Nat) (o' : Obj), W.heap[j]? = some o' → isOwn o' = true → W'.heap[j]? = some o' := fun j o' hj ho' => (hs.block j (Array.getElem?_eq_some_iff.1 hj).1 (fun e => by subst e; rw [hg] at hj; cases hj; rw [ho] at ho'; cases ho')).trans hj
  refine ⟨ne _ _ h.box rfl, h.bp, h.bm, ?_, h.isMap, h.ok, fun k => ?_, h.apart⟩
  · obtain ⟨es, ck, hh, r⟩ := h.map
    exact ⟨es, ck, ne _ _ hh rfl, r⟩
  · rcases h.at_ k with h1 | ⟨q, hq, h1, L, h2, h3⟩
    · exact .inl h1
    · exact .inr ⟨q, hq, h1, L, ne _ _ h2 rfl, h3⟩
/-- A page more, of noughts. -/
theorem MemAt.fresh {B : Nat} {W W' : World} {p mb K k g : Nat} {D : DataW Unit} {m : Mm} (h : MemAt B W p mb K D m) (h0 : D.atKey (.int .u64 k) .nil = .nil) (hgB : B ≤ g)
    (hgn : ∀ k' g' : Nat, D.atKey (.int .u64 k') .nil = .lit (.int .i64 g') → g' ≠ g)
    (hp : PageAt W g (fun _ => 0) k) (hmap : W'.ownsMap Tryz.prog 136 ptrElem mb (K + 1) (D.put (.int .u64 k) (.lit (.int .i64 g)))) (hs : Save mb W W') (hk : WideAt.IsKeyLit (.int .u64 k)) :
    MemAt B W' p mb (K + 1) (D.put (.int .u64 k) (.lit (.int .i64 g))) m := by
  obtain ⟨es, ck, hmb⟩ := h.mblock
  have ne : ∀ (j : Nat) (C : Array Value) (t : TypeId) (q : Nat × Nat), W.heap[j]? = some (.cells C t q) → W'.heap[j]? = some (.cells C t q) := fun j C t q hj => (hs.block j (Array.getElem?_eq_some_iff.1 hj).1 (fun e => by
    subst e; rw [hmb] at hj; cases hj)).trans hj
  have hz : ∀ i, i < 65536 → m.f (k * 65536 + i) = 0 := by
    rcases h.at_ k with ⟨_, h1⟩ | ⟨g', _, h1, _⟩
    · exact h1
    · rw [h0] at h1; cases h1
  have oth : ∀ k' : Nat, k' ≠ k → (D.put (.int .u64 k) (.lit (.int .i64 g))).atKey (.int .u64 k') .nil = D.atKey (.int .u64 k') .nil := fun k' hk' => Maps.atKey_put_other (fun e => hk' (by cases e; rfl)) _ _
  have same : (D.put (.int .u64 k) (.lit (.int .i64 g))).atKey (.int .u64 k) .nil = .lit (.int .i64 g) := Maps.atKey_put_same h.isMap hk _ _
  refine ⟨ne _ _ _ _ h.box, h.bp, h.bm, hmap, h.isMap.put _ _, h.ok, fun k' => ?_, fun a b q ha hb => ?_⟩
  · by_cases e : k' = k
    · subst e
      obtain ⟨L, h1, h2, h3⟩ := hp
      exact .inr ⟨g, hgB, same, L, ne _ _ _ _ h1, h2, fun i hi => (h3 i hi).trans (hz i hi).symm⟩
    · rw [oth k' e]
      rcases h.at_ k' with h1 | ⟨q, hq, h1, L, h2, h3⟩
      · exact .inl h1
      · exact .inr ⟨q, hq, h1, L, ne _ _ _ _ h2, h3⟩
  · by_cases ea : a = k
    · by_cases eb : b = k
      · rw [ea, eb]
      · subst ea
        rw [same] at ha; rw [oth b eb] at hb; cases ha
        exact absurd rfl (hgn _ _ hb)
    · by_cases eb : b = k
      · subst eb
        rw [same] at hb; rw [oth a ea] at ha; cases hb
        exact absurd rfl (hgn _ _ ha)
      · rw [oth a ea] at ha; rw [oth b eb] at hb
        exact h.apart a b q ha hb
/-- A page is written. -/
theorem MemAt.written {B : Nat} {W W' : World} {p mb K k g : Nat} {D : DataW Unit} {m : Mm} {f' : Nat → Int} (h : MemAt B W p mb K D m) (hg : D.atKey (.int .u64 k) .nil = .lit (.int .i64 g)) (hs : Save g W W') (hp : PageAt W' g f' k)
    (hf : ∀ a, a < k * 65536 ∨ (k + 1) * 65536 ≤ a → f' a = m.f a) (hb : ∀ a, 0 ≤ f' a ∧ f' a < 256) : MemAt B W' p mb K D { m with f := f' } := by
  have hpg : PageAt W g m.f k := by
    rcases h.at_ k with ⟨h1, _⟩ | ⟨g', _, h1, h2⟩
    · rw [hg] at h1; cases h1
    · rw [hg] at h1
      have : g = g' := by simp at h1; omega
      rw [this]; exact h2
  obtain ⟨L0, hL0, _⟩ := hpg
  have ne : ∀ (j : Nat) (o' : Obj), W.heap[j]? = some o' → j ≠ g → W'.heap[j]? = some o' := fun j o' hj hne => (hs.block j (Array.getElem?_eq_some_iff.1 hj).1 hne).trans hj
  refine ⟨ne _ _ h.box (fun e => ?_), h.bp, h.bm, ?_, h.isMap, ⟨h.ok.n, h.ok.most, hb⟩, fun k' => ?_, h.apart⟩
  · have := h.box
    rw [e, hL0] at this
    simp at this
  · obtain ⟨es, ck, hh, r⟩ := h.map
    exact ⟨es, ck, ne _ _ hh (fun e => by rw [e, hL0] at hh; cases hh), r⟩
  · by_cases e : k' = k
    · subst e
      rcases h.at_ k' with ⟨h1, _⟩ | ⟨g', hB, h1, _⟩
      · rw [hg] at h1; cases h1
      · rw [hg] at h1
        have e2 : g = g' := by simp at h1; omega
        subst e2
        exact .inr ⟨g, hB, hg, hp⟩
    · rcases h.at_ k' with ⟨h1, h2⟩ | ⟨q, hq, h1, L, h2, h3, h4⟩
      · exact .inl ⟨h1, fun i hi => (hf _ (by omega)).trans (h2 i hi)⟩
      · refine .inr ⟨q, hq, h1, L, ne _ _ h2 (fun e2 => ?_), h3, fun i hi => (h4 i hi).trans (hf _ (by omega)).symm⟩
        subst e2
        exact e (h.apart _ _ _ h1 hg)
end Go.Proofs.YtckdnhafookcgaaGreatDoor.Mem

namespace Go.Proofs.YtckdnhafookcgaaGreatDoor.Mem
open Go.RowKit Go.Proofs.YtckdnhafookcgaaGreatDoor.Instr Go.Proofs.YtckdnhafookcgaaGreatDoor.Num
set_option linter.unusedVariables false

theorem ptrInfo : ∃ j, Tryz.prog.info? 146 = some j := info_of_underlying Tryz.underlying146
theorem eq_same (a : Addr) (w : World) : (binOp .eql 53 (.pointer (some a)) (.pointer (some a))).run Tryz.prog w = .ok (.bool true) w := by
  obtain ⟨j, hj⟩ := ptrInfo
  exact run_eql_ptr_same w a Tryz.underlying53 hj
set_option maxRecDepth 100000 in
theorem made_yes (p : Nat) (w : World) (c : w.cell? ⟨p, 0, none⟩ = some (.pointer (some ⟨p, 0, none⟩))) :
    Calls Tryz.prog 67 #[.pointer (some ⟨p, 0, none⟩)] w fun e w' => e = .returned (.bool true) ∧ w = w' := by
  have q1 := eq_same
  go_enter Tryz.func67, Tryz.ntmps67
  go_wp2
  go_ret
  exact ⟨rfl, rfl⟩
theorem has_any (p : Nat) (n s k : Int) (w : World) (c : w.cell? ⟨p, 1, none⟩ = some (.int .u32 n)) (hn : 0 ≤ n ∧ n ≤ 65536) (hs : 0 ≤ s ∧ s ≤ 8589934590) (hk : 0 ≤ k ∧ k ≤ 140737488351232) :
    Calls Tryz.prog 68 #[.pointer (some ⟨p, 0, none⟩), .int .u64 s, .int .u64 k] w fun e w' => e = .returned (.bool (decide (s + k ≤ n * 65536))) ∧ w = w' := by
  obtain ⟨n0, n1⟩ := hn
  obtain ⟨s0, s1⟩ := hs
  obtain ⟨k0, k1⟩ := hk
  go_enter Tryz.func68, Tryz.ntmps68
  go_wp2
  go_ret
  exact ⟨by simp, rfl⟩
end Go.Proofs.YtckdnhafookcgaaGreatDoor.Mem

namespace Go.Proofs.YtckdnhafookcgaaGreatDoor.Mem
open Go.RowKit
open Go.Maps (Keyed int_keyed IsMap)
set_option linter.unusedVariables false

theorem save_setRow (w : World) (g : Nat) (cs : Array Value) : Save g w (w.setRow g cs) :=
  ⟨rfl, rfl, rfl, by simp [World.setRow], fun j _ hj => setRow_other w g j cs (by omega)⟩
theorem infoB1 : (Tryz.prog.info? 5).map (·.size) = some 1 := by kernel_rfl
section
variable {ops : Array Oper} {rest : List Oper} {o : Oper} {act : Act} {w : World}
/-- The row behind a copy. -/
def over (R xs : List Int) (off : Nat) : List Int := R.take off ++ xs ++ R.drop (off + xs.length)
theorem over_length {R xs : List Int} {off : Nat} (h : off + xs.length ≤ R.length) : (over R xs off).length = R.length := by
  simp [over]; omega
theorem over_getD {R xs : List Int} {off : Nat} (h : off + xs.length ≤ R.length) (i : Nat) : (over R xs off).getD i 0 = if off ≤ i ∧ i < off + xs.length then xs.getD (i - off) 0 else R.getD i 0 := by
  have hl : (R.take off).length = off := by simp; omega
  unfold over
  simp only [List.getD_eq_getElem?_getD]
  by_cases h1 : i < off
  · rw [if_neg (by omega), List.append_assoc, List.getElem?_append_left (by omega), List.getElem?_take_of_lt h1]
  · by_cases h2 : i < off + xs.length
    · rw [if_pos (by omega), List.append_assoc, List.getElem?_append_right (by omega), hl, List.getElem?_append_left (by omega)]
    · rw [if_neg (by omega), List.getElem?_append_right (by simp; omega), List.length_append, hl, List.getElem?_drop]
      congr 2
      omega
theorem copy_run (dT : TypeId) (hu : Tryz.prog.underlying dT = some (.slice 5)) {g off dl dc sl sc q o2 M : Nat} {R xs : List Int} {T : TypeId} (t : TypeId) (hh : w.heap[g]? = some (.cells (R.map (Value.int .u8)).toArray T (0, 0))) (hM : xs.length = M)
    (hmin : M = Nat.min sl dl) (hfit : off + M ≤ R.length) (hsrc : ∀ j, j < M → w.cell? ⟨q, o2 + j, none⟩ = some (.int .u8 (xs.getD j 0))) :
    ∃ w', (Builtin.copy_ #[dT, dT] t #[.slice (some ⟨g, off, none⟩) dl dc, .slice (some ⟨q, o2, none⟩) sl sc]).run Tryz.prog w = .ok (.int .i64 M) w' ∧ w'.heap[g]? = some (.cells ((over R xs off).map (Value.int .u8)).toArray T (0, 0)) ∧ Save g w w' ∧ w'.heap.size = w.heap.size := by
  have hl : (xs.map (Value.int .u8)).length = M := by simp [hM]
  have hr := run_copy_row (P := Tryz.prog) w dT dT t 5 g off dl dc ⟨q, o2, none⟩ sl sc (R.map (Value.int .u8)).toArray T (xs.map (Value.int .u8)) hu infoB1 hh (by rw [hl]; exact hmin) (fun j v hj => by
    have hjl : j < xs.length := by
      rcases Nat.lt_or_ge j xs.length with h | h
      · exact h
      · simp [List.getElem?_eq_none (show (xs.map (Value.int .u8)).length ≤ j by simpa using h)] at hj
    have hplain : (⟨q, o2, none⟩ : Addr).add j = ⟨q, o2 + j, none⟩ := by unfold Addr.add; split <;> simp_all
    rw [hplain, hsrc j (by omega)]
    simp [List.getElem?_eq_getElem hjl] at hj
    subst hj
    simp [List.getD, List.getElem?_eq_getElem hjl]) (by simp; omega) (fun v hv => by
    obtain ⟨z, _, rfl⟩ := List.mem_map.1 hv
    rfl)
  refine ⟨_, hr.trans (by rw [hl]; rfl), ?_, save_setRow _ _ _, by simp [World.setRow]⟩
  rw [setRow_heap w g _ _ T _ hh]
  simp [over, List.map_take, List.map_drop, hM]
theorem copy_wp {K : Act → World → Prop} {Q : Exit → Act → World → Prop} (dT : TypeId) (hu : Tryz.prog.underlying dT = some (.slice 5)) (d s : Operand) (ho : o.op = .call { callee := .builtin .copy, args := #[d, s], argTypes := #[dT, dT] })
    {g off dl dc sl sc q o2 M : Nat} {R xs : List Int} {T : TypeId} (hd : act.eval d = .slice (some ⟨g, off, none⟩) dl dc) (hs : act.eval s = .slice (some ⟨q, o2, none⟩) sl sc) (hh : w.heap[g]? = some (.cells (R.map (Value.int .u8)).toArray T (0, 0))) (hM : xs.length = M)
    (hmin : M = Nat.min sl dl) (hfit : off + M ≤ R.length) (hsrc : ∀ j, j < M → w.cell? ⟨q, o2 + j, none⟩ = some (.int .u8 (xs.getD j 0)))
    (h : ∀ w', Hid (w'.heap[g]? = some (.cells ((over R xs off).map (Value.int .u8)).toArray T (0, 0))) → Save g w w' → w'.heap.size = w.heap.size → K (act.put o.dst (.int .i64 M)) w') : Oper.wp Tryz.prog o act w K Q := by
  obtain ⟨w', hrun, h1, h2, h3⟩ := copy_run (w := w) dT hu o.type hh hM hmin hfit hsrc
  unfold Oper.wp
  simp [execOp, ho, resolve, invoke, builtin, hd, hs, Result.andThen]
  rw [hrun]
  exact h w' h1 h2 h3
theorem copy_list {Q : Exit → Act → World → Prop} (hgd : o.guard = none) (d s : Operand) (ho : o.op = .call { callee := .builtin .copy, args := #[d, s], argTypes := #[73, 73] })
    {g off dl dc sl sc q o2 M : Nat} {R xs : List Int} {T : TypeId} (hd : act.eval d = .slice (some ⟨g, off, none⟩) dl dc) (hs : act.eval s = .slice (some ⟨q, o2, none⟩) sl sc) (hh : w.heap[g]? = some (.cells (R.map (Value.int .u8)).toArray T (0, 0))) (hM : xs.length = M)
    (hmin : M = Nat.min sl dl) (hfit : off + M ≤ R.length) (hsrc : ∀ j, j < M → w.cell? ⟨q, o2 + j, none⟩ = some (.int .u8 (xs.getD j 0)))
    (h : ∀ w', Hid (w'.heap[g]? = some (.cells ((over R xs off).map (Value.int .u8)).toArray T (0, 0))) → Save g w w' → w'.heap.size = w.heap.size → wpList Tryz.prog ops Q rest (act.put o.dst (.int .i64 M)) w') : wpList Tryz.prog ops Q (o :: rest) act w :=
  wpList_plain hgd fun K hK => copy_wp 73 Tryz.underlying73 d s ho hd hs hh hM hmin hfit hsrc fun w' h1 h2 h3 => hK _ _ (h w' h1 h2 h3)
end
/-- A page's bytes from one on, as a slice. -/
theorem slice_page (g q : Nat) (hq : q < 65536) (w : World) : (Instr.sliceAt 187 (.pointer (some ⟨g, 0, none⟩)) (some (.int .u64 (q : Int))) none none).run Tryz.prog w = .ok (.slice (some ⟨g, q, none⟩) (65536 - q) (65536 - q)) w := by
  have hl : Tryz.prog.arrayLen 187 = 65536 := by simp [Program.arrayLen, Tryz.underlying187]
  have he : Tryz.prog.elem 187 = 5 := by simp [Program.elem, Tryz.underlying187]
  have hu : Tryz.prog.underlying 187 = some (.array (Tryz.prog.arrayLen 187) (Tryz.prog.elem 187)) := by rw [hl, he]; exact Tryz.underlying187
  rw [run_sliceAt_array_l w 187 ⟨g, 0, none⟩ hu .u64 (q : Int) (by omega) (by rw [hl]; omega), hl, he]
  have hne : ¬ (65536 : Nat) = q := by omega
  have hadd : (⟨g, 0, none⟩ : Addr).add q = ⟨g, q, none⟩ := by unfold Addr.add; split <;> simp_all
  simp [slicedAt, hne, hadd, Tryz.sizeOf5]
theorem MemAt.cells {B : Nat} {W : World} {p mb K : Nat} {D : DataW Unit} {m : Mm} (h : MemAt B W p mb K D m) : W.cell? ⟨p, 0, none⟩ = some (.pointer (some ⟨p, 0, none⟩)) ∧ W.cell? ⟨p, 1, none⟩ = some (.int .u32 m.n) ∧ W.cell? ⟨p, 2, none⟩ = some (.int .u32 m.most) ∧ W.cell? ⟨p, 3, none⟩ = some (.map (some mb)) := by
  have := h.box
  refine ⟨?_, ?_, ?_, ?_⟩ <;> simp [World.cell?, this]
theorem MemAt.page_lt {B : Nat} {W : World} {p mb K : Nat} {D : DataW Unit} {m : Mm} (h : MemAt B W p mb K D m) (k g : Nat) (hg : D.atKey (.int .u64 k) .nil = .lit (.int .i64 g)) : g < W.heap.size := by
  rcases h.at_ k with ⟨h1, _⟩ | ⟨g', _, h1, L, h2, _⟩
  · rw [hg] at h1; cases h1
  · rw [hg] at h1
    have : g = g' := by simp at h1; omega
    rw [this]
    exact (Array.getElem?_eq_some_iff.1 h2).1
theorem wf64 {k : Nat} (h : k < 18446744073709551616) : (Lit.int .u64 (k : Int)).wf = true := by
  have e : IntKind.u64.min = 0 := rfl
  have e2 : IntKind.u64.max = 18446744073709551615 := rfl
  simp [Lit.wf, e, e2]
  omega
/-- A look-up in the map of pages: none, and all noughts; or a page. -/
theorem MemAt.look {B : Nat} {W : World} {p mb K : Nat} {D : DataW Unit} {m : Mm} (h : MemAt B W p mb K D m) (k : Nat) (hk : k < 18446744073709551616) :
    ((Instr.lookup 144 (.map (some mb)) (.int .u64 k) false).run Tryz.prog W = .ok (.pointer none) W ∧ D.atKey (.int .u64 k) .nil = .nil ∧ ∀ i, i < 65536 → m.f (k * 65536 + i) = 0) ∨
    ∃ g, B ≤ g ∧ (Instr.lookup 144 (.map (some mb)) (.int .u64 k) false).run Tryz.prog W = .ok (.pointer (some ⟨g, 0, none⟩)) W ∧ D.atKey (.int .u64 k) .nil = .lit (.int .i64 g) ∧ PageAt W g m.f k := by
  obtain ⟨v, ps, hrun, hv⟩ := h.map.lookup keyed Tryz.underlying144 (z := .pointer none) (by simp [Tryz.zeroValue185]) (zd := .nil) (zp := []) rfl (key := .int .u64 k) (Maps.keyOf_int_mk Tryz.underlying136 (wf64 hk))
  rcases h.at_ k with ⟨h1, h2⟩ | ⟨g, hB, h1, h2⟩
  · rw [h1] at hv
    rcases ptrElem_inv hv with ⟨rfl, _⟩ | ⟨g, _, h3⟩
    · exact .inl ⟨hrun, h1, h2⟩
    · cases h3
  · rw [h1] at hv
    rcases ptrElem_inv hv with ⟨_, h3⟩ | ⟨g', rfl, h3⟩
    · cases h3
    · have : g = g' := by simp at h3; omega
      subst this
      exact .inr ⟨g, hB, hrun, h1, h2⟩
end Go.Proofs.YtckdnhafookcgaaGreatDoor.Mem

namespace Go.Proofs.YtckdnhafookcgaaGreatDoor.Mem
open Go.RowKit
set_option linter.unusedVariables false

def d0 : List Value := [.int .u8 0, .int .u8 0, .int .u8 0, .int .u8 0, .int .u8 0, .int .u8 0, .int .u8 0, .int .u8 0, .int .u8 0, .int .u8 0, .int .u8 0, .int .u8 0, .int .u8 0, .int .u8 0, .int .u8 0, .int .u8 0, .int .u8 0, .int .u8 0, .int .u8 0, .int .u8 0, .int .u8 0, .int .u8 0, .int .u8 0, .int .u8 0, .int .u8 0, .int .u8 0, .int .u8 0, .int .u8 0, .int .u8 0, .int .u8 0, .int .u8 0, .int .u8 0, .int .u8 0, .int .u8 0, .int .u8 0, .int .u8 0, .int .u8 0, .int .u8 0, .int .u8 0, .int .u8 0, .int .u8 0, .int .u8 0, .int .u8 0, .int .u8 0, .int .u8 0, .int .u8 0, .int .u8 0, .int .u8 0, .int .u8 0, .int .u8 0, .int .u8 0, .int .u8 0, .int .u8 0, .int .u8 0, .int .u8 0, .int .u8 0, .int .u8 0, .int .u8 0, .int .u8 0, .int .u8 0, .int .u8 0, .int .u8 0, .int .u8 0, .int .u8 0]
def d1 : List Value := List.append d0 d0
def d2 : List Value := List.append d1 d1
def d3 : List Value := List.append d2 d2
def d4 : List Value := List.append d3 d3
def d5 : List Value := List.append d4 d4
def d6 : List Value := List.append d5 d5
def d7 : List Value := List.append d6 d6
def d8 : List Value := List.append d7 d7
def d9 : List Value := List.append d8 d8
def d10 : List Value := List.append d9 d9
theorem e0 : d0 = List.replicate 64 (Value.int .u8 0) := rfl
theorem dbl {n : Nat} {L : List Value} (h : L = List.replicate n (Value.int .u8 0)) : List.append L L = List.replicate (n + n) (Value.int .u8 0) := by
  show L ++ L = _
  rw [h, List.replicate_append_replicate]
theorem e1 : d1 = List.replicate 128 (Value.int .u8 0) := dbl e0
theorem e2 : d2 = List.replicate 256 (Value.int .u8 0) := dbl e1
theorem e3 : d3 = List.replicate 512 (Value.int .u8 0) := dbl e2
theorem e4 : d4 = List.replicate 1024 (Value.int .u8 0) := dbl e3
theorem e5 : d5 = List.replicate 2048 (Value.int .u8 0) := dbl e4
theorem e6 : d6 = List.replicate 4096 (Value.int .u8 0) := dbl e5
theorem e7 : d7 = List.replicate 8192 (Value.int .u8 0) := dbl e6
theorem e8 : d8 = List.replicate 16384 (Value.int .u8 0) := dbl e7
theorem e9 : d9 = List.replicate 32768 (Value.int .u8 0) := dbl e8
theorem e10 : d10 = List.replicate 65536 (Value.int .u8 0) := dbl e9
theorem zero93 : Tryz.t187.zero = some (.agg d10.toArray) := by kernel_rfl
/-- The zero value of a page. -/
theorem zeroPage : ∃ Z : Array Value, (∀ w : World, (zeroValue 187).run Tryz.prog w = .ok (.agg Z) w) ∧ Z.size = 65536 ∧ ¬ Z = #[] ∧ Z = ((List.replicate 65536 (0 : Int)).map (Value.int .u8)).toArray := by
  have hd : d10.toArray = ((List.replicate 65536 (0 : Int)).map (Value.int .u8)).toArray := by rw [e10, List.map_replicate]
  refine ⟨d10.toArray, fun w => ?_, ?_, ?_, hd⟩
  · have h := zero93
    generalize d10.toArray = Z at h
    unfold zeroValue
    simp [Tryz.typeInfo187, h]
  · rw [e10, List.size_toArray, List.length_replicate]
  · intro h
    have := congrArg Array.size h
    rw [e10, List.size_toArray, List.length_replicate] at this
    simp at this
theorem zeros_getD (i : Nat) : (List.replicate 65536 (0 : Int)).getD i 0 = 0 := by
  rw [List.getD_eq_getElem?_getD, List.getElem?_replicate]
  split <;> rfl
end Go.Proofs.YtckdnhafookcgaaGreatDoor.Mem

namespace Go.Proofs.YtckdnhafookcgaaGreatDoor
open Go.RowKit

/-- What a slice value at address 'a' reads as: these numbers. -/
structure Nums (k : IntKind) (w : World) (a : Option Addr) (zs : List Int) : Prop where
  at_ : zs = [] ∨ ∃ b off, a = some ⟨b, off, none⟩ ∧ ∀ i, i < zs.length → w.cell? ⟨b, off + i, none⟩ = some (.int k (zs.getD i 0))
theorem Nums.below {k : IntKind} {w w' : World} {a : Option Addr} {zs : List Int} (h : Nums k w a zs) (hb : Below w.heap.size w w') : Nums k w' a zs := by
  refine ⟨?_⟩
  rcases h.at_ with h0 | ⟨b, off, rfl, hc⟩
  · exact .inl h0
  · exact .inr ⟨b, off, rfl, fun i hi => (hb.cell (World.block_lt_of_cell? w _ (hc i hi))).trans (hc i hi)⟩
theorem Nums.alloc {k : IntKind} {w : World} {a : Option Addr} {zs : List Int} (h : Nums k w a zs) (o : Obj) : Nums k (w.alloc o) a zs := h.below ((Below.refl _ _).alloc (Nat.le_refl _) o)
/-- A row of numbers that a call made itself. -/
def OwnK (e : TypeId) (k : IntKind) (base : Nat) (w : World) (v : Value) (zs : List Int) : Prop := w.ownsRow base e 1 v zs.length (zs.map (Value.int k))
theorem OwnK.nil {e : TypeId} {k : IntKind} {base n c : Nat} {w : World} {a : Option Addr} {zs : List Int} (h : OwnK e k base w (.slice a n c) zs) : Hid (a = none → c = 0) := by
  refine hid fun ha => ?_
  subst ha
  rcases h.2 with ⟨h', _⟩ | ⟨g, cap, cur, h', _⟩
  · simp at h'; exact h'.2
  · simp at h'
theorem OwnK.mono {e : TypeId} {k : IntKind} {base base' : Nat} {w : World} {v : Value} {zs : List Int} (h : OwnK e k base w v zs) (hb : base' ≤ base) : OwnK e k base' w v zs := by
  refine ⟨h.1, ?_⟩
  rcases h.2 with h0 | ⟨g, cap, cur, hv, hg, rest⟩
  · exact .inl h0
  · exact .inr ⟨g, cap, cur, hv, Nat.le_trans hb hg, rest⟩
/-- A store below it turns no row. -/
theorem OwnK.setCell {e : TypeId} {k : IntKind} {base : Nat} {w : World} {v : Value} {zs : List Int} (h : OwnK e k base w v zs) {p : Addr} (hp : p.block < base) (u : Value) : OwnK e k base (w.setCell p u) v zs := by
  refine ⟨h.1, ?_⟩
  rcases h.2 with h0 | ⟨g, cap, cur, hv, hg, hh, rest⟩
  · exact .inl h0
  · exact .inr ⟨g, cap, cur, hv, hg, (Below.heap_setCell w p u g (by omega)).trans hh, rest⟩
/-- A call that leaves all that was there turns no row. -/
theorem OwnK.below {e : TypeId} {k : IntKind} {base : Nat} {w w' : World} {v : Value} {zs : List Int} (h : OwnK e k base w v zs) (hb : Below w.heap.size w w') : OwnK e k base w' v zs := by
  refine ⟨h.1, ?_⟩
  rcases h.2 with h0 | ⟨g, cap, cur, hv, hg, hh, rest⟩
  · exact .inl h0
  · exact .inr ⟨g, cap, cur, hv, hg, (hb.block g (Array.getElem?_eq_some_iff.1 hh).1).trans hh, rest⟩
theorem OwnK.alloc {e : TypeId} {k : IntKind} {base : Nat} {w : World} {v : Value} {zs : List Int} (h : OwnK e k base w v zs) (o : Obj) : OwnK e k base (w.alloc o) v zs := h.below ((Below.refl _ _).alloc (Nat.le_refl _) o)
/-- An iterator's step turns no row. -/
theorem OwnK.iterAt {e : TypeId} {k : IntKind} {base j : Nat} {w : World} {v : Value} {zs : List Int} {s : ByteArray} {p : Nat} (h : OwnK e k base w v zs) (hk : w.heap[j]? = some (.stringIter s p)) (p' : Nat) : OwnK e k base (w.iterAt j s p') v zs := by
  refine ⟨h.1, ?_⟩
  rcases h.2 with h0 | ⟨g, cap, cur, hv, hg, hh, rest⟩
  · exact .inl h0
  · refine .inr ⟨g, cap, cur, hv, hg, (Lib.iterAt_other w j g s p' (fun hgj => ?_)).trans hh, rest⟩
    subst hgj
    rw [hh] at hk
    cases hk
section
variable {ops : Array Oper} {rest : List Oper} {o : Oper} {act : Act} {Q : Exit → Act → World → Prop}

end

end Go.Proofs.YtckdnhafookcgaaGreatDoor

namespace Go.Proofs.YtckdnhafookcgaaGreatDoor
open Go.RowKit

/-- A row of one's own, all of it: what the block holds. -/
theorem OwnK.heap {e : TypeId} {k : IntKind} {base n g : Nat} {w : World} {L : List Int} (h : OwnK e k base w (.slice (some ⟨g, 0, none⟩) n n) L) (hn : L.length = n) : base ≤ g ∧ w.heap[g]? = some (.cells (L.map (Value.int k)).toArray e (0, 0)) := by
  subst hn
  rcases h.2 with ⟨h', _⟩ | ⟨g', cap, cur, hv, hb, hh, hnc, _, hcs, ht⟩
  · cases h'
  · simp only [Value.slice.injEq, Option.some.injEq, Addr.mk.injEq, and_true, true_and] at hv
    obtain ⟨rfl, rfl⟩ := hv
    refine ⟨hb, ?_⟩
    rw [List.take_of_length_le (by simp; omega)] at ht
    rw [hh, ← ht]
theorem OwnK.of_heap {e : TypeId} {k : IntKind} {base n g : Nat} {w : World} {L : List Int} (hb : base ≤ g) (hh : w.heap[g]? = some (.cells (L.map (Value.int k)).toArray e (0, 0))) (hn : L.length = n) (hl : n ≤ 140737488355328) :
    OwnK e k base w (.slice (some ⟨g, 0, none⟩) n n) L := by
  subst hn
  exact ⟨by simp, .inr ⟨g, L.length, (L.map (Value.int k)).toArray, rfl, hb, hh, Nat.le_refl _, by unfold maxLen; omega, by simp, by rw [List.take_of_length_le (by simp)]⟩⟩

/-- make([]T, n). -/
theorem make_zeros {e ts : TypeId} {k : IntKind} {nb : Nat} (inf : (Tryz.prog.info? e).map (fun i => (i.zero, i.size, i.bytes)) = some (some (.int k 0), 1, nb)) (ut : Tryz.prog.underlying ts = some (.slice e)) (w : World) (n : Nat)
    (hl : nb * n ≤ 281474976710656) (hc : n ≤ 140737488355328) :
    ∃ w', (∀ x : Int, x = n → (Instr.makeSlice ts (.int .i64 x) (.int .i64 x)).run Tryz.prog w = .ok (.slice (some ⟨w.heap.size, 0, none⟩) n n) w') ∧ w'.heap[w.heap.size]? = some (.cells ((List.replicate n (0 : Int)).map (Value.int k)).toArray e (0, 0)) ∧ Below w.heap.size w w' := by
  obtain ⟨i0, hi, hz0, hz1, hz2⟩ := info_parts inf
  obtain ⟨w', h1, h2, h3⟩ := run_make_full w w.heap.size ts e i0 (.int k 0) 1 ut hi hz0 hz1 .i64 .i64 n (by rw [hz2]; exact hl) (by unfold maxLen; omega) (Nat.le_refl _)
  refine ⟨w', fun x hx => by rw [hx]; exact h1, ?_, (Below.refl _ _).grown h3 (Nat.le_refl _) (fun k h => by cases h)⟩
  have hcells : (Value.int k 0).cells = #[Value.int k 0] := rfl
  rw [hcells, toList_madeCells_one] at h2
  have h4 : OwnK e k w.heap.size w' (.slice (some ⟨w.heap.size, 0, none⟩) n n) (List.replicate n 0) := by
    unfold OwnK
    simpa using h2
  exact (h4.heap (by simp)).2

/-- Each cell of a block. -/
theorem nums_of_heap {e : TypeId} {k : IntKind} {g : Nat} {w : World} {L : List Int} (hh : w.heap[g]? = some (.cells (L.map (Value.int k)).toArray e (0, 0))) : ∀ i, i < L.length → w.cell? ⟨g, 0 + i, none⟩ = some (.int k (L.getD i 0)) := by
  intro i hi
  simp [World.cell?, hh, hi]
theorem set_heap {e : TypeId} {k : IntKind} {g : Nat} {w : World} {L : List Int} (hh : w.heap[g]? = some (.cells (L.map (Value.int k)).toArray e (0, 0))) (j : Nat) (z : Int) :
    (w.setCell ⟨g, j, none⟩ (.int k z)).heap[g]? = some (.cells ((L.set j z).map (Value.int k)).toArray e (0, 0)) := by
  rw [heap_setCell_same w g j _ e _ hh]
  simp [List.map_set]
theorem frozen_heap {e : TypeId} {k : IntKind} {g : Nat} {w : World} {L : List Int} (hh : w.heap[g]? = some (.cells (L.map (Value.int k)).toArray e (0, 0))) (j : Nat) : w.frozen? ⟨g, j, none⟩ = false := frozen_of_row w g j _ e hh

section
variable {ops : Array Oper} {rest : List Oper} {o : Oper} {act : Act} {Q : Exit → Act → World → Prop}
end
end Go.Proofs.YtckdnhafookcgaaGreatDoor

namespace Go.Proofs.YtckdnhafookcgaaGreatDoor.Mod
open Go.RowKit Go.Proofs.YtckdnhafookcgaaGreatDoor.Instr

/-- A block of a copy: from lo on, below hi, none of its cells frozen. -/
def Blk (lo hi : Nat) (w : World) (b : Nat) : Prop := lo ≤ b ∧ b < hi ∧ ∃ cs e, w.heap[b]? = some (.cells cs e (0, 0))
def TagsO (lo hi : Nat) (w : World) (a : Option Addr) (zs : List Int) : Prop :=
  zs = [] ∨ ∃ b off, a = some ⟨b, off, none⟩ ∧ Blk lo hi w b ∧ ∀ i, i < zs.length → w.cell? ⟨b, off + i, none⟩ = some (.int .u32 (zs.getD i 0))
def ItemsO (lo hi : Nat) (w : World) : Nat → Nat → Il → Prop
  | _, _, .nil => True
  | b, off, .cons x l e r =>
    Blk lo hi w b ∧ x.ok ∧
    (∀ j v, x.vals[j]? = some v → w.cell? ⟨b, off + j, none⟩ = some v) ∧
    TagsO lo hi w x.ta x.tags ∧
    (l.len = x.ln ∧ (l = .nil ∨ ∃ b' o', x.la = some ⟨b', o', none⟩ ∧ ItemsO lo hi w b' o' l)) ∧
    (e.len = x.en ∧ (e = .nil ∨ ∃ b' o', x.ea = some ⟨b', o', none⟩ ∧ ItemsO lo hi w b' o' e)) ∧
    ItemsO lo hi w b (off + 8) r
def ListO (lo hi : Nat) (w : World) (a : Option Addr) (n : Nat) (t : Il) : Prop := t.len = n ∧ (t = .nil ∨ ∃ b off, a = some ⟨b, off, none⟩ ∧ ItemsO lo hi w b off t)
theorem TagsO.at {lo hi : Nat} {w : World} {a : Option Addr} {zs : List Int} (h : TagsO lo hi w a zs) : TagsAt hi w a zs := by
  rcases h with h | ⟨b, off, ha, hb, hc⟩
  · exact .inl h
  · exact .inr ⟨b, off, ha, hb.2.1, hc⟩
theorem ItemsO.at {lo hi : Nat} {w : World} : ∀ {t : Il} {b off : Nat}, ItemsO lo hi w b off t → Items hi w b off t
  | .nil, _, _, _ => trivial
  | .cons x l e r, b, off, ⟨hb, hx, hc, ht, ⟨l1, l2⟩, ⟨e1, e2⟩, hr⟩ => by
    refine ⟨hb.2.1, hx, ⟨hc 0 _ rfl, hc 1 _ rfl, hc 2 _ rfl, hc 3 _ rfl, hc 4 _ rfl, hc 5 _ rfl, hc 6 _ rfl, hc 7 _ rfl⟩, ht.at, ⟨l1, ?_⟩, ⟨e1, ?_⟩, ItemsO.at hr⟩
    · rcases l2 with h | ⟨b', o', h1, h2⟩
      · exact .inl h
      · exact .inr ⟨b', o', h1, ItemsO.at h2⟩
    · rcases e2 with h | ⟨b', o', h1, h2⟩
      · exact .inl h
      · exact .inr ⟨b', o', h1, ItemsO.at h2⟩
theorem ListO.at {lo hi : Nat} {w : World} {a : Option Addr} {n : Nat} {t : Il} (h : ListO lo hi w a n t) : ListAt hi w a n t := by
  refine ⟨h.1, ?_⟩
  rcases h.2 with h | ⟨b, off, h1, h2⟩
  · exact .inl h
  · exact .inr ⟨b, off, h1, h2.at⟩

/-- What a cell may be written over with. -/
inductive KRel : Value → Value → Prop
  | same (v : Value) : KRel v v
  | i64 (x y : Int) : 0 ≤ y → y < 1000 → KRel (.int .i64 x) (.int .i64 y)
  | u32 (x y : Int) : 0 ≤ y → y < 1000 → KRel (.int .u32 x) (.int .u32 y)
  | i32 (x y : Int) : 0 ≤ y → y < 1000 → KRel (.int .i32 x) (.int .i32 y)
  | u8 (x y : Int) : KRel (.int .u8 x) (.int .u8 y)
  | slice (a : Option Addr) (n c : Nat) : KRel (.slice a n c) (.slice none 0 0)
  | str (s t : ByteArray) : t.size ≤ 4 → KRel (.string s) (.string t)
  | bool (b : Bool) : KRel (.bool b) (.bool false)
theorem KRel.trans {u v z : Value} (h : KRel u v) (g : KRel v z) : KRel u z := by
  cases g with
  | same => exact h
  | i64 x y h1 h2 => cases h with
    | same => exact .i64 _ _ h1 h2
    | i64 => exact .i64 _ _ h1 h2
  | u32 x y h1 h2 => cases h with
    | same => exact .u32 _ _ h1 h2
    | u32 => exact .u32 _ _ h1 h2
  | i32 x y h1 h2 => cases h with
    | same => exact .i32 _ _ h1 h2
    | i32 => exact .i32 _ _ h1 h2
  | u8 x y => cases h with
    | same => exact .u8 _ _
    | u8 => exact .u8 _ _
  | slice a n c => cases h with
    | same => exact .slice _ _ _
    | slice => exact .slice _ _ _
  | str s t h1 => cases h with
    | same => exact .str _ _ h1
    | str => exact .str _ _ h1
  | bool b => cases h with
    | same => exact .bool _
    | bool => exact .bool _
/-- Writes of the same kind, in the blocks from lo on and below hi. -/
structure Ov (lo hi : Nat) (w w' : World) : Prop where
  kept : Kept lo hi w w'
  cells : ∀ (b o : Nat) (v : Value), w.cell? ⟨b, o, none⟩ = some v → ∃ v', w'.cell? ⟨b, o, none⟩ = some v' ∧ KRel v v'
  soft : ∀ b : Nat, (∃ cs e, w.heap[b]? = some (Obj.cells cs e (0, 0))) → ∃ cs e, w'.heap[b]? = some (Obj.cells cs e (0, 0))
theorem Ov.refl (lo hi : Nat) (w : World) : Ov lo hi w w := ⟨Kept.refl _ _ _, fun _ _ v h => ⟨v, h, .same v⟩, fun _ h => h⟩
theorem Ov.trans {lo hi : Nat} {a b c : World} (h : Ov lo hi a b) (g : Ov lo hi b c) : Ov lo hi a c :=
  ⟨h.kept.trans g.kept, fun q o v hv => by
    obtain ⟨v1, h1, r1⟩ := h.cells q o v hv
    obtain ⟨v2, h2, r2⟩ := g.cells q o v1 h1
    exact ⟨v2, h2, r1.trans r2⟩, fun q hq => g.soft q (h.soft q hq)⟩
/-- A slice whose cells, up to its capacity, are bytes. -/
def RoomO (lo hi : Nat) (w : World) (a : Option Addr) (n c : Nat) : Prop := n ≤ c ∧ c ≤ 9223372036854775807 ∧ (a = none ∧ c = 0 ∨ ∃ b off, a = some ⟨b, off, none⟩ ∧ Blk lo hi w b ∧ ∀ i, i < c → ∃ z, w.cell? ⟨b, off + i, none⟩ = some (.int .u8 z))
end Go.Proofs.YtckdnhafookcgaaGreatDoor.Mod

namespace Go.Proofs.YtckdnhafookcgaaGreatDoor.Instr
open Go.RowKit

def Il.weight : Il → Nat
  | .nil => 0
  | .cons x l e r => 1 + x.tags.length + l.weight + e.weight + r.weight
end Go.Proofs.YtckdnhafookcgaaGreatDoor.Instr

namespace Go.Proofs.YtckdnhafookcgaaGreatDoor.Mod
open Go.RowKit Go.Proofs.YtckdnhafookcgaaGreatDoor.Instr

/-- All in it together is little. -/
structure Md.small (m : Md) (most : Nat) : Prop where
  lens : m.ty.length + m.im.length + m.fu.length + m.tb.length + m.me.length + m.gl.length + m.ex.length + m.el.length + m.da.length ≤ most
  ls : ∀ l ∈ m.codes, l.t.weight ≤ most
  fs : ∀ e ∈ m.el, e.fs.length ≤ most
  bs : ∀ d ∈ m.da, d.bs.length ≤ most
  iS : ∀ i ∈ m.im, i.mo.size ≤ most ∧ i.na.size ≤ most
  eS : ∀ e ∈ m.ex, e.na.size ≤ most
end Go.Proofs.YtckdnhafookcgaaGreatDoor.Mod

namespace Go.Proofs.YtckdnhafookcgaaGreatDoor.Mod
open Go.RowKit Go.Proofs.YtckdnhafookcgaaGreatDoor.Instr

theorem Blk.frozen {lo hi : Nat} {w : World} {b : Nat} (h : Blk lo hi w b) (j : Nat) : w.frozen? ⟨b, j, none⟩ = false := by
  obtain ⟨_, _, cs, e, h⟩ := h
  exact frozen_of_row w b j cs e h
end Go.Proofs.YtckdnhafookcgaaGreatDoor.Mod

namespace Go.Proofs.YtckdnhafookcgaaGreatDoor.Mod
open Go.RowKit Go.Proofs.YtckdnhafookcgaaGreatDoor.Instr

/-- What a cell of a row holds. -/
inductive Kd where
  | i64 | u32 | bool | str | lst | tags | room
def CellO (lo hi : Nat) (w : World) : Kd → Value → Prop
  | .i64, v => ∃ x, v = .int .i64 x
  | .u32, v => ∃ x, v = .int .u32 x
  | .bool, v => ∃ x, v = .bool x
  | .str, v => ∃ x, v = .string x
  | .lst, v => ∃ a n c t, v = .slice a n c ∧ ListO lo hi w a n t ∧ n ≤ 140737488351232
  | .tags, v => ∃ a n c zs, v = .slice a n c ∧ zs.length = n ∧ TagsO lo hi w a zs ∧ (∀ z ∈ zs, 0 ≤ z ∧ z < 4294967296) ∧ n ≤ 140737488351232
  | .room, v => ∃ a n c, v = .slice a n c ∧ RoomO lo hi w a n c
/-- This many rows of such cells. -/
def RowO (lo hi : Nat) (w : World) (ks : List Kd) (a : Option Addr) (n : Nat) : Prop :=
  n = 0 ∨ ∃ b off, a = some ⟨b, off, none⟩ ∧ Blk lo hi w b ∧ ∀ i, i < n → ∀ j k, ks[j]? = some k → ∃ v, w.cell? ⟨b, off + i * ks.length + j, none⟩ = some v ∧ CellO lo hi w k v
/-- A module in blocks of its own. -/
structure ModO (lo hi : Nat) (w : World) (m : Md) : Prop where
  ty : RowO lo hi w [.i64, .i64] m.ty'.a m.ty.length
  im : RowO lo hi w [.str, .str, .i64] m.im'.a m.im.length
  fu : RowO lo hi w [.i64, .i64, .lst] m.fu'.a m.fu.length
  gl : RowO lo hi w [.bool, .lst] m.gl'.a m.gl.length
  ex : RowO lo hi w [.str, .i64, .u32] m.ex'.a m.ex.length
  el : RowO lo hi w [.lst, .tags] m.el'.a m.el.length
  da : RowO lo hi w [.lst, .room] m.da'.a m.da.length
end Go.Proofs.YtckdnhafookcgaaGreatDoor.Mod
