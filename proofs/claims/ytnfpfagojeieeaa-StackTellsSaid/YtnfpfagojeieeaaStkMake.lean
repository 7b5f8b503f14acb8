/-
  STACK: stands in memory of their own: slices.Clone, with, own, last, by contract.
-/
import Derived.Test.YtnfpfagojeieeaaStkCheckC
import Derived.Lib.SliceRun
import Derived.Deep.Cut
import Derived.Deep.RegionHeld
import Derived.Deep.RegionHeldLaw
namespace Go.Proofs.Ytnfpfagojeieeaa.Stk
open Go.RowKit
set_option linter.unusedVariables false

theorem infoFr : (Try.prog.info? 46).map (fun i => (i.zero, i.size, i.bytes)) = some (some (.agg #[.int .i64 0, .int .i64 0, .int .i64 0, .bool false]), 4, 32) := by kernel_rfl
/-- A box that holds a stand. -/
def Bx (W : World) (g : Nat) (x y : Value) : Prop := W.heap[g]? = some (.cells #[x, y] 24 (0, 0))
theorem Bx.lt {W : World} {g : Nat} {x y : Value} (h : Bx W g x y) : g < W.heap.size := (Array.getElem?_eq_some_iff.1 h).1
theorem Bx.made (W : World) (x y : Value) : Bx (W.alloc (.cells #[x, y] 24)) W.heap.size x y := heap_alloc_new W _
theorem Bx.belowB {B : Nat} {W W' : World} {g : Nat} {x y : Value} (h : Bx W g x y) (hb : Below B W W') (hg : g < B) : Bx W' g x y := (hb.block g hg).trans h
theorem Bx.below {W W' : World} {g : Nat} {x y : Value} (h : Bx W g x y) (hb : Below W.heap.size W W') : Bx W' g x y := h.belowB hb h.lt
theorem Bx.c0 {W : World} {g : Nat} {x y : Value} (h : Bx W g x y) : W.cell? ⟨g, 0, none⟩ = some x := cell_of_row W g 0 _ _ _ h
theorem Bx.c1 {W : World} {g : Nat} {x y : Value} (h : Bx W g x y) : W.cell? ⟨g, 1, none⟩ = some y := cell_of_row W g 1 _ _ _ h
theorem Bx.f {W : World} {g : Nat} {x y : Value} (h : Bx W g x y) (j : Nat) : W.frozen? ⟨g, j, none⟩ = false := frozen_of_row W g j _ _ h
theorem Bx.set0 {W : World} {g : Nat} {x y : Value} (h : Bx W g x y) (u : Value) : Bx (W.setCell ⟨g, 0, none⟩ u) g u y := heap_setCell_same W g 0 _ _ u h
theorem Bx.set1 {W : World} {g : Nat} {x y : Value} (h : Bx W g x y) (u : Value) : Bx (W.setCell ⟨g, 1, none⟩ u) g x u := heap_setCell_same W g 1 _ _ u h
theorem Bx.far {W : World} {g : Nat} {x y : Value} (h : Bx W g x y) {p : Addr} (hp : g ≠ p.block) (u : Value) : Bx (W.setCell p u) g x y := (Below.heap_setCell W p u g hp).trans h

theorem four (f : Fr) : f.v.length = 4 := rfl
theorem fours (l : List Fr) : ∀ r ∈ l.map Fr.v, r.length = 4 := by
  intro r hr
  obtain ⟨f, _, rfl⟩ := List.mem_map.1 hr
  rfl
theorem ones (l : List Fr) : ∀ r ∈ l.map Fr.v, ∀ u ∈ r, u.oneCell' = true := by
  intro r hr u hu
  obtain ⟨f, _, rfl⟩ := List.mem_map.1 hr
  simp only [Fr.v, List.mem_cons, List.not_mem_nil, or_false] at hu
  rcases hu with rfl | rfl | rfl | rfl <;> rfl
/-- Frames that a call made itself. -/
def OwnF (base : Nat) (w : World) (v : Value) (l : List Fr) : Prop := OwnR 46 4 base w v (l.map Fr.v)
theorem OwnF.slice {base : Nat} {w : World} {v : Value} {l : List Fr} (h : OwnF base w v l) (hl : l.length ≤ 1000000) : ∃ a c, v = .slice a l.length c ∧ StAt w.heap.size w a l.length c l := by
  obtain ⟨a, c, hv, hr, _⟩ := OwnR.rows h
  rw [List.length_map] at hv
  refine ⟨a, c, hv, ⟨hr, rfl, ?_, by omega⟩⟩
  · rcases h.row.2 with ⟨h1, h0⟩ | ⟨g, cap, cur, h1, _, _, hc, _⟩
    · rw [List.length_map] at h0; omega
    · rw [hv] at h1
      simp only [Value.slice.injEq] at h1
      rw [List.length_map] at hc
      omega
/-- Two stores, and what they leave. -/
theorem box2 {W : World} {g : Nat} {x y : Value} (h : Bx W g x y) (u v : Value) : Bx ((W.setCell ⟨g, 0, none⟩ u).setCell ⟨g, 1, none⟩ v) g u v := (h.set0 u).set1 v
theorem OwnF.set {base : Nat} {w : World} {v : Value} {l : List Fr} (h : OwnF base w v l) {p : Addr} (hp : p.block < base) (u : Value) : OwnF base (w.setCell p u) v l := OwnR.setCell h hp u
theorem OwnF.mono {base base' : Nat} {w : World} {v : Value} {l : List Fr} (h : OwnF base w v l) (hb : base' ≤ base) : OwnF base' w v l := OwnR.mono h hb
theorem OwnF.below {base : Nat} {w w' : World} {v : Value} {l : List Fr} (h : OwnF base w v l) (hb : Below w.heap.size w w') : OwnF base w' v l := OwnR.below h hb
theorem ownF_nil (base : Nat) (w : World) : OwnF base w (.slice none 0 0) [] := OwnR.start _ _ _ _
set_option maxHeartbeats 1000000 in
theorem clone_any (w : World) (a : Option Addr) (n c : Nat) (l : List Fr) (hn : l.length = n) (hr : Rows w.heap.size w a 4 (l.map Fr.v)) (hl : n ≤ 1000000) :
    Calls Try.prog 36 #[.slice a n c] w fun e w' => ∃ v, e = .returned v ∧ OwnF w.heap.size w' v l ∧ Below w.heap.size w w' := by
  unfold OwnF
  have HL := hid (fours l)
  have H1 := hid (ones l)
  have HN0 : Hid (l = [] ∨ (l.map Fr.v).length = n) := hid (.inr (by simpa using hn))
  have HE := hid (fun (h : l.map Fr.v = []) => h)
  obtain ⟨ys, hys⟩ : ∃ ys, l.map Fr.v = ys := ⟨_, rfl⟩
  have HN := hid (show ys.length = n by rw [← hys]; simpa using hn)
  rw [hys] at hr HL H1 ⊢
  have HR := hid hr
  have HM := hid (show ys.length ≤ 1000000000 by rw [HN.out]; omega)
  clear hn hr hl HN0 HE hys
  cases a with
  | none =>
    have HY : Hid (ys = []) := hid (HR.out.elim id (fun ⟨b, off, h, _⟩ => by cases h))
    have qn := Lib.run_eql_slice_nil (P := Try.prog) w 22 46 Option.none n c 0 0 Try.underlying22
    rw [Option.isNone_none] at qn
    go_enter Try.func36, Try.ntmps36
    go_wp2
    go_ret
    exact ⟨_, rfl, by rw [HY.out]; exact OwnR.start _ _ _ _, Below.refl _ _⟩
  | some ad =>
    have qn := Lib.run_eql_slice_nil (P := Try.prog) w 22 46 (some ad) n c 0 0 Try.underlying22
    rw [Option.isNone_some] at qn
    go_enter Try.func36, Try.ntmps36
    go_wp2_with (at_builtin; refine append_list infoFr rfl (by omega) (by omega) Try.underlying22 rfl (.tmp 5) (.tmp 6) rfl rfl (OwnR.madeG 46 4 _ rfl) (by simp) _ _ _ rfl ys HN.out ((HR.out.below ((Below.refl _ _).alloc (Nat.le_refl _) _)).more (by simp)) HL.out H1.out HM.out ?_; intro v1 u1 ho hb hsz)
    go_ret
    exact ⟨_, rfl, ho, (((Below.refl w.heap.size w).alloc (Nat.le_refl _) _).trans hb)⟩
set_option maxHeartbeats 1000000 in
theorem with_any (h0 : Int) (a0 : Option Addr) (n0 c0 : Nat) (h : Int) (a : Option Addr) (n c : Nat) (l : List Fr) (w : World) (hn : l.length = n) (hr : Rows w.heap.size w a 4 (l.map Fr.v)) (hl : n ≤ 1000000) :
    Calls Try.prog 28 #[.agg #[.int .i64 h0, .slice a0 n0 c0], .int .i64 h, .slice a n c] w fun e w' => ∃ a' c', e = .returned (.agg #[.int .i64 h, .slice a' n c']) ∧ OwnF w.heap.size w' (.slice a' n c') l ∧ Below w.heap.size w w' := by
  have hb1 := (Below.refl w.heap.size w).alloc (Nat.le_refl _) (.cells #[.int .i64 h0, .slice a0 n0 c0] 24)
  have hb2 := hb1.alloc (by simp) (.cells #[.int .i64 0, .slice none 0 0] 24)
  have hx2 := Bx.made (w.alloc (.cells #[.int .i64 h0, .slice a0 n0 c0] 24)) (.int .i64 0) (.slice none 0 0)
  rw [World.size_alloc] at hx2
  have HN1 := hid hn
  have HB2 := hid hb2
  have HX2 := hid hx2
  have HL := hid (fours l)
  have H1 := hid (ones l)
  unfold OwnF
  obtain ⟨ys, hys⟩ : ∃ ys, l.map Fr.v = ys := ⟨_, rfl⟩
  have HN := hid (show ys.length = n by rw [← hys]; simpa using hn)
  rw [hys] at hr HL H1 ⊢
  have HR := hid hr
  have HM := hid (show ys.length ≤ 1000000000 by rw [HN.out]; omega)
  clear hn hr hl hb1 hb2 hx2 hys HN1
  go_enter Try.func28, Try.ntmps28
  go_wp2_with (at_builtin; refine append_list infoFr rfl (by omega) (by omega) Try.underlying22 rfl (.tmp 8) (.tmp 9) rfl rfl (OwnR.madeG 46 4 (w.heap.size + 2) (by simp)) (by simp) _ _ _ rfl ys HN.out ((HR.out.below (HB2.out.alloc (by simp; omega) _)).more (by simp; omega)) HL.out H1.out HM.out ?_; intro v1 u1 ho hb hsz; obtain ⟨a1, c1, hv1, -, -⟩ := OwnR.rows ho; rw [HN.out] at hv1; subst hv1; have hx := (HX2.out.below ((Below.refl _ _).alloc (Nat.le_refl _) (.cells #[] 46))).belowB hb (by simp); have f0 := hx.f 0; have f1 := hx.f 1; have k0 := hx.c0; have k1 := hx.c1; have HX := hid hx; have HO := hid ho; have HB := hid ((HB2.out.alloc (by simp; omega) (.cells #[] 46)).trans (hb.mono (by omega))); clear hx ho hb hsz)
  exact bodyPost_ret (results_cell_row Try.results28 _ _ (w.heap.size + 1) _ _ _ _ rfl (box2 HX.out _ _) Try.underlying24 rfl (by kernel_rfl)) rfl ⟨a1, c1, rfl, OwnR.mono (OwnR.setCell (OwnR.setCell HO.out (by simp) _) (by simp) _) (by omega), (HB.out.setCell (by simp) _).setCell (by simp) _⟩
theorem OwnR.madeD (e : TypeId) (sz : Nat) (w : World) : OwnR e sz w.heap.size (w.alloc (.cells #[] e)).drew (.slice (some ⟨w.heap.size, 0, none⟩) 0 0) [] := ⟨(OwnR.made e sz w).row, by simp⟩
theorem own_keep {w W W' : World} {g B : Nat} {x y : Value} (hB : w.heap.size ≤ B) (hg : g < B) (hb : Below w.heap.size w W) (c0 : W.cell? ⟨g, 0, none⟩ = some x) (c1 : W.cell? ⟨g, 1, none⟩ = some y) (h : Below B W W') :
    Below w.heap.size w W' ∧ W'.cell? ⟨g, 0, none⟩ = some x ∧ W'.cell? ⟨g, 1, none⟩ = some y :=
  ⟨hb.trans (h.mono hB), (h.cell (p := ⟨g, 0, none⟩) hg).trans c0, (h.cell (p := ⟨g, 1, none⟩) hg).trans c1⟩
theorem own_store {w u1 : World} {x y : Value} (hS : Below w.heap.size w u1 ∧ u1.cell? ⟨w.heap.size, 0, none⟩ = some x ∧ u1.cell? ⟨w.heap.size, 1, none⟩ = some y) (u v : Value) :
    Below w.heap.size w ((u1.setCell ⟨w.heap.size + 1, 0, none⟩ u).setCell ⟨w.heap.size + 1, 1, none⟩ v) ∧ ((u1.setCell ⟨w.heap.size + 1, 0, none⟩ u).setCell ⟨w.heap.size + 1, 1, none⟩ v).cell? ⟨w.heap.size, 0, none⟩ = some x ∧ ((u1.setCell ⟨w.heap.size + 1, 0, none⟩ u).setCell ⟨w.heap.size + 1, 1, none⟩ v).cell? ⟨w.heap.size, 1, none⟩ = some y :=
  ⟨(hS.1.setCell (by simp) _).setCell (by simp) _, (World.cell?_setCell_far _ _ _ _ (by simp)).trans ((World.cell?_setCell_far _ _ _ _ (by simp)).trans hS.2.1), (World.cell?_setCell_far _ _ _ _ (by simp)).trans ((World.cell?_setCell_far _ _ _ _ (by simp)).trans hS.2.2)⟩
set_option maxHeartbeats 2000000 in
theorem own_any (h : Int) (a : Option Addr) (n c : Nat) (l : List Fr) (w : World) (hn : l.length = n) (hr : Rows w.heap.size w a 4 (l.map Fr.v)) (hl : n ≤ 1000000) :
    Calls Try.prog 7 #[.agg #[.int .i64 h, .slice a n c]] w fun e w' => ∃ a' c', e = .returned (.agg #[.int .i64 h, .slice a' n c']) ∧ OwnF w.heap.size w' (.slice a' n c') l ∧ Below w.heap.size w w' := by
  obtain ⟨W0, hW0⟩ : ∃ W0, W0 = (w.alloc (.cells #[.int .i64 h, .slice a n c] 24)).alloc (.cells #[.int .i64 0, .slice none 0 0] 24) := ⟨_, rfl⟩
  have hb2 : Below w.heap.size w W0 := by rw [hW0]; exact ((Below.refl w.heap.size w).alloc (Nat.le_refl _) _).alloc (by simp) _
  have hx1 : Bx W0 w.heap.size (.int .i64 h) (.slice a n c) := by
    rw [hW0]; exact (Bx.made w _ _).below ((Below.refl _ _).alloc (Nat.le_refl _) _)
  have hx2 : Bx W0 (w.heap.size + 1) (.int .i64 0) (.slice none 0 0) := by
    have h := Bx.made (w.alloc (.cells #[.int .i64 h, .slice a n c] 24)) (.int .i64 0) (.slice none 0 0)
    rw [World.size_alloc] at h
    rw [hW0]; exact h
  have hsz : w.heap.size + 2 = W0.heap.size := by rw [hW0]; simp
  have HSZ := hid hsz
  have HB2 := hid hb2
  have HX2 := hid hx2
  have c0 := hx1.c0
  have c1 := hx1.c1
  have HL := hid (fours l)
  have H1 := hid (ones l)
  unfold OwnF
  obtain ⟨ys, hys⟩ : ∃ ys, l.map Fr.v = ys := ⟨_, rfl⟩
  have HN := hid (show ys.length = n by rw [← hys]; simpa using hn)
  rw [hys] at hr HL H1 ⊢
  have HR := hid (hr.below hb2)
  have HM := hid (show ys.length ≤ 1000000000 by rw [HN.out]; omega)
  have HW := hid hW0
  have hB0 : Below w.heap.size w W0 ∧ W0.cell? ⟨w.heap.size, 0, none⟩ = some (.int .i64 h) ∧ W0.cell? ⟨w.heap.size, 1, none⟩ = some (.slice a n c) := ⟨hb2, c0, c1⟩
  have HK := hid (fun W' (h : Below W0.heap.size W0 W') => own_keep (Nat.le_of_lt (by omega)) (by omega) hb2 c0 c1 h)
  clear hn hr hl hb2 hx1 hx2 hys hW0 hsz
  go_enter Try.func7, Try.ntmps7
  go_wp2
  rw [← HW.out]
  go_region_held_law (fun w' => Below w.heap.size w w' ∧ w'.cell? ⟨w.heap.size, 0, none⟩ = some (.int .i64 h) ∧ w'.cell? ⟨w.heap.size, 1, none⟩ = some (.slice a n c))
    (first
      | (with_reducible assumption)
      | (with_reducible exact HK.out _ ((Below.refl _ _).drew))
      | (with_reducible exact HK.out _ ((Below.refl _ _).alloc (Nat.le_refl _) _))
      | (with_reducible exact HK.out _ (((Below.refl _ _).drew).alloc (Nat.le_refl _) _))
      | (with_reducible exact own_store hS8 _ _)
      | (with_reducible exact HK.out _ (((Below.refl _ _).alloc (Nat.le_refl _) _).drew)))
    (first
      | (refine step_list infoFr rfl (by omega) (by omega) Try.underlying22 rfl (.tmp 5) (.tmp 7) rfl rfl (OwnR.madeD 46 4 W0) (by simp) a n c rfl ys HN.out ((HR.out.below (((Below.refl w.heap.size W0).alloc (by have := HSZ.out; omega) _).drew)).more (by have := HSZ.out; simp; omega)) HL.out H1.out HM.out ?_
         intro v1 u1 ho hb
         obtain ⟨a1, c1', hv1, -, -⟩ := OwnR.rows ho
         rw [HN.out] at hv1
         subst hv1
         have hS8 := HK.out u1 ((((Below.refl _ _).alloc (Nat.le_refl _) _).drew).trans hb)
         have hx := HX2.out.belowB ((((Below.refl _ _).alloc (Nat.le_refl _) _).drew).trans hb) (by have := HSZ.out; omega)
         have f0 := hx.f 0
         have f1 := hx.f 1
         have k0 := hx.c0
         have k1 := hx.c1))
  go_wp2
  have hsz := HSZ.out
  exact bodyPost_ret (results_cell_row Try.results7 _ _ (w.heap.size + 1) _ _ _ _ rfl (box2 hx _ _) Try.underlying24 rfl (by kernel_rfl)) rfl ⟨a1, c1', rfl, OwnR.mono (OwnR.setCell (OwnR.setCell ho (by simp; omega) _) (by simp; omega) _) (by omega), (hS8.1.setCell (by simp) _).setCell (by simp) _⟩
/-- Four stores into a box that holds a frame. -/
theorem box4 {W : World} {g : Nat} {x y z t : Value} (h : W.heap[g]? = some (.cells #[x, y, z, t] 46 (0, 0))) (a b c d : Value) :
    ((((W.setCell ⟨g, 0, none⟩ a).setCell ⟨g, 1, none⟩ b).setCell ⟨g, 2, none⟩ c).setCell ⟨g, 3, none⟩ d).heap[g]? = some (.cells #[a, b, c, d] 46 (0, 0)) :=
  heap_setCell_same _ g 3 _ _ d (heap_setCell_same _ g 2 _ _ c (heap_setCell_same _ g 1 _ _ b (heap_setCell_same W g 0 _ _ a h)))
set_option maxHeartbeats 1000000 in
theorem last_any (h : Int) (a : Option Addr) (n c : Nat) (l : List Fr) (w : World) (hs : StAt w.heap.size w a n c l) (h0 : 0 < n) :
    Calls Try.prog 30 #[.agg #[.int .i64 h, .slice a n c]] w fun e w' => e = .returned (.agg #[.int .i64 (lastF l).op, .int .i64 (lastF l).ba, .int .i64 (lastF l).re, .bool (lastF l).de]) ∧ Below w.heap.size w w' := by
  obtain ⟨W0, hW0⟩ : ∃ W0, W0 = (w.alloc (.cells #[.int .i64 h, .slice a n c] 24)).alloc (.cells #[.int .i64 0, .int .i64 0, .int .i64 0, .bool false] 46) := ⟨_, rfl⟩
  have hb2 : Below w.heap.size w W0 := by rw [hW0]; exact ((Below.refl w.heap.size w).alloc (Nat.le_refl _) _).alloc (by simp) _
  have hx1 : Bx W0 w.heap.size (.int .i64 h) (.slice a n c) := by
    rw [hW0]; exact (Bx.made w _ _).below ((Below.refl _ _).alloc (Nat.le_refl _) _)
  obtain ⟨b, off, rfl, hb, hc⟩ := hs.get h0
  have hl := hs.len
  obtain ⟨c0, c1, c2, c3⟩ := hc (n - 1) (by omega)
  have hlast : l[n - 1]'(by omega) = lastF l := by
    unfold lastF
    rw [List.getD_eq_getElem?_getD, List.getElem?_eq_getElem (by omega)]
    simp [hl]
  rw [hlast] at c0 c1 c2 c3
  obtain ⟨f, hf⟩ : ∃ f, lastF l = f := ⟨_, rfl⟩
  rw [hf] at c0 c1 c2 c3 ⊢
  obtain ⟨op, ba, re, de⟩ := f
  dsimp only at c0 c1 c2 c3 ⊢
  have d0 := (hb2.cell (p := ⟨b, off + (n - 1) * 4, none⟩) hb).trans c0
  have d1 := (hb2.cell (p := ⟨b, off + (n - 1) * 4 + 1, none⟩) hb).trans c1
  have d2 := (hb2.cell (p := ⟨b, off + (n - 1) * 4 + 2, none⟩) hb).trans c2
  have d3 := (hb2.cell (p := ⟨b, off + (n - 1) * 4 + 3, none⟩) hb).trans c3
  obtain ⟨m, rfl⟩ : ∃ m, n = m + 1 := ⟨n - 1, by omega⟩
  rw [Nat.add_sub_cancel] at d0 d1 d2 d3
  have hr : W0.heap[w.heap.size + 1]? = some (.cells #[.int .i64 0, .int .i64 0, .int .i64 0, .bool false] 46 (0, 0)) := by
    have h := heap_alloc_new (w.alloc (.cells #[.int .i64 h, .slice (some ⟨b, off, none⟩) (m + 1) c] 24)) (.cells #[.int .i64 0, .int .i64 0, .int .i64 0, .bool false] 46)
    rw [World.size_alloc] at h
    rw [hW0]; exact h
  have x0 := hx1.c0
  have x1 := hx1.c1
  have f0 := frozen_of_row W0 (w.heap.size + 1) 0 _ _ hr
  have f1 := frozen_of_row W0 (w.heap.size + 1) 1 _ _ hr
  have f2 := frozen_of_row W0 (w.heap.size + 1) 2 _ _ hr
  have f3 := frozen_of_row W0 (w.heap.size + 1) 3 _ _ hr
  have k0 : W0.cell? ⟨w.heap.size + 1, 0, none⟩ = some (.int .i64 0) := cell_of_row W0 (w.heap.size + 1) 0 _ _ _ hr
  have k1 : W0.cell? ⟨w.heap.size + 1, 1, none⟩ = some (.int .i64 0) := cell_of_row W0 (w.heap.size + 1) 1 _ _ _ hr
  have k2 : W0.cell? ⟨w.heap.size + 1, 2, none⟩ = some (.int .i64 0) := cell_of_row W0 (w.heap.size + 1) 2 _ _ _ hr
  have k3 : W0.cell? ⟨w.heap.size + 1, 3, none⟩ = some (.bool false) := cell_of_row W0 (w.heap.size + 1) 3 _ _ _ hr
  have HR := hid hr
  have HB := hid hb2
  have HW := hid hW0
  have hm : (m : Int) < (m : Int) + 1 := by omega
  have hmm := hs.fit
  have km : IntKind.i64.wrap (m : Int) = m := s64_in (by omega) (by omega)
  clear hs hc hb2 hx1 hr hW0 hl hlast hf c0 c1 c2 c3 hb h0
  go_enter Try.func30, Try.ntmps30
  go_upto_region 1 with fail
  rw [← HW.out]
  go_wp2
  exact bodyPost_ret (results_cell_row Try.results30 _ _ (w.heap.size + 1) _ _ _ _ rfl (box4 HR.out _ _ _ _) Try.underlying46 rfl (by kernel_rfl)) rfl ⟨rfl, (((HB.out.setCell (by simp) _).setCell (by simp) _).setCell (by simp) _).setCell (by simp) _⟩
end Go.Proofs.Ytnfpfagojeieeaa.Stk
