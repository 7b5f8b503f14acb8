/-
  BODY: GetCode, by contract.
-/
import Derived.Test.YtcjamlgdidiaeaaDoorBodyGet
import Derived.Test.YtcjamlgdidiaeaaDoorBodyLoc
namespace Go.Proofs.YtcjamlgdidiaeaaDoor.Body
open Go.RowKit Go.Proofs.YtcjamlgdidiaeaaDoor.Instr Go.Proofs.YtcjamlgdidiaeaaDoor.Leb
open Go.Proofs.YtcjamlgdidiaeaaDoor.Kind (Rd numR refuseR startR startR_good numR_good numR_bounds refuseR_good getL_next)

/-- Two cells that are there. -/
structure Duo (T : Nat) (x y : Value) (w : World) : Prop where
  c0 : w.cell? ⟨T, 0, none⟩ = some x
  c1 : w.cell? ⟨T, 1, none⟩ = some y
  f0 : w.frozen? ⟨T, 0, none⟩ = false
  f1 : w.frozen? ⟨T, 1, none⟩ = false
theorem Duo.made (w : World) (x y : Value) (t : TypeId) : Duo w.heap.size x y (w.alloc (.cells #[x, y] t)) := by
  constructor <;> go_simp
theorem Duo.save {k T : Nat} {x y : Value} {w w' : World} (h : Duo T x y w) (hs : Save k w w') (hk : T ≠ k) : Duo T x y w' :=
  have hl := World.block_lt_of_cell? w _ h.c0
  ⟨hs.cell hk h.c0, hs.cell hk h.c1, hs.frozen hl hk h.f0, hs.frozen hl hk h.f1⟩
theorem Duo.below {T : Nat} {x y : Value} {w w' : World} (h : Duo T x y w) (hb : Below w.heap.size w w') : Duo T x y w' :=
  h.save (k := w.heap.size) (Save.of_below hb) (by have := World.block_lt_of_cell? w _ h.c0; simp at this; omega)
theorem locR_good {zs : List Int} {s : Rd} (h : Kind.Good zs s) : Kind.Good zs (locR zs s).2 := by
  have hgr : ∀ (k : Nat) (tot : Int) (s : Rd), Kind.Good zs s → Kind.Good zs (groupsR zs k tot s).2 := by
    intro k
    induction k with
    | zero => intro tot s h; exact h
    | succ k ih =>
      intro tot s h
      have hg : Kind.Good zs (grpR zs tot s) := by
        unfold grpR
        refine tagR_good ?_
        split
        · exact refuseR_good (by decide) (numR_good h)
        · exact numR_good h
      rw [groupsR_succ]
      split
      · exact ih _ _ hg
      · exact hg
  exact hgr _ _ _ (numR_good h)
def codeP (zs : List Int) (p : Int) : Lr := listF zs 1 false 0 (locR zs (startR zs p)).2
def GotC (w : World) (n q : Int) (s : Rd) (T : Il) (e : Ending) (w' : World) : Prop :=
  ∃ a l c t, e = .returned (.tuple #[.agg #[.int .i64 n, .slice a l c], .int .i64 q, .agg #[.int .i64 s.2.1, .int .i64 s.2.2]]) ∧ Below w.heap.size w w' ∧ Fresh w.heap.size w' a l t ∧ t.bare = T
theorem alloc_b (w : World) (o : Obj) : Below w.heap.size w (w.alloc o) := (Below.refl _ _).alloc (Nat.le_refl _) o
/-- Four stores at the end. -/
theorem touch4 {S : Nat → Prop} {a : World} {T F : Nat} (hT : S T) (hF : S F) (i0 i1 j0 j1 : Nat) (u0 u1 v0 v1 : Value) :
    Touch S a ((((a.setCell ⟨T, i0, none⟩ u0).setCell ⟨T, i1, none⟩ u1).setCell ⟨F, j0, none⟩ v0).setCell ⟨F, j1, none⟩ v1).drew := by
  have step : ∀ (b : World) (q : Addr) (v : Value), S q.block → Touch S a b → Touch S a (b.setCell q v) := fun b q v hq h => h.setCell (.inl hq) v
  exact (step _ _ _ hF (step _ _ _ hF (step _ _ _ hT (step _ _ _ hT (Touch.refl _ a))))).trans (Touch.of_below (Below.refl _ _).drew)

set_option maxRecDepth 100000 in
set_option maxHeartbeats 3200000 in
theorem code_ok (av : Option Addr) (len cap : Nat) (zs : List Int) (p : Int) (w : World) (hlen : zs.length = len) (hz : Bytes w av zs) (hN : Nams w) (h0 : (codeP zs p).s.2.1 = 0) :
    Calls Tryd.prog 21 #[.slice av len cap, .int .i64 p] w (GotC w (locR zs (startR zs p)).1 (codeP zs p).s.1 ((codeP zs p).s.1, 0, 0) (codeP zs p).t) := by
  have hgs := startR_good zs p
  have hgd := locR_good hgs
  have hfin := (listF_fine zs 1 false 0 _ hgd).1
  have NR := hid (newReader_any av len cap zs p ((w.alloc (.cells #[.int .i64 0, .slice none 0 0] 24)).alloc (.cells #[.int .i64 0, .int .i64 0] 38)) hlen)
  have LO := hid (fun (w' : World) (h : RdIs w' (w.heap.size + 2) (.slice av len cap) (startR zs p)) (hb : Below w.heap.size w w') =>
    locals_any (w.heap.size + 2) av len cap zs (startR zs p) w' h hgs hlen (Bytes.below hz hb) (fun b off ha hne => by have := Bytes.lt hz b off ha hne; omega))
  have LS := hid (fun (w' : World) (h : RdIs w' (w.heap.size + 2) (.slice av len cap) (locR zs (startR zs p)).2) (hb : Below w.heap.size w w') =>
    list_any (w.heap.size + 2) av len cap zs (locR zs (startR zs p)).2 w' h hgd hlen (Bytes.below hz hb) (fun b off ha hne => by have := Bytes.lt hz b off ha hne; omega) (fun w'' hs => hN.below (hb.trans (hs.below hb.size (by omega)))))
  have hmt := mach_top zs (locR zs (startR zs p)).2 hgd
  unfold codeP at h0 ⊢
  obtain ⟨sl, hsl⟩ : ∃ s, (locR zs (startR zs p)).2 = s := ⟨_, rfl⟩
  obtain ⟨m, hm⟩ : ∃ m, (locR zs (startR zs p)).1 = m := ⟨_, rfl⟩
  rw [hsl] at LS LO hmt h0 hfin ⊢
  rw [hm] at LO ⊢
  obtain ⟨R, hR⟩ : ∃ R, listF zs 1 false 0 sl = R := ⟨_, rfl⟩
  rw [hR] at hmt h0 hfin ⊢
  rw [if_pos h0] at hmt
  rw [hmt] at LS
  obtain ⟨T, sR⟩ : ∃ T s, R.t = T ∧ R.s = s := ⟨_, _, rfl, rfl⟩
  obtain ⟨s, hT, hsR⟩ := sR
  have hs3 := (hfin h0).2.2
  rw [hT, hsR] at LS ⊢
  rw [hsR] at h0 hs3
  obtain ⟨q, e, f⟩ := s
  simp only at h0 hs3 ⊢
  subst h0 hs3
  have FN := hid (fun (w' : World) (h : RdIs w' (w.heap.size + 2) (.slice av len cap) (q, 0, 0)) => faulty_no (w.heap.size + 2) _ (q, 0, 0) w' h rfl)
  clear hgd hgs hfin hmt hR hsl hm hz hN hlen
  go_enter Tryd.func21, Tryd.ntmps21
  go_wp2_with fail
  refine NR.out.mono ?_
  clear NR
  rintro e1 w1 ⟨rfl, hr1, hb1⟩
  have T0 := (Duo.made w (.int .i64 0) (.slice none 0 0) 24).below (alloc_b _ (.cells #[.int .i64 0, .int .i64 0] 38))
  have F0 := Duo.made (w.alloc (.cells #[.int .i64 0, .slice none 0 0] 24)) (.int .i64 0) (.int .i64 0) 38
  have hB1 : Below w.heap.size w w1 := (((Below.refl w.heap.size w).alloc (Nat.le_refl _) _).alloc (by simp) _).trans (hb1.mono (by simp; omega))
  have T1 := hid (T0.below hb1)
  have F1 := F0.below hb1
  simp only [World.size_alloc, Nat.add_assoc, Nat.reduceAdd] at hr1 F1 ⊢
  have hs1 : w.heap.size + 2 < w1.heap.size := World.block_lt_of_cell? w1 _ hr1.c0
  have F1 := hid F1
  have HB1 := hid hB1
  have HR1 := hid hr1
  clear hb1 hB1 hr1 T0 F0
  go_wp2_with fail
  refine (LO.out w1 HR1.out HB1.out).mono ?_
  clear LO
  rintro e2 w2 ⟨rfl, hr2, sv2⟩
  have HB2 := hid (HB1.out.trans (sv2.below HB1.out.size (by omega)))
  have T2 := T1.out.save sv2 (by omega)
  have F2 := F1.out.save sv2 (by omega)
  have hs2 : w.heap.size + 2 < w2.heap.size := Nat.lt_of_lt_of_le hs1 sv2.size
  obtain ⟨W3, hW3⟩ : ∃ W3, w2.alloc (.cells #[.int .i64 m, .slice none 0 0] 24) = W3 := ⟨_, rfl⟩
  have hb3 : Below w2.heap.size w2 W3 := by rw [← hW3]; exact alloc_b _ _
  have G3 := hid (show Duo w2.heap.size (.int .i64 m) (.slice none 0 0) W3 by rw [← hW3]; exact Duo.made _ _ _ _)
  have L3 := hid (LS.out W3 (hr2.below hb3) (HB2.out.trans (hb3.mono HB2.out.size)))
  have T3 := hid (T2.below hb3)
  have F3 := hid (F2.below hb3)
  have HB3 := hid (HB2.out.trans (hb3.mono HB2.out.size))
  have hs3 : w2.heap.size < W3.heap.size := by rw [← hW3]; simp
  rw [← hW3] at L3
  have HW3 := hid hW3
  clear hW3
  clear hb3 hr2 sv2 T2 F2 T1 F1 HB1 HR1 LS hs1 HB2
  go_wp2_with fail
  refine L3.out.mono ?_
  rw [HW3.out]
  clear L3 HW3
  rintro e4 w4 ⟨a, l, c, rfl, hr4, sv4, hT2⟩
  obtain ⟨t, ht1, ht2, ht3, ht4, ht5⟩ := hT2 rfl
  have HF := hid (Fresh.mk ht2 ht3 ht4 ht5)
  have HT := hid ht1
  clear ht1 ht2 ht3 ht4 ht5 hT2
  have G4 := G3.out.save sv4 (by omega)
  have T4 := T3.out.save sv4 (by omega)
  have F4 := F3.out.save sv4 (by omega)
  have hg1 := G4.c1
  have hg2 := G4.f1
  have sv5 : Save w2.heap.size w4 (w4.setCell ⟨w2.heap.size, 1, none⟩ (.slice a l c)) := (Save.refl w2.heap.size w4).setCell (p := ⟨w2.heap.size, 1, none⟩) (.inl rfl) _
  have FN5 := hid (FN.out (w4.setCell ⟨w2.heap.size, 1, none⟩ (.slice a l c)) (hr4.save sv5 (by omega)))
  have T5 := T4.save sv5 (by omega)
  have F5 := F4.save sv5 (by omega)
  have R5 := hr4.save sv5 (by omega)
  have hgc0 : (w4.setCell ⟨w2.heap.size, 1, none⟩ (.slice a l c)).cell? ⟨w2.heap.size, 0, none⟩ = some (.int .i64 m) := by have := G4.c0; go_simp
  have hgc1 : (w4.setCell ⟨w2.heap.size, 1, none⟩ (.slice a l c)).cell? ⟨w2.heap.size, 1, none⟩ = some (.slice a l c) := by go_simp
  have HG0 := hid hgc0
  have HG1 := hid hgc1
  have T5 := hid T5
  have F5 := hid F5
  have R5 := hid R5
  have HSV4 := hid sv4
  have HSV5 := hid sv5
  clear hr4 sv4 sv5 T4 F4 G4 T3 F3 G3 FN hgc0 hgc1
  go_wp2_with fail
  refine FN5.out.mono ?_
  clear FN5 hg1 hg2
  obtain ⟨w5, hw5⟩ : ∃ w5, w4.setCell ⟨w2.heap.size, 1, none⟩ (.slice a l c) = w5 := ⟨_, rfl⟩
  rw [hw5] at HG0 HG1 T5 F5 R5 HSV5 ⊢
  clear hw5
  rintro e6 w6 ⟨rfl, rfl⟩
  obtain ⟨t0, t1, t2, t3⟩ := T5.out
  obtain ⟨f0, f1, f2, f3⟩ := F5.out
  have y0 := HG0.out
  have y1 := HG1.out
  have z1 := R5.out.c1
  have z2 := R5.out.c2
  have z3 := R5.out.c3
  dsimp only at z1 z2 z3
  clear HG0 HG1 T5 F5 R5
  have n1 : w2.heap.size ≠ w.heap.size := by omega
  have n2 : w2.heap.size ≠ w.heap.size + 1 := by omega
  have n3 : w2.heap.size ≠ w.heap.size + 2 := by omega
  go_wp2
  go_region
  all_goals go_wp2
  all_goals refine bodyPost_ret (v := .tuple #[.agg #[.int .i64 m, .slice a l c], .int .i64 q, .agg #[.int .i64 0, .int .i64 0]]) (by simp [results, Tryd.results21, go_sem, t0, t1, f0, f1]) rfl ?_
  all_goals
    have hsz3 := HB3.out.size
    have hB4 : Below w.heap.size w w4 := HB3.out.trans (HSV4.out.below hsz3 (by omega))
    have hB5 : Below w.heap.size w w5 := hB4.trans (HSV5.out.below hB4.size (by omega))
    have hte := touch4 (S := fun j => j = w2.heap.size ∨ j = w.heap.size ∨ j = w.heap.size + 1) (a := w5) (T := w.heap.size) (F := w.heap.size + 1) (.inr (.inl rfl)) (.inr (.inr rfl)) 0 1 0 1 (.int .i64 m) (.slice a l c) (.int .i64 0) (.int .i64 0)
    have hBe := hB5.trans (hte.below hB5.size (fun j hj => by rcases hj with h | h | h <;> omega))
    refine ⟨a, l, c, t, rfl, hBe, (HF.out.touch (((Touch.of_save HSV5.out).mono (fun j h => .inl h)).trans hte) (fun q hq h => ?_)).mono hsz3, HT.out⟩
    have h1 := HF.out.low q hq
    rcases h with h | h | h <;> omega

set_option maxRecDepth 100000 in
set_option maxHeartbeats 3200000 in
theorem code_no (av : Option Addr) (len cap : Nat) (zs : List Int) (p : Int) (w : World) (hlen : zs.length = len) (hz : Bytes w av zs) (hN : Nams w) (h0 : (codeP zs p).s.2.1 ≠ 0) :
    Calls Tryd.prog 21 #[.slice av len cap, .int .i64 p] w (GotC w 0 0 (codeP zs p).s .nil) := by
  have hgs := startR_good zs p
  have hgd := locR_good hgs
  have hfin := (listF_fine zs 1 false 0 _ hgd).1
  have NR := hid (newReader_any av len cap zs p ((w.alloc (.cells #[.int .i64 0, .slice none 0 0] 24)).alloc (.cells #[.int .i64 0, .int .i64 0] 38)) hlen)
  have LO := hid (fun (w' : World) (h : RdIs w' (w.heap.size + 2) (.slice av len cap) (startR zs p)) (hb : Below w.heap.size w w') =>
    locals_any (w.heap.size + 2) av len cap zs (startR zs p) w' h hgs hlen (Bytes.below hz hb) (fun b off ha hne => by have := Bytes.lt hz b off ha hne; omega))
  have LS := hid (fun (w' : World) (h : RdIs w' (w.heap.size + 2) (.slice av len cap) (locR zs (startR zs p)).2) (hb : Below w.heap.size w w') =>
    list_any (w.heap.size + 2) av len cap zs (locR zs (startR zs p)).2 w' h hgd hlen (Bytes.below hz hb) (fun b off ha hne => by have := Bytes.lt hz b off ha hne; omega) (fun w'' hs => hN.below (hb.trans (hs.below hb.size (by omega)))))
  have hmt := mach_top zs (locR zs (startR zs p)).2 hgd
  unfold codeP at h0 ⊢
  obtain ⟨sl, hsl⟩ : ∃ s, (locR zs (startR zs p)).2 = s := ⟨_, rfl⟩
  obtain ⟨m, hm⟩ : ∃ m, (locR zs (startR zs p)).1 = m := ⟨_, rfl⟩
  rw [hsl] at LS LO hmt h0 hfin ⊢
  rw [hm] at LO
  obtain ⟨R, hR⟩ : ∃ R, listF zs 1 false 0 sl = R := ⟨_, rfl⟩
  rw [hR] at hmt h0 hfin ⊢
  rw [if_neg h0] at hmt
  rw [hmt] at LS
  obtain ⟨s, hsR⟩ : ∃ s, R.s = s := ⟨_, rfl⟩
  rw [hsR] at LS h0 ⊢
  obtain ⟨q, e, f⟩ := s
  simp only at h0 ⊢
  have FN := hid (fun (w' : World) (h : RdIs w' (w.heap.size + 2) (.slice av len cap) (q, e, f)) => faulty_yes (w.heap.size + 2) _ (q, e, f) w' h h0)
  clear h0
  clear hgd hgs hfin hmt hR hsl hm hz hN hlen
  go_enter Tryd.func21, Tryd.ntmps21
  go_wp2_with fail
  refine NR.out.mono ?_
  clear NR
  rintro e1 w1 ⟨rfl, hr1, hb1⟩
  have T0 := (Duo.made w (.int .i64 0) (.slice none 0 0) 24).below (alloc_b _ (.cells #[.int .i64 0, .int .i64 0] 38))
  have F0 := Duo.made (w.alloc (.cells #[.int .i64 0, .slice none 0 0] 24)) (.int .i64 0) (.int .i64 0) 38
  have hB1 : Below w.heap.size w w1 := (((Below.refl w.heap.size w).alloc (Nat.le_refl _) _).alloc (by simp) _).trans (hb1.mono (by simp; omega))
  have T1 := hid (T0.below hb1)
  have F1 := F0.below hb1
  simp only [World.size_alloc, Nat.add_assoc, Nat.reduceAdd] at hr1 F1 ⊢
  have hs1 : w.heap.size + 2 < w1.heap.size := World.block_lt_of_cell? w1 _ hr1.c0
  have F1 := hid F1
  have HB1 := hid hB1
  have HR1 := hid hr1
  clear hb1 hB1 hr1 T0 F0
  go_wp2_with fail
  refine (LO.out w1 HR1.out HB1.out).mono ?_
  clear LO
  rintro e2 w2 ⟨rfl, hr2, sv2⟩
  have HB2 := hid (HB1.out.trans (sv2.below HB1.out.size (by omega)))
  have T2 := T1.out.save sv2 (by omega)
  have F2 := F1.out.save sv2 (by omega)
  have hs2 : w.heap.size + 2 < w2.heap.size := Nat.lt_of_lt_of_le hs1 sv2.size
  obtain ⟨W3, hW3⟩ : ∃ W3, w2.alloc (.cells #[.int .i64 m, .slice none 0 0] 24) = W3 := ⟨_, rfl⟩
  have hb3 : Below w2.heap.size w2 W3 := by rw [← hW3]; exact alloc_b _ _
  have G3 := hid (show Duo w2.heap.size (.int .i64 m) (.slice none 0 0) W3 by rw [← hW3]; exact Duo.made _ _ _ _)
  have L3 := hid (LS.out W3 (hr2.below hb3) (HB2.out.trans (hb3.mono HB2.out.size)))
  have T3 := hid (T2.below hb3)
  have F3 := hid (F2.below hb3)
  have HB3 := hid (HB2.out.trans (hb3.mono HB2.out.size))
  have hs3 : w2.heap.size < W3.heap.size := by rw [← hW3]; simp
  rw [← hW3] at L3
  have HW3 := hid hW3
  clear hW3
  clear hb3 hr2 sv2 T2 F2 T1 F1 HB1 HR1 LS hs1 HB2
  go_wp2_with fail
  refine L3.out.mono ?_
  rw [HW3.out]
  clear L3 HW3
  rintro e4 w4 ⟨a, l, c, rfl, hr4, sv4, _⟩

  have G4 := G3.out.save sv4 (by omega)
  have T4 := T3.out.save sv4 (by omega)
  have F4 := F3.out.save sv4 (by omega)
  have hg1 := G4.c1
  have hg2 := G4.f1
  have sv5 : Save w2.heap.size w4 (w4.setCell ⟨w2.heap.size, 1, none⟩ (.slice a l c)) := (Save.refl w2.heap.size w4).setCell (p := ⟨w2.heap.size, 1, none⟩) (.inl rfl) _
  have FN5 := hid (FN.out (w4.setCell ⟨w2.heap.size, 1, none⟩ (.slice a l c)) (hr4.save sv5 (by omega)))
  have T5 := T4.save sv5 (by omega)
  have F5 := F4.save sv5 (by omega)
  have R5 := hr4.save sv5 (by omega)
  have hgc0 : (w4.setCell ⟨w2.heap.size, 1, none⟩ (.slice a l c)).cell? ⟨w2.heap.size, 0, none⟩ = some (.int .i64 m) := by have := G4.c0; go_simp
  have hgc1 : (w4.setCell ⟨w2.heap.size, 1, none⟩ (.slice a l c)).cell? ⟨w2.heap.size, 1, none⟩ = some (.slice a l c) := by go_simp
  have HG0 := hid hgc0
  have HG1 := hid hgc1
  have T5 := hid T5
  have F5 := hid F5
  have R5 := hid R5
  have HSV4 := hid sv4
  have HSV5 := hid sv5
  clear hr4 sv4 sv5 T4 F4 G4 T3 F3 G3 FN hgc0 hgc1
  go_wp2_with fail
  refine FN5.out.mono ?_
  clear FN5 hg1 hg2
  obtain ⟨w5, hw5⟩ : ∃ w5, w4.setCell ⟨w2.heap.size, 1, none⟩ (.slice a l c) = w5 := ⟨_, rfl⟩
  rw [hw5] at HG0 HG1 T5 F5 R5 HSV5 ⊢
  clear hw5
  rintro e6 w6 ⟨rfl, rfl⟩
  obtain ⟨t0, t1, t2, t3⟩ := T5.out
  obtain ⟨f0, f1, f2, f3⟩ := F5.out
  have y0 := HG0.out
  have y1 := HG1.out
  have z1 := R5.out.c1
  have z2 := R5.out.c2
  have z3 := R5.out.c3
  dsimp only at z1 z2 z3
  clear HG0 HG1 T5 F5 R5
  have n1 : w2.heap.size ≠ w.heap.size := by omega
  have n2 : w2.heap.size ≠ w.heap.size + 1 := by omega
  have n3 : w2.heap.size ≠ w.heap.size + 2 := by omega
  go_wp2
  go_region
  all_goals go_wp2
  all_goals refine bodyPost_ret (v := .tuple #[.agg #[.int .i64 0, .slice none 0 0], .int .i64 0, .agg #[.int .i64 e, .int .i64 f]]) (by simp [results, Tryd.results21, go_sem, t0, t1, f0, f1]) rfl ?_
  all_goals
    have hsz3 := HB3.out.size
    have hB4 : Below w.heap.size w w4 := HB3.out.trans (HSV4.out.below hsz3 (by omega))
    have hB5 : Below w.heap.size w w5 := hB4.trans (HSV5.out.below hB4.size (by omega))
    have hte := touch4 (S := fun j => j = w2.heap.size ∨ j = w.heap.size ∨ j = w.heap.size + 1) (a := w5) (T := w.heap.size) (F := w.heap.size + 1) (.inr (.inl rfl)) (.inr (.inr rfl)) 0 1 0 1 (.int .i64 0) (.slice none 0 0) (.int .i64 e) (.int .i64 f)
    have hBe := hB5.trans (hte.below hB5.size (fun j hj => by rcases hj with h | h | h <;> omega))
    exact ⟨none, 0, 0, .nil, rfl, hBe, Fresh.nil _ _, rfl⟩

/-- GetCode, in one piece: the locals, the place behind, the fault, the list. -/
def codeQ (zs : List Int) (p : Int) : Int × Int × Rd × Il := if (codeP zs p).s.2.1 = 0 then ((locR zs (startR zs p)).1, (codeP zs p).s.1, ((codeP zs p).s.1, 0, 0), (codeP zs p).t) else (0, 0, (codeP zs p).s, .nil)
theorem GetCode_any (av : Option Addr) (len cap : Nat) (zs : List Int) (p : Int) (w : World) (hlen : zs.length = len) (hz : Bytes w av zs) (hN : Nams w) :
    Calls Tryd.prog 21 #[.slice av len cap, .int .i64 p] w (GotC w (codeQ zs p).1 (codeQ zs p).2.1 (codeQ zs p).2.2.1 (codeQ zs p).2.2.2) := by
  unfold codeQ
  by_cases h0 : (codeP zs p).s.2.1 = 0
  · rw [if_pos h0]; exact code_ok av len cap zs p w hlen hz hN h0
  · rw [if_neg h0]; exact code_no av len cap zs p w hlen hz hN h0
end Go.Proofs.YtcjamlgdidiaeaaDoor.Body
