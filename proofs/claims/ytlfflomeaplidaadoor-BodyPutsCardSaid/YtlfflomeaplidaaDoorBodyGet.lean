/-
  BODY: Get, by contract.
-/
import Derived.Test.YtlfflomeaplidaaDoorBodyList
namespace Go.Proofs.YtlfflomeaplidaaDoor.Body
open Go.RowKit Go.Proofs.YtlfflomeaplidaaDoor.Instr
open Go.Proofs.YtlfflomeaplidaaDoor.Kind (Rd numR refuseR startR numR_good numR_bounds refuseR_good getL_next startR_good)

/-- What Get tells. -/
def getP (zs : List Int) (p : Int) : Lr := listF zs 1 false 0 (startR zs p)
/-- Instructions in memory of their own. -/
structure Fresh (B : Nat) (w : World) (a : Option Addr) (n : Nat) (t : Il) : Prop where
  lst : ListAt w.heap.size w a n t
  nodup : (blkOf n a ++ t.foot).Nodup
  low : ∀ q ∈ blkOf n a ++ t.foot, B ≤ q
  soft : ∀ q ∈ blkOf n a ++ t.foot, Soft w q
theorem Fresh.nil (B : Nat) (w : World) : Fresh B w none 0 .nil := ⟨⟨rfl, .inl rfl⟩, by simp [blkOf, Il.foot], fun q hq => by simp [blkOf, Il.foot] at hq, fun q hq => by simp [blkOf, Il.foot] at hq⟩
theorem Fresh.touch {B : Nat} {S : Nat → Prop} {w w' : World} {a : Option Addr} {n : Nat} {t : Il} (h : Fresh B w a n t) (ht : Touch S w w') (hs : ∀ q ∈ blkOf n a ++ t.foot, ¬ S q) : Fresh B w' a n t := ⟨ListAt.more ht.size (h.lst.touch ht hs), h.nodup, h.low, fun q hq => (h.soft q hq).touch ht (hs q hq)⟩
theorem Fresh.mono {B B' : Nat} {w : World} {a : Option Addr} {n : Nat} {t : Il} (h : Fresh B w a n t) (hb : B' ≤ B) : Fresh B' w a n t := ⟨h.lst, h.nodup, fun q hq => Nat.le_trans hb (h.low q hq), h.soft⟩
theorem Fresh.below {B : Nat} {w w' : World} {a : Option Addr} {n : Nat} {t : Il} (h : Fresh B w a n t) (hb : Below w.heap.size w w') : Fresh B w' a n t := h.touch (S := fun _ => False) (.of_below hb) (fun _ _ h => h)
def GotI (w : World) (q : Int) (s : Rd) (T : Il) (e : Ending) (w' : World) : Prop :=
  ∃ a n c t, e = .returned (.tuple #[.slice a n c, .int .i64 q, .agg #[.int .i64 s.2.1, .int .i64 s.2.2]]) ∧ Below w.heap.size w w' ∧ Fresh w.heap.size w' a n t ∧ t.bare = T

theorem get_touch (w : World) (g : Nat) (u v : Value) : Touch (fun j => j = g) w (((w.setCell ⟨g, 0, none⟩ u).setCell ⟨g, 1, none⟩ v).drew) := by
  have step : ∀ (a b : World) (q : Addr) (v : Value), q.block = g → Touch (fun j => j = g) a b → Touch (fun j => j = g) a (b.setCell q v) := fun a b q v hq h => h.setCell (.inl hq) v
  exact (step _ _ _ _ rfl (step _ _ _ _ rfl (Touch.refl _ w))).trans (Touch.of_below (Below.refl _ _).drew)
theorem get_end {w w2 : World} (h : Below w.heap.size w w2) (u v : Value) : Below w.heap.size w (((w2.setCell ⟨w.heap.size, 0, none⟩ u).setCell ⟨w.heap.size, 1, none⟩ v).drew) :=
  h.trans ((get_touch w2 w.heap.size u v).below h.size (fun j hj => by have : j = w.heap.size := hj; omega))

set_option maxRecDepth 100000 in
set_option maxHeartbeats 3200000 in
theorem get_ok (av : Option Addr) (len cap : Nat) (zs : List Int) (p : Int) (w : World) (hlen : zs.length = len) (hz : Bytes w av zs) (hN : Nams w) (h0 : (getP zs p).s.2.1 = 0) :
    Calls Tryd.prog 29 #[.slice av len cap, .int .i64 p] w (GotI w (getP zs p).s.1 ((getP zs p).s.1, 0, 0) (getP zs p).t) := by
  have hgd := startR_good zs p
  have hfin := (listF_fine zs 1 false 0 _ hgd).1
  have hs3 := (hfin h0).2.2
  have NR := hid (newReader_any av len cap zs p (w.alloc (.cells #[.int .i64 0, .int .i64 0] 69)) hlen)
  have LS := hid (fun (w' : World) (h : RdIs w' (w.heap.size + 1) (.slice av len cap) (startR zs p)) (hb : Below w.heap.size w w') =>
    list_any (w.heap.size + 1) av len cap zs (startR zs p) w' h hgd hlen (Bytes.below hz hb) (fun b off ha hne => by have := Bytes.lt hz b off ha hne; omega) (fun w'' hs => hN.below (hb.trans (hs.below hb.size (by omega)))))
  have hmt := mach_top zs (startR zs p) hgd
  obtain ⟨R, hR⟩ : ∃ R, listF zs 1 false 0 (startR zs p) = R := ⟨_, rfl⟩
  rw [hR] at hmt hs3
  have hgp : getP zs p = R := hR
  rw [hgp] at h0 ⊢
  rw [if_pos h0] at hmt
  rw [hmt] at LS
  obtain ⟨T, sR⟩ : ∃ T s, R.t = T ∧ R.s = s := ⟨_, _, rfl, rfl⟩
  obtain ⟨s, hT, hsR⟩ := sR
  rw [hT, hsR] at LS ⊢
  rw [hsR] at h0 hs3
  obtain ⟨q, e, f⟩ := s
  simp only at h0 hs3 ⊢
  subst h0 hs3
  have FN := hid (fun (w' : World) (h : RdIs w' (w.heap.size + 1) (.slice av len cap) (q, 0, 0)) => faulty_no (w.heap.size + 1) _ (q, 0, 0) w' h rfl)
  clear hgd hfin hmt hR hgp hT hsR hz hN hlen
  go_enter Tryd.func29, Tryd.ntmps29
  go_wp2_with fail
  refine NR.out.mono ?_
  clear NR
  rintro e1 w1 ⟨rfl, hr1, hb1⟩
  obtain ⟨x0, x1, x2, x3, x4⟩ := two (w := w) hb1
  have hB1 : Below w.heap.size w w1 := ((Below.refl w.heap.size w).alloc (Nat.le_refl _) _).trans (hb1.mono (by simp))
  simp only [World.size_alloc] at hr1 ⊢
  have HB1 := hid hB1
  have HR1 := hid hr1
  clear hb1 hB1 hr1
  go_wp2_with fail
  refine (LS.out w1 HR1.out HB1.out).mono ?_
  clear LS
  rintro e2 w2 ⟨a, n, c, rfl, hr2, sv2, hT2⟩
  obtain ⟨t, ht1, ht2, ht3, ht4, ht5⟩ := hT2 rfl
  have HF := hid (Fresh.mk ht2 ht3 ht4 ht5)
  have HT := hid ht1
  have HR2 := hid hr2
  have HSV := hid sv2
  have hne : w.heap.size ≠ w.heap.size + 1 := by omega
  have y0 : w2.cell? ⟨w.heap.size, 0, none⟩ = some (.int .i64 0) := sv2.cell (p := ⟨w.heap.size, 0, none⟩) hne x0
  have y1 : w2.cell? ⟨w.heap.size, 1, none⟩ = some (.int .i64 0) := sv2.cell (p := ⟨w.heap.size, 1, none⟩) hne x1
  have y2 : w2.frozen? ⟨w.heap.size, 0, none⟩ = false := sv2.frozen (p := ⟨w.heap.size, 0, none⟩) x4 hne x2
  have y3 : w2.frozen? ⟨w.heap.size, 1, none⟩ = false := sv2.frozen (p := ⟨w.heap.size, 1, none⟩) x4 hne x3
  have z1 := hr2.c1
  clear ht1 ht2 ht3 ht4 ht5 hT2 hr2 sv2 x0 x1 x2 x3
  go_wp2_with fail
  refine (FN.out w2 HR2.out).mono ?_
  clear FN
  rintro e3 w3 ⟨rfl, rfl⟩
  go_wp2
  go_region
  all_goals go_wp2
  all_goals refine bodyPost_ret (v := .tuple #[.slice a n c, .int .i64 q, .agg #[.int .i64 0, .int .i64 0]]) (by simp [results, Tryd.results29, go_sem, y0, y1]) rfl ?_
  all_goals
    have hB2 : Below w.heap.size w w2 := HB1.out.trans (HSV.out.below HB1.out.size (by omega))
    refine ⟨a, n, c, t, rfl, get_end hB2 _ _, (HF.out.touch (S := fun j => j = w.heap.size) (get_touch w2 w.heap.size _ _) (fun q hq h => ?_)).mono HB1.out.size, HT.out⟩
    have h1 := HF.out.low q hq
    have h2 : q = w.heap.size := h
    omega

set_option maxRecDepth 100000 in
set_option maxHeartbeats 3200000 in
theorem get_no (av : Option Addr) (len cap : Nat) (zs : List Int) (p : Int) (w : World) (hlen : zs.length = len) (hz : Bytes w av zs) (hN : Nams w) (h0 : (getP zs p).s.2.1 ≠ 0) :
    Calls Tryd.prog 29 #[.slice av len cap, .int .i64 p] w (GotI w 0 (getP zs p).s .nil) := by
  have hgd := startR_good zs p
  have NR := hid (newReader_any av len cap zs p (w.alloc (.cells #[.int .i64 0, .int .i64 0] 69)) hlen)
  have LS := hid (fun (w' : World) (h : RdIs w' (w.heap.size + 1) (.slice av len cap) (startR zs p)) (hb : Below w.heap.size w w') =>
    list_any (w.heap.size + 1) av len cap zs (startR zs p) w' h hgd hlen (Bytes.below hz hb) (fun b off ha hne => by have := Bytes.lt hz b off ha hne; omega) (fun w'' hs => hN.below (hb.trans (hs.below hb.size (by omega)))))
  have hmt := mach_top zs (startR zs p) hgd
  obtain ⟨R, hR⟩ : ∃ R, listF zs 1 false 0 (startR zs p) = R := ⟨_, rfl⟩
  rw [hR] at hmt
  have hgp : getP zs p = R := hR
  rw [hgp] at h0 ⊢
  rw [if_neg h0] at hmt
  rw [hmt] at LS
  obtain ⟨s, hsR⟩ : ∃ s, R.s = s := ⟨_, rfl⟩
  rw [hsR] at LS h0 ⊢
  obtain ⟨q, e, f⟩ := s
  simp only at h0 ⊢
  have FN := hid (fun (w' : World) (h : RdIs w' (w.heap.size + 1) (.slice av len cap) (q, e, f)) => faulty_yes (w.heap.size + 1) _ (q, e, f) w' h h0)
  clear hgd hmt hR hgp hsR hz hN hlen h0
  go_enter Tryd.func29, Tryd.ntmps29
  go_wp2_with fail
  refine NR.out.mono ?_
  clear NR
  rintro e1 w1 ⟨rfl, hr1, hb1⟩
  obtain ⟨x0, x1, x2, x3, x4⟩ := two (w := w) hb1
  have hB1 : Below w.heap.size w w1 := ((Below.refl w.heap.size w).alloc (Nat.le_refl _) _).trans (hb1.mono (by simp))
  simp only [World.size_alloc] at hr1 ⊢
  have HB1 := hid hB1
  have HR1 := hid hr1
  clear hb1 hB1 hr1
  go_wp2_with fail
  refine (LS.out w1 HR1.out HB1.out).mono ?_
  clear LS
  rintro e2 w2 ⟨a, n, c, rfl, hr2, sv2, _⟩
  have HR2 := hid hr2
  have HSV := hid sv2
  have hne : w.heap.size ≠ w.heap.size + 1 := by omega
  have y0 : w2.cell? ⟨w.heap.size, 0, none⟩ = some (.int .i64 0) := sv2.cell (p := ⟨w.heap.size, 0, none⟩) hne x0
  have y1 : w2.cell? ⟨w.heap.size, 1, none⟩ = some (.int .i64 0) := sv2.cell (p := ⟨w.heap.size, 1, none⟩) hne x1
  have y2 : w2.frozen? ⟨w.heap.size, 0, none⟩ = false := sv2.frozen (p := ⟨w.heap.size, 0, none⟩) x4 hne x2
  have y3 : w2.frozen? ⟨w.heap.size, 1, none⟩ = false := sv2.frozen (p := ⟨w.heap.size, 1, none⟩) x4 hne x3
  have z2 := hr2.c2
  have z3 := hr2.c3
  simp only at z2 z3
  clear hr2 sv2 x0 x1 x2 x3
  go_wp2_with fail
  refine (FN.out w2 HR2.out).mono ?_
  clear FN
  rintro e3 w3 ⟨rfl, rfl⟩
  go_wp2
  go_region
  all_goals go_wp2
  all_goals refine bodyPost_ret (v := .tuple #[.slice none 0 0, .int .i64 0, .agg #[.int .i64 e, .int .i64 f]]) (by simp [results, Tryd.results29, go_sem, y0, y1]) rfl ?_
  all_goals
    have hB2 : Below w.heap.size w w2 := HB1.out.trans (HSV.out.below HB1.out.size (by omega))
    exact ⟨none, 0, 0, .nil, rfl, get_end hB2 _ _, Fresh.nil _ _, rfl⟩
/-- Get, in one piece. -/
def getQ (zs : List Int) (p : Int) : Int × Rd × Il := if (getP zs p).s.2.1 = 0 then ((getP zs p).s.1, ((getP zs p).s.1, 0, 0), (getP zs p).t) else (0, (getP zs p).s, .nil)
theorem Get_any (av : Option Addr) (len cap : Nat) (zs : List Int) (p : Int) (w : World) (hlen : zs.length = len) (hz : Bytes w av zs) (hN : Nams w) :
    Calls Tryd.prog 29 #[.slice av len cap, .int .i64 p] w (GotI w (getQ zs p).1 (getQ zs p).2.1 (getQ zs p).2.2) := by
  unfold getQ
  by_cases h0 : (getP zs p).s.2.1 = 0
  · rw [if_pos h0]; exact get_ok av len cap zs p w hlen hz hN h0
  · rw [if_neg h0]; exact get_no av len cap zs p w hlen hz hN h0
end Go.Proofs.YtlfflomeaplidaaDoor.Body
