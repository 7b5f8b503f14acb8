import Derived.Test.YtckdnhafookcgaaGreatDoorPa05
import Derived.Test.YtckdnhafookcgaaGreatDoorPa04
import Derived.Test.YtckdnhafookcgaaGreatDoorPa01
import Derived.Test.YtckdnhafookcgaaGreatDoorPa02
import Derived.Deep.RegionHeld3
import Derived.Deep.Cut
import Derived.Shelf.Abstract
import Derived.Shelf.RegionOpen
import Derived.OwnWalkIn
import Derived.TacticsInMore
import Derived.LoopNIn
import Derived.LoopIn
import Derived.Laws.CopyOwn
import Derived.Laws.OwnMore
namespace Go.Proofs.YtckdnhafookcgaaGreatDoor.Instr
end Go.Proofs.YtckdnhafookcgaaGreatDoor.Instr
namespace Go.Proofs.YtckdnhafookcgaaGreatDoor.Mod
end Go.Proofs.YtckdnhafookcgaaGreatDoor.Mod
namespace Go.Proofs.YtckdnhafookcgaaGreatDoor.Stk
end Go.Proofs.YtckdnhafookcgaaGreatDoor.Stk
namespace Go.Proofs.YtckdnhafookcgaaGreatDoor.Stk
open Go.RowKit
set_option linter.unusedVariables false

/-- What stays over a region that calls what leaves all that was there. -/
theorem leave_keep {w w2 W : World} {x y : Value} {g o : Nat} {t0 t1 t2 t3 : Value} (hx : Bx w2 w.heap.size x y) (c0 : w2.cell? ⟨g, o, none⟩ = some t0) (c1 : w2.cell? ⟨g, o + 1, none⟩ = some t1) (c2 : w2.cell? ⟨g, o + 2, none⟩ = some t2) (c3 : w2.cell? ⟨g, o + 3, none⟩ = some t3) (h : Below w2.heap.size w2 W) :
    Below w2.heap.size w2 W ∧ W.cell? ⟨w.heap.size, 0, none⟩ = some x ∧ W.cell? ⟨g, o, none⟩ = some t0 ∧ W.cell? ⟨g, o + 1, none⟩ = some t1 ∧ W.cell? ⟨g, o + 2, none⟩ = some t2 ∧ W.cell? ⟨g, o + 3, none⟩ = some t3 :=
  ⟨h, (hx.below h).c0, keep h c0, keep h c1, keep h c2, keep h c3⟩
set_option maxRecDepth 100000 in
set_option maxHeartbeats 4000000 in
theorem leave_any (h : Int) (a : Option Addr) (n c : Nat) (l : List Fr) (w : World) (hs : StAt w.heap.size w a n c l) :
    Calls Tryz.prog 227 #[.agg #[.int .i64 h, .slice a n c]] w fun e w' => MadeP w (leaveR h l) e w' := by
  obtain ⟨W0, hW0, hb, hx, hy, hsz⟩ := two_boxes w (.int .i64 h) (.slice a n c)
  have hsW := hs.on hb
  have c0 := hx.c0
  have c1 := hx.c1
  have HB := hid hb
  have HX := hid hx
  have HY := hid hy
  have HW := hid hW0
  have HS := hid hsz
  have HRE : Hid (leaveR h l = leaveR h l) := rfl
  obtain ⟨r, hr⟩ : ∃ r, r = leaveR h l := ⟨_, rfl⟩
  rw [← hr]
  clear HRE
  clear hb hx hy hW0 hsz
  cases hv : valid h l with
  | false =>
    have HE : Hid (r = bad 2) := hid (by rw [hr]; simp [leaveR, hv])
    have CC := hid (copied_no h a n c l W0 hsW hv)
    clear hs hsW hv hr
    go_enter Tryz.func227, Tryz.ntmps227
    go_upto_region 1 with fail
    rw [← HW.out]
    go_wp2_with fail
    refine CC.out.mono ?_
    rintro e w1 ⟨rfl, hb1⟩
    have hx1 := HX.out.below hb1
    have hy1 := HY.out.below hb1
    have f0 := hx1.f 0
    have f1 := hx1.f 1
    have k0 := hx1.c0
    have k1 := hx1.c1
    have HX1 := hid hx1
    have HY1 := hid hy1
    have HB1 := hid (HB.out.trans (hb1.mono HB.out.size))
    clear hx1 hy1 hb1 c0 c1 CC
    go_upto_region 2 with fail
    obtain ⟨w2, hw2⟩ : ∃ w2, w2 = (w1.setCell ⟨w.heap.size, 0, none⟩ (.int .i64 0)).setCell ⟨w.heap.size, 1, none⟩ (.slice none 0 0) := ⟨_, rfl⟩
    rw [← hw2]
    have hy2 : Bx w2 (w.heap.size + 1) (.int .i64 0) (.slice none 0 0) := by rw [hw2]; exact (HY1.out.far (by simp) _).far (by simp) _
    have HB2 : Hid (Below w.heap.size w w2) := hid (by rw [hw2]; exact (HB1.out.setCell (by simp) _).setCell (by simp) _)
    have HY2 := hid hy2
    have f0 := hy2.f 0
    have f1 := hy2.f 1
    have k0 := hy2.c0
    have k1 := hy2.c1
    clear hy2 hw2 HX1 HY1 HB1
    go_wp2
    exact bodyPost_ret (results_cs Tryz.results227 _ _ (w.heap.size + 1) rfl (box2 HY2.out _ _)) rfl (made_bad (h := 0) (z := 0) (v := .bool true) ((HB2.out.setCell (by simp) _).setCell (by simp) _) HE.out)
  | true =>
    have CC := hid (copied_yes h a n c l W0 hsW hv)
    have HV := hid hv
    have HR := hid hr
    have HLN := hid hs.len
    clear hs hsW hv hr
    obtain ⟨hh0, hh1, hne, hle⟩ := valid_yes HV.out
    obtain ⟨m, rfl⟩ : ∃ m, n = m + 1 := ⟨n - 1, by have := HLN.out; have := List.length_pos_iff.2 hne; omega⟩
    have hm : m ≤ 1000 := by have := HLN.out; omega
    have hfi := lastF_fine HV.out
    have HT := hid (fun (W : World) (g c' : Nat) (ho : OwnF (w.heap.size + 2) W (.slice (some ⟨g, 0, none⟩) (m + 1) c') l) => own_last ho HLN.out hm)
    obtain ⟨f, hf⟩ : ∃ f, lastF l = f := ⟨_, rfl⟩
    rw [hf] at HT hfi
    obtain ⟨op, ba, re, de⟩ := f
    dsimp only [fine] at HT hfi
    obtain ⟨hb0, hb1', hr0, hr1⟩ := hfi
    rw [Nat.add_sub_cancel] at CC
    have CW := hid (fun W => without_any h re ⟨op, ba, re, de⟩ W hh0 hh1 hb0 hb1' hr0 (by omega))
    have HR1 : Hid (r = if (without h re ⟨op, ba, re, de⟩).2 ≠ 0 then bad (without h re ⟨op, ba, re, de⟩).2 else if ba < (without h re ⟨op, ba, re, de⟩).1 then bad 201 else ⟨(without h re ⟨op, ba, re, de⟩).1 + re, l.take m, 0⟩) := hid (by rw [HR.out]; simp [leaveR, HV.out, hf, HLN.out])
    have hx0 : 0 ≤ (without h re ⟨op, ba, re, de⟩).1 ∧ (without h re ⟨op, ba, re, de⟩).1 ≤ 1073741824 := by
      simp only [without]
      repeat' split
      all_goals simp only
      all_goals omega
    obtain ⟨x, y, hxy⟩ : ∃ x y, without h re ⟨op, ba, re, de⟩ = (x, y) := ⟨_, _, rfl⟩
    rw [hxy] at CW HR1 hx0
    dsimp only at CW HR1 hx0
    have HX0 := hid hx0
    have kx : IntKind.i64.wrap (x + re) = x + re := s64_in (by omega) (by omega)
    have HRE := hid (And.intro hr0 hr1)
    clear hxy hf HR hh0 hh1 hb0 hb1' hr0 hr1 hne hle HV hx0
    go_enter Tryz.func227, Tryz.ntmps227
    go_upto_region 1 with fail
    rw [← HW.out]
    go_wp2_with fail
    refine CC.out.mono ?_
    rintro e w1 ⟨g, c', rfl, ho, hb1⟩
    have HM0 := hid (Mid.of (h := h) HB.out HX.out HY.out HS.out ho hb1)
    have hx1 := HX.out.below hb1
    have f0 := hx1.f 0
    have f1 := hx1.f 1
    have k0 := hx1.c0
    have k1 := hx1.c1
    clear hx1 hb1 ho c0 c1 CC
    go_upto_region 2 with fail
    obtain ⟨w2, hw2⟩ : ∃ w2, w2 = (w1.setCell ⟨w.heap.size, 0, none⟩ (.int .i64 h)).setCell ⟨w.heap.size, 1, none⟩ (.slice (some ⟨g, 0, none⟩) (m + 1) c') := ⟨_, rfl⟩
    rw [← hw2] at HM0 ⊢
    clear hw2 f0 f1 k0 k1 HB HX HY HS HW
    have hp := HM0.out.par
    have hy := HM0.out.res
    have p0 := hp.c0
    have p1 := hp.c1
    have pf0 := hp.f 0
    have pf1 := hp.f 1
    have r0 := hy.c0
    have r1 := hy.c1
    have rf0 := hy.f 0
    have rf1 := hy.f 1
    clear hp hy
    obtain ⟨t0, t1, t2, t3⟩ := HT.out _ _ _ HM0.out.own
    have hS := leave_keep HM0.out.par t0 t1 t2 t3 (Below.refl _ _)
    have HKP := hid (fun (W : World) (h : Below w2.heap.size w2 W) => leave_keep HM0.out.par t0 t1 t2 t3 h)
    have HGB := hid (own_block HM0.out.own)
    clear HT
    go_wp2
    go_region_held3 (fun w' => Below w2.heap.size w2 w' ∧ w'.cell? ⟨w.heap.size, 0, none⟩ = some (.int .i64 h) ∧ w'.cell? ⟨g, m * 4, none⟩ = some (.int .i64 op) ∧ w'.cell? ⟨g, m * 4 + 1, none⟩ = some (.int .i64 ba) ∧ w'.cell? ⟨g, m * 4 + 2, none⟩ = some (.int .i64 re) ∧ w'.cell? ⟨g, m * 4 + 3, none⟩ = some (.bool de))
      (first
        | (with_reducible assumption)
        | (with_reducible exact HKP.out _ hb3)
        | (with_reducible exact HKP.out _ ((Below.refl _ _).drew)))
      (first
        | (go_at_call 252; refine (CW.out _).mono ?_; rintro e w3 ⟨rfl, hb3'⟩; have hb3 : Below w2.heap.size w2 w3 := (by first | exact hb3' | exact undrew hb3')))
    have hpp := HM0.out.par.below hb3
    have hyy := HM0.out.res.below hb3
    have HO3 := hid (HM0.out.own.below hb3)
    have HB3 := hid (HM0.out.below.trans (hb3.mono HM0.out.below.size))
    have HPP := hid hpp
    have HYY := hid hyy
    have t0 := keep hb3 t0
    have t1 := keep hb3 t1
    have t2 := keep hb3 t2
    have t3 := keep hb3 t3
    have p0 := hpp.c0
    have p1 := hpp.c1
    have pf0 := hpp.f 0
    have pf1 := hpp.f 1
    have r0 := hyy.c0
    have r1 := hyy.c1
    have rf0 := hyy.f 0
    have rf1 := hyy.f 1
    clear hpp hyy hb3 hb3' HM0 HKP hS CW
    by_cases g1 : y = 0
    rotate_left
    · have HE : Hid (r = bad y) := hid (by rw [HR1.out, if_pos g1])
      have g1b : (y != 0) = true := by simp [g1]
      clear HR1
      go_wp2
      exact bodyPost_ret (results_cs Tryz.results227 _ _ (w.heap.size + 1) rfl (box2 HYY.out _ _)) rfl (made_bad (h := 0) (z := 0) (v := .bool true) ((HB3.out.setCell (by simp) _).setCell (by simp) _) HE.out)
    subst g1
    by_cases g2 : ba < x
    · have HE : Hid (r = bad 201) := hid (by rw [HR1.out, if_neg (by simp), if_pos g2])
      clear HR1
      go_wp2
      exact bodyPost_ret (results_cs Tryz.results227 _ _ (w.heap.size + 1) rfl (box2 HYY.out _ _)) rfl (made_bad (h := 0) (z := 0) (v := .bool true) ((HB3.out.setCell (by simp) _).setCell (by simp) _) HE.out)
    have HE : Hid (r = ⟨x + re, l.take m, 0⟩) := hid (by rw [HR1.out, if_neg (by simp), if_neg g2])
    clear HR1
    go_upto_region 10 with fail
    obtain ⟨w4, hw4⟩ : ∃ w4, w4 = w3.setCell ⟨w.heap.size, 0, none⟩ (.int .i64 (x + re)) := ⟨_, rfl⟩
    rw [← hw4]
    have hp4 : Bx w4 w.heap.size (.int .i64 (x + re)) (.slice (some ⟨g, 0, none⟩) (m + 1) c') := by rw [hw4]; exact HPP.out.set0 _
    have hy4 : Bx w4 (w.heap.size + 1) (.int .i64 0) (.slice none 0 0) := by rw [hw4]; exact HYY.out.far (by simp) _
    have HO4 : Hid (OwnF (w.heap.size + 2) w4 (.slice (some ⟨g, 0, none⟩) (m + 1) c') l) := hid (by rw [hw4]; exact HO3.out.set (by simp) _)
    have HB4 : Hid (Below w.heap.size w w4) := hid (by rw [hw4]; exact HB3.out.setCell (by simp) _)
    have hcp : m ≤ c' := by have := HO4.out.cap HLN.out; omega
    have hcp1 : (m : Int) ≤ (c' : Int) := by omega
    have p0 := hp4.c0
    have p1 := hp4.c1
    have pf0 := hp4.f 0
    have pf1 := hp4.f 1
    have HP4 := hid hp4
    have HY4 := hid hy4
    have km : IntKind.i64.wrap (m : Int) = m := s64_in (by omega) (by omega)
    clear hw4 hp4 hy4 HO3 HB3 HPP HYY t0 t1 t2 t3 r0 r1 rf0 rf1
    go_upto_region 11 with fail
    obtain ⟨w5, hw5⟩ : ∃ w5, w5 = w4.setCell ⟨w.heap.size, 1, none⟩ (.slice (some ⟨g, 0, none⟩) m c') := ⟨_, rfl⟩
    rw [← hw5]
    have hp5 : Bx w5 w.heap.size (.int .i64 (x + re)) (.slice (some ⟨g, 0, none⟩) m c') := by rw [hw5]; exact HP4.out.set1 _
    have hy5 : Bx w5 (w.heap.size + 1) (.int .i64 0) (.slice none 0 0) := by rw [hw5]; exact HY4.out.far (by simp) _
    have HO5 : Hid (OwnF (w.heap.size + 2) w5 (.slice (some ⟨g, 0, none⟩) m c') (l.take m)) := hid (by rw [hw5]; exact (HO4.out.take HLN.out).set (by simp) _)
    have HB5 : Hid (Below w.heap.size w w5) := hid (by rw [hw5]; exact HB4.out.setCell (by simp) _)
    have p0 := hp5.c0
    have p1 := hp5.c1
    have r0 := hy5.c0
    have r1 := hy5.c1
    have rf0 := hy5.f 0
    have rf1 := hy5.f 1
    have HY5 := hid hy5
    clear hw5 hp5 hy5 HO4 HB4 HP4 HY4
    go_wp2
    exact bodyPost_ret (results_cs Tryz.results227 _ _ (w.heap.size + 1) rfl (box2 HY5.out _ _)) rfl (made_ok HE.out ((HO5.out.set (by simp) _).set (by simp) _) ((HB5.out.setCell (by simp) _).setCell (by simp) _))
end Go.Proofs.YtckdnhafookcgaaGreatDoor.Stk

namespace Go.Proofs.YtckdnhafookcgaaGreatDoor.Val
open Go.RowKit Go.Proofs.YtckdnhafookcgaaGreatDoor.Instr Go.Proofs.YtckdnhafookcgaaGreatDoor.Mod
open Go.Proofs.YtckdnhafookcgaaGreatDoor.Stk (Fr R pushR popR deadR enterR leaveR labelR newR StAt MadeP OwnF valid lastF)
set_option linter.unusedVariables false

/-- A checker's cells; the first eleven are the module's. -/
def ckA (v : Array Value) (lo re h : Int) (sl : Value) (cnt at_ er : Int) : Array Value :=
  #[v.getD 0 undef, v.getD 1 undef, v.getD 2 undef, v.getD 3 undef, v.getD 4 undef, v.getD 5 undef, v.getD 6 undef, v.getD 7 undef, v.getD 8 undef, v.getD 9 undef, v.getD 10 undef, .int .i64 lo, .int .i64 re, .int .i64 h, sl, .int .i64 cnt, .int .i64 at_, .int .i64 er]
def Bk (W : World) (g : Nat) (v : Array Value) (lo re h : Int) (sl : Value) (cnt at_ er : Int) : Prop := W.heap[g]? = some (.cells (ckA v lo re h sl cnt at_ er) 216 (0, 0))
section
variable {W W' : World} {g : Nat} {v : Array Value} {lo re h cnt at_ er : Int} {sl : Value}
theorem Bk.lt (b : Bk W g v lo re h sl cnt at_ er) : g < W.heap.size := (Array.getElem?_eq_some_iff.1 b).1
theorem Bk.cell (b : Bk W g v lo re h sl cnt at_ er) (j : Nat) : W.cell? ⟨g, j, none⟩ = (ckA v lo re h sl cnt at_ er)[j]? := cell_of_row W g j _ _ _ b
theorem Bk.c11 (b : Bk W g v lo re h sl cnt at_ er) : W.cell? ⟨g, 11, none⟩ = some (.int .i64 lo) := b.cell 11
theorem Bk.c12 (b : Bk W g v lo re h sl cnt at_ er) : W.cell? ⟨g, 12, none⟩ = some (.int .i64 re) := b.cell 12
theorem Bk.c13 (b : Bk W g v lo re h sl cnt at_ er) : W.cell? ⟨g, 13, none⟩ = some (.int .i64 h) := b.cell 13
theorem Bk.c14 (b : Bk W g v lo re h sl cnt at_ er) : W.cell? ⟨g, 14, none⟩ = some sl := b.cell 14
theorem Bk.c15 (b : Bk W g v lo re h sl cnt at_ er) : W.cell? ⟨g, 15, none⟩ = some (.int .i64 cnt) := b.cell 15
theorem Bk.c16 (b : Bk W g v lo re h sl cnt at_ er) : W.cell? ⟨g, 16, none⟩ = some (.int .i64 at_) := b.cell 16
theorem Bk.c17 (b : Bk W g v lo re h sl cnt at_ er) : W.cell? ⟨g, 17, none⟩ = some (.int .i64 er) := b.cell 17
theorem Bk.f (b : Bk W g v lo re h sl cnt at_ er) (j : Nat) : W.frozen? ⟨g, j, none⟩ = false := frozen_of_row W g j _ _ b
theorem Bk.set13 (b : Bk W g v lo re h sl cnt at_ er) (x : Int) : Bk (W.setCell ⟨g, 13, none⟩ (.int .i64 x)) g v lo re x sl cnt at_ er := heap_setCell_same W g 13 _ _ _ b
theorem Bk.set14 (b : Bk W g v lo re h sl cnt at_ er) (x : Value) : Bk (W.setCell ⟨g, 14, none⟩ x) g v lo re h x cnt at_ er := heap_setCell_same W g 14 _ _ _ b
theorem Bk.set15 (b : Bk W g v lo re h sl cnt at_ er) (x : Int) : Bk (W.setCell ⟨g, 15, none⟩ (.int .i64 x)) g v lo re h sl x at_ er := heap_setCell_same W g 15 _ _ _ b
theorem Bk.set16 (b : Bk W g v lo re h sl cnt at_ er) (x : Int) : Bk (W.setCell ⟨g, 16, none⟩ (.int .i64 x)) g v lo re h sl cnt x er := heap_setCell_same W g 16 _ _ _ b
theorem Bk.set17 (b : Bk W g v lo re h sl cnt at_ er) (x : Int) : Bk (W.setCell ⟨g, 17, none⟩ (.int .i64 x)) g v lo re h sl cnt at_ x := heap_setCell_same W g 17 _ _ _ b
theorem Bk.below (b : Bk W g v lo re h sl cnt at_ er) (hb : Below W.heap.size W W') : Bk W' g v lo re h sl cnt at_ er := (hb.block g b.lt).trans b
end
/-- The frames lie elsewhere. -/
structure FrAt (g : Nat) (W : World) (a : Option Addr) (n c : Nat) (l : List Fr) : Prop where
  st : StAt W.heap.size W a n c l
  ne : ∀ b off, a = some ⟨b, off, none⟩ → b ≠ g
theorem FrAt.on {g : Nat} {W W' : World} {a : Option Addr} {n c : Nat} {l : List Fr} (h : FrAt g W a n c l) (hb : Below W.heap.size W W') : FrAt g W' a n c l := ⟨h.st.on hb, h.ne⟩
theorem FrAt.set {g : Nat} {W : World} {a : Option Addr} {n c : Nat} {l : List Fr} (h : FrAt g W a n c l) (j : Nat) (u : Value) : FrAt g (W.setCell ⟨g, j, none⟩ u) a n c l := by
  refine ⟨⟨?_, h.st.len, h.st.cap, h.st.fit⟩, h.ne⟩
  have hz : (W.setCell ⟨g, j, none⟩ u).heap.size = W.heap.size := by simp [World.setCell]
  rw [hz]
  rcases h.st.rows with h1 | ⟨b, off, ha, hb, hc⟩
  · exact .inl h1
  · exact .inr ⟨b, off, ha, hb, fun i hi q hq v hv => (World.cell?_setCell_far _ ⟨g, j, none⟩ _ _ (Ne.symm (h.ne b off ha))).trans (hc i hi q hq v hv)⟩
/-- The module, and the table of arities, below n₀. -/
structure Mo (n₀ : Nat) (m : Md) (W : World) : Prop where
  md : ModAt n₀ W m
  ar : Num.Arit W
  ag : 1 < n₀
theorem Mo.below {n₀ : Nat} {m : Md} {W W' : World} (h : Mo n₀ m W) (hb : Below n₀ W W') : Mo n₀ m W' := ⟨h.md.below hb, fun j hj => (hb.cell (p := ⟨1, j, none⟩) h.ag).trans (h.ar j hj), h.ag⟩
/-- A checker: where it lies, over a module that lies below it. -/
structure Ck (g n₀ : Nat) (m : Md) (lo re : Int) (s : St) (W : World) : Prop where
  blk : ∃ a n c, Bk W g m.v lo re s.h (.slice a n c) s.cnt s.at_ s.er ∧ FrAt g W a n c s.l
  mo : Mo n₀ m W
  le : n₀ ≤ g
theorem Ck.md {g n₀ : Nat} {m : Md} {lo re : Int} {s : St} {W : World} (h : Ck g n₀ m lo re s W) : ModAt n₀ W m := h.mo.md
theorem Ck.lt {g n₀ : Nat} {m : Md} {lo re : Int} {s : St} {W : World} (h : Ck g n₀ m lo re s W) : g < W.heap.size := by
  obtain ⟨a, n, c, hb, _⟩ := h.blk
  exact hb.lt
theorem Ck.on {g n₀ : Nat} {m : Md} {lo re : Int} {s : St} {W W' : World} (h : Ck g n₀ m lo re s W) (hb : Below W.heap.size W W') : Ck g n₀ m lo re s W' := by
  obtain ⟨a, n, c, hk, hf⟩ := h.blk
  exact ⟨⟨a, n, c, hk.below hb, hf.on hb⟩, h.mo.below (hb.mono (by have := hk.lt; have := h.le; omega)), h.le⟩
theorem Ck.alloc {g n₀ : Nat} {m : Md} {lo re : Int} {s : St} {W : World} (h : Ck g n₀ m lo re s W) (o : Obj) : Ck g n₀ m lo re s (W.alloc o) := h.on ((Below.refl _ _).alloc (Nat.le_refl _) o)
theorem md_set {n₀ g : Nat} {W : World} {m : Md} (h : Mo n₀ m W) (hg : n₀ ≤ g) (j : Nat) (u : Value) : Mo n₀ m (W.setCell ⟨g, j, none⟩ u) := h.below ((Below.refl _ _).setCell hg u)
/-- What a call on the stand gave is stored. -/
theorem Ck.put {g n₀ : Nat} {m : Md} {lo re : Int} {s : St} {w w1 : World} {r : R} {a : Option Addr} {n c : Nat} (h : Ck g n₀ m lo re s w) (hb : Below w.heap.size w w1) (hf : FrAt g w1 a n c r.l) :
    Ck g n₀ m lo re (s.put r) (((w1.setCell ⟨g, 13, none⟩ (.int .i64 r.h)).setCell ⟨g, 14, none⟩ (.slice a n c)).setCell ⟨g, 17, none⟩ (.int .i64 r.e)) ∧
      Save g w (((w1.setCell ⟨g, 13, none⟩ (.int .i64 r.h)).setCell ⟨g, 14, none⟩ (.slice a n c)).setCell ⟨g, 17, none⟩ (.int .i64 r.e)) := by
  have h1 := h.on hb
  obtain ⟨a', n', c', hk, _⟩ := h1.blk
  refine ⟨⟨⟨a, n, c, ((hk.set13 r.h).set14 (.slice a n c)).set17 r.e, ((hf.set _ _).set _ _).set _ _⟩, md_set (md_set (md_set h1.mo h.le _ _) h.le _ _) h.le _ _, h.le⟩, ?_⟩
  exact (((Save.of_below hb).setCell (p := ⟨g, 13, none⟩) (.inl rfl) (.int .i64 r.h)).setCell (p := ⟨g, 14, none⟩) (.inl rfl) (.slice a n c)).setCell (p := ⟨g, 17, none⟩) (.inl rfl) (.int .i64 r.e)
theorem madeP_st {w w' : World} {r : R} {e : Ending} {g : Nat} (hm : MadeP w r e w') (hl : r.l.length ≤ 1000000) (hg : g < w.heap.size) :
    ∃ a n c, e = .returned (.tuple #[.agg #[.int .i64 r.h, .slice a n c], .int .i64 r.e]) ∧ FrAt g w' a n c r.l ∧ Below w.heap.size w w' := by
  obtain ⟨a, n, c, rfl, ho, hb⟩ := hm
  obtain ⟨a', c', hv, hst⟩ := ho.slice hl
  simp only [Value.slice.injEq] at hv
  obtain ⟨rfl, rfl, rfl⟩ := hv
  refine ⟨_, _, _, rfl, ⟨hst, fun b off hab => ?_⟩, hb⟩
  subst hab
  have := (World.ownsRow.lt ho.row b ?_).1
  · omega
  · rcases ho.row.2 with ⟨h0, _⟩ | ⟨g', cap, cur, h0, _⟩
    · simp at h0
    · simp only [Value.slice.injEq, Option.some.injEq, Addr.mk.injEq] at h0
      obtain ⟨⟨rfl, rfl, _⟩, _⟩ := h0
      rfl
theorem valid_len {h : Int} {l : List Fr} (hv : ¬ valid h l = false) : l.length ≤ 1000 := (Stk.valid_yes (by simpa using hv)).2.2.2
theorem pushR_len (h : Int) (l : List Fr) (n : Int) : (pushR h l n).l.length ≤ 1000000 := by
  unfold pushR
  split
  · simp [Stk.bad]
  · rename_i hv; have := valid_len hv
    split; · simp [Stk.bad]
    split; · simp [Stk.bad]
    simp only; omega
theorem popR_len (h : Int) (l : List Fr) (n : Int) : (popR h l n).l.length ≤ 1000000 := by
  unfold popR
  split
  · simp [Stk.bad]
  · rename_i hv; have := valid_len hv
    split; · simp [Stk.bad]
    split; · simp only; omega
    simp [Stk.bad]
theorem deadR_len (h : Int) (l : List Fr) : (deadR h l).l.length ≤ 1000000 := by
  unfold deadR
  split
  · simp [Stk.bad]
  · rename_i hv; have := valid_len hv
    simp only [List.length_set]; omega
theorem enterR_len (h : Int) (l : List Fr) (o e : Int) : (enterR h l o e).l.length ≤ 1000000 := by
  unfold enterR
  split
  · simp [Stk.bad]
  · rename_i hv; have := valid_len hv
    split; · simp [Stk.bad]
    split; · simp [Stk.bad]
    simp only [List.length_append, List.length_cons, List.length_nil]; omega
theorem leaveR_len (h : Int) (l : List Fr) : (leaveR h l).l.length ≤ 1000000 := by
  unfold leaveR
  split
  · simp [Stk.bad]
  · rename_i hv; have := valid_len hv
    split; · simp [Stk.bad]
    split; · simp [Stk.bad]
    simp only [List.length_take]; omega

theorem Ck.below {g n₀ : Nat} {m : Md} {lo re : Int} {s : St} {w w' : World} (h : Ck g n₀ m lo re s w) (hs : Save g w w') : Below n₀ w w' := hs.below (by have := h.lt; have := h.le; omega) h.le
def Done (g n₀ : Nat) (m : Md) (lo re : Int) (w : World) (s' : St) (e : Ending) (w' : World) : Prop := e = .returned (.tuple #[]) ∧ Ck g n₀ m lo re s' w' ∧ Save g w w'
set_option maxRecDepth 100000 in
set_option maxHeartbeats 2000000 in
theorem fail_m (g n₀ : Nat) (m : Md) (lo re : Int) (s : St) (x : Int) (w : World) (h : Ck g n₀ m lo re s w) :
    Calls Tryz.prog 216 #[.pointer (some ⟨g, 0, none⟩), .int .i64 x] w (Done g n₀ m lo re w (failS x s)) := by
  obtain ⟨a, n, c, hk, hf⟩ := h.blk
  have HC := hid h
  by_cases h0 : s.er = 0
  · have HE := hid (show failS x s = ⟨s.h, s.l, s.cnt, s.at_, x⟩ by unfold failS; rw [if_pos h0])
    have HQ := hid (show Ck g n₀ m lo re ⟨s.h, s.l, s.cnt, s.at_, x⟩ (w.setCell ⟨g, 17, none⟩ (.int .i64 x)) from ⟨⟨a, n, c, hk.set17 x, hf.set _ _⟩, md_set h.mo h.le _ _, h.le⟩)
    have c17 := hk.c17
    have f17 := hk.f 17
    rw [h0] at c17
    clear h hk hf h0
    go_enter Tryz.func216, Tryz.ntmps216
    go_wp2
    go_end0
    refine ⟨rfl, ?_, (Save.refl g w).setCell (.inl rfl) _⟩
    rw [HE.out]; exact HQ.out
  · have HE := hid (show failS x s = s by unfold failS; rw [if_neg h0])
    have c17 := hk.c17
    clear h hk hf
    go_enter Tryz.func216, Tryz.ntmps216
    go_wp2
    refine bodyPost_ret (results_none rfl _ _ _) rfl ⟨rfl, ?_, Save.refl _ _⟩
    rw [HE.out]; exact HC.out
set_option maxRecDepth 100000 in
set_option maxHeartbeats 2000000 in
theorem push_m (g n₀ : Nat) (m : Md) (lo re : Int) (s : St) (k : Int) (w : World) (h : Ck g n₀ m lo re s w) :
    Calls Tryz.prog 224 #[.pointer (some ⟨g, 0, none⟩), .int .i64 k] w (Done g n₀ m lo re w (pushS k s)) := by
  obtain ⟨a, n, c, hk, hf⟩ := h.blk
  have HC := hid h
  by_cases h0 : s.er = 0
  · have HE := hid (show pushS k s = s.put (pushR s.h s.l k) by unfold pushS; rw [if_pos h0])
    have c17 := hk.c17
    rw [h0] at c17
    have HK1 := hid hk
    have HLT := hid h.lt
    have CC := hid (Stk.push_any s.h a n c s.l k w hf.st)
    have c13 := hk.c13
    have c14 := hk.c14
    clear h hk hf h0
    go_enter Tryz.func224, Tryz.ntmps224
    go_wp2_with fail
    refine CC.out.mono ?_
    intro e1 w1 hm1
    obtain ⟨a1, n1, c1, rfl, hf1, hb1⟩ := madeP_st hm1 (pushR_len _ _ _) HLT.out
    have hk1 := HK1.out.below hb1
    have f13 := hk1.f 13
    have f14 := hk1.f 14
    have f17 := hk1.f 17
    have d13 := hk1.c13
    have d14 := hk1.c14
    have d17 := hk1.c17
    have HP := hid (HC.out.put hb1 hf1)
    clear hk1 hf1 hb1 hm1 CC c13 c14 c17
    go_wp2
    go_end0
    obtain ⟨hP, hS⟩ := HP.out
    refine ⟨rfl, ?_, hS⟩
    rw [HE.out]; exact hP
  · have HE := hid (show pushS k s = s by unfold pushS; rw [if_neg h0])
    have c17 := hk.c17
    clear h hk hf
    go_enter Tryz.func224, Tryz.ntmps224
    go_wp2
    refine bodyPost_ret (results_none rfl _ _ _) rfl ⟨rfl, ?_, Save.refl _ _⟩
    rw [HE.out]; exact HC.out
set_option maxRecDepth 100000 in
set_option maxHeartbeats 2000000 in
theorem pop_m (g n₀ : Nat) (m : Md) (lo re : Int) (s : St) (k : Int) (w : World) (h : Ck g n₀ m lo re s w) (hk0 : k ≤ 9223372036854775807) :
    Calls Tryz.prog 222 #[.pointer (some ⟨g, 0, none⟩), .int .i64 k] w (Done g n₀ m lo re w (popS k s)) := by
  obtain ⟨a, n, c, hk, hf⟩ := h.blk
  have HC := hid h
  by_cases h0 : s.er = 0
  · have HE := hid (show popS k s = s.put (popR s.h s.l k) by unfold popS; rw [if_pos h0])
    have c17 := hk.c17
    rw [h0] at c17
    have HK1 := hid hk
    have HLT := hid h.lt
    have CC := hid (Stk.pop_any s.h a n c s.l k w hf.st hk0)
    have c13 := hk.c13
    have c14 := hk.c14
    clear h hk hf h0
    go_enter Tryz.func222, Tryz.ntmps222
    go_wp2_with fail
    refine CC.out.mono ?_
    intro e1 w1 hm1
    obtain ⟨a1, n1, c1, rfl, hf1, hb1⟩ := madeP_st hm1 (popR_len _ _ _) HLT.out
    have hk1 := HK1.out.below hb1
    have f13 := hk1.f 13
    have f14 := hk1.f 14
    have f17 := hk1.f 17
    have d13 := hk1.c13
    have d14 := hk1.c14
    have d17 := hk1.c17
    have HP := hid (HC.out.put hb1 hf1)
    clear hk1 hf1 hb1 hm1 CC c13 c14 c17
    go_wp2
    go_end0
    obtain ⟨hP, hS⟩ := HP.out
    refine ⟨rfl, ?_, hS⟩
    rw [HE.out]; exact hP
  · have HE := hid (show popS k s = s by unfold popS; rw [if_neg h0])
    have c17 := hk.c17
    clear h hk hf
    go_enter Tryz.func222, Tryz.ntmps222
    go_wp2
    refine bodyPost_ret (results_none rfl _ _ _) rfl ⟨rfl, ?_, Save.refl _ _⟩
    rw [HE.out]; exact HC.out
set_option maxRecDepth 100000 in
set_option maxHeartbeats 2000000 in
theorem dead_m (g n₀ : Nat) (m : Md) (lo re : Int) (s : St)  (w : World) (h : Ck g n₀ m lo re s w) :
    Calls Tryz.prog 218 #[.pointer (some ⟨g, 0, none⟩)] w (Done g n₀ m lo re w (deadS s)) := by
  obtain ⟨a, n, c, hk, hf⟩ := h.blk
  have HC := hid h
  by_cases h0 : s.er = 0
  · have HE := hid (show deadS s = s.put (deadR s.h s.l) by unfold deadS; rw [if_pos h0])
    have c17 := hk.c17
    rw [h0] at c17
    have HK1 := hid hk
    have HLT := hid h.lt
    have CC := hid (Stk.dead_any s.h a n c s.l w hf.st)
    have c13 := hk.c13
    have c14 := hk.c14
    clear h hk hf h0
    go_enter Tryz.func218, Tryz.ntmps218
    go_wp2_with fail
    refine CC.out.mono ?_
    intro e1 w1 hm1
    obtain ⟨a1, n1, c1, rfl, hf1, hb1⟩ := madeP_st hm1 (deadR_len _ _) HLT.out
    have hk1 := HK1.out.below hb1
    have f13 := hk1.f 13
    have f14 := hk1.f 14
    have f17 := hk1.f 17
    have d13 := hk1.c13
    have d14 := hk1.c14
    have d17 := hk1.c17
    have HP := hid (HC.out.put hb1 hf1)
    clear hk1 hf1 hb1 hm1 CC c13 c14 c17
    go_wp2
    go_end0
    obtain ⟨hP, hS⟩ := HP.out
    refine ⟨rfl, ?_, hS⟩
    rw [HE.out]; exact hP
  · have HE := hid (show deadS s = s by unfold deadS; rw [if_neg h0])
    have c17 := hk.c17
    clear h hk hf
    go_enter Tryz.func218, Tryz.ntmps218
    go_wp2
    refine bodyPost_ret (results_none rfl _ _ _) rfl ⟨rfl, ?_, Save.refl _ _⟩
    rw [HE.out]; exact HC.out
set_option maxRecDepth 100000 in
set_option maxHeartbeats 2000000 in
theorem enter_m (g n₀ : Nat) (m : Md) (lo re : Int) (s : St) (o r : Int) (w : World) (h : Ck g n₀ m lo re s w) :
    Calls Tryz.prog 219 #[.pointer (some ⟨g, 0, none⟩), .int .i64 o, .int .i64 r] w (Done g n₀ m lo re w (enterS o r s)) := by
  obtain ⟨a, n, c, hk, hf⟩ := h.blk
  have HC := hid h
  by_cases h0 : s.er = 0
  · have HE := hid (show enterS o r s = s.put (enterR s.h s.l o r) by unfold enterS; rw [if_pos h0])
    have c17 := hk.c17
    rw [h0] at c17
    have HK1 := hid hk
    have HLT := hid h.lt
    have CC := hid (Stk.enter_any s.h a n c s.l o r w hf.st)
    have c13 := hk.c13
    have c14 := hk.c14
    clear h hk hf h0
    go_enter Tryz.func219, Tryz.ntmps219
    go_wp2_with fail
    refine CC.out.mono ?_
    intro e1 w1 hm1
    obtain ⟨a1, n1, c1, rfl, hf1, hb1⟩ := madeP_st hm1 (enterR_len _ _ _ _) HLT.out
    have hk1 := HK1.out.below hb1
    have f13 := hk1.f 13
    have f14 := hk1.f 14
    have f17 := hk1.f 17
    have d13 := hk1.c13
    have d14 := hk1.c14
    have d17 := hk1.c17
    have HP := hid (HC.out.put hb1 hf1)
    clear hk1 hf1 hb1 hm1 CC c13 c14 c17
    go_wp2
    go_end0
    obtain ⟨hP, hS⟩ := HP.out
    refine ⟨rfl, ?_, hS⟩
    rw [HE.out]; exact hP
  · have HE := hid (show enterS o r s = s by unfold enterS; rw [if_neg h0])
    have c17 := hk.c17
    clear h hk hf
    go_enter Tryz.func219, Tryz.ntmps219
    go_wp2
    refine bodyPost_ret (results_none rfl _ _ _) rfl ⟨rfl, ?_, Save.refl _ _⟩
    rw [HE.out]; exact HC.out
set_option maxRecDepth 100000 in
set_option maxHeartbeats 2000000 in
theorem leave_m (g n₀ : Nat) (m : Md) (lo re : Int) (s : St) (own : Int) (w : World) (h : Ck g n₀ m lo re s w) :
    Calls Tryz.prog 197 #[.pointer (some ⟨g, 0, none⟩), .int .i64 own] w (Done g n₀ m lo re w (leaveS own s)) := by
  obtain ⟨a, n, c, hk, hf⟩ := h.blk
  have HC := hid h
  by_cases h0 : s.er = 0
  · have HE := hid (show leaveS own s = St.put ⟨s.h, s.l, s.cnt, own, s.er⟩ (leaveR s.h s.l) by unfold leaveS; rw [if_pos h0])
    have c17 := hk.c17
    rw [h0] at c17
    have hk1 := hk.set16 own
    have h1 : Ck g n₀ m lo re ⟨s.h, s.l, s.cnt, own, s.er⟩ (w.setCell ⟨g, 16, none⟩ (.int .i64 own)) := ⟨⟨a, n, c, hk1, hf.set _ _⟩, md_set h.mo h.le _ _, h.le⟩
    have HS1 : Hid (Save g w (w.setCell ⟨g, 16, none⟩ (.int .i64 own))) := hid ((Save.refl g w).setCell (.inl rfl) _)
    have HC1 := hid h1
    have HK1 := hid hk1
    have HLT := hid h1.lt
    have CC := hid (Stk.leave_any s.h a n c s.l (w.setCell ⟨g, 16, none⟩ (.int .i64 own)) (hf.set 16 _).st)
    have f16 := hk.f 16
    have c16 := hk.c16
    clear h hk hk1 hf h1 h0
    go_enter Tryz.func197, Tryz.ntmps197
    go_upto_region 2 with fail
    obtain ⟨w0, hw0⟩ : ∃ u, u = w.setCell ⟨g, 16, none⟩ (.int .i64 own) := ⟨_, rfl⟩
    rw [← hw0] at HC1 HK1 CC HLT HS1 ⊢
    clear c17 c16 f16 hw0
    have c13 := HK1.out.c13
    have c14 := HK1.out.c14
    go_wp2_with fail
    refine CC.out.mono ?_
    intro e1 w1 hm1
    obtain ⟨a1, n1, c1, rfl, hf1, hb1⟩ := madeP_st hm1 (leaveR_len _ _) HLT.out
    have hk1 := HK1.out.below hb1
    have f13 := hk1.f 13
    have f14 := hk1.f 14
    have f17 := hk1.f 17
    have d13 := hk1.c13
    have d14 := hk1.c14
    have d17 := hk1.c17
    have HP := hid (HC1.out.put hb1 hf1)
    clear hk1 hf1 hb1 hm1 CC c13 c14
    go_wp2
    go_end0
    obtain ⟨hP, hS⟩ := HP.out
    refine ⟨rfl, ?_, (HS1.out.trans hS)⟩
    rw [HE.out]; exact hP
  · have HE := hid (show leaveS own s = s by unfold leaveS; rw [if_neg h0])
    have c17 := hk.c17
    clear h hk hf
    go_enter Tryz.func197, Tryz.ntmps197
    go_wp2
    refine bodyPost_ret (results_none rfl _ _ _) rfl ⟨rfl, ?_, Save.refl _ _⟩
    rw [HE.out]; exact HC.out
set_option maxRecDepth 100000 in
set_option maxHeartbeats 2000000 in
theorem label_m (g n₀ : Nat) (m : Md) (lo re : Int) (s : St) (k : Int) (w : World) (h : Ck g n₀ m lo re s w) (hk : 0 ≤ k ∧ k < 4294967296) :
    Calls Tryz.prog 223 #[.pointer (some ⟨g, 0, none⟩), .int .u32 k] w (fun e w' => e = .returned (.int .i64 (labelS k s).1) ∧ Ck g n₀ m lo re (labelS k s).2 w' ∧ Save g w w') := by
  obtain ⟨a, n, c, hB, hf⟩ := h.blk
  have HC := hid h
  by_cases h0 : s.er = 0
  · have HE := hid (show labelS k s = ((labelR s.h s.l k).1, failS (labelR s.h s.l k).2 s) by unfold labelS; rw [if_pos h0])
    have hw : IntKind.i64.wrap k = k := by rw [IntKind.wrap_i64]; omega
    have c13 := hB.c13
    have c14 := hB.c14
    have c17 := hB.c17
    rw [h0] at c17
    have CC := hid (Stk.label_any s.h a n c s.l k w hf.st)
    obtain ⟨x, hx⟩ : ∃ x, labelR s.h s.l k = x := ⟨_, rfl⟩
    rw [hx] at CC HE
    clear h hB hf h0 hk hx
    go_enter Tryz.func223, Tryz.ntmps223
    go_wp2_with fail
    refine CC.out.mono ?_
    rintro e1 w1 ⟨rfl, hb1⟩
    have HC1 := hid (HC.out.on hb1)
    have HB1 := hid hb1
    have C2 := hid (fail_m g n₀ m lo re s x.2 w1 HC1.out)
    clear CC c13 c14 c17 hb1
    go_wp2_with fail
    refine C2.out.mono ?_
    rintro e2 w2 ⟨rfl, hc2, hs2⟩
    have HC2 := hid hc2
    have HS2 := hid ((Save.of_below HB1.out).trans hs2)
    clear C2 hc2 hs2
    go_wp2
    go_ret
    rw [HE.out]
    exact ⟨rfl, HC2.out, HS2.out⟩
  · have HE := hid (show labelS k s = (0, s) by unfold labelS; rw [if_neg h0])
    have c17 := hB.c17
    clear h hB hf
    go_enter Tryz.func223, Tryz.ntmps223
    go_wp2
    go_ret
    rw [HE.out]
    exact ⟨rfl, HC.out, Save.refl _ _⟩
end Go.Proofs.YtckdnhafookcgaaGreatDoor.Val

namespace Go.Proofs.YtckdnhafookcgaaGreatDoor.Mod
open Go.RowKit Go.Proofs.YtckdnhafookcgaaGreatDoor.Instr

def errI (b : Bool) (e : Int) : Int := if b then e else 0
theorem errIf_any (b : Bool) (e : Int) (w : World) : Calls Tryz.prog 108 #[.bool b, .int .i64 e] w fun x w' => x = .returned (.int .i64 (errI b e)) ∧ w = w' := by
  cases b
  all_goals
    go_enter Tryz.func108, Tryz.ntmps108
    go_wp2
    go_ret
    exact ⟨rfl, rfl⟩
theorem max_two (x y : Int) : max x y = if y > x then y else x := by split <;> omega
set_option maxHeartbeats 1000000 in
theorem crowded_any (m : Md) (w : World) (hm : ModAt w.heap.size w m) (hf : m.fits) :
    Calls Tryz.prog 109 #[.agg m.v] w fun e w' => e = .returned (.bool m.crowded) ∧ Below w.heap.size w w' := by
  have hb0 := (Below.refl w.heap.size w).alloc (Nat.le_refl _) (.cells m.v 32)
  have HE := hid (crowded_eq m)
  have HR := hid (hm.on hb0).el
  have HB := hid hb0
  have HX := hid (BoxAt.made w m.v 32)
  have hl := hf.el
  have hmx : ∀ (ts : Array TypeId) (t : TypeId) (w : World), Sem.run Tryz.prog (Builtin.max_ ts t #[.int .i64 (m.ty.length : Int), .int .i64 (m.im.length : Int), .int .i64 (m.fu.length : Int), .int .i64 (m.gl.length : Int), .int .i64 (m.ex.length : Int), .int .i64 (m.el.length : Int), .int .i64 (m.da.length : Int)]) w = .ok (.int .i64 m.max7) w := by
    intro ts t w
    unfold Md.max7
    simp only [max_two]
    simp [Builtin.max_, Builtin.max2]
  obtain ⟨L0, hL0⟩ : ∃ L0, m.max7 = L0 := ⟨_, rfl⟩
  rw [hL0] at HE hmx
  unfold Md.v at HR HB HX ⊢
  clear hm hf hb0 hL0
  generalize m.el'.a = a at HR HB HX ⊢
  go_enter Tryz.func109, Tryz.ntmps109
  go_wp2
  clear hmx
  obtain ⟨n, hn⟩ : ∃ n, m.el.length = n := ⟨_, rfl⟩
  have HN := hid hn
  rw [hn] at HX HB HR hl ⊢
  clear hn
  generalize w.alloc (.cells #[.slice m.ty'.a m.ty.length m.ty'.c, .slice m.im'.a m.im.length m.im'.c, .slice m.fu'.a m.fu.length m.fu'.c, .slice m.tb'.a m.tb.length m.tb'.c, .slice m.me'.a m.me.length m.me'.c, .slice m.gl'.a m.gl.length m.gl'.c, .slice m.ex'.a m.ex.length m.ex'.c, .bool m.st, .int .u32 m.sn, .slice a n m.el'.c, .slice m.da'.a m.da.length m.da'.c] 32) = W0 at HX HB HR ⊢
  go_loopw [3, 31] (fun vl vi wr => ∃ (k : Nat) (L : Int), vl = .int .i64 L ∧ vi = .int .i64 k ∧ k ≤ n ∧ Hid (L = longP (m.el.take k) L0) ∧ Hid (Below W0.heap.size W0 wr)) (fun _ vi _ => n - (intOf vi).toNat)
  case atStart => exact ⟨0, L0, rfl, rfl, Nat.zero_le _, rfl, Below.refl _ _⟩
  case round =>
    obtain ⟨k, L, rfl, rfl, hk, HL, HW⟩ := hrel
    by_cases hlt : k < n
    · have hkl : k < m.el.length := by rw [HN.out]; exact hlt
      obtain ⟨b, off, rfl, hb, hc⟩ := Rows.get HR.out hkl
      have HS := hid (show longP (m.el.take (k + 1)) L0 = max L (m.el[k].fs.length : Int) by rw [List.take_succ_eq_append_getElem hkl, longP_snoc, ← HL.out])
      obtain ⟨x, hxe⟩ : ∃ x, m.el[k] = x := ⟨_, rfl⟩
      rw [hxe] at hc HS
      have cc : ∀ j, j < 2 → ∀ v, x.v[j]? = some v → wr.cell? ⟨b, off + k * 2 + j, none⟩ = some v := fun j hj v hv => (HW.out.cell (p := ⟨b, off + k * 2 + j, none⟩) hb).trans (hc j hj v hv)
      have c0 : wr.cell? ⟨b, off + k * 2, none⟩ = some x.l.val := cc 0 (by omega) _ rfl
      have c1 : wr.cell? ⟨b, off + k * 2 + 1, none⟩ = some (.slice x.fa x.fs.length x.fc) := cc 1 (by omega) _ rfl
      have hki : (k : Int) < (n : Int) := by omega
      unfold Lst.val at c0
      have HW' := hid (show Below W0.heap.size W0 (wr.alloc (.cells #[.slice x.l.a x.l.t.len x.l.c, .slice x.fa x.fs.length x.fc] 109)) from HW.out.alloc HW.out.size _)
      clear hxe hc cc hb
      by_cases hgt : (x.fs.length : Int) > L
      · have HS' := hid (show (x.fs.length : Int) = longP (m.el.take (k + 1)) L0 by rw [HS.out]; omega)
        go_wp2
        go_roundw
        case rel => first | exact ⟨k + 1, _, rfl, by go_num, by omega, HS', HW'⟩ | exact ⟨k + 1, _, rfl, by go_num, by omega, hid HS.out.symm, HW'⟩
        case measure => simp [intOf]; omega
      · have HS' := hid (show L = longP (m.el.take (k + 1)) L0 by rw [HS.out]; omega)
        go_wp2
        go_roundw
        case rel => first | exact ⟨k + 1, _, rfl, by go_num, by omega, HS', HW'⟩ | exact ⟨k + 1, _, rfl, by go_num, by omega, hid HS.out.symm, HW'⟩
        case measure => simp [intOf]; omega
    · obtain rfl : k = n := by omega
      have HE' := hid (show m.crowded = (decide (16384 < L) || (decide (1 < m.tb.length) || decide (1 < m.me.length))) by rw [HE.out, HL.out, ← HN.out, List.take_length])
      have x3 := Go.Proofs.YtckdnhafookcgaaGreatDoor.keep HW.out (HX.out 3 _ rfl)
      have x4 := Go.Proofs.YtckdnhafookcgaaGreatDoor.keep HW.out (HX.out 4 _ rfl)
      have HF := hid (HB.out.trans (HW.out.mono HB.out.size))
      clear HR HL HX HE HW HB
      by_cases h1 : 16384 < L
      · have HC := hid (show m.crowded = true by rw [HE'.out, decide_eq_true h1, Bool.true_or])
        clear HE'
        go_wp2
        go_ret
        exact ⟨ret_bool HC.out.symm, HF.out⟩
      · by_cases h2 : (1 : Int) < (m.tb.length : Int)
        · have HC := hid (show m.crowded = true by rw [HE'.out, decide_eq_true (show 1 < m.tb.length by omega), Bool.true_or, Bool.or_true])
          clear HE'
          go_wp2
          go_ret
          exact ⟨ret_bool HC.out.symm, HF.out⟩
        · have HC := hid (show m.crowded = decide (1 < m.me.length) by rw [HE'.out, decide_eq_false h1, decide_eq_false (show ¬ 1 < m.tb.length by omega), Bool.false_or, Bool.false_or])
          clear HE'
          go_wp2
          go_ret
          exact ⟨ret_bool (by rw [HC.out]; simp; omega), HF.out⟩

set_option maxHeartbeats 1000000 in
theorem heavy_any (l : List Da) (a : Option Addr) (n c : Nat) (w : World) (hn : l.length = n) (hr : Rows w.heap.size w a 2 (l.map Da.v)) (hl : n ≤ 140737488351232) :
    Calls Tryz.prog 116 #[.slice a n c] w fun e w' => e = .returned (.bool (decide (1048576 < sumB l))) ∧ Below w.heap.size w w' := by
  have HR := hid hr
  have HN := hid hn
  clear hr hn
  go_enter Tryz.func116, Tryz.ntmps116
  go_wp2
  go_loopw [3, 8] (fun vl vi wr => ∃ (k : Nat) (L : Int), vl = .int .i64 L ∧ vi = .int .i64 k ∧ k ≤ n ∧ 0 ≤ L ∧ L ≤ 1048576 ∧ Hid (L = 1048576 - (sumB (l.take k) : Int)) ∧ Hid (Below w.heap.size w wr)) (fun _ vi _ => n - (intOf vi).toNat)
  case atStart => exact ⟨0, 1048576, rfl, rfl, Nat.zero_le _, by omega, by omega, rfl, Below.refl _ _⟩
  case round =>
    obtain ⟨k, L, rfl, rfl, hk, h0, h1, HL, HW⟩ := hrel
    by_cases hlt : k < n
    · have hkl : k < l.length := by rw [HN.out]; exact hlt
      obtain ⟨b, off, rfl, hb, hc⟩ := Rows.get HR.out hkl
      have HS := hid (sumB_step hkl)
      have HT := hid (sumB_take l (k + 1))
      obtain ⟨x, hxe⟩ : ∃ x, l[k] = x := ⟨_, rfl⟩
      rw [hxe] at hc HS
      have cc : ∀ j, j < 2 → ∀ v, x.v[j]? = some v → wr.cell? ⟨b, off + k * 2 + j, none⟩ = some v := fun j hj v hv => (HW.out.cell (p := ⟨b, off + k * 2 + j, none⟩) hb).trans (hc j hj v hv)
      have c0 : wr.cell? ⟨b, off + k * 2, none⟩ = some x.l.val := cc 0 (by omega) _ rfl
      have c1 : wr.cell? ⟨b, off + k * 2 + 1, none⟩ = some (.slice x.ba x.bs.length x.bc) := cc 1 (by omega) _ rfl
      have hki : (k : Int) < (n : Int) := by omega
      unfold Lst.val at c0
      have HW' := hid (show Below w.heap.size w (wr.alloc (.cells #[.slice x.l.a x.l.t.len x.l.c, .slice x.ba x.bs.length x.bc] 88)) from HW.out.alloc HW.out.size _)
      clear hxe hc cc hb
      by_cases hgt : L < (x.bs.length : Int)
      · have HC := hid (show decide (1048576 < sumB l) = true by rw [decide_eq_true_eq]; have := HS.out; have := HT.out; have := HL.out; omega)
        go_wp2
        go_ret
        exact ⟨ret_bool HC.out.symm, HW'.out⟩
      · have HL' := hid (show L - (x.bs.length : Int) = 1048576 - (sumB (l.take (k + 1)) : Int) by rw [HS.out]; have := HL.out; omega)
        go_wp2
        go_roundw
        case rel => exact ⟨k + 1, _, rfl, by go_num, by omega, by omega, by omega, HL', HW'⟩
        case measure => simp [intOf]; omega
    · obtain rfl : k = n := by omega
      have HC := hid (show decide (1048576 < sumB l) = false by rw [decide_eq_false_iff_not]; have := HL.out; rw [← HN.out, List.take_length] at this; omega)
      go_wp2
      go_ret
      exact ⟨ret_bool HC.out.symm, HW.out⟩
end Go.Proofs.YtckdnhafookcgaaGreatDoor.Mod

namespace Go.Proofs.YtckdnhafookcgaaGreatDoor.Mod
open Go.RowKit Go.Shelf Go.Proofs.YtckdnhafookcgaaGreatDoor.Instr

/-- What is asked of a name: by function g, in whatever world. -/
def Asks (w : World) (g : Nat) (p : ByteArray → Bool) : Prop :=
  (∀ args w, (callFunc g args).run Tryz.prog w = .ok (.enter g args) w) ∧
    ∀ (W : World) (s : ByteArray), s.size ≤ 140737488351232 → Below w.heap.size w W → Calls Tryz.prog g #[.string s] W fun e w' => e = .returned (.bool (p s)) ∧ Below W.heap.size W w'
theorem Asks.on {w w' : World} {g : Nat} {p : ByteArray → Bool} (h : Asks w g p) (hb : Below w.heap.size w w') : Asks w' g p := ⟨h.1, fun W s hs hW => h.2 W s hs (hb.trans (hW.mono hb.size))⟩

set_option maxHeartbeats 400000 in
theorem anyName1_any (x : Imp) (b g : Nat) (p : ByteArray → Bool) (w : World) (hc : w.cell? ⟨b, 0, none⟩ = some (.func (.func g) #[] #[])) (hp : Asks w g p) (h1 : x.mo.size ≤ 140737488351232) (h2 : x.na.size ≤ 140737488351232) :
    Calls Tryz.prog 179 #[.agg #[.string x.mo, .string x.na, .int .i64 x.ty], .pointer (some ⟨b, 0, none⟩)] w fun e w' => e = .returned (.bool (p x.mo || p x.na)) ∧ Below w.heap.size w w' := by
  have eg := hp.1
  have C1 := hid (hp.2 (w.alloc (.cells #[.string x.mo, .string x.na, .int .i64 x.ty] 90)) x.mo h1 ((Below.refl _ _).alloc (Nat.le_refl _) _))
  have C2 := hid (fun W (hb : Below w.heap.size w W) => hp.2 W x.na h2 hb)
  have HC := hid (show ∀ w1, Below w.heap.size w w1 → w1.cell? ⟨b, 0, none⟩ = some (.func (.func g) #[] #[]) from fun w1 hb => Go.Proofs.YtckdnhafookcgaaGreatDoor.keep hb hc)
  have hbl := World.block_lt_of_cell? w _ hc
  obtain ⟨q, hq⟩ : ∃ q, p x.mo = q := ⟨_, rfl⟩
  rw [hq] at C1 ⊢
  clear hq hp h1 h2
  cases q with
  | true =>
    go_enter Tryz.func179, Tryz.ntmps179
    go_wp2_with (go_at_fn g; refine C1.out.mono ?_; rintro e w1 ⟨rfl, hb1⟩)
    go_ret
    exact ⟨rfl, thenB ((Below.refl _ _).alloc (Nat.le_refl _) _) hb1⟩
  | false =>
    rw [Bool.false_or]
    obtain ⟨r, hr⟩ : ∃ r, p x.na = r := ⟨_, rfl⟩
    rw [hr] at C2 ⊢
    clear hr
    go_enter Tryz.func179, Tryz.ntmps179
    go_wp2_with fail
    refine (Calls.mono (R' := fun e w1 => (e = .returned (.bool false) ∧ Below w.heap.size w w1) ∧ w1.cell? ⟨b, 0, none⟩ = some (.func (.func g) #[] #[]) ∧ w1.cell? ⟨w.heap.size, 1, none⟩ = some (.string x.na)) C1.out ?_).mono ?_
    · rintro e w1 ⟨rfl, hb1⟩
      have hB := thenB ((Below.refl _ _).alloc (Nat.le_refl _) _) hb1
      exact ⟨⟨rfl, hB⟩, HC.out _ hB, Go.Proofs.YtckdnhafookcgaaGreatDoor.keep hb1 (by go_simp)⟩
    rintro e w1 ⟨⟨rfl, hb1⟩, hc1, hc2⟩
    have C3 := hid (C2.out w1 hb1)
    clear hc C2
    go_wp2_with (go_at_fn g; refine C3.out.mono ?_; rintro e w2 ⟨rfl, hb2⟩)
    go_ret
    exact ⟨rfl, thenB hb1 hb2⟩
set_option maxHeartbeats 400000 in
theorem anyName2_any (x : Ex) (b g : Nat) (p : ByteArray → Bool) (w : World) (hc : w.cell? ⟨b, 0, none⟩ = some (.func (.func g) #[] #[])) (hp : Asks w g p) (h1 : x.na.size ≤ 140737488351232) :
    Calls Tryz.prog 180 #[.agg #[.string x.na, .int .i64 x.k, .int .u32 x.i], .pointer (some ⟨b, 0, none⟩)] w fun e w' => e = .returned (.bool (p x.na)) ∧ Below w.heap.size w w' := by
  have eg := hp.1
  have C1 := hid (hp.2 (w.alloc (.cells #[.string x.na, .int .i64 x.k, .int .u32 x.i] 111)) x.na h1 ((Below.refl _ _).alloc (Nat.le_refl _) _))
  have hbl := World.block_lt_of_cell? w _ hc
  clear hp h1
  go_enter Tryz.func180, Tryz.ntmps180
  go_wp2_with (go_at_fn g; refine C1.out.mono ?_; rintro e w1 ⟨rfl, hb1⟩)
  go_ret
  exact ⟨rfl, thenB ((Below.refl _ _).alloc (Nat.le_refl _) _) hb1⟩

theorem enters1 : ∀ args w, (callFunc 179 args).run Tryz.prog w = .ok (.enter 179 args) w := enters_of Tryz.func179 (by kernel_rfl) rfl
theorem enters2 : ∀ args w, (callFunc 180 args).run Tryz.prog w = .ok (.enter 180 args) w := enters_of Tryz.func180 (by kernel_rfl) rfl
set_option maxHeartbeats 1000000 in
theorem anyName_any (m : Md) (g : Nat) (p : ByteArray → Bool) (w : World) (hm : ModAt w.heap.size w m) (hf : m.fits) (hp : Asks w g p) :
    Calls Tryz.prog 113 #[.agg m.v, .func (.func g) #[] #[]] w fun e w' => e = .returned (.bool (m.anyName p)) ∧ Below w.heap.size w w' := by
  have B1 := hid (((Below.refl w.heap.size w).alloc (Nat.le_refl _) (.cells m.v 32)).alloc (by simp) (.cells #[.func (.func g) #[] #[]] 191))
  have hbx : BoxAt ((w.alloc (.cells m.v 32)).alloc (.cells #[.func (.func g) #[] #[]] 191)) w.heap.size m.v := (BoxAt.made w m.v _).keep ((Below.refl _ _).alloc (Nat.le_refl _) _)
  have hcb : ((w.alloc (.cells m.v 32)).alloc (.cells #[.func (.func g) #[] #[]] 191)).cell? ⟨w.heap.size + 1, 0, none⟩ = some (.func (.func g) #[] #[]) := by go_simp
  have C1 := hid (any_im m.im m.im'.a m.im.length m.im'.c ((w.alloc (.cells m.v 32)).alloc (.cells #[.func (.func g) #[] #[]] 191)) rfl (hm.on B1.out).im hf.im
    179 #[.pointer (some ⟨w.heap.size + 1, 0, none⟩)] enters1 (fun x => p x.mo || p x.na) (fun W x hx hW => anyName1_any x _ g p W (Go.Proofs.YtckdnhafookcgaaGreatDoor.keep hW hcb) ((hp.on B1.out).on hW) (hf.iS x hx).1 (hf.iS x hx).2))
  have C2 := hid (fun (W : World) (hW : Below ((w.alloc (.cells m.v 32)).alloc (.cells #[.func (.func g) #[] #[]] 191)).heap.size ((w.alloc (.cells m.v 32)).alloc (.cells #[.func (.func g) #[] #[]] 191)) W) =>
    any_ex m.ex m.ex'.a m.ex.length m.ex'.c W rfl ((hm.on B1.out).on hW).ex hf.ex
      180 #[.pointer (some ⟨w.heap.size + 1, 0, none⟩)] enters2 (fun x => p x.na) (fun W' x hx hW' => anyName2_any x _ g p W' (Go.Proofs.YtckdnhafookcgaaGreatDoor.keep hW' (Go.Proofs.YtckdnhafookcgaaGreatDoor.keep hW hcb)) (((hp.on B1.out).on hW).on hW') (hf.eS x hx)))
  have HX := hid (fun (W : World) (hW : Below ((w.alloc (.cells m.v 32)).alloc (.cells #[.func (.func g) #[] #[]] 191)).heap.size ((w.alloc (.cells m.v 32)).alloc (.cells #[.func (.func g) #[] #[]] 191)) W) => (hbx.keep hW) 6 _ rfl)
  have HE : Hid (m.anyName p = ((m.im.any fun i => p i.mo || p i.na) || (m.ex.any fun e => p e.na))) := rfl
  obtain ⟨q, hq⟩ : ∃ q, (m.im.any fun x => p x.mo || p x.na) = q := ⟨_, rfl⟩
  rw [hq] at C1 HE
  unfold Md.v at C1 C2 B1 HX ⊢
  clear hq hcb hbx hm hf hp
  cases q with
  | true =>
    have HE' : Hid (m.anyName p = true) := by show _ = _; rw [HE.out, Bool.true_or]
    clear HE
    go_enter Tryz.func113, Tryz.ntmps113
    go_wp2_with fail
    refine C1.out.mono ?_
    rintro e w1 ⟨rfl, hb1⟩
    clear C1 C2 HX
    go_wp2
    go_ret
    exact ⟨ret_bool HE'.out.symm, B1.out.trans (hb1.mono B1.out.size)⟩
  | false =>
    obtain ⟨r, hr⟩ : ∃ r, (m.ex.any fun x => p x.na) = r := ⟨_, rfl⟩
    have HE' : Hid (m.anyName p = r) := by show _ = _; rw [HE.out, Bool.false_or]; exact hr
    rw [hr] at C2
    clear HE hr
    go_enter Tryz.func113, Tryz.ntmps113
    go_wp2_with fail
    refine C1.out.mono ?_
    rintro e w1 ⟨rfl, hb1⟩
    have hx := HX.out w1 hb1
    have C3 := hid (C2.out w1 hb1)
    clear C1 C2 HX
    go_wp2_with fail
    refine C3.out.mono ?_
    rintro e w2 ⟨rfl, hb2⟩
    clear C3 hx
    go_wp2
    go_ret
    exact ⟨ret_bool HE'.out.symm, B1.out.trans ((thenB hb1 hb2).mono B1.out.size)⟩
end Go.Proofs.YtckdnhafookcgaaGreatDoor.Mod

namespace Go.Proofs.YtckdnhafookcgaaGreatDoor.Kind
open Go.RowKit

theorem nearestType_any (p r : Int) (w : World) : Calls Tryz.prog 212 #[.agg #[.int .i64 p, .int .i64 r]] w
    fun e w' => e = .returned (.agg #[.int .i64 (min (max p 0) 255), .int .i64 (min (max r 0) 1)]) ∧ Below w.heap.size w w' := by
  go_enter Tryz.func212, Tryz.ntmps212
  go_wp2
  all_goals
    refine bodyPost_ret (v := .agg #[.int .i64 (min (max p 0) 255), .int .i64 (min (max r 0) 1)]) ?_ rfl ⟨rfl, ((Below.refl _ _).alloc (Nat.le_refl _) _).alloc (by simp) _⟩
    first
      | (simp [results, Tryz.results212, go_sem]; done)
      | (simp [results, Tryz.results212, go_sem]; omega)
theorem near_ok {p r : Int} (h : okType p r = true) : min (max p 0) 255 = p ∧ min (max r 0) 1 = r := by
  unfold okType at h; simp at h; omega
theorem near_no {p r : Int} (h : okType p r = false) : ¬ (p = min (max p 0) 255 ∧ r = min (max r 0) 1) := by
  rintro ⟨h1, h2⟩
  have : okType p r = true := by unfold okType; simp; omega
  rw [h] at this; cases this
theorem box_start (w : World) (x y : Value) (t : TypeId) : Below w.heap.size w (w.alloc (.cells #[x, y] t)).drew ∧ (w.alloc (.cells #[x, y] t)).drew.cell? ⟨w.heap.size, 0, none⟩ = some x ∧ (w.alloc (.cells #[x, y] t)).drew.cell? ⟨w.heap.size, 1, none⟩ = some y :=
  ⟨((Below.refl _ _).alloc (Nat.le_refl _) _).drew, by go_simp, by go_simp⟩
theorem box_keep {w w1 w2 : World} {x y : Value} {k : Nat} (h : Below w.heap.size w w1 ∧ w1.cell? ⟨k, 0, none⟩ = some x ∧ w1.cell? ⟨k, 1, none⟩ = some y) (hb : Below w1.heap.size w1 w2) :
    Below w.heap.size w w2 ∧ w2.cell? ⟨k, 0, none⟩ = some x ∧ w2.cell? ⟨k, 1, none⟩ = some y := ⟨thenB h.1 hb, keep hb h.2.1, keep hb h.2.2⟩
theorem box_out {w w1 : World} {x y : Value} {k : Nat} (h : Below w.heap.size w w1 ∧ w1.cell? ⟨k, 0, none⟩ = some x ∧ w1.cell? ⟨k, 1, none⟩ = some y) : Below w.heap.size w w1 := h.1
def codeType (p r : Int) : Int := if okType p r then 0 else 2
set_option maxHeartbeats 800000 in
theorem check_any (p r : Int) (w : World) : Calls Tryz.prog 183 #[.agg #[.int .i64 p, .int .i64 r]] w
    fun e w' => e = .returned (.int .i64 (codeType p r)) ∧ Below w.heap.size w w' := by
  have q1 := eqType
  have q2 := guardType
  have hN := fun w => nearestType_any p r w
  by_cases h : okType p r = true
  · obtain ⟨e1, e2⟩ := near_ok h
    have HC : Hid (codeType p r = 0) := by unfold codeType; rw [if_pos h]; rfl
    simp only [e1, e2] at hN
    clear h e1 e2
    go_enter Tryz.func183, Tryz.ntmps183
    go_wp2
    go_region_held3 (fun w' => Below w.heap.size w w' ∧ w'.cell? ⟨w.heap.size, 0, none⟩ = some (.int .i64 p) ∧ w'.cell? ⟨w.heap.size, 1, none⟩ = some (.int .i64 r)) (first | assumption | exact box_start w _ _ _ | exact box_keep (by assumption) (by assumption))
      (first
        | (go_at_call 212; refine (hN _).mono ?_; rintro e w2 ⟨rfl, hb2⟩))
    go_wp2
    go_ret
    exact ⟨ret_int HC.out.symm, box_out (x := .int .i64 p) (y := .int .i64 r) (k := w.heap.size) (by assumption)⟩
  · have h' : okType p r = false := by simpa using h
    have hn := near_no h'
    have HC : Hid (codeType p r = 2) := by unfold codeType; rw [h']; rfl
    generalize min (max p 0) 255 = m1 at *
    generalize min (max r 0) 1 = m2 at *
    have hor : (p == m1) = false ∧ (p != m1) = true ∨ (r == m2) = false ∧ (r != m2) = true := by
      by_cases h1 : p = m1
      · right
        have : r ≠ m2 := fun h2 => hn ⟨h1, h2⟩
        simp [this]
      · left; simp [h1]
    clear h h' hn
    rcases hor with ⟨n1, n2⟩ | ⟨n1, n2⟩
    all_goals
      go_enter Tryz.func183, Tryz.ntmps183
      go_wp2
      go_region_held3 (fun w' => Below w.heap.size w w' ∧ w'.cell? ⟨w.heap.size, 0, none⟩ = some (.int .i64 p) ∧ w'.cell? ⟨w.heap.size, 1, none⟩ = some (.int .i64 r)) (first | assumption | exact box_start w _ _ _ | exact box_keep (by assumption) (by assumption))
        (first
          | (go_at_call 212; refine (hN _).mono ?_; rintro e w2 ⟨rfl, hb2⟩))
      go_wp2
      go_ret
      exact ⟨ret_int HC.out.symm, box_out (x := .int .i64 p) (y := .int .i64 r) (k := w.heap.size) (by assumption)⟩

theorem nearestLimits_any (n x most : Int) (c : Bool) (w : World) : Calls Tryz.prog 208 #[.agg #[.int .u32 n, .int .u32 x, .bool c], .int .u32 most] w
    fun e w' => e = .returned (.agg #[.int .u32 (min n most), .int .u32 (if c then min (max x (min n most)) most else 0), .bool c]) ∧ Below w.heap.size w w' := by
  cases c
  · go_enter Tryz.func208, Tryz.ntmps208
    go_wp2
    all_goals
      refine bodyPost_ret (v := .agg #[.int .u32 (min n most), .int .u32 0, .bool false]) ?_ rfl ⟨rfl, ?_⟩
      · simp [results, Tryz.results208, go_sem]
        try omega
      · first | exact ((Below.refl _ _).alloc (Nat.le_refl _) _).alloc (by simp) _ | trace_state
  · go_enter Tryz.func208, Tryz.ntmps208
    go_wp2
    all_goals
      refine bodyPost_ret (v := .agg #[.int .u32 (min n most), .int .u32 (min (max x (min n most)) most), .bool true]) ?_ rfl ⟨rfl, ?_⟩
      · simp [results, Tryz.results208, go_sem]
        try omega
      · first | exact ((Below.refl _ _).alloc (Nat.le_refl _) _).alloc (by simp) _ | trace_state
theorem nearL_ok {n x most : Int} {c : Bool} (h : okLim n x c most = true) : min n most = n ∧ (if c then min (max x (min n most)) most else 0) = x := by
  unfold okLim at h; cases c <;> simp at h ⊢ <;> omega
theorem nearL_no {n x most : Int} {c : Bool} (h : okLim n x c most = false) : ¬ (n = min n most ∧ x = (if c then min (max x (min n most)) most else 0)) := by
  rintro ⟨h1, h2⟩
  have : okLim n x c most = true := by unfold okLim; cases c <;> simp at h2 ⊢ <;> omega
  rw [h] at this; cases this
def codeLim (n x : Int) (c : Bool) (most : Int) : Int := if okLim n x c most then 0 else 2
theorem box3_start (w : World) (x y z : Value) (t : TypeId) : Below w.heap.size w (w.alloc (.cells #[x, y, z] t)).drew ∧ (w.alloc (.cells #[x, y, z] t)).drew.cell? ⟨w.heap.size, 0, none⟩ = some x ∧ (w.alloc (.cells #[x, y, z] t)).drew.cell? ⟨w.heap.size, 1, none⟩ = some y ∧ (w.alloc (.cells #[x, y, z] t)).drew.cell? ⟨w.heap.size, 2, none⟩ = some z :=
  ⟨((Below.refl _ _).alloc (Nat.le_refl _) _).drew, by go_simp, by go_simp, by go_simp⟩
theorem box3_keep {w w1 w2 : World} {x y z : Value} {k : Nat} (h : Below w.heap.size w w1 ∧ w1.cell? ⟨k, 0, none⟩ = some x ∧ w1.cell? ⟨k, 1, none⟩ = some y ∧ w1.cell? ⟨k, 2, none⟩ = some z) (hb : Below w1.heap.size w1 w2) :
    Below w.heap.size w w2 ∧ w2.cell? ⟨k, 0, none⟩ = some x ∧ w2.cell? ⟨k, 1, none⟩ = some y ∧ w2.cell? ⟨k, 2, none⟩ = some z := ⟨thenB h.1 hb, keep hb h.2.1, keep hb h.2.2.1, keep hb h.2.2.2⟩
theorem box3_out {w w1 : World} {x y z : Value} {k : Nat} (h : Below w.heap.size w w1 ∧ w1.cell? ⟨k, 0, none⟩ = some x ∧ w1.cell? ⟨k, 1, none⟩ = some y ∧ w1.cell? ⟨k, 2, none⟩ = some z) : Below w.heap.size w w1 := h.1
set_option maxHeartbeats 800000 in
theorem checkLimits_any (n x : Int) (c : Bool) (most : Int) (w : World) : Calls Tryz.prog 173 #[.agg #[.int .u32 n, .int .u32 x, .bool c], .int .u32 most] w
    fun e w' => e = .returned (.int .i64 (codeLim n x c most)) ∧ Below w.heap.size w w' := by
  have q1 := eqLim
  have q2 := guardLim
  have hN := fun w => nearestLimits_any n x most c w
  by_cases h : okLim n x c most = true
  · obtain ⟨e1, e2⟩ := nearL_ok h
    have HC : Hid (codeLim n x c most = 0) := by unfold codeLim; rw [if_pos h]; rfl
    rw [e2] at hN
    simp only [e1] at hN
    clear h e1 e2
    go_enter Tryz.func173, Tryz.ntmps173
    go_wp2
    go_region_held3 (fun w' => Below w.heap.size w w' ∧ w'.cell? ⟨w.heap.size, 0, none⟩ = some (.int .u32 n) ∧ w'.cell? ⟨w.heap.size, 1, none⟩ = some (.int .u32 x) ∧ w'.cell? ⟨w.heap.size, 2, none⟩ = some (.bool c)) (first | assumption | exact box3_start w _ _ _ _ | exact box3_keep (by assumption) (by assumption))
      (first
        | (go_at_call 208; refine (hN _).mono ?_; rintro e w2 ⟨rfl, hb2⟩))
    go_wp2
    go_ret
    exact ⟨ret_int HC.out.symm, box3_out (x := .int .u32 n) (y := .int .u32 x) (z := .bool c) (k := w.heap.size) (by assumption)⟩
  · have h' : okLim n x c most = false := by simpa using h
    have hn := nearL_no h'
    have HC : Hid (codeLim n x c most = 2) := by unfold codeLim; rw [h']; rfl
    generalize (if c then min (max x (min n most)) most else 0) = m2 at *
    generalize min n most = m1 at *
    have hor : (n == m1) = false ∧ (n != m1) = true ∨ (x == m2) = false ∧ (x != m2) = true := by
      by_cases h1 : n = m1
      · right
        have : x ≠ m2 := fun h2 => hn ⟨h1, h2⟩
        simp [this]
      · left; simp [h1]
    clear h h' hn
    rcases hor with ⟨n1, n2⟩ | ⟨n1, n2⟩
    all_goals
      go_enter Tryz.func173, Tryz.ntmps173
      go_wp2
      go_region_held3 (fun w' => Below w.heap.size w w' ∧ w'.cell? ⟨w.heap.size, 0, none⟩ = some (.int .u32 n) ∧ w'.cell? ⟨w.heap.size, 1, none⟩ = some (.int .u32 x) ∧ w'.cell? ⟨w.heap.size, 2, none⟩ = some (.bool c)) (first | assumption | exact box3_start w _ _ _ _ | exact box3_keep (by assumption) (by assumption))
        (first
          | (go_at_call 208; refine (hN _).mono ?_; rintro e w2 ⟨rfl, hb2⟩))
      go_wp2
      go_ret
      exact ⟨ret_int HC.out.symm, box3_out (x := .int .u32 n) (y := .int .u32 x) (z := .bool c) (k := w.heap.size) (by assumption)⟩
end Go.Proofs.YtckdnhafookcgaaGreatDoor.Kind

namespace Go.Proofs.YtckdnhafookcgaaGreatDoor.Mod
open Go.RowKit Go.Proofs.YtckdnhafookcgaaGreatDoor.Instr

theorem wrongN_any (n : Int) (w : World) : Calls Tryz.prog 185 #[.int .i64 n] w fun e w' => e = .returned (.bool (wrongN n)) ∧ w = w' := by
  have H : Hid (wrongN n = (decide (n < 0) || decide (2147483647 < n))) := rfl
  by_cases h : n < 0
  · have HE : Hid (wrongN n = true) := by show _ = _; rw [H.out]; simp [h]
    go_enter Tryz.func185, Tryz.ntmps185
    go_wp2
    go_ret
    exact ⟨ret_bool HE.out.symm, rfl⟩
  · have h' : decide (n < 0) = false := by simpa using h
    have HE : Hid (wrongN n = decide (2147483647 < n)) := by show _ = _; rw [H.out, h', Bool.false_or]
    clear H
    go_enter Tryz.func185, Tryz.ntmps185
    go_wp2
    go_ret
    exact ⟨ret_bool HE.out.symm, rfl⟩
theorem wrongI_any (x : Imp) (w : World) : Calls Tryz.prog 125 #[.agg #[.string x.mo, .string x.na, .int .i64 x.ty]] w fun e w' => e = .returned (.bool (wrongI x)) ∧ Below w.heap.size w w' := by
  unfold wrongI
  obtain ⟨q, hq⟩ : ∃ q, wrongN x.ty = q := ⟨_, rfl⟩
  have C := hid (fun w => wrongN_any x.ty w)
  rw [hq] at C ⊢
  clear hq
  go_enter Tryz.func125, Tryz.ntmps125
  go_wp2_with fail
  refine (C.out _).mono ?_
  rintro e w1 ⟨rfl, rfl⟩
  go_wp2
  go_ret
  exact ⟨rfl, (Below.refl _ _).alloc (Nat.le_refl _) _⟩
set_option maxHeartbeats 800000 in
theorem wrongF_any (x : Fn) (w : World) : Calls Tryz.prog 128 #[.agg #[.int .i64 x.ty, .int .i64 x.lo, .slice x.l.a x.l.t.len x.l.c]] w fun e w' => e = .returned (.bool (wrongF x)) ∧ Below w.heap.size w w' := by
  have H : Hid (wrongF x = (wrongN x.ty || (decide (x.lo < 0) || decide (50000 < x.lo)))) := rfl
  obtain ⟨q, hq⟩ : ∃ q, wrongN x.ty = q := ⟨_, rfl⟩
  have C := hid (fun w => wrongN_any x.ty w)
  rw [hq] at C H
  clear hq
  obtain ⟨lo, hlo⟩ : ∃ lo, x.lo = lo := ⟨_, rfl⟩
  rw [hlo] at H ⊢
  clear hlo
  cases q with
  | true =>
    have HE : Hid (wrongF x = true) := by show _ = _; rw [H.out]; rfl
    go_enter Tryz.func128, Tryz.ntmps128
    go_wp2_with fail
    refine (C.out _).mono ?_
    rintro e w1 ⟨rfl, rfl⟩
    go_wp2
    go_ret
    exact ⟨ret_bool HE.out.symm, (Below.refl _ _).alloc (Nat.le_refl _) _⟩
  | false =>
    by_cases h : lo < 0
    · have HE : Hid (wrongF x = true) := by show _ = _; rw [H.out]; simp [h]
      go_enter Tryz.func128, Tryz.ntmps128
      go_wp2_with fail
      refine (C.out _).mono ?_
      rintro e w1 ⟨rfl, rfl⟩
      go_wp2
      go_ret
      exact ⟨ret_bool HE.out.symm, (Below.refl _ _).alloc (Nat.le_refl _) _⟩
    · have h' : decide (lo < 0) = false := by simpa using h
      have HE : Hid (wrongF x = decide (50000 < lo)) := by show _ = _; rw [H.out, h', Bool.false_or, Bool.false_or]
      go_enter Tryz.func128, Tryz.ntmps128
      go_wp2_with fail
      refine (C.out _).mono ?_
      rintro e w1 ⟨rfl, rfl⟩
      go_wp2
      go_ret
      exact ⟨ret_bool HE.out.symm, (Below.refl _ _).alloc (Nat.le_refl _) _⟩
theorem wrongE_any (x : Ex) (w : World) : Calls Tryz.prog 131 #[.agg #[.string x.na, .int .i64 x.k, .int .u32 x.i]] w fun e w' => e = .returned (.bool (wrongE x)) ∧ Below w.heap.size w w' := by
  have H : Hid (wrongE x = (decide (x.k < 0) || decide (3 < x.k))) := rfl
  obtain ⟨lo, hlo⟩ : ∃ lo, x.k = lo := ⟨_, rfl⟩
  rw [hlo] at H ⊢
  clear hlo
  by_cases h : lo < 0
  · have HE : Hid (wrongE x = true) := by show _ = _; rw [H.out]; simp [h]
    go_enter Tryz.func131, Tryz.ntmps131
    go_wp2
    go_ret
    exact ⟨ret_bool HE.out.symm, (Below.refl _ _).alloc (Nat.le_refl _) _⟩
  · have h' : decide (lo < 0) = false := by simpa using h
    have HE : Hid (wrongE x = decide (3 < lo)) := by show _ = _; rw [H.out, h', Bool.false_or]
    go_enter Tryz.func131, Tryz.ntmps131
    go_wp2
    go_ret
    exact ⟨ret_bool HE.out.symm, (Below.refl _ _).alloc (Nat.le_refl _) _⟩
theorem isLong_any (s : ByteArray) (w : World) : Calls Tryz.prog 114 #[.string s] w fun e w' => e = .returned (.bool (longS s)) ∧ Below w.heap.size w w' := by
  have HE : Hid (longS s = decide (1000 < s.size)) := rfl
  go_enter Tryz.func114, Tryz.ntmps114
  go_wp2
  go_ret
  exact ⟨ret_bool (by rw [HE.out]; simp; omega), Below.refl _ _⟩
theorem wrongT_any (x : Int × Int) (w : World) : Calls Tryz.prog 122 #[.agg #[.int .i64 x.1, .int .i64 x.2]] w fun e w' => e = .returned (.bool (wrongT x)) ∧ Below w.heap.size w w' := by
  have C := hid (fun w => Kind.check_any x.1 x.2 w)
  unfold Kind.codeType at C
  unfold wrongT
  obtain ⟨q, hq⟩ : ∃ q, Kind.okType x.1 x.2 = q := ⟨_, rfl⟩
  rw [hq] at C ⊢
  clear hq
  cases q
  all_goals
    simp only [Bool.false_eq_true, if_true, if_false] at C
    go_enter Tryz.func122, Tryz.ntmps122
    go_wp2_with fail
    refine (C.out _).mono ?_
    rintro e w1 ⟨rfl, hb1⟩
    go_wp2
    go_ret
    exact ⟨rfl, thenB ((Below.refl _ _).alloc (Nat.le_refl _) _) hb1⟩
theorem beyond_any (x : Li) (g : Nat) (most : Int) (w : World) (hc : w.cell? ⟨g, 0, none⟩ = some (.int .u32 most)) :
    Calls Tryz.prog 189 #[.agg #[.int .u32 x.n, .int .u32 x.x, .bool x.c], .pointer (some ⟨g, 0, none⟩)] w fun e w' => e = .returned (.bool (beyond most x)) ∧ Below w.heap.size w w' := by
  have C := hid (fun w => Kind.checkLimits_any x.n x.x x.c most w)
  unfold Kind.codeLim at C
  unfold beyond
  obtain ⟨q, hq⟩ : ∃ q, Kind.okLim x.n x.x x.c most = q := ⟨_, rfl⟩
  rw [hq] at C ⊢
  clear hq
  have hg := World.block_lt_of_cell? w _ hc
  cases q
  all_goals
    simp only [Bool.false_eq_true, if_true, if_false] at C
    go_enter Tryz.func189, Tryz.ntmps189
    go_wp2_with fail
    refine (C.out _).mono ?_
    rintro e w1 ⟨rfl, hb1⟩
    go_wp2
    go_ret
    exact ⟨rfl, thenB ((Below.refl _ _).alloc (Nat.le_refl _) _) hb1⟩
end Go.Proofs.YtckdnhafookcgaaGreatDoor.Mod

namespace Go.Proofs.YtckdnhafookcgaaGreatDoor.Mod
open Go.RowKit Go.Shelf Go.Proofs.YtckdnhafookcgaaGreatDoor.Instr

theorem entersB : ∀ args w, (callFunc 189 args).run Tryz.prog w = .ok (.enter 189 args) w := enters_of Tryz.func189 (by kernel_rfl) rfl
set_option maxHeartbeats 1000000 in
theorem anyBeyond_any (l : List Li) (a : Option Addr) (n c : Nat) (most : Int) (w : World) (hn : l.length = n) (hr : Rows w.heap.size w a 3 (l.map Li.v)) (hl : n ≤ 140737488351232) :
    Calls Tryz.prog 133 #[.slice a n c, .int .u32 most] w fun e w' => e = .returned (.bool (l.any (beyond most))) ∧ Below w.heap.size w w' := by
  have hB := (Below.refl w.heap.size w).alloc (Nat.le_refl _) (.cells #[.int .u32 most] 28)
  have hc : (w.alloc (.cells #[.int .u32 most] 28)).cell? ⟨w.heap.size, 0, none⟩ = some (.int .u32 most) := by go_simp
  have C := hid (any_li l a n c (w.alloc (.cells #[.int .u32 most] 28)) hn ((hr.below hB).more hB.size) hl 189 #[.pointer (some ⟨w.heap.size, 0, none⟩)] entersB (beyond most)
    (fun W x _ hW => beyond_any x _ most W (Go.Proofs.YtckdnhafookcgaaGreatDoor.keep hW hc)))
  have HB := hid hB
  clear hB hc hn hr
  go_enter Tryz.func133, Tryz.ntmps133
  go_wp2_with fail
  refine C.out.mono ?_
  rintro e w1 ⟨rfl, hb1⟩
  clear C
  go_wp2
  go_ret
  exact ⟨rfl, HB.out.trans (hb1.mono HB.out.size)⟩

theorem Bad_any (zs : List Int) (a : Option Addr) (n c : Nat) (w : World) (hT : Utf.Tabs w) (hn : zs.length = n) (hz : Bytes w a zs) :
    Calls Tryz.prog 181 #[.slice a n c] w fun e w' => e = .returned (.int .i64 (Utf.badL zs)) ∧ Below w.heap.size w w' := by
  have e1 := str_of hz n c hn
  have C := hid (Utf.bad_any zs hz.byte w hT)
  clear hn hz
  go_enter Tryz.func181, Tryz.ntmps181
  go_wp2_with fail
  refine C.out.mono ?_
  rintro e w1 ⟨rfl, hb1⟩
  clear C
  go_wp2
  go_ret
  exact ⟨rfl, hb1⟩
set_option maxHeartbeats 400000 in
theorem isNoText_any (s : ByteArray) (w : World) (hT : Utf.Tabs w) (hs : s.size ≤ 140737488351232) : Calls Tryz.prog 119 #[.string s] w fun e w' => e = .returned (.bool (noText s)) ∧ Below w.heap.size w w' := by
  unfold noText
  obtain ⟨b, c, w1, e1, hz, hb1⟩ := bytes_of (numsOf s) (numsOf_bytes s) (by rw [numsOf_length]; exact hs) w
  rw [str_numsOf] at e1
  have C := hid (Bad_any (numsOf s) _ _ c w1 (hT.below hb1) rfl hz)
  obtain ⟨q, hq⟩ : ∃ q, Utf.badL (numsOf s) = q := ⟨_, rfl⟩
  rw [hq] at C ⊢
  obtain ⟨n, hn⟩ : ∃ n, (numsOf s).length = n := ⟨_, rfl⟩
  rw [hn] at C e1
  have HB := hid hb1
  clear hq hn hz hb1 hT
  go_enter Tryz.func119, Tryz.ntmps119
  go_wp2_with fail
  refine C.out.mono ?_
  rintro e w2 ⟨rfl, hb2⟩
  clear C e1
  go_wp2
  go_ret
  exact ⟨rfl, thenB HB.out hb2⟩
theorem asks_long (w : World) : Asks w 114 longS := ⟨enters_of Tryz.func114 (by kernel_rfl) rfl, fun W s _ _ => isLong_any s W⟩
theorem asks_text (w : World) (hT : Utf.Tabs w) : Asks w 119 noText := ⟨enters_of Tryz.func119 (by kernel_rfl) rfl, fun W s hs hW => isNoText_any s W (hT.below hW) hs⟩
end Go.Proofs.YtckdnhafookcgaaGreatDoor.Mod

namespace Go.Proofs.YtckdnhafookcgaaGreatDoor.Instr
open Go.RowKit Go.Shelf

attribute [local go_sem] Oper.semAt_some

theorem RoundIn.anyD {m m' : Nat} {P : Program} {l : Nat} {f : FuncId} {tmps : Array Value} {assign body : Code} {w : World} {R : Ending → World → Prop}
    (h : RoundIn Fence.wide m P l f tmps assign body w R) : RoundIn Fence.wide m' P l f tmps assign body w R := ⟨h.1, fun c cs _ => h.2 c cs (fun d h => by cases h)⟩
theorem YieldAt.anyD {m m' : Nat} {P : Program} {l : Nat} {args : Array Value} {W : World} {R : Ending → World → Prop} (h : YieldAt Fence.wide m P l args W R) : YieldAt Fence.wide m' P l args W R := by
  obtain ⟨fn, tmps, assign, body, hy, hR⟩ := h
  exact ⟨fn, tmps, assign, body, hy, RoundIn.anyD hR⟩

def encs (p : Int × Ix) : Array Value := #[.int .i64 p.1, .agg p.2.vals]

set_option maxHeartbeats 4000000 in
set_option maxRecDepth 100000 in
theorem descend_in (l n₀ n₁ N : Nat) (J Jx : List (Int × Ix) → World → Prop) (B : Nat) (hJ : AbidesFrom B J) (hn : n₀ ≤ n₁)
    (hY : ∀ m pre x W, J pre W → pre.length < N → n₁ ≤ W.heap.size → YieldAt Fence.wide m Tryz.prog l (encs x) W fun e W' =>
      (e = .returned (.bool true) ∧ J (pre ++ [x]) W' ∧ Kept n₀ n₁ W W') ∨ (e = .returned (.bool false) ∧ Jx (pre ++ [x]) W')) :
    ∀ (m : Nat) (t : Il) (n : Nat) (a : Option Addr) (len cap : Nat) (d : Int) (pre : List (Int × Ix)) (W : World), t.count ≤ m → ListAt n₀ W a len t → J pre W → pre.length + t.count ≤ N → n₁ ≤ W.heap.size → 0 ≤ d → d + t.deep ≤ 4611686018427387904 → len ≤ 140737488351232 →
      CallsIn Fence.wide n Tryz.prog 152 #[.slice a len cap, .int .i64 d, .func (.yield l) #[] #[]] W fun e W' =>
        (e = .returned (.bool true) ∧ J (pre ++ t.walk d) W' ∧ Kept n₀ n₁ W W') ∨ (e = .returned (.bool false) ∧ ∃ q, q <+: t.walk d ∧ Jx (pre ++ q) W') := by
  intro m
  induction m with
  | zero =>
    intro t n a len cap d pre W hm hl hJ0 hN hW hd0 hd1 hlen
    cases t with
    | cons x l e r => simp only [Il.count] at hm; omega
    | nil =>
      have h0 : len = 0 := hl.1.symm
      subst h0
      clear hm hl hN hd1
      refine callsIn_of_wp Tryz.func152 rfl trivial ?_ rfl
      simp only [Tryz.ntmps152, List.size_toArray, List.length_cons, List.length_nil, Nat.reduceAdd, Nat.reduceSub, Array.replicate_succ, Array.replicate_zero, List.push_toArray, List.append_toArray, List.nil_append, List.cons_append]
      gi_wp2
      gi_loopw [11] (fun i wr => i = .int .i64 0 ∧ J pre wr ∧ Kept n₀ n₁ W wr) (fun _ _ => 0)
      case atStart => exact ⟨rfl, hJ0, Kept.refl _ _ _⟩
      case round =>
        obtain ⟨rfl, hJs, hk⟩ := hrel
        gi_wp2
        go_ret
        exact .inl ⟨rfl, by simpa [Il.walk] using hJs, hk⟩
  | succ m ih =>
    intro t n a len cap d pre W hm hl hJ0 hN hW hd0 hd1 hlen
    have hA : ∀ s W, J s W → ∀ o, J s (W.alloc o) := fun s W h o => hJ s W _ none h (World.grownBy_alloc W o none) (fun r e => by cases e)
    obtain ⟨hl1, hl2⟩ := hl
    have HT := hid hm
    have HN := hid hN
    have HD := hid hd1
    have HL := hid hl1
    clear hm hN hd1 hl1
    rcases hl2 with rfl | ⟨b, off, rfl, hi⟩
    · have h0 : len = 0 := HL.out.symm
      subst h0
      refine callsIn_of_wp Tryz.func152 rfl trivial ?_ rfl
      simp only [Tryz.ntmps152, List.size_toArray, List.length_cons, List.length_nil, Nat.reduceAdd, Nat.reduceSub, Array.replicate_succ, Array.replicate_zero, List.push_toArray, List.append_toArray, List.nil_append, List.cons_append]
      gi_wp2
      gi_loopw [11] (fun i wr => i = .int .i64 0 ∧ J pre wr ∧ Kept n₀ n₁ W wr) (fun _ _ => 0)
      case atStart => exact ⟨rfl, hJ0, Kept.refl _ _ _⟩
      case round =>
        obtain ⟨rfl, hJs, hk⟩ := hrel
        gi_wp2
        go_ret
        exact .inl ⟨rfl, by simpa [Il.walk] using hJs, hk⟩
    · refine callsIn_of_wp Tryz.func152 rfl trivial ?_ rfl
      simp only [Tryz.ntmps152, List.size_toArray, List.length_cons, List.length_nil, Nat.reduceAdd, Nat.reduceSub, Array.replicate_succ, Array.replicate_zero, List.push_toArray, List.append_toArray, List.nil_append, List.cons_append]
      gi_wp2
      gi_loopw [11] (fun i wr => ∃ (k : Nat) (done : List (Int × Ix)) (rest : Il), i = .int .i64 k ∧ k ≤ len ∧ Hid (k + rest.len = len ∧ done ++ rest.walk d = t.walk d ∧ rest.count ≤ t.count ∧ rest.deep ≤ t.deep) ∧ Items n₀ wr b (off + k * 8) rest ∧ J (pre ++ done) wr ∧ Kept n₀ n₁ W wr)
        (fun i _ => len - (intOf i).toNat)
      case atStart => exact ⟨0, [], t, rfl, Nat.zero_le _, ⟨by have := HL.out; omega, rfl, Nat.le_refl _, Nat.le_refl _⟩, by simpa using hi, by simpa using hJ0, Kept.refl _ _ _⟩
      case round =>
        obtain ⟨k, done, rest, rfl, hk, HR, hir, hJs, hkw⟩ := hrel
        cases rest with
        | nil =>
          obtain ⟨r1, r2, _, _⟩ := HR.out
          have hkl : k = len := by simpa [Il.len] using r1
          subst hkl
          gi_wp2
          go_ret
          exact .inl ⟨rfl, by rw [← r2]; simpa [Il.walk] using hJs, hkw⟩
        | cons x tl te r =>
          obtain ⟨hbn, hx, ⟨c0, c1, c2, c3, c4, c5, c6, c7⟩, ht, hLl, hLe, hir'⟩ := hir
          have hlt : k < len := by have := HR.out.1; simp only [Il.len] at this; omega
          obtain ⟨fn, tmps, assign, body, hy, hR⟩ := hY (n - 1) (pre ++ done) (d, x) (wr.alloc (.cells x.vals 105)) (hA _ _ hJs _) (by
            have h1 := congrArg List.length HR.out.2.1
            have h2 := walk_length t d
            have h3 := HN.out
            simp only [List.length_append, Il.walk, List.length_cons] at h1 ⊢
            omega) (by have := hkw.below.size; simp; omega)
          simp only [encs, Ix.vals] at hy hR
          have hbx := At.made x wr
          have hg : n₁ ≤ wr.heap.size := Nat.le_trans hW hkw.below.size
          have hw1 : IntKind.i64.wrap (d + 1) = d + 1 := by have := HD.out; rw [IntKind.wrap_i64]; omega
          have hB1 : Kept n₀ n₁ W (wr.alloc (.cells x.vals 105)) := hkw.alloc _ (Nat.le_trans hn hg)
          have hcounts : tl.count + te.count + r.count + 1 ≤ m + 1 ∧ tl.deep + 1 ≤ t.deep ∧ te.deep + 1 ≤ t.deep := by
            have h1 := HR.out.2.2
            have h2 := HT.out
            simp only [Il.count, Il.deep] at h1
            omega
          have HC := hid hcounts
          clear hcounts
          have hlens : (pre ++ done).length + 1 + tl.count + te.count + r.count ≤ N := by
            have h1 := congrArg List.length HR.out.2.1
            have h2 := HN.out
            simp only [List.length_append, Il.walk, List.length_cons, walk_length] at h1 ⊢
            omega
          have HLN := hid hlens
          clear hlens
          gi_wp2_with fail
          refine ⟨fun h => (by cases h), ?_⟩
          refine hR.mono ?_
          clear hR hy
          rintro e W2 (⟨rfl, hJ2, hk2⟩ | ⟨rfl, hx2⟩)
          · have hb2 := hbx.kept hk2 hg
            obtain ⟨d0, d1, d2, d3, d4, d5, d6, d7⟩ := hb2
            gi_wp2_with fail
            refine ⟨trivial, fun h => (by cases h), ?_⟩
            have hL2 : ListAt n₀ W2 x.la x.ln tl := ListAt.below (((Below.refl _ wr).alloc (Nat.le_trans hn hg) _).trans hk2.below) hLl
            refine (ih tl (n - 1) x.la x.ln x.lc (d + 1) (pre ++ done ++ [(d, x)]) W2 (by have := HC.out; omega) hL2 hJ2 (by have := HLN.out; simp only [List.length_append, List.length_cons, List.length_nil] at this ⊢; omega)
              (by have := hk2.below.size; simp at this; omega) (by omega) (by have := HC.out; have := HD.out; omega) hx.ln).mono ?_
            rintro e W3 (⟨rfl, hJ3, hk3⟩ | ⟨rfl, q, hq, hx3⟩)
            · have hb3 := hbx.kept (hk2.trans hk3) hg
              clear d0 d1 d2 d3 d4 d5 d6 d7
              obtain ⟨d0, d1, d2, d3, d4, d5, d6, d7⟩ := hb3
              gi_wp2_with fail
              refine ⟨trivial, fun h => (by cases h), ?_⟩
              have hL3 : ListAt n₀ W3 x.ea x.en te := ListAt.below ((((Below.refl _ wr).alloc (Nat.le_trans hn hg) _).trans hk2.below).trans hk3.below) hLe
              refine (ih te (n - 1) x.ea x.en x.ec (d + 1) (pre ++ done ++ [(d, x)] ++ tl.walk (d + 1)) W3 (by have := HC.out; omega) hL3 hJ3 (by have := HLN.out; simp only [List.length_append, List.length_cons, List.length_nil, walk_length] at this ⊢; omega)
                (by have := (hk2.trans hk3).below.size; simp at this; omega) (by omega) (by have := HC.out; have := HD.out; omega) hx.en).mono ?_
              rintro e W4 (⟨rfl, hJ4, hk4⟩ | ⟨rfl, q, hq, hx4⟩)
              · clear d0 d1 d2 d3 d4 d5 d6 d7
                gi_wp2
                have hkz : Kept n₀ n₁ W W4 := hB1.trans ((hk2.trans hk3).trans hk4)
                go_roundw
                case rel =>
                  refine ⟨k + 1, done ++ [(d, x)] ++ tl.walk (d + 1) ++ te.walk (d + 1), r, by simp, by omega, ?_, ?_, ?_, hkz⟩
                  · have h1 := HR.out
                    refine ⟨by simp only [Il.len] at h1; omega, ?_, by simp only [Il.count] at h1; omega, by simp only [Il.deep] at h1; omega⟩
                    rw [← h1.2.1]; simp [Il.walk, List.append_assoc]
                  · have := Items.below ((((((Below.refl _ wr).alloc (Nat.le_trans hn hg) (.cells x.vals 105)).trans hk2.below).trans hk3.below)).trans hk4.below) hir'
                    rw [show off + (k + 1) * 8 = off + k * 8 + 8 by omega]
                    exact this
                  · simpa [List.append_assoc] using hJ4
                case measure => simp [intOf]; omega
              · gi_wp2
                go_ret
                refine .inr ⟨rfl, done ++ [(d, x)] ++ tl.walk (d + 1) ++ q, ?_, by simpa [List.append_assoc] using hx4⟩
                rw [← HR.out.2.1]
                obtain ⟨z, hz⟩ := hq
                exact ⟨z ++ r.walk d, by rw [Il.walk, ← hz]; simp [List.append_assoc]⟩
            · gi_wp2
              refine ⟨trivial, ?_⟩
              gi_wp2
              go_ret
              refine .inr ⟨rfl, done ++ [(d, x)] ++ q, ?_, by simpa [List.append_assoc] using hx3⟩
              rw [← HR.out.2.1]
              obtain ⟨z, hz⟩ := hq
              exact ⟨z ++ (te.walk (d + 1) ++ r.walk d), by rw [Il.walk, ← hz]; simp [List.append_assoc]⟩
          · gi_wp2
            refine ⟨trivial, ?_⟩
            gi_wp2
            refine ⟨trivial, ?_⟩
            gi_wp2
            go_ret
            refine .inr ⟨rfl, done ++ [(d, x)], ?_, by simpa [List.append_assoc] using hx2⟩
            rw [← HR.out.2.1]
            exact ⟨tl.walk (d + 1) ++ (te.walk (d + 1) ++ r.walk d), by simp [Il.walk, List.append_assoc]⟩

set_option maxHeartbeats 1000000 in
/-- The function that within hands back. -/
theorem within_stops (n n₀ n₁ Bs : Nat) (a : Option Addr) (len cap : Nat) (t : Il) (w : World) (hBs : Bs < w.heap.size) (hn : n₀ ≤ n₁) (hw : n₁ ≤ w.heap.size)
    (hc : w.cell? ⟨Bs, 0, none⟩ = some (.slice a len cap)) (hl : ListAt n₀ w a len t) (hd : t.deep ≤ 4611686018427387900) (hlen : len ≤ 140737488351232) :
    SeqStopsK Fence.wide n Tryz.prog 151 #[.pointer (some ⟨Bs, 0, none⟩)] encs (Kept n₀ n₁) (fun ys => ys = t.walk 1) (fun pre => pre <+: t.walk 1) t.count w := fun l J Jx W hW hJ _ hY h0 => by
  have hc' := (hW.cell (p := ⟨Bs, 0, none⟩) hBs).trans hc
  have hp := descend_in l n₀ n₁ t.count J Jx W.heap.size hJ hn (fun m pre x W1 hj hl1 _ => YieldAt.anyD (hY pre x W1 hj hl1)) t.count t (n - 1) a len cap 1 [] W (Nat.le_refl _) (hl.below (hW.mono (Nat.le_trans hn hw))) h0 (by simp) (Nat.le_trans hw hW.size) (by omega) (by omega) hlen
  have C := hid hp
  clear hp hl hd hc hY
  refine callsIn_of_wp Tryz.func151 rfl trivial ?_ rfl
  simp only [Tryz.ntmps151, List.size_toArray, List.length_cons, List.length_nil, Nat.reduceAdd, Nat.reduceSub, Array.replicate_succ, Array.replicate_zero, List.push_toArray, List.append_toArray, List.nil_append, List.cons_append]
  gi_wp2_with fail
  refine ⟨trivial, fun h => (by cases h), ?_⟩
  refine C.out.mono ?_
  clear C
  rintro e W1 (⟨rfl, hJ1, _⟩ | ⟨rfl, q, hq, hx⟩)
  · gi_wp2
    go_end0
    exact ⟨⟨_, rfl⟩, .inl ⟨_, rfl, by simpa using hJ1⟩⟩
  · gi_wp2
    go_end0
    exact ⟨⟨_, rfl⟩, .inr ⟨q, hq, by simpa using hx⟩⟩
theorem within_in (n : Nat) (a : Option Addr) (len cap : Nat) (w : World) :
    CallsIn Fence.wide n Tryz.prog 75 #[.slice a len cap] w fun e w' => e = .returned (.func (.func 151) #[] #[.pointer (some ⟨w.heap.size, 0, none⟩)]) ∧ w' = w.alloc (.cells #[.slice a len cap] 85) := by
  refine callsIn_of_wp Tryz.func75 rfl trivial ?_ rfl
  simp only [Tryz.ntmps75, List.size_toArray, List.length_cons, List.length_nil, Nat.reduceAdd, Nat.reduceSub, Array.replicate_succ, Array.replicate_zero, List.push_toArray, List.append_toArray, List.nil_append, List.cons_append]
  gi_wp2
  go_ret
  exact ⟨rfl, rfl⟩
end Go.Proofs.YtckdnhafookcgaaGreatDoor.Instr

namespace Go.Proofs.YtckdnhafookcgaaGreatDoor.Instr
open Go.RowKit Go.Shelf

theorem cell_new (W : World) (v : Value) (t : TypeId) : (W.alloc (.cells #[v] t)).cell? ⟨W.heap.size, 0, none⟩ = some v ∧ (W.alloc (.cells #[v] t)).frozen? ⟨W.heap.size, 0, none⟩ = false := by
  constructor <;> go_simp
theorem cell_alloc' {W : World} {a : Addr} {v : Value} (o : Obj) (h : W.cell? a = some v) : (W.alloc o).cell? a = some v := cell_kept h (World.grownBy_alloc W o none) (fun r e => by cases e)
end Go.Proofs.YtckdnhafookcgaaGreatDoor.Instr

namespace Go.Proofs.YtckdnhafookcgaaGreatDoor.Val
open Go.RowKit Go.Proofs.YtckdnhafookcgaaGreatDoor.Instr Go.Proofs.YtckdnhafookcgaaGreatDoor.Mod
open Go.Proofs.YtckdnhafookcgaaGreatDoor.Stk (Fr R pushR popR deadR enterR leaveR labelR newR StAt MadeP OwnF valid lastF)
set_option linter.unusedVariables false

theorem tagsS_step {k : Int} {z : List Int} {j : Nat} (hj : j < z.length) (b : Bool) (s : St) : tagsS k (z.drop j) b s = tagsS k (z.drop (j + 1)) (decide ((labelS z[j] s).1 = k) && b) (labelS z[j] s).2 := by
  rw [List.drop_eq_getElem_cons hj, tagsS]
set_option maxRecDepth 100000 in
set_option maxHeartbeats 4000000 in
theorem labels_m (g n₀ : Nat) (m : Md) (lo re : Int) (s : St) (ta : Option Addr) (tc : Nat) (tags : List Int) (last : Int) (w : World) (h : Ck g n₀ m lo re s w) (ht : TagsAt n₀ w ta tags) (hz : ∀ z ∈ tags, 0 ≤ z ∧ z < 4294967296) (hl : 0 ≤ last ∧ last < 4294967296) (hlen : tags.length ≤ 140737488351232) :
    Calls Tryz.prog 221 #[.pointer (some ⟨g, 0, none⟩), .slice ta tags.length tc, .int .u32 last] w (Done g n₀ m lo re w (tableS tags last s)) := by
  have HC := hid h
  have HZ := hid hz
  have HT := hid ht
  have C1 := hid (label_m g n₀ m lo re s last w h hl)
  obtain ⟨p, hp⟩ : ∃ p, labelS last s = p := ⟨_, rfl⟩
  have HE : Hid (tableS tags last s = if (tagsS p.1 tags true p.2).1 then (tagsS p.1 tags true p.2).2 else failS 214 (tagsS p.1 tags true p.2).2) := by show _ = _; rw [← hp]; rfl
  rw [hp] at C1
  obtain ⟨k0, s1⟩ := p
  simp only at C1 HE
  obtain ⟨len, hle⟩ : ∃ n, tags.length = n := ⟨_, rfl⟩
  have HLE := hid hle
  rw [hle] at hlen ⊢
  clear h hz ht hp hle hl
  go_enter Tryz.func221, Tryz.ntmps221
  go_wp2_with fail
  refine C1.out.mono ?_
  rintro e1 w1 ⟨rfl, hc1, hs1⟩
  have HC1 := hid hc1
  have HS1 := hid hs1
  clear C1 hc1 hs1
  go_wp2
  go_loopw [7, 15] (fun vb vi wr => ∃ (k : Nat) (b : Bool) (s' : St), vi = .int .i64 k ∧ k ≤ len ∧ vb = .bool b ∧ Hid (tagsS k0 tags true s1 = tagsS k0 (tags.drop k) b s') ∧ Hid (Ck g n₀ m lo re s' wr) ∧ Hid (Save g w wr)) (fun _ vi _ => len - (intOf vi).toNat)
  case atStart => exact ⟨0, true, s1, rfl, Nat.zero_le _, rfl, rfl, HC1, HS1⟩
  case round =>
    clear HC1 HS1
    obtain ⟨k, b, s', rfl, hk, rfl, HR, HK, HS⟩ := hrel
    by_cases hlt : k < len
    · have hkl : k < tags.length := by rw [HLE.out]; exact hlt
      have hki : (k : Int) < (len : Int) := by omega
      obtain ⟨z, hzz⟩ : ∃ z, tags[k] = z := ⟨_, rfl⟩
      have hb := HC.out.below HS.out
      have hta := HT.out.below hb
      have hzr := HZ.out tags[k] (List.getElem_mem hkl)
      have hstep := tagsS_step (k := k0) hkl b s'
      rw [hzz] at hzr hstep
      have hcell : ∃ bb off, ta = some ⟨bb, off, none⟩ ∧ wr.cell? ⟨bb, off + k, none⟩ = some (.int .u32 z) := by
        rcases hta with h0 | ⟨bb, off, ha, _, hc⟩
        · rw [h0] at hkl; simp at hkl
        · refine ⟨bb, off, ha, ?_⟩
          have := hc k hkl
          rw [show tags.getD k 0 = tags[k] by simp [hkl], hzz] at this
          exact this
      obtain ⟨bb, off, rfl, cz⟩ := hcell
      have C2 := hid (label_m g n₀ m lo re s' z wr HK.out hzr)
      obtain ⟨q, hq⟩ : ∃ q, labelS z s' = q := ⟨_, rfl⟩
      rw [hq] at C2 hstep
      obtain ⟨kz, s2⟩ := q
      simp only at C2 hstep
      have HST := hid (HR.out.trans hstep)
      clear hzz hb hta hzr hstep hq hkl
      by_cases hkk : kz = k0
      · subst hkk
        have e2 : Hid (∀ c : Bool, (decide (kz = kz) && c) = c) := fun c => by simp
        go_wp2_with fail
        refine C2.out.mono ?_
        rintro e2 w2 ⟨rfl, hc2, hs2⟩
        have HC2 := hid hc2
        have HS2 := hid (HS.out.trans hs2)
        clear C2 hc2 hs2 cz
        go_wp2
        go_roundw
        case rel => exact ⟨k + 1, b, s2, by go_num, by omega, rfl, hid (by rw [HST.out, e2.out]), HC2, HS2⟩
        case measure => simp [intOf]; omega
      · have e2 : Hid (∀ c : Bool, (decide (kz = k0) && c) = false) := fun c => by simp [hkk]
        have hkb : (kz == k0) = false := by simpa using hkk
        go_wp2_with fail
        refine C2.out.mono ?_
        rintro e2 w2 ⟨rfl, hc2, hs2⟩
        have HC2 := hid hc2
        have HS2 := hid (HS.out.trans hs2)
        clear C2 hc2 hs2 cz
        go_wp2
        go_roundw
        case rel => exact ⟨k + 1, false, s2, by go_num, by omega, rfl, hid (by rw [HST.out, e2.out]), HC2, HS2⟩
        case measure => simp [intOf]; omega
    · obtain rfl : len = k := by omega
      have hdr : tags.drop len = [] := by rw [← HLE.out]; simp
      have HF := hid (show tagsS k0 tags true s1 = (b, s') by rw [HR.out, hdr]; rfl)
      have HG1 := hid (show b = true → tableS tags last s = s' from fun hb => by rw [HE.out, HF.out, hb]; rfl)
      have HG0 := hid (show b = false → tableS tags last s = failS 214 s' from fun hb => by rw [HE.out, HF.out, hb]; rfl)
      clear hdr HR hk hlt HE HF
      cases b with
      | true =>
        have HG := hid (HG1.out rfl)
        clear HG1 HG0
        go_wp2
        go_end0
        refine ⟨rfl, ?_, HS.out⟩
        rw [HG.out]; exact HK.out
      | false =>
        have HG := hid (HG0.out rfl)
        clear HG1 HG0
        have C3 := hid (fail_m g n₀ m lo re s' 214 wr HK.out)
        go_wp2_with fail
        refine C3.out.mono ?_
        rintro e3 w3 ⟨rfl, hc3, hs3⟩
        have HC3 := hid hc3
        have HS3 := hid (HS.out.trans hs3)
        clear C3 hc3 hs3
        go_wp2
        go_end0
        refine ⟨rfl, ?_, HS3.out⟩
        rw [HG.out]; exact HC3.out
end Go.Proofs.YtckdnhafookcgaaGreatDoor.Val

namespace Go.Proofs.YtckdnhafookcgaaGreatDoor
open Go.RowKit

/-- A row of one's own, all of it: what the block holds. -/
theorem OwnK.heap {e : TypeId} {k : IntKind} {base n g : Nat} {w : World} {L : List Int} (h : OwnK e k base w (.slice (some ⟨g, 0, none⟩) n n) L) (hn : L.length = n) : base ≤ g ∧ w.heap[g]? = some (.cells (L.map (Value.int k)).toArray e (0, 0)) := by
  subst hn
  rcases h.2 with ⟨h', _⟩ | ⟨g', cap, cur, hv, hb, hh, hnc, _, hcs, ht⟩
  · cases h'
  · simp only [Value.slice.injEq, Option.some.injEq, Addr.mk.injEq, and_true, true_and] at hv
    obtain ⟨rfl, rfl⟩ := hv
    refine ⟨hb, ?_⟩
    rw [List.take_of_length_le (by simp; omega)] at ht
    rw [hh, ← ht]
theorem OwnK.of_heap {e : TypeId} {k : IntKind} {base n g : Nat} {w : World} {L : List Int} (hb : base ≤ g) (hh : w.heap[g]? = some (.cells (L.map (Value.int k)).toArray e (0, 0))) (hn : L.length = n) (hl : n ≤ 140737488355328) :
    OwnK e k base w (.slice (some ⟨g, 0, none⟩) n n) L := by
  subst hn
  exact ⟨by simp, .inr ⟨g, L.length, (L.map (Value.int k)).toArray, rfl, hb, hh, Nat.le_refl _, by unfold maxLen; omega, by simp, by rw [List.take_of_length_le (by simp)]⟩⟩

/-- make([]T, n). -/
theorem make_zeros {e ts : TypeId} {k : IntKind} {nb : Nat} (inf : (Tryz.prog.info? e).map (fun i => (i.zero, i.size, i.bytes)) = some (some (.int k 0), 1, nb)) (ut : Tryz.prog.underlying ts = some (.slice e)) (w : World) (n : Nat)
    (hl : nb * n ≤ 281474976710656) (hc : n ≤ 140737488355328) :
    ∃ w', (∀ x : Int, x = n → (Instr.makeSlice ts (.int .i64 x) (.int .i64 x)).run Tryz.prog w = .ok (.slice (some ⟨w.heap.size, 0, none⟩) n n) w') ∧ w'.heap[w.heap.size]? = some (.cells ((List.replicate n (0 : Int)).map (Value.int k)).toArray e (0, 0)) ∧ Below w.heap.size w w' := by
  obtain ⟨i0, hi, hz0, hz1, hz2⟩ := info_parts inf
  obtain ⟨w', h1, h2, h3⟩ := run_make_full w w.heap.size ts e i0 (.int k 0) 1 ut hi hz0 hz1 .i64 .i64 n (by rw [hz2]; exact hl) (by unfold maxLen; omega) (Nat.le_refl _)
  refine ⟨w', fun x hx => by rw [hx]; exact h1, ?_, (Below.refl _ _).grown h3 (Nat.le_refl _) (fun k h => by cases h)⟩
  have hcells : (Value.int k 0).cells = #[Value.int k 0] := rfl
  rw [hcells, toList_madeCells_one] at h2
  have h4 : OwnK e k w.heap.size w' (.slice (some ⟨w.heap.size, 0, none⟩) n n) (List.replicate n 0) := by
    unfold OwnK
    simpa using h2
  exact (h4.heap (by simp)).2

/-- Each cell of a block. -/
theorem nums_of_heap {e : TypeId} {k : IntKind} {g : Nat} {w : World} {L : List Int} (hh : w.heap[g]? = some (.cells (L.map (Value.int k)).toArray e (0, 0))) : ∀ i, i < L.length → w.cell? ⟨g, 0 + i, none⟩ = some (.int k (L.getD i 0)) := by
  intro i hi
  simp [World.cell?, hh, hi]
theorem set_heap {e : TypeId} {k : IntKind} {g : Nat} {w : World} {L : List Int} (hh : w.heap[g]? = some (.cells (L.map (Value.int k)).toArray e (0, 0))) (j : Nat) (z : Int) :
    (w.setCell ⟨g, j, none⟩ (.int k z)).heap[g]? = some (.cells ((L.set j z).map (Value.int k)).toArray e (0, 0)) := by
  rw [heap_setCell_same w g j _ e _ hh]
  simp [List.map_set]
theorem frozen_heap {e : TypeId} {k : IntKind} {g : Nat} {w : World} {L : List Int} (hh : w.heap[g]? = some (.cells (L.map (Value.int k)).toArray e (0, 0))) (j : Nat) : w.frozen? ⟨g, j, none⟩ = false := frozen_of_row w g j _ e hh

section
variable {ops : Array Oper} {rest : List Oper} {o : Oper} {act : Act} {Q : Exit → Act → World → Prop}
end
end Go.Proofs.YtckdnhafookcgaaGreatDoor
