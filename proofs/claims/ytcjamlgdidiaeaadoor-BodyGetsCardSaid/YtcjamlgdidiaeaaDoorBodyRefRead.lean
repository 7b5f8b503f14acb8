import Derived.Test.YtcjamlgdidiaeaaDoorBodyRefRd
import Derived.Test.YtcjamlgdidiaeaaDoorBodyRefName
import Derived.Test.YtcjamlgdidiaeaaDoorBodyIns
import Derived.Test.YtcjamlgdidiaeaaDoorBodyPush
import Derived.Test.YtcjamlgdidiaeaaDoorBodyGet
/-
  BODY: the document's own reading of an instruction that has no lists, by contract. (tools/gen_bodyrefi.py)
-/
namespace Go.Proofs.YtcjamlgdidiaeaaDoor.Body
set_option linter.unusedVariables false
open Go.RowKit Go.Proofs.YtcjamlgdidiaeaaDoor.Instr
open Go.Proofs.YtcjamlgdidiaeaaDoor.Kind (Rd numR refuseR startR numR_good numR_bounds refuseR_good getL_next)

theorem RcIs.belowB {B : Nat} {w w' : World} {k : Nat} {v : Value} {s : Rd} {n : Int} (h : RcIs w k v s n) (hb : Below B w w') (hk : k < B) : RcIs w' k v s n :=
  ⟨h.toRdIs.belowB hb hk, (hb.cell hk).trans h.c4, (hb.frozen hk).trans h.f4⟩
theorem Bx.belowB {B : Nat} {w w' : World} {g : Nat} {x : Ix} (h : Bx g x w) (hb : Below B w w') (hg : g < B) : Bx g x w' :=
  ⟨⟨(hb.cell hg).trans h.at_.c0, (hb.cell hg).trans h.at_.c1, (hb.cell hg).trans h.at_.c2, (hb.cell hg).trans h.at_.c3, (hb.cell hg).trans h.at_.c4, (hb.cell hg).trans h.at_.c5, (hb.cell hg).trans h.at_.c6, (hb.cell hg).trans h.at_.c7⟩,
    (hb.frozen hg).trans h.f0, (hb.frozen hg).trans h.f1, (hb.frozen hg).trans h.f2, (hb.frozen hg).trans h.f3, (hb.frozen hg).trans h.f4, (hb.frozen hg).trans h.f5, (hb.frozen hg).trans h.f6, (hb.frozen hg).trans h.f7⟩
theorem Bx.setB {g : Nat} {x : Ix} {w : World} (h : Bx g x w) (n : Int) : Bx g ⟨x.op, x.res, x.a, n, x.n, x.tags, x.ta, x.tc, x.la, x.ln, x.lc, x.ea, x.en, x.ec⟩ (w.setCell ⟨g, 3, none⟩ (.int .u32 n)) := by
  obtain ⟨⟨c0, c1, c2, c3, c4, c5, c6, c7⟩, f0, f1, f2, f3, f4, f5, f6, f7⟩ := h
  refine ⟨⟨?_, ?_, ?_, ?_, ?_, ?_, ?_, ?_⟩, ?_, ?_, ?_, ?_, ?_, ?_, ?_, ?_⟩ <;> simp [go_sem, *]
theorem Bx.setN {g : Nat} {x : Ix} {w : World} (h : Bx g x w) (n : Int) : Bx g ⟨x.op, x.res, x.a, x.b, n, x.tags, x.ta, x.tc, x.la, x.ln, x.lc, x.ea, x.en, x.ec⟩ (w.setCell ⟨g, 4, none⟩ (.int .i32 n)) := by
  obtain ⟨⟨c0, c1, c2, c3, c4, c5, c6, c7⟩, f0, f1, f2, f3, f4, f5, f6, f7⟩ := h
  refine ⟨⟨?_, ?_, ?_, ?_, ?_, ?_, ?_, ?_⟩, ?_, ?_, ?_, ?_, ?_, ?_, ?_, ?_⟩ <;> simp [go_sem, *]

theorem below_put (W : World) (b o : Nat) (u : Value) : Below b W (W.setCell ⟨b, o, none⟩ u) := (Below.refl b W).setCell (p := ⟨b, o, none⟩) (Nat.le_refl _) u
/-- While an instruction is read: the reader, the result's block, the instruction's block behind it. -/
structure Mid (w : World) (k : Nat) (v : Value) (n : Int) (s : Rd) (x : Ix) (W : World) : Prop where
  r : RcIs W k v s n
  sv : Save k w W
  res : Bx w.heap.size zeroX W
  box : Bx (w.heap.size + 1) x W
  lt : k < w.heap.size
section
variable {w W W' : World} {k : Nat} {v : Value} {n : Int} {s s' : Rd} {x : Ix}
theorem Mid.start (h : RcIs w k v s n) (op : Int) : Mid w k v n s (plainX op 0 0 0 0 []) ((w.alloc (.cells #[.int .i64 0, .int .i64 0, .int .u32 0, .int .u32 0, .int .i32 0, .slice none 0 0, .slice none 0 0, .slice none 0 0] 52)).alloc (.cells #[.int .i64 op, .int .i64 0, .int .u32 0, .int .u32 0, .int .i32 0, .slice none 0 0, .slice none 0 0, .slice none 0 0] 52)) :=
  have hb : Below w.heap.size w ((w.alloc (.cells #[.int .i64 0, .int .i64 0, .int .u32 0, .int .u32 0, .int .i32 0, .slice none 0 0, .slice none 0 0, .slice none 0 0] 52)).alloc (.cells #[.int .i64 op, .int .i64 0, .int .u32 0, .int .u32 0, .int .i32 0, .slice none 0 0, .slice none 0 0, .slice none 0 0] 52)) := thenA (thenA (Below.refl _ _) _) _
  ⟨h.below hb, Save.of_below hb, (ins_start op w).1, (ins_start op w).2, World.block_lt_of_cell? w _ h.c0⟩
theorem Mid.call {n' : Int} (M : Mid w k v n s x W) (h : RcIs W' k v s' n') (hs : Save k W W') : Mid w k v n' s' x W' := ⟨h, M.sv.trans hs, M.res.save hs (by have := M.lt; omega), M.box.save hs (by have := M.lt; omega), M.lt⟩
theorem Mid.set {x' : Ix} (M : Mid w k v n s x W) (hB : Below (w.heap.size + 1) W W') (hbox : Bx (w.heap.size + 1) x' W') : Mid w k v n s x' W' :=
  ⟨M.r.belowB hB (by have := M.lt; omega), save_under M.sv (hB.mono (Nat.le_succ _)), M.res.belowB hB (Nat.lt_succ_self _), hbox, M.lt⟩
theorem Mid.setA (M : Mid w k v n s x W) (a : Int) : Mid w k v n s ⟨x.op, x.res, a, x.b, x.n, x.tags, x.ta, x.tc, x.la, x.ln, x.lc, x.ea, x.en, x.ec⟩ (W.setCell ⟨w.heap.size + 1, 2, none⟩ (.int .u32 a)) := M.set (below_put W _ _ _) (M.box.setA a)
theorem Mid.setB (M : Mid w k v n s x W) (a : Int) : Mid w k v n s ⟨x.op, x.res, x.a, a, x.n, x.tags, x.ta, x.tc, x.la, x.ln, x.lc, x.ea, x.en, x.ec⟩ (W.setCell ⟨w.heap.size + 1, 3, none⟩ (.int .u32 a)) := M.set (below_put W _ _ _) (M.box.setB a)
theorem Mid.setN (M : Mid w k v n s x W) (a : Int) : Mid w k v n s ⟨x.op, x.res, x.a, x.b, a, x.tags, x.ta, x.tc, x.la, x.ln, x.lc, x.ea, x.en, x.ec⟩ (W.setCell ⟨w.heap.size + 1, 4, none⟩ (.int .i32 a)) := M.set (below_put W _ _ _) (M.box.setN a)
theorem Mid.setT (M : Mid w k v n s x W) (l : List Int) (ta : Option Addr) (tc : Nat) : Mid w k v n s ⟨x.op, x.res, x.a, x.b, x.n, l, ta, tc, x.la, x.ln, x.lc, x.ea, x.en, x.ec⟩ (W.setCell ⟨w.heap.size + 1, 5, none⟩ (.slice ta l.length tc)) := M.set (below_put W _ _ _) (M.box.setT l ta tc)
end
/-- An instruction is written into the result's block. -/
def fin (w : World) (g : Nat) (x : Ix) : World :=
  (((((((w.setCell ⟨g, 0, none⟩ (.int .i64 x.op)).setCell ⟨g, 1, none⟩ (.int .i64 x.res)).setCell ⟨g, 2, none⟩ (.int .u32 x.a)).setCell ⟨g, 3, none⟩ (.int .u32 x.b)).setCell ⟨g, 4, none⟩ (.int .i32 x.n)).setCell ⟨g, 5, none⟩ (.slice x.ta x.tags.length x.tc)).setCell ⟨g, 6, none⟩ (.slice x.la x.ln x.lc)).setCell ⟨g, 7, none⟩ (.slice x.ea x.en x.ec)
theorem fin_below (w : World) (g : Nat) (x : Ix) {B : Nat} (hB : B ≤ g) : Below B w (fin w g x) := by
  unfold fin
  repeat' (refine Below.setCell ?_ (by exact hB) _)
  exact Below.refl _ _
theorem Mid.fin {w W : World} {k : Nat} {v : Value} {n : Int} {s : Rd} {x : Ix} (M : Mid w k v n s x W) : RcIs (fin W w.heap.size x) k v s n ∧ Save k w (fin W w.heap.size x) :=
  ⟨M.r.belowB (fin_below W w.heap.size x (Nat.le_refl _)) M.lt, save_under M.sv (fin_below W w.heap.size x (Nat.le_refl _))⟩
theorem own_fin {e : TypeId} {kd : IntKind} {base : Nat} {w : World} {v : Value} {zs : List Int} (h : OwnK e kd base w v zs) {g : Nat} (hg : g < base) (x : Ix) : OwnK e kd base (Body.fin w g x) v zs := by
  unfold Body.fin
  repeat' (refine OwnK.setCell ?_ (by exact hg) _)
  exact h
/-- An instruction without its lists, its labels in memory of their own. -/
def DocIx (k : Nat) (v : Value) (w : World) (n : Int) (x : Ix) (s : Rd) (e : Ending) (w' : World) : Prop :=
  ∃ ta tc, e = .returned (.agg (inTags x ta tc).vals) ∧ OwnK 49 .u32 w.heap.size w' (.slice ta x.tags.length tc) x.tags ∧ RcIs w' k v s n ∧ Save k w w'

set_option maxHeartbeats 3200000 in
theorem doc0 (k : Nat) (av : Option Addr) (len cap : Nat) (zs : List Int) (s : Rd) (n op d : Int) (w : World) (h : RcIs w k (.slice av len cap) s n) (hg : Kind.Good zs s) (hlen : zs.length = len) (hz : Bytes w av zs) (ha : ∀ b off, av = some ⟨b, off, none⟩ → zs ≠ [] → b ≠ k)
    (hk : kindP op = 0) :
    Calls Tryd.prog 62 #[.pointer (some ⟨k, 0, none⟩), .int .i64 op, .int .i64 d] w (DocIx k (.slice av len cap) w n (restR zs op s).x (restR zs op s).s) := by
  rw [restR0 hk]
  have hop : ¬ (op = 2 ∨ op = 3 ∨ op = 4) ∧ ¬ op = 17 ∧ ¬ (op = 12 ∨ op = 13 ∨ op = 16 ∨ (32 ≤ op ∧ op ≤ 36)) ∧ ¬ op = 14 ∧ ¬ (op = 40 ∨ op = 54 ∨ op = 46 ∨ op = 47 ∨ op = 59 ∨ op = 44 ∨ op = 45 ∨ op = 58) ∧ ¬ op = 63 ∧ ¬ op = 64 ∧ ¬ op = 65 := by
    unfold kindP at hk
    (repeat' split at hk) <;> omega
  clear hk
  have n17 : ¬ op = 17 := by omega
  have n14 : ¬ op = 14 := by omega
  have n63 : ¬ op = 63 := by omega
  have n64 : ¬ op = 64 := by omega
  have n65 : ¬ op = 65 := by omega
  have m63 : (op == 63) = false := by simp; omega
  have m64 : (op == 64) = false := by simp; omega
  have FA := hid (fun W => refAlign_any op W)
  have FL := hid (fun W => refLists_any op W)
  have FW := hid (fun W => refWhich_any op W)
  rw [show listsP op = false by unfold listsP; simp; omega] at FL
  rw [show whichP op = false by unfold whichP; simp; omega] at FW
  rw [show storedP op = false by unfold storedP; simp; omega] at FA
  obtain ⟨al, hal⟩ : ∃ al, alignP op = al := ⟨_, rfl⟩
  rw [hal] at FA
  clear hal
  have M0 := hid (Mid.start h op)
  clear h hg hlen hz ha hop
  go_enter Tryd.func62, Tryd.ntmps62
  go_wp2_with fail
  refine (FA.out _).mono ?_
  rintro e w' ⟨rfl, rfl⟩
  generalize ((w.alloc (.cells #[.int .i64 0, .int .i64 0, .int .u32 0, .int .u32 0, .int .i32 0, .slice none 0 0, .slice none 0 0, .slice none 0 0] 52)).alloc (.cells #[.int .i64 op, .int .i64 0, .int .u32 0, .int .u32 0, .int .i32 0, .slice none 0 0, .slice none 0 0, .slice none 0 0] 52)) = w0 at *
  go_wp2_with fail
  refine (FL.out _).mono ?_
  rintro e w' ⟨rfl, rfl⟩
  go_wp2_with fail
  refine (FW.out _).mono ?_
  rintro e w' ⟨rfl, rfl⟩
  clear FA FL FW
  obtain ⟨⟨x0, x1, x2, x3, x4, x5, x6, x7⟩, f0, f1, f2, f3, f4, f5, f6, f7⟩ := M0.out.res
  obtain ⟨⟨y0, y1, y2, y3, y4, y5, y6, y7⟩, e0, e1, e2, e3, e4, e5, e6, e7⟩ := M0.out.box
  simp only [zeroX, plainX] at x0 x1 x2 x3 x4 x5 x6 x7 y0 y1 y2 y3 y4 y5 y6 y7
  go_wp2
  refine bodyPost_ret (v := .agg #[.int .i64 op, .int .i64 0, .int .u32 0, .int .u32 0, .int .i32 0, .slice none 0 0, .slice none 0 0, .slice none 0 0]) (by simp [results, Tryd.results62, go_sem, x0, x1, x2, x3, x4, x5, x6, x7]) rfl ?_
  exact ⟨none, 0, rfl, ⟨rfl, .inl ⟨rfl, rfl⟩⟩, (M0.out).fin⟩

set_option maxHeartbeats 3200000 in
theorem doc2 (k : Nat) (av : Option Addr) (len cap : Nat) (zs : List Int) (s : Rd) (n op d : Int) (w : World) (h : RcIs w k (.slice av len cap) s n) (hg : Kind.Good zs s) (hlen : zs.length = len) (hz : Bytes w av zs) (ha : ∀ b off, av = some ⟨b, off, none⟩ → zs ≠ [] → b ≠ k)
    (hk : kindP op = 2) :
    Calls Tryd.prog 62 #[.pointer (some ⟨k, 0, none⟩), .int .i64 op, .int .i64 d] w (DocIx k (.slice av len cap) w n (restR zs op s).x (restR zs op s).s) := by
  rw [restR2 hk]
  have hop : op = 12 ∨ op = 13 ∨ op = 16 ∨ op = 32 ∨ op = 33 ∨ op = 34 ∨ op = 35 ∨ op = 36 := by
    unfold kindP at hk
    (repeat' split at hk) <;> omega
  clear hk
  have n17 : ¬ op = 17 := by omega
  have FA := hid (fun W => refAlign_any op W)
  have FL := hid (fun W => refLists_any op W)
  have FW := hid (fun W => refWhich_any op W)
  rw [show listsP op = false by unfold listsP; simp; omega] at FL
  rw [show whichP op = true by unfold whichP; simp; omega] at FW
  rw [show storedP op = false by unfold storedP; simp; omega] at FA
  obtain ⟨al, hal⟩ : ∃ al, alignP op = al := ⟨_, rfl⟩
  rw [hal] at FA
  clear hal
  have M0 := hid (Mid.start h op)
  have G0 := hid (hg)
  have C1 := hid (fun W (hr : RcIs W k (.slice av len cap) s n) (hs : Save k w W) => numberC_any k av len cap zs s n W hr G0.out hlen (hz.save hs ha))
  have G1' := numR_good G0.out
  obtain ⟨n1, hn1⟩ : ∃ m, (numR zs s).1 = m := ⟨_, rfl⟩
  obtain ⟨s1, hs1⟩ : ∃ t, (numR zs s).2 = t := ⟨_, rfl⟩
  rw [hn1, hs1] at C1
  rw [hs1]
  rw [hn1]
  rw [hs1] at G1'
  clear hs1 hn1
  clear h hg hlen hz ha hop G1'
  go_enter Tryd.func62, Tryd.ntmps62
  go_wp2_with fail
  refine (FA.out _).mono ?_
  rintro e w' ⟨rfl, rfl⟩
  generalize ((w.alloc (.cells #[.int .i64 0, .int .i64 0, .int .u32 0, .int .u32 0, .int .i32 0, .slice none 0 0, .slice none 0 0, .slice none 0 0] 52)).alloc (.cells #[.int .i64 op, .int .i64 0, .int .u32 0, .int .u32 0, .int .i32 0, .slice none 0 0, .slice none 0 0, .slice none 0 0] 52)) = w0 at *
  go_wp2_with fail
  refine (FL.out _).mono ?_
  rintro e w' ⟨rfl, rfl⟩
  go_wp2_with fail
  refine (FW.out _).mono ?_
  rintro e w' ⟨rfl, rfl⟩
  clear FA FL FW
  go_wp2_with fail
  refine (C1.out _ (M0.out).r (M0.out).sv).mono ?_
  clear C1
  rintro e w1 ⟨rfl, h1, sv1⟩
  have M1 := hid ((M0.out).call h1 sv1)
  clear h1 sv1 M0
  obtain ⟨⟨x0, x1, x2, x3, x4, x5, x6, x7⟩, f0, f1, f2, f3, f4, f5, f6, f7⟩ := M1.out.res
  obtain ⟨⟨y0, y1, y2, y3, y4, y5, y6, y7⟩, e0, e1, e2, e3, e4, e5, e6, e7⟩ := M1.out.box
  simp only [zeroX, plainX] at x0 x1 x2 x3 x4 x5 x6 x7 y0 y1 y2 y3 y4 y5 y6 y7
  go_wp2
  refine bodyPost_ret (v := .agg #[.int .i64 op, .int .i64 0, .int .u32 n1, .int .u32 0, .int .i32 0, .slice none 0 0, .slice none 0 0, .slice none 0 0]) (by simp [results, Tryd.results62, go_sem, x0, x1, x2, x3, x4, x5, x6, x7]) rfl ?_
  exact ⟨none, 0, rfl, ⟨rfl, .inl ⟨rfl, rfl⟩⟩, (M1.out.setA n1).fin⟩

set_option maxHeartbeats 3200000 in
theorem doc3 (k : Nat) (av : Option Addr) (len cap : Nat) (zs : List Int) (s : Rd) (n op d : Int) (w : World) (h : RcIs w k (.slice av len cap) s n) (hg : Kind.Good zs s) (hlen : zs.length = len) (hz : Bytes w av zs) (ha : ∀ b off, av = some ⟨b, off, none⟩ → zs ≠ [] → b ≠ k)
    (hk : kindP op = 3) :
    Calls Tryd.prog 62 #[.pointer (some ⟨k, 0, none⟩), .int .i64 op, .int .i64 d] w (DocIx k (.slice av len cap) w n (restR zs op s).x (restR zs op s).s) := by
  rw [restR3 hk]
  have hop : op = 17 := by
    unfold kindP at hk
    (repeat' split at hk) <;> omega
  clear hk
  subst hop
  have FA := hid (fun W => refAlign_any (17) W)
  have FL := hid (fun W => refLists_any 17 W)
  have FW := hid (fun W => refWhich_any 17 W)
  rw [show listsP 17 = false by decide] at FL
  rw [show storedP 17 = false by decide] at FA
  obtain ⟨al, hal⟩ : ∃ al, alignP 17 = al := ⟨_, rfl⟩
  rw [hal] at FA
  clear hal
  have M0 := hid (Mid.start h 17)
  have G0 := hid (hg)
  have C1 := hid (fun W (hr : RcIs W k (.slice av len cap) s n) (hs : Save k w W) => numberC_any k av len cap zs s n W hr G0.out hlen (hz.save hs ha))
  have G1' := numR_good G0.out
  obtain ⟨n1, hn1⟩ : ∃ m, (numR zs s).1 = m := ⟨_, rfl⟩
  obtain ⟨s1, hs1⟩ : ∃ t, (numR zs s).2 = t := ⟨_, rfl⟩
  rw [hn1, hs1] at C1
  rw [hs1]
  rw [hn1]
  rw [hs1] at G1'
  clear hs1 hn1
  have G1 := hid (G1')
  have C2 := hid (fun W (hr : RcIs W k (.slice av len cap) s1 n) (hs : Save k w W) => is_any k av len cap zs s1 n 0 W hr G1.out hlen (hz.save hs ha) (ok := isNone) (fun x => rfl))
  have G2' := tagR_good (ok := isNone) G1.out
  obtain ⟨s2, hs2⟩ : ∃ t, (tagR zs isNone s1).2 = t := ⟨_, rfl⟩
  rw [hs2] at C2
  rw [hs2]
  rw [hs2] at G2'
  clear hs2
  clear h hg hlen hz ha G1' G2'
  go_enter Tryd.func62, Tryd.ntmps62
  go_wp2_with fail
  refine (FA.out _).mono ?_
  rintro e w' ⟨rfl, rfl⟩
  generalize ((w.alloc (.cells #[.int .i64 0, .int .i64 0, .int .u32 0, .int .u32 0, .int .i32 0, .slice none 0 0, .slice none 0 0, .slice none 0 0] 52)).alloc (.cells #[.int .i64 17, .int .i64 0, .int .u32 0, .int .u32 0, .int .i32 0, .slice none 0 0, .slice none 0 0, .slice none 0 0] 52)) = w0 at *
  go_wp2_with fail
  refine (FL.out _).mono ?_
  rintro e w' ⟨rfl, rfl⟩
  clear FA FL FW
  go_wp2_with fail
  refine (C1.out _ (M0.out).r (M0.out).sv).mono ?_
  clear C1
  rintro e w1 ⟨rfl, h1, sv1⟩
  have M1 := hid ((M0.out).call h1 sv1)
  clear h1 sv1 M0
  have y1_c := M1.out.box.at_.c2
  have y1_f := M1.out.box.f2
  go_wp2_with fail
  refine (C2.out _ (M1.out.setA n1).r (M1.out.setA n1).sv).mono ?_
  clear C2
  rintro e w2 ⟨rfl, h2, sv2⟩
  have M2 := hid ((M1.out.setA n1).call h2 sv2)
  clear h2 sv2 M1
  obtain ⟨⟨x0, x1, x2, x3, x4, x5, x6, x7⟩, f0, f1, f2, f3, f4, f5, f6, f7⟩ := M2.out.res
  obtain ⟨⟨y0, y1, y2, y3, y4, y5, y6, y7⟩, e0, e1, e2, e3, e4, e5, e6, e7⟩ := M2.out.box
  simp only [zeroX, plainX] at x0 x1 x2 x3 x4 x5 x6 x7 y0 y1 y2 y3 y4 y5 y6 y7
  go_wp2
  refine bodyPost_ret (v := .agg #[.int .i64 17, .int .i64 0, .int .u32 n1, .int .u32 0, .int .i32 0, .slice none 0 0, .slice none 0 0, .slice none 0 0]) (by simp [results, Tryd.results62, go_sem, x0, x1, x2, x3, x4, x5, x6, x7]) rfl ?_
  exact ⟨none, 0, rfl, ⟨rfl, .inl ⟨rfl, rfl⟩⟩, (M2.out).fin⟩

set_option maxHeartbeats 3200000 in
theorem doc5 (k : Nat) (av : Option Addr) (len cap : Nat) (zs : List Int) (s : Rd) (n op d : Int) (w : World) (h : RcIs w k (.slice av len cap) s n) (hg : Kind.Good zs s) (hlen : zs.length = len) (hz : Bytes w av zs) (ha : ∀ b off, av = some ⟨b, off, none⟩ → zs ≠ [] → b ≠ k)
    (hk : kindP op = 5) :
    Calls Tryd.prog 62 #[.pointer (some ⟨k, 0, none⟩), .int .i64 op, .int .i64 d] w (DocIx k (.slice av len cap) w n (restR zs op s).x (restR zs op s).s) := by
  rw [restR5 hk]
  have hop : op = 40 ∨ op = 44 ∨ op = 45 ∨ op = 46 ∨ op = 47 ∨ op = 54 ∨ op = 58 ∨ op = 59 := by
    unfold kindP at hk
    (repeat' split at hk) <;> omega
  clear hk
  have n17 : ¬ op = 17 := by omega
  have n14 : ¬ op = 14 := by omega
  have FA := hid (fun W => refAlign_any op W)
  have FL := hid (fun W => refLists_any op W)
  have FW := hid (fun W => refWhich_any op W)
  rw [show listsP op = false by unfold listsP; simp; omega] at FL
  rw [show whichP op = false by unfold whichP; simp; omega] at FW
  rw [show storedP op = true by unfold storedP; simp; omega] at FA
  obtain ⟨al, hal⟩ : ∃ al, alignP op = al := ⟨_, rfl⟩
  rw [hal] at FA
  clear hal
  have M0 := hid (Mid.start h op)
  have G0 := hid (hg)
  have C1 := hid (fun W (hr : RcIs W k (.slice av len cap) s n) (hs : Save k w W) => numberC_any k av len cap zs s n W hr G0.out hlen (hz.save hs ha))
  have G1' := numR_good G0.out
  obtain ⟨n1, hn1⟩ : ∃ m, (numR zs s).1 = m := ⟨_, rfl⟩
  obtain ⟨s1, hs1⟩ : ∃ t, (numR zs s).2 = t := ⟨_, rfl⟩
  rw [hn1, hs1] at C1
  rw [hs1]
  rw [hn1]
  rw [hs1] at G1'
  clear hs1 hn1
  have G1 := hid (G1')
  have C2 := hid (fun W (hr : RcIs W k (.slice av len cap) s1 n) (hs : Save k w W) => numberC_any k av len cap zs s1 n W hr G1.out hlen (hz.save hs ha))
  have G2' := numR_good G1.out
  obtain ⟨n2, hn2⟩ : ∃ m, (numR zs s1).1 = m := ⟨_, rfl⟩
  obtain ⟨s2, hs2⟩ : ∃ t, (numR zs s1).2 = t := ⟨_, rfl⟩
  rw [hn2, hs2] at C2
  rw [hs2]
  rw [hn2]
  rw [hs2] at G2'
  clear hs2 hn2
  clear h hg hlen hz ha hop G1' G2'
  go_enter Tryd.func62, Tryd.ntmps62
  go_wp2_with fail
  refine (FA.out _).mono ?_
  rintro e w' ⟨rfl, rfl⟩
  generalize ((w.alloc (.cells #[.int .i64 0, .int .i64 0, .int .u32 0, .int .u32 0, .int .i32 0, .slice none 0 0, .slice none 0 0, .slice none 0 0] 52)).alloc (.cells #[.int .i64 op, .int .i64 0, .int .u32 0, .int .u32 0, .int .i32 0, .slice none 0 0, .slice none 0 0, .slice none 0 0] 52)) = w0 at *
  go_wp2_with fail
  refine (FL.out _).mono ?_
  rintro e w' ⟨rfl, rfl⟩
  go_wp2_with fail
  refine (FW.out _).mono ?_
  rintro e w' ⟨rfl, rfl⟩
  clear FA FL FW
  go_wp2_with fail
  refine (C1.out _ (M0.out).r (M0.out).sv).mono ?_
  clear C1
  rintro e w1 ⟨rfl, h1, sv1⟩
  have M1 := hid ((M0.out).call h1 sv1)
  clear h1 sv1 M0
  have y1_c := M1.out.box.at_.c2
  have y1_f := M1.out.box.f2
  go_wp2_with fail
  refine (C2.out _ (M1.out.setA n1).r (M1.out.setA n1).sv).mono ?_
  clear C2
  rintro e w2 ⟨rfl, h2, sv2⟩
  have M2 := hid ((M1.out.setA n1).call h2 sv2)
  clear h2 sv2 M1
  obtain ⟨⟨x0, x1, x2, x3, x4, x5, x6, x7⟩, f0, f1, f2, f3, f4, f5, f6, f7⟩ := M2.out.res
  obtain ⟨⟨y0, y1, y2, y3, y4, y5, y6, y7⟩, e0, e1, e2, e3, e4, e5, e6, e7⟩ := M2.out.box
  simp only [zeroX, plainX] at x0 x1 x2 x3 x4 x5 x6 x7 y0 y1 y2 y3 y4 y5 y6 y7
  go_wp2
  refine bodyPost_ret (v := .agg #[.int .i64 op, .int .i64 0, .int .u32 n1, .int .u32 n2, .int .i32 0, .slice none 0 0, .slice none 0 0, .slice none 0 0]) (by simp [results, Tryd.results62, go_sem, x0, x1, x2, x3, x4, x5, x6, x7]) rfl ?_
  exact ⟨none, 0, rfl, ⟨rfl, .inl ⟨rfl, rfl⟩⟩, (M2.out.setB n2).fin⟩

set_option maxHeartbeats 3200000 in
theorem doc6 (k : Nat) (av : Option Addr) (len cap : Nat) (zs : List Int) (s : Rd) (n op d : Int) (w : World) (h : RcIs w k (.slice av len cap) s n) (hg : Kind.Good zs s) (hlen : zs.length = len) (hz : Bytes w av zs) (ha : ∀ b off, av = some ⟨b, off, none⟩ → zs ≠ [] → b ≠ k)
    (hk : kindP op = 6) :
    Calls Tryd.prog 62 #[.pointer (some ⟨k, 0, none⟩), .int .i64 op, .int .i64 d] w (DocIx k (.slice av len cap) w n (restR zs op s).x (restR zs op s).s) := by
  rw [restR6 hk]
  have hop : op = 63 ∨ op = 64 := by
    unfold kindP at hk
    (repeat' split at hk) <;> omega
  clear hk
  rcases hop with rfl | rfl
  · have FA := hid (fun W => refAlign_any (63) W)
    have FL := hid (fun W => refLists_any 63 W)
    have FW := hid (fun W => refWhich_any 63 W)
    rw [show listsP 63 = false by decide] at FL
    rw [show whichP 63 = false by decide] at FW
    rw [show storedP 63 = false by decide] at FA
    obtain ⟨al, hal⟩ : ∃ al, alignP 63 = al := ⟨_, rfl⟩
    rw [hal] at FA
    clear hal
    have M0 := hid (Mid.start h 63)
    have G0 := hid (hg)
    have C1 := hid (fun W (hr : RcIs W k (.slice av len cap) s n) (hs : Save k w W) => is_any k av len cap zs s n 0 W hr G0.out hlen (hz.save hs ha) (ok := isNone) (fun x => rfl))
    have G1' := tagR_good (ok := isNone) G0.out
    obtain ⟨s1, hs1⟩ : ∃ t, (tagR zs isNone s).2 = t := ⟨_, rfl⟩
    rw [hs1] at C1
    rw [hs1]
    rw [hs1] at G1'
    clear hs1
    clear h hg hlen hz ha G1'
    go_enter Tryd.func62, Tryd.ntmps62
    go_wp2_with fail
    refine (FA.out _).mono ?_
    rintro e w' ⟨rfl, rfl⟩
    generalize ((w.alloc (.cells #[.int .i64 0, .int .i64 0, .int .u32 0, .int .u32 0, .int .i32 0, .slice none 0 0, .slice none 0 0, .slice none 0 0] 52)).alloc (.cells #[.int .i64 63, .int .i64 0, .int .u32 0, .int .u32 0, .int .i32 0, .slice none 0 0, .slice none 0 0, .slice none 0 0] 52)) = w0 at *
    go_wp2_with fail
    refine (FL.out _).mono ?_
    rintro e w' ⟨rfl, rfl⟩
    go_wp2_with fail
    refine (FW.out _).mono ?_
    rintro e w' ⟨rfl, rfl⟩
    clear FA FL FW
    go_wp2_with fail
    refine (C1.out _ (M0.out).r (M0.out).sv).mono ?_
    clear C1
    rintro e w1 ⟨rfl, h1, sv1⟩
    have M1 := hid ((M0.out).call h1 sv1)
    clear h1 sv1 M0
    obtain ⟨⟨x0, x1, x2, x3, x4, x5, x6, x7⟩, f0, f1, f2, f3, f4, f5, f6, f7⟩ := M1.out.res
    obtain ⟨⟨y0, y1, y2, y3, y4, y5, y6, y7⟩, e0, e1, e2, e3, e4, e5, e6, e7⟩ := M1.out.box
    simp only [zeroX, plainX] at x0 x1 x2 x3 x4 x5 x6 x7 y0 y1 y2 y3 y4 y5 y6 y7
    go_wp2
    refine bodyPost_ret (v := .agg #[.int .i64 63, .int .i64 0, .int .u32 0, .int .u32 0, .int .i32 0, .slice none 0 0, .slice none 0 0, .slice none 0 0]) (by simp [results, Tryd.results62, go_sem, x0, x1, x2, x3, x4, x5, x6, x7]) rfl ?_
    exact ⟨none, 0, rfl, ⟨rfl, .inl ⟨rfl, rfl⟩⟩, (M1.out).fin⟩
  · have FA := hid (fun W => refAlign_any (64) W)
    have FL := hid (fun W => refLists_any 64 W)
    have FW := hid (fun W => refWhich_any 64 W)
    rw [show listsP 64 = false by decide] at FL
    rw [show whichP 64 = false by decide] at FW
    rw [show storedP 64 = false by decide] at FA
    obtain ⟨al, hal⟩ : ∃ al, alignP 64 = al := ⟨_, rfl⟩
    rw [hal] at FA
    clear hal
    have M0 := hid (Mid.start h 64)
    have G0 := hid (hg)
    have C1 := hid (fun W (hr : RcIs W k (.slice av len cap) s n) (hs : Save k w W) => is_any k av len cap zs s n 0 W hr G0.out hlen (hz.save hs ha) (ok := isNone) (fun x => rfl))
    have G1' := tagR_good (ok := isNone) G0.out
    obtain ⟨s1, hs1⟩ : ∃ t, (tagR zs isNone s).2 = t := ⟨_, rfl⟩
    rw [hs1] at C1
    rw [hs1]
    rw [hs1] at G1'
    clear hs1
    clear h hg hlen hz ha G1'
    go_enter Tryd.func62, Tryd.ntmps62
    go_wp2_with fail
    refine (FA.out _).mono ?_
    rintro e w' ⟨rfl, rfl⟩
    generalize ((w.alloc (.cells #[.int .i64 0, .int .i64 0, .int .u32 0, .int .u32 0, .int .i32 0, .slice none 0 0, .slice none 0 0, .slice none 0 0] 52)).alloc (.cells #[.int .i64 64, .int .i64 0, .int .u32 0, .int .u32 0, .int .i32 0, .slice none 0 0, .slice none 0 0, .slice none 0 0] 52)) = w0 at *
    go_wp2_with fail
    refine (FL.out _).mono ?_
    rintro e w' ⟨rfl, rfl⟩
    go_wp2_with fail
    refine (FW.out _).mono ?_
    rintro e w' ⟨rfl, rfl⟩
    clear FA FL FW
    go_wp2_with fail
    refine (C1.out _ (M0.out).r (M0.out).sv).mono ?_
    clear C1
    rintro e w1 ⟨rfl, h1, sv1⟩
    have M1 := hid ((M0.out).call h1 sv1)
    clear h1 sv1 M0
    obtain ⟨⟨x0, x1, x2, x3, x4, x5, x6, x7⟩, f0, f1, f2, f3, f4, f5, f6, f7⟩ := M1.out.res
    obtain ⟨⟨y0, y1, y2, y3, y4, y5, y6, y7⟩, e0, e1, e2, e3, e4, e5, e6, e7⟩ := M1.out.box
    simp only [zeroX, plainX] at x0 x1 x2 x3 x4 x5 x6 x7 y0 y1 y2 y3 y4 y5 y6 y7
    go_wp2
    refine bodyPost_ret (v := .agg #[.int .i64 64, .int .i64 0, .int .u32 0, .int .u32 0, .int .i32 0, .slice none 0 0, .slice none 0 0, .slice none 0 0]) (by simp [results, Tryd.results62, go_sem, x0, x1, x2, x3, x4, x5, x6, x7]) rfl ?_
    exact ⟨none, 0, rfl, ⟨rfl, .inl ⟨rfl, rfl⟩⟩, (M1.out).fin⟩

set_option maxHeartbeats 3200000 in
theorem doc7 (k : Nat) (av : Option Addr) (len cap : Nat) (zs : List Int) (s : Rd) (n op d : Int) (w : World) (h : RcIs w k (.slice av len cap) s n) (hg : Kind.Good zs s) (hlen : zs.length = len) (hz : Bytes w av zs) (ha : ∀ b off, av = some ⟨b, off, none⟩ → zs ≠ [] → b ≠ k)
    (hk : kindP op = 7) :
    Calls Tryd.prog 62 #[.pointer (some ⟨k, 0, none⟩), .int .i64 op, .int .i64 d] w (DocIx k (.slice av len cap) w n (restR zs op s).x (restR zs op s).s) := by
  rw [restR7 hk]
  have hop : op = 65 := by
    unfold kindP at hk
    (repeat' split at hk) <;> omega
  clear hk
  subst hop
  have FA := hid (fun W => refAlign_any (65) W)
  have FL := hid (fun W => refLists_any 65 W)
  have FW := hid (fun W => refWhich_any 65 W)
  rw [show listsP 65 = false by decide] at FL
  rw [show whichP 65 = false by decide] at FW
  rw [show storedP 65 = false by decide] at FA
  obtain ⟨al, hal⟩ : ∃ al, alignP 65 = al := ⟨_, rfl⟩
  rw [hal] at FA
  clear hal
  have M0 := hid (Mid.start h 65)
  have G0 := hid (hg)
  have C1 := hid (fun W (hr : RcIs W k (.slice av len cap) s n) (hs : Save k w W) => signedC_any k av len cap zs s n W hr G0.out hlen (hz.save hs ha))
  have G1' := sgnR_good G0.out
  obtain ⟨n1, hn1⟩ : ∃ m, (sgnR zs s).1 = m := ⟨_, rfl⟩
  obtain ⟨s1, hs1⟩ : ∃ t, (sgnR zs s).2 = t := ⟨_, rfl⟩
  rw [hn1, hs1] at C1
  rw [hs1]
  rw [hn1]
  rw [hs1] at G1'
  clear hs1 hn1
  clear h hg hlen hz ha G1'
  go_enter Tryd.func62, Tryd.ntmps62
  go_wp2_with fail
  refine (FA.out _).mono ?_
  rintro e w' ⟨rfl, rfl⟩
  generalize ((w.alloc (.cells #[.int .i64 0, .int .i64 0, .int .u32 0, .int .u32 0, .int .i32 0, .slice none 0 0, .slice none 0 0, .slice none 0 0] 52)).alloc (.cells #[.int .i64 65, .int .i64 0, .int .u32 0, .int .u32 0, .int .i32 0, .slice none 0 0, .slice none 0 0, .slice none 0 0] 52)) = w0 at *
  go_wp2_with fail
  refine (FL.out _).mono ?_
  rintro e w' ⟨rfl, rfl⟩
  go_wp2_with fail
  refine (FW.out _).mono ?_
  rintro e w' ⟨rfl, rfl⟩
  clear FA FL FW
  go_wp2_with fail
  refine (C1.out _ (M0.out).r (M0.out).sv).mono ?_
  clear C1
  rintro e w1 ⟨rfl, h1, sv1⟩
  have M1 := hid ((M0.out).call h1 sv1)
  clear h1 sv1 M0
  obtain ⟨⟨x0, x1, x2, x3, x4, x5, x6, x7⟩, f0, f1, f2, f3, f4, f5, f6, f7⟩ := M1.out.res
  obtain ⟨⟨y0, y1, y2, y3, y4, y5, y6, y7⟩, e0, e1, e2, e3, e4, e5, e6, e7⟩ := M1.out.box
  simp only [zeroX, plainX] at x0 x1 x2 x3 x4 x5 x6 x7 y0 y1 y2 y3 y4 y5 y6 y7
  go_wp2
  refine bodyPost_ret (v := .agg #[.int .i64 65, .int .i64 0, .int .u32 0, .int .u32 0, .int .i32 n1, .slice none 0 0, .slice none 0 0, .slice none 0 0]) (by simp [results, Tryd.results62, go_sem, x0, x1, x2, x3, x4, x5, x6, x7]) rfl ?_
  exact ⟨none, 0, rfl, ⟨rfl, .inl ⟨rfl, rfl⟩⟩, (M1.out.setN n1).fin⟩
end Go.Proofs.YtcjamlgdidiaeaaDoor.Body

/-
  BODY: the document's own reading of an instruction with labels, by contract.
-/
namespace Go.Proofs.YtcjamlgdidiaeaaDoor.Body
set_option linter.unusedVariables false
open Go.RowKit Go.Proofs.YtcjamlgdidiaeaaDoor.Instr
open Go.Proofs.YtcjamlgdidiaeaaDoor.Kind (Rd numR refuseR startR numR_good numR_bounds refuseR_good getL_next)

theorem Mid.own_setT {w W : World} {zs l : List Int} {ta : Option Addr} {tc : Nat} {v : Value} (h : OwnK 49 .u32 (w.heap.size + 2) W v zs) : OwnK 49 .u32 (w.heap.size + 2) (W.setCell ⟨w.heap.size + 1, 5, none⟩ (.slice ta l.length tc)) v zs :=
  OwnK.setCell h (p := ⟨w.heap.size + 1, 5, none⟩) (by simp) _
theorem Mid.more {w W W' : World} {k : Nat} {v : Value} {n : Int} {s : Rd} {x : Ix} (M : Mid w k v n s x W) (hB : Below (w.heap.size + 2) W W') : Mid w k v n s x W' :=
  ⟨M.r.belowB hB (by have := M.lt; omega), save_under M.sv (hB.mono (by omega)), M.res.belowB hB (by omega), M.box.belowB hB (by omega), M.lt⟩
/-- The loop that reads labels: behind j of them. -/
structure TLoop (w : World) (k : Nat) (v : Value) (zs : List Int) (n : Int) (s : Rd) (j : Nat) (W : World) (ta : Option Addr) (tc : Nat) : Prop where
  mid : Mid w k v n (tagsR zs j s).2 ⟨14, 0, 0, 0, 0, (tagsR zs j s).1, ta, tc, none, 0, 0, none, 0, 0⟩ W
  own : OwnK 49 .u32 (w.heap.size + 2) W (.slice ta (tagsR zs j s).1.length tc) (tagsR zs j s).1
  size : w.heap.size + 2 ≤ W.heap.size

set_option maxRecDepth 100000 in
set_option maxHeartbeats 6400000 in
theorem doc4 (k : Nat) (av : Option Addr) (len cap : Nat) (zs : List Int) (s : Rd) (n op d : Int) (w : World) (h : RcIs w k (.slice av len cap) s n) (hg : Kind.Good zs s) (hlen : zs.length = len) (hz : Bytes w av zs) (ha : ∀ b off, av = some ⟨b, off, none⟩ → zs ≠ [] → b ≠ k)
    (hk : kindP op = 4) :
    Calls Tryd.prog 62 #[.pointer (some ⟨k, 0, none⟩), .int .i64 op, .int .i64 d] w (DocIx k (.slice av len cap) w n (restR zs op s).x (restR zs op s).s) := by
  rw [restR4 hk]
  have hop : op = 14 := by
    unfold kindP at hk
    (repeat' split at hk) <;> omega
  clear hk
  subst hop
  have FA := hid (fun W => refAlign_any (14) W)
  have FL := hid (fun W => refLists_any 14 W)
  have FW := hid (fun W => refWhich_any 14 W)
  rw [show listsP 14 = false by decide] at FL
  rw [show whichP 14 = false by decide] at FW
  rw [show storedP 14 = false by decide] at FA
  obtain ⟨al, hal⟩ : ∃ al, alignP 14 = al := ⟨_, rfl⟩
  rw [hal] at FA
  clear hal
  have M0 := hid (Mid.start h 14)
  have C0 := hid (fun W (hr : RcIs W k (.slice av len cap) s n) (hs : Save k w W) => numberC_any k av len cap zs s n W hr hg hlen (hz.save hs ha))
  obtain ⟨b0, b1⟩ := numR_bounds (s := s) hz.byte
  have hfew := labelsR_few (s := s) hz.byte
  have c1 := h.c1
  have hg1 := numR_good hg
  obtain ⟨p, hp⟩ : ∃ p, s.1 = p := ⟨_, rfl⟩
  rw [hp] at c1
  unfold labelsR at hfew ⊢
  rw [hp] at hfew ⊢
  obtain ⟨m, hm⟩ : ∃ m, (numR zs s).1 = m := ⟨_, rfl⟩
  obtain ⟨s1, hs1⟩ : ∃ s1, (numR zs s).2 = s1 := ⟨_, rfl⟩
  rw [hm] at b0 b1 hfew C0 ⊢
  rw [hs1] at hg1 hfew C0 ⊢
  obtain ⟨s2, hs2⟩ : ∃ s2, (if 16384 < m then refuseR s1 141 p else s1) = s2 := ⟨_, rfl⟩
  rw [hs2] at hfew ⊢
  have hg2 : Kind.Good zs s2 := by
    rw [← hs2]; split
    · exact refuseR_good (by decide) hg1
    · exact hg1
  have CN := hid (fun W t (hr : RcIs W k (.slice av len cap) t n) (hs : Save k w W) (hgt : Kind.Good zs t) => numberC_any k av len cap zs t n W hr hgt hlen (hz.save hs ha))
  have hm0 : s1.2.1 ≠ 0 → m = 0 := by
    intro hb
    rw [← hm]
    rw [← hs1] at hb
    unfold numR at hb ⊢
    split
    · rename_i h0
      rw [if_pos h0] at hb
      split
      · rename_i h1
        rw [if_pos h1] at hb
        exact absurd rfl hb
      · rfl
    · rfl
  obtain ⟨TT, hTT⟩ : ∃ TT, tagsR zs m.toNat s2 = TT := ⟨_, rfl⟩
  rw [hTT] at hfew ⊢
  have HTT := hid hTT
  have HF := hid hfew
  have HG2 := hid hg2
  have hm0 := hid hm0
  have HBB := hid hz.byte
  have HP := hid hp
  have HS2 := hid hs2
  clear h hg hg1 hg2 hlen hz ha hm hs1 hp hfew hTT hs2 c1
  go_enter Tryd.func62, Tryd.ntmps62
  go_wp2_with fail
  refine (FA.out _).mono ?_
  rintro e w' ⟨rfl, rfl⟩
  generalize ((w.alloc (.cells #[.int .i64 0, .int .i64 0, .int .u32 0, .int .u32 0, .int .i32 0, .slice none 0 0, .slice none 0 0, .slice none 0 0] 52)).alloc (.cells #[.int .i64 14, .int .i64 0, .int .u32 0, .int .u32 0, .int .i32 0, .slice none 0 0, .slice none 0 0, .slice none 0 0] 52)) = w0 at *
  go_wp2_with fail
  refine (FL.out _).mono ?_
  rintro e w' ⟨rfl, rfl⟩
  go_wp2_with fail
  refine (FW.out _).mono ?_
  rintro e w' ⟨rfl, rfl⟩
  clear FA FL FW
  have c1 : w0.cell? ⟨k, 1, none⟩ = some (.int .i64 p) := by rw [← HP.out]; exact M0.out.r.c1
  go_wp2_with fail
  refine (C0.out _ M0.out.r M0.out.sv).mono ?_
  clear C0 c1
  rintro e w1 ⟨rfl, h1, sv1⟩
  have M1 := hid (M0.out.call h1 sv1)
  have hsz1 : w.heap.size + 2 ≤ w1.heap.size := by
    have h2 := World.block_lt_of_cell? w1 _ M1.out.box.at_.c0
    simp only at h2
    omega
  clear h1 sv1 M0
  have hcase : (s1.2.1 ≠ 0 ∧ m = 0) ∨ (s1.2.1 = 0 ∧ 16384 < m) ∨ (s1.2.1 = 0 ∧ m ≤ 16384) := by
    by_cases h0 : s1.2.1 = 0
    · by_cases h3 : 16384 < m
      · exact .inr (.inl ⟨h0, h3⟩)
      · exact .inr (.inr ⟨h0, by omega⟩)
    · exact .inl ⟨h0, hm0.out h0⟩
  have hloop : ∃ W2, ∃ r : Prop, True := ⟨w1, True, trivial⟩
  clear hloop
  rcases hcase with ⟨hb1, rfl⟩ | ⟨hb1, hgt⟩ | ⟨hb1, hle⟩
  · have e2 : s1 = s2 := by rw [← HS2.out, if_neg (by omega)]
    subst e2
    have HB1 := hid hb1
    clear hb1 hm0 HS2
    go_wp2_with fail
    refine (bad_yes k _ _ n _ M1.out.r HB1.out).mono ?_
    rintro e w2 ⟨rfl, rfl⟩
    go_wp2
    go_loopw [12, 13] (fun vi vt W => ∃ (j : Nat) (ta : Option Addr) (tc : Nat), vi = .int .i64 j ∧ (j : Int) ≤ 0 ∧ TLoop w k (.slice av len cap) zs n s1 j W ta tc) (fun vi _ _ => (0 - intOf vi).toNat)
    case atStart => exact ⟨0, none, 0, rfl, by omega, ⟨M1.out, ⟨rfl, .inl ⟨rfl, rfl⟩⟩, hsz1⟩⟩
    case round =>
      clear M1 hsz1
      obtain ⟨j, ta, tc, rfl, hj, hT⟩ := hrel
      obtain ⟨hM, ho, hsz⟩ := hT
      have hgj := tagsR_good (zs := zs) j HG2.out
      have hsn := tagsR_snoc (zs := zs) j s1
      have hst := fun h => tagsR_stop (zs := zs) (s := s1) (0 : Int).toNat j (by omega) h
      have htl := tagsR_len (zs := zs) j s1
      obtain ⟨tg, htg⟩ : ∃ tg, (tagsR zs j s1).1 = tg := ⟨_, rfl⟩
      obtain ⟨sj, hsj⟩ : ∃ sj, (tagsR zs j s1).2 = sj := ⟨_, rfl⟩
      have heq : tagsR zs j s1 = (tg, sj) := Prod.ext htg hsj
      rw [htg] at ho hsn htl hM
      rw [hsj] at hM hgj hsn
      rw [heq] at hst
      dsimp only at hst
      have HM := hid hM
      have HO := hid ho
      have HE := hid heq
      have HGJ := hid hgj
      clear htg hsj heq hM ho hgj
      by_cases hlt : (j : Int) < 0
      · exact absurd hlt (by omega)
      · have hTE : TT = (tg, sj) := by
          rw [← HTT.out, ← HE.out]
          first | rfl | (congr 1; omega)
        clear hst hsn htl HTT HE
        have HTE := hid hTE
        clear hTE
        go_wp2_with fail
        refine (CN.out _ _ HM.out.r HM.out.sv HGJ.out).mono ?_
        clear CN
        rintro e4 w4 ⟨rfl, h4, sv4⟩
        have M4 := hid (HM.out.call h4 sv4)
        have O4 := hid (ownK_save HO.out sv4 (by have := HM.out.lt; omega))
        clear h4 sv4 HM HO
        obtain ⟨n4, hn4⟩ : ∃ t, (numR zs sj).1 = t := ⟨_, rfl⟩
        rw [hn4]
        have HN4 := hid hn4
        clear hn4
        obtain ⟨⟨x0, x1, x2, x3, x4, x5, x6, x7⟩, f0, f1, f2, f3, f4, f5, f6, f7⟩ := M4.out.res
        obtain ⟨⟨y0, y1, y2, y3, y4, y5, y6, y7⟩, e0, e1, e2, e3, e4, e5, e6, e7⟩ := M4.out.box
        simp only [zeroX, plainX] at x0 x1 x2 x3 x4 x5 x6 x7 y0 y1 y2 y3 y4 y5 y6 y7
        go_wp2
        refine bodyPost_ret (v := .agg #[.int .i64 14, .int .i64 0, .int .u32 n4, .int .u32 0, .int .i32 0, .slice ta tg.length tc, .slice none 0 0, .slice none 0 0]) (by simp [results, Tryd.results62, go_sem, x0, x1, x2, x3, x4, x5, x6, x7]) rfl ?_
        rw [HTE.out, HN4.out]
        exact ⟨ta, tc, rfl, (own_fin (OwnK.setCell O4.out (p := ⟨w.heap.size + 1, 2, none⟩) (by simp) (.int .u32 n4)) (by omega) ⟨14, 0, n4, 0, 0, tg, ta, tc, none, 0, 0, none, 0, 0⟩).mono (by omega), (M4.out.setA n4).fin⟩
  · have HB1 := hid hb1
    have HGT := hid hgt
    clear hb1 hm0
    go_wp2_with fail
    refine (bad_no k _ _ n _ M1.out.r HB1.out).mono ?_
    rintro e w2 ⟨rfl, rfl⟩
    go_wp2_with fail
    refine (fault_any k _ _ n 141 p _ M1.out.r).mono ?_
    rintro e w2 ⟨rfl, h2, sv2⟩
    have e2 : refuseR s1 141 p = s2 := by rw [← HS2.out, if_pos HGT.out]
    rw [e2] at h2
    have M1 := hid (M1.out.call h2 sv2)
    have hsz1 : w.heap.size + 2 ≤ w2.heap.size := Nat.le_trans hsz1 sv2.size
    clear e2 h2 sv2 HS2
    go_wp2
    go_loopw [12, 13] (fun vi vt W => ∃ (j : Nat) (ta : Option Addr) (tc : Nat), vi = .int .i64 j ∧ (j : Int) ≤ m ∧ TLoop w k (.slice av len cap) zs n s2 j W ta tc) (fun vi _ _ => (m - intOf vi).toNat)
    case atStart => exact ⟨0, none, 0, rfl, by omega, ⟨M1.out, ⟨rfl, .inl ⟨rfl, rfl⟩⟩, hsz1⟩⟩
    case round =>
      clear M1 hsz1
      obtain ⟨j, ta, tc, rfl, hj, hT⟩ := hrel
      obtain ⟨hM, ho, hsz⟩ := hT
      have hgj := tagsR_good (zs := zs) j HG2.out
      have hsn := tagsR_snoc (zs := zs) j s2
      have hst := fun h => tagsR_stop (zs := zs) (s := s2) (m : Int).toNat j (by omega) h
      have htl := tagsR_len (zs := zs) j s2
      obtain ⟨tg, htg⟩ : ∃ tg, (tagsR zs j s2).1 = tg := ⟨_, rfl⟩
      obtain ⟨sj, hsj⟩ : ∃ sj, (tagsR zs j s2).2 = sj := ⟨_, rfl⟩
      have heq : tagsR zs j s2 = (tg, sj) := Prod.ext htg hsj
      rw [htg] at ho hsn htl hM
      rw [hsj] at hM hgj hsn
      rw [heq] at hst
      dsimp only at hst
      have HM := hid hM
      have HO := hid ho
      have HE := hid heq
      have HGJ := hid hgj
      clear htg hsj heq hM ho hgj
      by_cases hlt : (j : Int) < m
      · by_cases hb : sj.2.1 = 0
        · rw [if_pos hb, if_pos hb] at hsn
          have FB := hid (bad_no k _ sj n _ HM.out.r hb)
          have UN := hid (CN.out _ _ HM.out.r HM.out.sv HGJ.out)
          obtain ⟨x, hx⟩ : ∃ x, (numR zs sj).1 = x := ⟨_, rfl⟩
          obtain ⟨s3, hs3⟩ : ∃ s3, (numR zs sj).2 = s3 := ⟨_, rfl⟩
          rw [hx, hs3] at hsn UN
          have HSN := hid hsn
          clear hsn hst hx hs3 hb HE
          go_wp2_with fail
          refine FB.out.mono ?_
          clear FB
          rintro e3 w3 ⟨rfl, rfl⟩
          go_wp2_with fail
          refine UN.out.mono ?_
          clear UN
          rintro e4 w4 ⟨rfl, h4, sv4⟩
          have M4 := hid (HM.out.call h4 sv4)
          have O4 := hid (ownK_save HO.out sv4 (by have := HM.out.lt; omega))
          have hs5 : w.heap.size + 2 ≤ w4.heap.size := Nat.le_trans hsz sv4.size
          have hb0 : Below (w.heap.size + 2) w4 w4 := Below.refl _ _
          have T1 := hid (show (tg.length + 1) * 4 ≤ 140737488355328 by omega)
          have T2 := hid (show tg.length ≤ 140737488351232 by omega)
          have yc5 := M4.out.box.at_.c5
          dsimp only at yc5
          clear h4 sv4 HM HO htl
          go_wp2_with (first
            | (at_builtin; refine append_num infoU32 Tryd.underlying50 rfl (.tmp 75) (.tmp 77) rfl x rfl O4.out hb0 hs5 rfl T1.out T2.out ?_; intro v6 w6 ho6 hb6 hs6 _; obtain ⟨a6, c6, rfl⟩ := ho6.sliceN (n := tg.length + 1) (by simp); have M6 := hid (M4.out.more hb6); have O6 := hid ho6; have yd5 := M6.out.box.at_.c5; have yf5 := M6.out.box.f5; clear yc5 ho6 hb6; dsimp only at yd5; refine Hid.out ?_))
          refine hid ?_
          go_wp2
          go_roundw
          case rel =>
            have M7 := M6.out.setT (tg ++ [x]) a6 c6
            have O7 := Mid.own_setT (l := tg ++ [x]) (ta := a6) (tc := c6) O6.out
            have hl : (tg ++ [x]).length = tg.length + 1 := by simp
            rw [hl] at M7 O7
            refine ⟨j + 1, a6, c6, by go_num, by omega, ⟨?_, ?_, ?_⟩⟩
            · rw [HSN.out.1, HSN.out.2]; exact M7
            · rw [HSN.out.1, hl]; exact O7
            · simpa using hs6
          case measure => simp [intOf]; omega
        · have FB := hid (bad_yes k _ sj n _ HM.out.r hb)
          have hTE : TT = (tg, sj) := by rw [← HTT.out]; exact hst hb
          clear hst hsn hb htl HTT HE
          go_wp2_with fail
          refine FB.out.mono ?_
          clear FB
          rintro e3 w3 ⟨rfl, rfl⟩
          have HTE := hid hTE
          clear hTE
          go_wp2_with fail
          refine (CN.out _ _ HM.out.r HM.out.sv HGJ.out).mono ?_
          clear CN
          rintro e4 w4 ⟨rfl, h4, sv4⟩
          have M4 := hid (HM.out.call h4 sv4)
          have O4 := hid (ownK_save HO.out sv4 (by have := HM.out.lt; omega))
          clear h4 sv4 HM HO
          obtain ⟨n4, hn4⟩ : ∃ t, (numR zs sj).1 = t := ⟨_, rfl⟩
          rw [hn4]
          have HN4 := hid hn4
          clear hn4
          obtain ⟨⟨x0, x1, x2, x3, x4, x5, x6, x7⟩, f0, f1, f2, f3, f4, f5, f6, f7⟩ := M4.out.res
          obtain ⟨⟨y0, y1, y2, y3, y4, y5, y6, y7⟩, e0, e1, e2, e3, e4, e5, e6, e7⟩ := M4.out.box
          simp only [zeroX, plainX] at x0 x1 x2 x3 x4 x5 x6 x7 y0 y1 y2 y3 y4 y5 y6 y7
          go_wp2
          refine bodyPost_ret (v := .agg #[.int .i64 14, .int .i64 0, .int .u32 n4, .int .u32 0, .int .i32 0, .slice ta tg.length tc, .slice none 0 0, .slice none 0 0]) (by simp [results, Tryd.results62, go_sem, x0, x1, x2, x3, x4, x5, x6, x7]) rfl ?_
          rw [HTE.out, HN4.out]
          exact ⟨ta, tc, rfl, (own_fin (OwnK.setCell O4.out (p := ⟨w.heap.size + 1, 2, none⟩) (by simp) (.int .u32 n4)) (by omega) ⟨14, 0, n4, 0, 0, tg, ta, tc, none, 0, 0, none, 0, 0⟩).mono (by omega), (M4.out.setA n4).fin⟩
      · have hTE : TT = (tg, sj) := by
          rw [← HTT.out, ← HE.out]
          first | rfl | (congr 1; omega)
        clear hst hsn htl HTT HE
        have HTE := hid hTE
        clear hTE
        go_wp2_with fail
        refine (CN.out _ _ HM.out.r HM.out.sv HGJ.out).mono ?_
        clear CN
        rintro e4 w4 ⟨rfl, h4, sv4⟩
        have M4 := hid (HM.out.call h4 sv4)
        have O4 := hid (ownK_save HO.out sv4 (by have := HM.out.lt; omega))
        clear h4 sv4 HM HO
        obtain ⟨n4, hn4⟩ : ∃ t, (numR zs sj).1 = t := ⟨_, rfl⟩
        rw [hn4]
        have HN4 := hid hn4
        clear hn4
        obtain ⟨⟨x0, x1, x2, x3, x4, x5, x6, x7⟩, f0, f1, f2, f3, f4, f5, f6, f7⟩ := M4.out.res
        obtain ⟨⟨y0, y1, y2, y3, y4, y5, y6, y7⟩, e0, e1, e2, e3, e4, e5, e6, e7⟩ := M4.out.box
        simp only [zeroX, plainX] at x0 x1 x2 x3 x4 x5 x6 x7 y0 y1 y2 y3 y4 y5 y6 y7
        go_wp2
        refine bodyPost_ret (v := .agg #[.int .i64 14, .int .i64 0, .int .u32 n4, .int .u32 0, .int .i32 0, .slice ta tg.length tc, .slice none 0 0, .slice none 0 0]) (by simp [results, Tryd.results62, go_sem, x0, x1, x2, x3, x4, x5, x6, x7]) rfl ?_
        rw [HTE.out, HN4.out]
        exact ⟨ta, tc, rfl, (own_fin (OwnK.setCell O4.out (p := ⟨w.heap.size + 1, 2, none⟩) (by simp) (.int .u32 n4)) (by omega) ⟨14, 0, n4, 0, 0, tg, ta, tc, none, 0, 0, none, 0, 0⟩).mono (by omega), (M4.out.setA n4).fin⟩
  · have e2 : s1 = s2 := by rw [← HS2.out, if_neg (by omega)]
    subst e2
    have HB1 := hid hb1
    clear hb1 hm0 HS2
    go_wp2_with fail
    refine (bad_no k _ _ n _ M1.out.r HB1.out).mono ?_
    rintro e w2 ⟨rfl, rfl⟩
    go_wp2
    go_loopw [12, 13] (fun vi vt W => ∃ (j : Nat) (ta : Option Addr) (tc : Nat), vi = .int .i64 j ∧ (j : Int) ≤ m ∧ TLoop w k (.slice av len cap) zs n s1 j W ta tc) (fun vi _ _ => (m - intOf vi).toNat)
    case atStart => exact ⟨0, none, 0, rfl, by omega, ⟨M1.out, ⟨rfl, .inl ⟨rfl, rfl⟩⟩, hsz1⟩⟩
    case round =>
      clear M1 hsz1
      obtain ⟨j, ta, tc, rfl, hj, hT⟩ := hrel
      obtain ⟨hM, ho, hsz⟩ := hT
      have hgj := tagsR_good (zs := zs) j HG2.out
      have hsn := tagsR_snoc (zs := zs) j s1
      have hst := fun h => tagsR_stop (zs := zs) (s := s1) (m : Int).toNat j (by omega) h
      have htl := tagsR_len (zs := zs) j s1
      obtain ⟨tg, htg⟩ : ∃ tg, (tagsR zs j s1).1 = tg := ⟨_, rfl⟩
      obtain ⟨sj, hsj⟩ : ∃ sj, (tagsR zs j s1).2 = sj := ⟨_, rfl⟩
      have heq : tagsR zs j s1 = (tg, sj) := Prod.ext htg hsj
      rw [htg] at ho hsn htl hM
      rw [hsj] at hM hgj hsn
      rw [heq] at hst
      dsimp only at hst
      have HM := hid hM
      have HO := hid ho
      have HE := hid heq
      have HGJ := hid hgj
      clear htg hsj heq hM ho hgj
      by_cases hlt : (j : Int) < m
      · by_cases hb : sj.2.1 = 0
        · rw [if_pos hb, if_pos hb] at hsn
          have FB := hid (bad_no k _ sj n _ HM.out.r hb)
          have UN := hid (CN.out _ _ HM.out.r HM.out.sv HGJ.out)
          obtain ⟨x, hx⟩ : ∃ x, (numR zs sj).1 = x := ⟨_, rfl⟩
          obtain ⟨s3, hs3⟩ : ∃ s3, (numR zs sj).2 = s3 := ⟨_, rfl⟩
          rw [hx, hs3] at hsn UN
          have HSN := hid hsn
          clear hsn hst hx hs3 hb HE
          go_wp2_with fail
          refine FB.out.mono ?_
          clear FB
          rintro e3 w3 ⟨rfl, rfl⟩
          go_wp2_with fail
          refine UN.out.mono ?_
          clear UN
          rintro e4 w4 ⟨rfl, h4, sv4⟩
          have M4 := hid (HM.out.call h4 sv4)
          have O4 := hid (ownK_save HO.out sv4 (by have := HM.out.lt; omega))
          have hs5 : w.heap.size + 2 ≤ w4.heap.size := Nat.le_trans hsz sv4.size
          have hb0 : Below (w.heap.size + 2) w4 w4 := Below.refl _ _
          have T1 := hid (show (tg.length + 1) * 4 ≤ 140737488355328 by omega)
          have T2 := hid (show tg.length ≤ 140737488351232 by omega)
          have yc5 := M4.out.box.at_.c5
          dsimp only at yc5
          clear h4 sv4 HM HO htl
          go_wp2_with (first
            | (at_builtin; refine append_num infoU32 Tryd.underlying50 rfl (.tmp 75) (.tmp 77) rfl x rfl O4.out hb0 hs5 rfl T1.out T2.out ?_; intro v6 w6 ho6 hb6 hs6 _; obtain ⟨a6, c6, rfl⟩ := ho6.sliceN (n := tg.length + 1) (by simp); have M6 := hid (M4.out.more hb6); have O6 := hid ho6; have yd5 := M6.out.box.at_.c5; have yf5 := M6.out.box.f5; clear yc5 ho6 hb6; dsimp only at yd5; refine Hid.out ?_))
          refine hid ?_
          go_wp2
          go_roundw
          case rel =>
            have M7 := M6.out.setT (tg ++ [x]) a6 c6
            have O7 := Mid.own_setT (l := tg ++ [x]) (ta := a6) (tc := c6) O6.out
            have hl : (tg ++ [x]).length = tg.length + 1 := by simp
            rw [hl] at M7 O7
            refine ⟨j + 1, a6, c6, by go_num, by omega, ⟨?_, ?_, ?_⟩⟩
            · rw [HSN.out.1, HSN.out.2]; exact M7
            · rw [HSN.out.1, hl]; exact O7
            · simpa using hs6
          case measure => simp [intOf]; omega
        · have FB := hid (bad_yes k _ sj n _ HM.out.r hb)
          have hTE : TT = (tg, sj) := by rw [← HTT.out]; exact hst hb
          clear hst hsn hb htl HTT HE
          go_wp2_with fail
          refine FB.out.mono ?_
          clear FB
          rintro e3 w3 ⟨rfl, rfl⟩
          have HTE := hid hTE
          clear hTE
          go_wp2_with fail
          refine (CN.out _ _ HM.out.r HM.out.sv HGJ.out).mono ?_
          clear CN
          rintro e4 w4 ⟨rfl, h4, sv4⟩
          have M4 := hid (HM.out.call h4 sv4)
          have O4 := hid (ownK_save HO.out sv4 (by have := HM.out.lt; omega))
          clear h4 sv4 HM HO
          obtain ⟨n4, hn4⟩ : ∃ t, (numR zs sj).1 = t := ⟨_, rfl⟩
          rw [hn4]
          have HN4 := hid hn4
          clear hn4
          obtain ⟨⟨x0, x1, x2, x3, x4, x5, x6, x7⟩, f0, f1, f2, f3, f4, f5, f6, f7⟩ := M4.out.res
          obtain ⟨⟨y0, y1, y2, y3, y4, y5, y6, y7⟩, e0, e1, e2, e3, e4, e5, e6, e7⟩ := M4.out.box
          simp only [zeroX, plainX] at x0 x1 x2 x3 x4 x5 x6 x7 y0 y1 y2 y3 y4 y5 y6 y7
          go_wp2
          refine bodyPost_ret (v := .agg #[.int .i64 14, .int .i64 0, .int .u32 n4, .int .u32 0, .int .i32 0, .slice ta tg.length tc, .slice none 0 0, .slice none 0 0]) (by simp [results, Tryd.results62, go_sem, x0, x1, x2, x3, x4, x5, x6, x7]) rfl ?_
          rw [HTE.out, HN4.out]
          exact ⟨ta, tc, rfl, (own_fin (OwnK.setCell O4.out (p := ⟨w.heap.size + 1, 2, none⟩) (by simp) (.int .u32 n4)) (by omega) ⟨14, 0, n4, 0, 0, tg, ta, tc, none, 0, 0, none, 0, 0⟩).mono (by omega), (M4.out.setA n4).fin⟩
      · have hTE : TT = (tg, sj) := by
          rw [← HTT.out, ← HE.out]
          first | rfl | (congr 1; omega)
        clear hst hsn htl HTT HE
        have HTE := hid hTE
        clear hTE
        go_wp2_with fail
        refine (CN.out _ _ HM.out.r HM.out.sv HGJ.out).mono ?_
        clear CN
        rintro e4 w4 ⟨rfl, h4, sv4⟩
        have M4 := hid (HM.out.call h4 sv4)
        have O4 := hid (ownK_save HO.out sv4 (by have := HM.out.lt; omega))
        clear h4 sv4 HM HO
        obtain ⟨n4, hn4⟩ : ∃ t, (numR zs sj).1 = t := ⟨_, rfl⟩
        rw [hn4]
        have HN4 := hid hn4
        clear hn4
        obtain ⟨⟨x0, x1, x2, x3, x4, x5, x6, x7⟩, f0, f1, f2, f3, f4, f5, f6, f7⟩ := M4.out.res
        obtain ⟨⟨y0, y1, y2, y3, y4, y5, y6, y7⟩, e0, e1, e2, e3, e4, e5, e6, e7⟩ := M4.out.box
        simp only [zeroX, plainX] at x0 x1 x2 x3 x4 x5 x6 x7 y0 y1 y2 y3 y4 y5 y6 y7
        go_wp2
        refine bodyPost_ret (v := .agg #[.int .i64 14, .int .i64 0, .int .u32 n4, .int .u32 0, .int .i32 0, .slice ta tg.length tc, .slice none 0 0, .slice none 0 0]) (by simp [results, Tryd.results62, go_sem, x0, x1, x2, x3, x4, x5, x6, x7]) rfl ?_
        rw [HTE.out, HN4.out]
        exact ⟨ta, tc, rfl, (own_fin (OwnK.setCell O4.out (p := ⟨w.heap.size + 1, 2, none⟩) (by simp) (.int .u32 n4)) (by omega) ⟨14, 0, n4, 0, 0, tg, ta, tc, none, 0, 0, none, 0, 0⟩).mono (by omega), (M4.out.setA n4).fin⟩
end Go.Proofs.YtcjamlgdidiaeaaDoor.Body

/-
  BODY: the document's own reading of lists: what a list, and an instruction with lists, give; the list that is read so far (plain, and in memory).
-/
namespace Go.Proofs.YtcjamlgdidiaeaaDoor.Body
set_option linter.unusedVariables false
open Go.RowKit Go.Proofs.YtcjamlgdidiaeaaDoor.Instr
open Go.Proofs.YtcjamlgdidiaeaaDoor.Kind (Rd numR refuseR startR numR_good numR_bounds refuseR_good getL_next)

/-- A list that the document's own reader gives. -/
def DocL (k : Nat) (v : Value) (w : World) (r : Lr) (e : Ending) (w' : World) : Prop :=
  ∃ (a : Option Addr) (l c : Nat) (q : Int), e = .returned (.tuple #[.slice a l c, .int .u8 q]) ∧ RcIs w' k v r.s r.n ∧ Save k w w' ∧ (r.s.2.1 = 0 → ∃ t : Il, q = r.q ∧ t.bare = r.t ∧ ListAt w'.heap.size w' a l t ∧ (∀ b ∈ blkOf l a ++ t.foot, w.heap.size ≤ b) ∧ l ≤ 262144)
/-- An instruction with its lists. -/
def DocO (k : Nat) (v : Value) (w : World) (o : Or) (e : Ending) (w' : World) : Prop :=
  ∃ (y : Ix) (l f : Il), e = .returned (.agg y.vals) ∧ RcIs w' k v o.s o.n ∧ Save k w w' ∧ (o.s.2.1 = 0 → (Il.cons y l f .nil).kids w' ∧ (∀ q ∈ (Il.cons y l f .nil).foot, w.heap.size ≤ q) ∧ (Il.cons y l f .nil).bare = .cons o.x o.l o.e .nil)

/-- How many there have been. -/
def Cnt (rec : Nat → Bool → Int → Rd → Lr) : Prop := ∀ d o c s, c ≤ 262144 → c ≤ (rec d o c s).n ∧ (rec d o c s).n ≤ 262144
theorem oneG_cnt {zs : List Int} {rec : Nat → Bool → Int → Rd → Lr} (hr : Cnt rec) (op : Int) (d : Nat) (c : Int) (s : Rd) (h : c ≤ 262144) : c ≤ (oneG zs rec op d c s).n ∧ (oneG zs rec op d c s).n ≤ 262144 := by
  unfold oneG
  have h1 := hr (d + 1) (decide (op = 4)) c (restR zs op s).s h
  split
  · split
    · have h2 := hr (d + 1) false (rec (d + 1) (decide (op = 4)) c (restR zs op s).s).n (rec (d + 1) (decide (op = 4)) c (restR zs op s).s).s h1.2
      exact ⟨Int.le_trans h1.1 h2.1, h2.2⟩
    · exact h1
  · exact ⟨Int.le_refl _, h⟩
theorem stepG_cnt {zs : List Int} {rec : Nat → Bool → Int → Rd → Lr} (hr : Cnt rec) : Cnt (stepG zs rec) := by
  intro d o c s h
  unfold stepG
  split
  · exact ⟨Int.le_refl _, h⟩
  · rename_i h0
    split
    · exact ⟨Int.le_refl _, h⟩
    · rename_i h1
      have hn := opR_name (by omega : (opR zs o d c s).2.2.1 = 0) (fun e => h1 (.inl e)) (fun e => h1 (.inr e))
      have ho := oneG_cnt (zs := zs) hr (opR zs o d c s).1 d (c + 1) (opR zs o d c s).2 (by omega)
      have h2 := hr d o (oneG zs rec (opR zs o d c s).1 d (c + 1) (opR zs o d c s).2).n (oneG zs rec (opR zs o d c s).1 d (c + 1) (opR zs o d c s).2).s ho.2
      exact ⟨by have := ho.1; have := h2.1; dsimp only; omega, h2.2⟩
theorem listG_cnt (zs : List Int) : ∀ m, Cnt (listG zs m)
  | 0 => fun _ _ _ _ h => ⟨Int.le_refl _, h⟩
  | m + 1 => stepG_cnt (listG_cnt zs m)
theorem listF_cnt (zs : List Int) : Cnt (listF zs) := listG_cnt zs _

theorem pre_pre (t u : Il) (r : Lr) : Lr.pre t (Lr.pre u r) = Lr.pre (t.app u) r := by simp only [Lr.pre, app_assoc]
theorem pre_nil (r : Lr) : Lr.pre .nil r = r := rfl
/-- One step of reading, an instruction. -/
theorem listF_more {zs : List Int} {d : Nat} {o : Bool} {c : Int} {s : Rd} (hg : Kind.Good zs s) {y : Int} {s1 : Rd} (h : opR zs o d c s = (y, s1)) (hb : s1.2.1 = 0) (h11 : y ≠ 11) (h5 : y ≠ 5) :
    listF zs d o c s = Lr.pre (.cons (oneG zs (listF zs) y d (c + 1) s1).x (oneG zs (listF zs) y d (c + 1) s1).l (oneG zs (listF zs) y d (c + 1) s1).e .nil) (listF zs d o (oneG zs (listF zs) y d (c + 1) s1).n (oneG zs (listF zs) y d (c + 1) s1).s) := by
  rw [listF_eq zs d o c s hg]
  unfold stepG
  rw [h]
  dsimp only
  rw [if_neg (by simp [hb]), if_neg (by rintro (h | h); exact h11 h; exact h5 h)]
  rfl
theorem listF_stop {zs : List Int} {d : Nat} {o : Bool} {c : Int} {s : Rd} (hg : Kind.Good zs s) {y : Int} {s1 : Rd} (h : opR zs o d c s = (y, s1)) (hb : s1.2.1 ≠ 0) : listF zs d o c s = ⟨.nil, 11, c, s1⟩ := by
  rw [listF_eq zs d o c s hg]
  unfold stepG
  rw [h]
  dsimp only
  rw [if_pos hb]
theorem listF_quit {zs : List Int} {d : Nat} {o : Bool} {c : Int} {s : Rd} (hg : Kind.Good zs s) {y : Int} {s1 : Rd} (h : opR zs o d c s = (y, s1)) (hb : s1.2.1 = 0) (hy : y = 11 ∨ y = 5) : listF zs d o c s = ⟨.nil, y, c, s1⟩ := by
  rw [listF_eq zs d o c s hg]
  unfold stepG
  rw [h]
  dsimp only
  rw [if_neg (by simp [hb]), if_pos hy]

theorem oneG_bad {zs : List Int} {rec : Nat → Bool → Int → Rd → Lr} {op : Int} {d : Nat} {c : Int} {s : Rd} (hk : kindP op = 1) (hb : (tagR zs isRes s).2.2.1 ≠ 0) : (oneG zs rec op d c s).s = (tagR zs isRes s).2 ∧ (oneG zs rec op d c s).n = c := by
  unfold oneG
  rw [restR1 hk]
  dsimp only
  rw [if_neg (fun h => hb h.2)]
  exact ⟨rfl, rfl⟩
theorem oneG_one {zs : List Int} {rec : Nat → Bool → Int → Rd → Lr} {op : Int} {d : Nat} {c : Int} {s : Rd} (hk : kindP op = 1) (hb : (tagR zs isRes s).2.2.1 = 0) {r : Lr} (hr : rec (d + 1) (decide (op = 4)) c (tagR zs isRes s).2 = r) (hq : ¬ (r.s.2.1 = 0 ∧ r.q = 5)) :
    oneG zs rec op d c s = ⟨Ix.hold (restR zs op s).x r.t .nil, r.t, .nil, r.n, r.s⟩ := by
  subst hr
  have h1 := restR1 (zs := zs) (s := s) hk
  unfold oneG
  rw [h1]
  dsimp only
  rw [if_pos ⟨hk, hb⟩, if_neg hq]
theorem oneG_two {zs : List Int} {rec : Nat → Bool → Int → Rd → Lr} {op : Int} {d : Nat} {c : Int} {s : Rd} (hk : kindP op = 1) (hb : (tagR zs isRes s).2.2.1 = 0) {r r2 : Lr} (hr : rec (d + 1) (decide (op = 4)) c (tagR zs isRes s).2 = r) (hq : r.s.2.1 = 0 ∧ r.q = 5) (hr2 : rec (d + 1) false r.n r.s = r2) :
    oneG zs rec op d c s = ⟨Ix.hold (restR zs op s).x r.t r2.t, r.t, r2.t, r2.n, r2.s⟩ := by
  subst hr2
  subst hr
  have h1 := restR1 (zs := zs) (s := s) hk
  unfold oneG
  rw [h1]
  dsimp only
  rw [if_pos ⟨hk, hb⟩, if_pos hq]

/-- The list that has been read so far, in memory of its own. -/
structure LOk (w : World) (out : Value) (t : Il) (W : World) : Prop where
  row : W.ownsRow w.heap.size 52 8 out t.len t.cells
  kids : t.kids W
  low : ∀ q ∈ t.foot, w.heap.size ≤ q
  apart : ∀ q ∈ t.foot, out.ownBlock ≠ some q
theorem LOk.start (w W : World) : LOk w (.slice none 0 0) .nil W := ⟨World.ownsRow_nil _ _ _ _, trivial, by simp [Il.foot], by simp [Il.foot]⟩
theorem LOk.touch {S : Nat → Prop} {w W W' : World} {out : Value} {t : Il} (h : LOk w out t W) (ht : Touch S W W') (hs : ∀ q, w.heap.size ≤ q → ¬ S q) : LOk w out t W' :=
  ⟨touch_row h.row ht (fun g hg => hs g (World.ownsRow.lt h.row g hg).1), kids_touch ht h.kids (fun q hq => hs q (h.low q hq)), h.low, h.apart⟩
theorem LOk.save {k : Nat} {w W W' : World} {out : Value} {t : Il} (h : LOk w out t W) (hs : Save k W W') (hk : k < w.heap.size) : LOk w out t W' :=
  h.touch (.of_save hs) (fun q hq e => by omega)
theorem LOk.value {w W : World} {out : Value} {t : Il} (h : LOk w out t W) : ∃ a c, out = .slice a t.len c ∧ ListAt W.heap.size W a t.len t ∧ ∀ q ∈ blkOf t.len a ++ t.foot, w.heap.size ≤ q := by
  obtain ⟨a, c, e1, e2, e3⟩ := list_of_row h.row h.kids
  refine ⟨a, c, e1, e2, fun q hq => ?_⟩
  rcases List.mem_append.1 hq with hq | hq
  · rw [e3] at hq
    split at hq
    · simp at hq
    · split at hq
      · rename_i g hg
        simp at hq
        subst hq
        exact (World.ownsRow.lt h.row q hg).1
      · simp at hq
  · exact h.low q hq
theorem LOk.snoc {w W W2 W3 : World} {out : Value} {t : Il} {y : Ix} {l f : Il} {g cap : Nat} {o : Obj} (h : LOk w out t W) (h2 : LOk w out t W2) (hk : (Il.cons y l f .nil).kids W2) (hlo : ∀ q ∈ (Il.cons y l f .nil).foot, W.heap.size ≤ q) (hw : w.heap.size ≤ W.heap.size)
    (hown : W3.ownsRow w.heap.size 52 8 (.slice (some ⟨g, 0, none⟩) (t.len + 1) cap) (t.len + 1) (t.cells ++ y.vals.toList)) (hg : (W2.alloc o).grownBy W3 out.ownBlock) (hat : out.ownBlock = some g ∨ g = (W2.alloc o).heap.size) :
    LOk w (.slice (some ⟨g, 0, none⟩) (t.len + 1) cap) (t.app (.cons y l f .nil)) W3 := by
  have ht : Touch (fun j => out.ownBlock = some j) W2 W3 := (Touch.of_below (thenA (Below.refl _ _) o)).trans (Touch.of_grown hg)
  have hne : ∀ q ∈ (Il.cons y l f .nil).foot, out.ownBlock ≠ some q := fun q hq e => by
    have h1 := hlo q hq
    have h3 := (World.ownsRow.lt h.row q e).2
    omega
  have hlt : ∀ q ∈ t.foot, q < W2.heap.size := kids_lt h2.kids
  have hlt2 : ∀ q ∈ (Il.cons y l f .nil).foot, q < W2.heap.size := kids_lt hk
  have hsz : (W2.alloc o).heap.size = W2.heap.size + 1 := by simp
  refine ⟨?_, kids_app _ _ (kids_touch ht h2.kids h2.apart) (kids_touch ht hk hne), ?_, ?_⟩
  · rw [app_len, cells_app]
    simp only [Il.len, Il.cells, List.append_nil, Nat.zero_add]
    exact hown
  · intro q hq
    rw [foot_app] at hq
    rcases List.mem_append.1 hq with hq | hq
    · exact h2.low q hq
    · exact Nat.le_trans hw (hlo q hq)
  · intro q hq e
    simp only [Value.ownBlock, Option.some.injEq] at e
    subst e
    rw [foot_app] at hq
    rcases hat with hat | hat
    · rcases List.mem_append.1 hq with hq | hq
      · exact h2.apart g hq hat
      · exact hne g hq hat
    · rcases List.mem_append.1 hq with hq | hq
      · have := hlt g hq; omega
      · have := hlt2 g hq; omega
section
variable {ops : Array Oper} {rest : List Oper} {o : Oper} {act : Act} {Q : Exit → Act → World → Prop}
/-- An instruction is appended. -/
theorem append_ins (hgd : o.guard = none) (s x : Operand) (ho : o.op = .call { callee := .builtin .append, args := #[s, x], argTypes := #[22, 22] })
    {base n : Nat} {wr : World} {v : Value} {xs : List Value} (y : Ix) (hs : act.eval s = v) (hown : wr.ownsRow base 52 8 v n xs) (hbase : base ≤ wr.heap.size)
    (hx : act.eval x = .slice (some ⟨wr.heap.size, 0, none⟩) 1 1) (hn : n ≤ 1000000)
    (h : ∀ g cap w', w'.ownsRow base 52 8 (.slice (some ⟨g, 0, none⟩) (n + 1) cap) (n + 1) (xs ++ y.vals.toList) → (wr.alloc (.cells y.vals 52)).grownBy w' v.ownBlock → (v.ownBlock = some g ∨ g = (wr.alloc (.cells y.vals 52)).heap.size) → wpList Tryd.prog ops Q rest (act.put o.dst (.slice (some ⟨g, 0, none⟩) (n + 1) cap)) w') :
    wpList Tryd.prog ops Q (o :: rest) act (wr.alloc (.cells y.vals 52)) := by
  obtain ⟨i0, hi, hz0, hz1, hz2⟩ := info_parts infoI
  refine wpList_append_lies _ hgd s x 22 ho base 52 i0 zeroI 8 104 Tryd.underlying22 hi hz0 hz1 hz2 rfl (by decide) v n xs hs (World.ownsRow.alloc hown _) ⟨wr.heap.size, 0, none⟩ 1 1 y.vals.toList hx rfl
    (World.news_of_block (heap_alloc_new wr _)) ?_ (by omega) ?_ ?_ ?_ _ rfl (fun g cap w' h1 h2 h3 _ => h g cap w' h1 h2 h3)
  · intro u hu
    simp only [Ix.vals, List.mem_cons, List.not_mem_nil, or_false] at hu
    rcases hu with rfl | rfl | rfl | rfl | rfl | rfl | rfl | rfl <;> rfl
  · unfold maxLen; omega
  · omega
  · simp; omega
end
end Go.Proofs.YtcjamlgdidiaeaaDoor.Body

/-
  BODY: the document's own reading of an instruction that has lists, by contract. (tools/gen_bodyrefb.py)
-/
namespace Go.Proofs.YtcjamlgdidiaeaaDoor.Body
set_option linter.unusedVariables false
open Go.RowKit Go.Proofs.YtcjamlgdidiaeaaDoor.Instr
open Go.Proofs.YtcjamlgdidiaeaaDoor.Kind (Rd numR refuseR startR numR_good numR_bounds refuseR_good getL_next)

theorem Bx.setL {g : Nat} {x : Ix} {w : World} (h : Bx g x w) (a : Option Addr) (n c : Nat) : Bx g ⟨x.op, x.res, x.a, x.b, x.n, x.tags, x.ta, x.tc, a, n, c, x.ea, x.en, x.ec⟩ (w.setCell ⟨g, 6, none⟩ (.slice a n c)) := by
  obtain ⟨⟨c0, c1, c2, c3, c4, c5, c6, c7⟩, f0, f1, f2, f3, f4, f5, f6, f7⟩ := h
  refine ⟨⟨?_, ?_, ?_, ?_, ?_, ?_, ?_, ?_⟩, ?_, ?_, ?_, ?_, ?_, ?_, ?_, ?_⟩ <;> simp [go_sem, *]
theorem Bx.setE {g : Nat} {x : Ix} {w : World} (h : Bx g x w) (a : Option Addr) (n c : Nat) : Bx g ⟨x.op, x.res, x.a, x.b, x.n, x.tags, x.ta, x.tc, x.la, x.ln, x.lc, a, n, c⟩ (w.setCell ⟨g, 7, none⟩ (.slice a n c)) := by
  obtain ⟨⟨c0, c1, c2, c3, c4, c5, c6, c7⟩, f0, f1, f2, f3, f4, f5, f6, f7⟩ := h
  refine ⟨⟨?_, ?_, ?_, ?_, ?_, ?_, ?_, ?_⟩, ?_, ?_, ?_, ?_, ?_, ?_, ?_, ?_⟩ <;> simp [go_sem, *]
/-- While an instruction with lists is read: the reader, the instruction's block, the result's behind it. -/
structure Blk (w : World) (k : Nat) (v : Value) (n : Int) (s : Rd) (x : Ix) (W : World) : Prop where
  r : RcIs W k v s n
  sv : Save k w W
  box : Bx w.heap.size x W
  res : Bx (w.heap.size + 1) zeroX W
  lt : k < w.heap.size
section
variable {w W W' : World} {k : Nat} {v : Value} {n : Int} {s s' : Rd} {x : Ix}
theorem Blk.start (h : RcIs w k v s n) (op : Int) : Blk w k v n s (plainX op 0 0 0 0 []) ((w.alloc (.cells #[.int .i64 op, .int .i64 0, .int .u32 0, .int .u32 0, .int .i32 0, .slice none 0 0, .slice none 0 0, .slice none 0 0] 52)).alloc (.cells #[.int .i64 0, .int .i64 0, .int .u32 0, .int .u32 0, .int .i32 0, .slice none 0 0, .slice none 0 0, .slice none 0 0] 52)) :=
  have hb : Below w.heap.size w ((w.alloc (.cells #[.int .i64 op, .int .i64 0, .int .u32 0, .int .u32 0, .int .i32 0, .slice none 0 0, .slice none 0 0, .slice none 0 0] 52)).alloc (.cells #[.int .i64 0, .int .i64 0, .int .u32 0, .int .u32 0, .int .i32 0, .slice none 0 0, .slice none 0 0, .slice none 0 0] 52)) := thenA (thenA (Below.refl _ _) _) _
  ⟨h.below hb, Save.of_below hb, (bx_made (plainX op 0 0 0 0 []) w).alloc _, by have := bx_made zeroX (w.alloc (.cells (plainX op 0 0 0 0 []).vals 52)); rw [show (w.alloc (.cells (plainX op 0 0 0 0 []).vals 52)).heap.size = w.heap.size + 1 by simp] at this; exact this, World.block_lt_of_cell? w _ h.c0⟩
theorem Blk.call {n' : Int} (M : Blk w k v n s x W) (h : RcIs W' k v s' n') (hs : Save k W W') : Blk w k v n' s' x W' := ⟨h, M.sv.trans hs, M.box.save hs (by have := M.lt; omega), M.res.save hs (by have := M.lt; omega), M.lt⟩
theorem Blk.put {x' : Ix} (M : Blk w k v n s x W) (o : Nat) (u : Value) (hbox : Bx w.heap.size x' (W.setCell ⟨w.heap.size, o, none⟩ u)) : Blk w k v n s x' (W.setCell ⟨w.heap.size, o, none⟩ u) :=
  ⟨M.r.belowB (below_put W _ _ _) M.lt, save_under M.sv (below_put W _ _ _), hbox, M.res.other (by simp) _, M.lt⟩
theorem Blk.setRes (M : Blk w k v n s x W) (a : Int) : Blk w k v n s ⟨x.op, a, x.a, x.b, x.n, x.tags, x.ta, x.tc, x.la, x.ln, x.lc, x.ea, x.en, x.ec⟩ (W.setCell ⟨w.heap.size, 1, none⟩ (.int .i64 a)) := M.put _ _ (M.box.setRes a)
theorem Blk.setL (M : Blk w k v n s x W) (a : Option Addr) (m c : Nat) : Blk w k v n s ⟨x.op, x.res, x.a, x.b, x.n, x.tags, x.ta, x.tc, a, m, c, x.ea, x.en, x.ec⟩ (W.setCell ⟨w.heap.size, 6, none⟩ (.slice a m c)) := M.put _ _ (M.box.setL a m c)
theorem Blk.setE (M : Blk w k v n s x W) (a : Option Addr) (m c : Nat) : Blk w k v n s ⟨x.op, x.res, x.a, x.b, x.n, x.tags, x.ta, x.tc, x.la, x.ln, x.lc, a, m, c⟩ (W.setCell ⟨w.heap.size, 7, none⟩ (.slice a m c)) := M.put _ _ (M.box.setE a m c)
theorem Blk.fin (M : Blk w k v n s x W) : RcIs (Body.fin W (w.heap.size + 1) x) k v s n ∧ Save k w (Body.fin W (w.heap.size + 1) x) :=
  ⟨M.r.belowB (fin_below W (w.heap.size + 1) x (Nat.le_succ _)) M.lt, save_under M.sv (fin_below W (w.heap.size + 1) x (Nat.le_succ _))⟩
theorem Blk.size (M : Blk w k v n s x W) : w.heap.size + 2 ≤ W.heap.size := by
  have := World.block_lt_of_cell? W _ M.res.at_.c0
  simp only at this
  omega
end
theorem fin_touch {S : Nat → Prop} {a : World} (W : World) (g : Nat) (x : Ix) (hg : S g) (h : Touch S a W) : Touch S a (fin W g x) := by
  have step : ∀ (b : World) (q : Addr) (v : Value), S q.block → Touch S a b → Touch S a (b.setCell q v) := fun b q v hq h => h.setCell (.inl hq) v
  unfold fin
  exact step _ _ _ hg (step _ _ _ hg (step _ _ _ hg (step _ _ _ hg (step _ _ _ hg (step _ _ _ hg (step _ _ _ hg (step _ _ _ hg h)))))))
theorem lies_on {B : Nat} {w2 W : World} {a : Option Addr} {l : Nat} {t : Il} (h : ListAt w2.heap.size w2 a l t) (ht : Touch (fun j => j < B) w2 W) (hlow : ∀ b ∈ blkOf l a ++ t.foot, B ≤ b) : ListAt W.heap.size W a l t :=
  ListAt.more ht.size (h.touch ht (fun q hq => by have := hlow q hq; omega))
theorem kids_two {W : World} {x : Ix} {t f : Il} (hx : x.ok) (hg : x.tags = []) (hl : ListAt W.heap.size W x.la x.ln t) (he : ListAt W.heap.size W x.ea x.en f) : (Il.cons x t f .nil).kids W := ⟨hx, .inl hg, hl, he, trivial⟩
theorem foot_two {B : Nat} {x : Ix} {t f : Il} (hg : x.tags = []) (hl : ∀ b ∈ blkOf x.ln x.la ++ t.foot, B ≤ b) (he : ∀ b ∈ blkOf x.en x.ea ++ f.foot, B ≤ b) : ∀ q ∈ (Il.cons x t f .nil).foot, B ≤ q := by
  intro q hq
  simp only [Il.foot, hg, List.length_nil, List.append_nil] at hq
  rw [show blkOf 0 x.ta = [] from rfl, List.nil_append] at hq
  rcases List.mem_append.1 hq with hq | hq
  · exact hl q hq
  · exact he q hq
theorem no_foot (B : Nat) : ∀ b ∈ blkOf 0 none ++ Il.nil.foot, B ≤ b := by simp [blkOf, Il.foot]
theorem blockX_ok {op res : Int} {a e : Option Addr} {n c m d : Nat} (h0 : 0 ≤ op ∧ op ≤ 4) (h1 : 0 ≤ res ∧ res ≤ 1) (hn : n ≤ 262144) (hm : m ≤ 262144) : (⟨op, res, 0, 0, 0, [], none, 0, a, n, c, e, m, d⟩ : Ix).ok := by
  constructor <;> simp <;> omega
/-- One list, written into the instruction. -/
theorem fin_one {b : Nat} {w2 : World} {op res : Int} {a : Option Addr} {l c : Nat} {t : Il} (h0 : 0 ≤ op ∧ op ≤ 4) (h1 : 0 ≤ res ∧ res ≤ 1) (hl : ListAt w2.heap.size w2 a l t) (hw : ∀ q ∈ blkOf l a ++ t.foot, b + 2 ≤ q) (hle : l ≤ 262144) :
    (Il.cons ⟨op, res, 0, 0, 0, [], none, 0, a, l, c, none, 0, 0⟩ t .nil .nil).kids (fin (w2.setCell ⟨b, 6, none⟩ (.slice a l c)) (b + 1) ⟨op, res, 0, 0, 0, [], none, 0, a, l, c, none, 0, 0⟩) ∧ ∀ q ∈ (Il.cons (⟨op, res, 0, 0, 0, [], none, 0, a, l, c, none, 0, 0⟩ : Ix) t .nil .nil).foot, b ≤ q := by
  have ht : Touch (fun j => j < b + 2) w2 (fin (w2.setCell ⟨b, 6, none⟩ (.slice a l c)) (b + 1) ⟨op, res, 0, 0, 0, [], none, 0, a, l, c, none, 0, 0⟩) :=
    fin_touch (w2.setCell ⟨b, 6, none⟩ (.slice a l c)) (b + 1) _ (by omega) ((Touch.refl _ w2).setCell (p := ⟨b, 6, none⟩) (.inl (by simp)) _)
  exact ⟨kids_two (blockX_ok h0 h1 hle (Nat.zero_le _)) rfl (lies_on hl ht hw) ⟨rfl, .inl rfl⟩, foot_two rfl (fun q hq => Nat.le_trans (Nat.le_add_right _ _) (hw q hq)) (no_foot _)⟩
/-- Two lists. -/
theorem fin_two {b k : Nat} {w2 w4 : World} {op res : Int} {a e : Option Addr} {l c m d : Nat} {t f : Il} (h0 : 0 ≤ op ∧ op ≤ 4) (h1 : 0 ≤ res ∧ res ≤ 1) (hl : ListAt w2.heap.size w2 a l t) (hw : ∀ q ∈ blkOf l a ++ t.foot, b + 2 ≤ q) (hle : l ≤ 262144)
    (hk : k < b) (hs : Save k (w2.setCell ⟨b, 6, none⟩ (.slice a l c)) w4) (he : ListAt w4.heap.size w4 e m f) (hv : ∀ q ∈ blkOf m e ++ f.foot, b + 2 ≤ q) (hme : m ≤ 262144) :
    (Il.cons ⟨op, res, 0, 0, 0, [], none, 0, a, l, c, e, m, d⟩ t f .nil).kids (fin (w4.setCell ⟨b, 7, none⟩ (.slice e m d)) (b + 1) ⟨op, res, 0, 0, 0, [], none, 0, a, l, c, e, m, d⟩) ∧ ∀ q ∈ (Il.cons (⟨op, res, 0, 0, 0, [], none, 0, a, l, c, e, m, d⟩ : Ix) t f .nil).foot, b ≤ q := by
  have h4 : Touch (fun j => j < b + 2) w4 (fin (w4.setCell ⟨b, 7, none⟩ (.slice e m d)) (b + 1) ⟨op, res, 0, 0, 0, [], none, 0, a, l, c, e, m, d⟩) :=
    fin_touch (w4.setCell ⟨b, 7, none⟩ (.slice e m d)) (b + 1) _ (by omega) ((Touch.refl _ w4).setCell (p := ⟨b, 7, none⟩) (.inl (by simp)) _)
  have h2 : Touch (fun j => j < b + 2) w2 w4 := ((Touch.refl _ w2).setCell (p := ⟨b, 6, none⟩) (.inl (by simp)) _).trans ((Touch.of_save hs).mono (fun j hj => by omega))
  exact ⟨kids_two (blockX_ok h0 h1 hle hme) rfl (lies_on hl (h2.trans h4) hw) (lies_on he h4 hv), foot_two rfl (fun q hq => Nat.le_trans (Nat.le_add_right _ _) (hw q hq)) (fun q hq => Nat.le_trans (Nat.le_add_right _ _) (hv q hq))⟩
theorem bare_one {x : Ix} {op res : Int} {a : Option Addr} {l c : Nat} {t T : Il} (hx : x = plainX op res 0 0 0 []) (ht : t.bare = T) (hl : t.len = l) :
    (Il.cons ⟨op, res, 0, 0, 0, [], none, 0, a, l, c, none, 0, 0⟩ t .nil .nil).bare = .cons (Ix.hold x T .nil) T .nil .nil := by
  subst hx ht hl
  simp only [Il.bare, Ix.bare, Ix.hold, plainX, bare_len]
  rfl
theorem bare_two {x : Ix} {op res : Int} {a e : Option Addr} {l c m d : Nat} {t f T E : Il} (hx : x = plainX op res 0 0 0 []) (ht : t.bare = T) (hl : t.len = l) (hf : f.bare = E) (hm : f.len = m) :
    (Il.cons ⟨op, res, 0, 0, 0, [], none, 0, a, l, c, e, m, d⟩ t f .nil).bare = .cons (Ix.hold x T E) T E .nil := by
  subst hx ht hl hf hm
  simp only [Il.bare, Ix.bare, Ix.hold, plainX, bare_len]
/-- Lists that the document's own reader reads, where it has no more than m ahead. -/
def ListH (zs : List Int) (k : Nat) (av : Option Addr) (len cap m : Nat) : Prop :=
  ∀ (d : Nat) (o : Bool) (c : Int) (s : Rd) (W : World), RcIs W k (.slice av len cap) s c → Kind.Good zs s → rem zs s ≤ m → d ≤ 901 → 0 ≤ c → c ≤ 262144 → Bytes W av zs →
    Calls Tryd.prog 37 #[.pointer (some ⟨k, 0, none⟩), .int .i64 d, .bool o] W (DocL k (.slice av len cap) W (listF zs d o c s))

set_option maxRecDepth 100000 in
set_option maxHeartbeats 12800000 in
theorem blocks2 (k : Nat) (av : Option Addr) (len cap : Nat) (zs : List Int) (s : Rd) (n : Int) (d : Nat) (m : Nat) (w : World) (h : RcIs w k (.slice av len cap) s n) (hg : Kind.Good zs s) (hlen : zs.length = len) (hz : Bytes w av zs) (ha : ∀ b off, av = some ⟨b, off, none⟩ → zs ≠ [] → b ≠ k)
    (hm : rem zs s ≤ m) (hd : d ≤ 900) (hn : 0 ≤ n ∧ n ≤ 262144) (LH : ListH zs k av len cap m) :
    Calls Tryd.prog 87 #[.pointer (some ⟨k, 0, none⟩), .agg #[.int .i64 2, .int .i64 0, .int .u32 0, .int .u32 0, .int .i32 0, .slice none 0 0, .slice none 0 0, .slice none 0 0], .int .i64 d] w (DocO k (.slice av len cap) w (oneG zs (listF zs) 2 d n s)) := by
  have HK := hid (show kindP 2 = 1 by decide)
  have M0 := hid (Blk.start h 2)
  have C1 := hid (fun W (hr : RcIs W k (.slice av len cap) s n) (hs : Save k w W) => nextC_any k av len cap zs s n W hr hg hlen (hz.save hs ha))
  have HZ := hid (fun W (hs : Save k w W) => hz.save hs ha)
  have gb := byteR_good hg
  have gt := tagR_good (ok := isRes) hg
  have hon := tagR_on (ok := isRes) hg
  have c1 : ((w.alloc (.cells #[.int .i64 2, .int .i64 0, .int .u32 0, .int .u32 0, .int .i32 0, .slice none 0 0, .slice none 0 0, .slice none 0 0] 52)).alloc (.cells #[.int .i64 0, .int .i64 0, .int .u32 0, .int .u32 0, .int .i32 0, .slice none 0 0, .slice none 0 0, .slice none 0 0] 52)).cell? ⟨k, 1, none⟩ = some (.int .i64 s.1) := M0.out.r.c1
  have hz0 : (byteR zs s).2.2.1 ≠ 0 → (byteR zs s).1 = 0 := by
    intro hb
    unfold byteR at hb ⊢
    split
    · rename_i h0
      rw [if_pos h0] at hb
      split
      · rfl
      · rename_i h1
        rw [if_neg h1] at hb
        exact absurd rfl hb
    · rfl
  have hta : (tagR zs isRes s).2 = if isRes (byteR zs s).1 then (byteR zs s).2 else refuseR (byteR zs s).2 140 s.1 := rfl
  have htb : (tagR zs isRes s).1 = (byteR zs s).1 := rfl
  have hxr := restR1 (zs := zs) (s := s) HK.out
  rw [htb] at hxr
  obtain ⟨p, hp⟩ : ∃ p, s.1 = p := ⟨_, rfl⟩
  obtain ⟨y, hy⟩ : ∃ y, (byteR zs s).1 = y := ⟨_, rfl⟩
  obtain ⟨s1, hs1⟩ : ∃ t, (byteR zs s).2 = t := ⟨_, rfl⟩
  rw [hy, hs1] at C1 hz0 hta
  rw [hy] at hxr
  rw [hs1] at gb
  rw [hp] at hta c1
  by_cases hb1 : s1.2.1 = 0
  · by_cases h64 : y = 64
    · subst h64
      have hts : (tagR zs isRes s).2 = s1 := by rw [hta, show isRes 64 = true from rfl, if_pos rfl]
      have HT := hid (show (tagR zs isRes s).2.2.1 = 0 by rw [hts]; exact hb1)
      rw [hts] at gt hon
      have REM := hid (Nat.le_trans (hon.rem zs) hm)
      have GS := hid gt
      obtain ⟨r1, hr1⟩ : ∃ r, listF zs (d + 1) false n s1 = r := ⟨_, rfl⟩
      have HR1 : Hid (listF zs (d + 1) (decide ((2 : Int) = 4)) n (tagR zs isRes s).2 = r1) := by rw [hts]; exact hr1
      have hfine := listF_fine zs (d + 1) false n s1 gt
      have hcnt := listF_cnt zs (d + 1) false n s1 hn.2
      rw [hr1] at hfine hcnt
      have HG1 := hid hfine.1
      have REM1 := hid (Nat.le_trans (hfine.2.rem zs) REM.out)
      have HN1 := hid (show 0 ≤ r1.n ∧ r1.n ≤ 262144 by omega)
      have HN := hid hn
      have HD1 := hid (show d + 1 ≤ 901 by omega)
      have HDD := hid (show ((d + 1 : Nat) : Int) = (d : Int) + 1 by omega)
      have HRX := hid hxr
      obtain ⟨rr, hrr⟩ : ∃ rr, oneG zs (listF zs) 2 d n s = rr := ⟨_, rfl⟩
      rw [hrr]
      have HRR := hid hrr
      clear hrr
      have HB := hid hb1
      have hd9 : (d : Int) ≤ 900 := by omega
      have LH := hid LH
      clear h hg hlen hz gb gt hon hz0 hta htb hxr hy hs1 hp hb1 hts ha hm hd hn hfine hcnt
      go_enter Tryd.func87, Tryd.ntmps87
      go_wp2_with fail
      refine (C1.out _ M0.out.r M0.out.sv).mono ?_
      clear C1
      rintro e w1 ⟨rfl, h1, sv1⟩
      have M1 := hid (M0.out.call h1 sv1)
      clear h1 sv1 M0
      clear c1
      go_wp2_with fail
      refine (bad_no k _ _ _ _ M1.out.r HB.out).mono ?_
      rintro e w2 ⟨rfl, rfl⟩
      have M1r := M1
      go_wp2_with fail
      refine (bad_no k _ _ _ _ M1.out.r HB.out).mono ?_
      rintro e w2 ⟨rfl, rfl⟩
      clear M1
      have C2 := LH.out (d + 1) false n s1 _ M1r.out.r GS.out REM.out HD1.out HN.out.1 HN.out.2 (HZ.out _ M1r.out.sv)
      rw [HDD.out, hr1] at C2
      have D2 := hid C2
      clear C2
      obtain ⟨⟨yc0, -, -, -, -, -, -, -⟩, -, -, -, -, -, -, -, -⟩ := M1r.out.box
      dsimp only [plainX] at yc0
      go_wp2_with fail
      refine D2.out.mono ?_
      clear D2 yc0
      rintro e w2 ⟨a2, l2, c2, q2, rfl, h2, sv2, hgo⟩
      have M2 := hid (M1r.out.call h2 sv2)
      have HS1 := hid M1r.out.size
      obtain ⟨⟨-, -, -, -, -, -, yc6, -⟩, -, -, -, -, -, -, yf6, -⟩ := M2.out.box
      dsimp only [plainX] at yc6
      have M2a := hid (M2.out.setL a2 l2 c2)
      have HGO := hid hgo
      clear h2 sv2 M1r hgo
      by_cases hb2 : r1.s.2.1 = 0
      · have HB2 := hid hb2
        obtain ⟨t2, hq2, ht2, hl2, hlow2, hle2⟩ := HGO.out hb2
        have HL2 := hid hl2
        have HW2 := hid (fun b hb => Nat.le_trans HS1.out (hlow2 b hb))
        have HE2 := hid hle2
        have HT2 := hid ht2
        have HQ2 := hid hq2
        clear hb2 hl2 hlow2 hle2 ht2 hq2 HGO HS1
        by_cases h5 : q2 = 5
        · have HR := hid (oneG_two (zs := zs) (rec := listF zs) (d := d) (c := n) (s := s) HK.out HT.out HR1.out ⟨HB2.out, by rw [← HQ2.out]; exact h5⟩ rfl)
          subst h5
          go_wp2_with fail
          refine (bad_no k _ _ _ _ M2a.out.r HB2.out).mono ?_
          rintro e w3 ⟨rfl, rfl⟩
          clear yc6 yf6
          have C3 := LH.out (d + 1) false r1.n r1.s _ M2a.out.r HG1.out REM1.out HD1.out HN1.out.1 HN1.out.2 (HZ.out _ M2a.out.sv)
          rw [HDD.out] at C3
          have D3 := hid C3
          clear C3
          go_wp2_with fail
          refine D3.out.mono ?_
          clear D3
          rintro e w4 ⟨a4, l4, c4, q4, rfl, h4, sv4, hgo⟩
          have M4 := hid (M2a.out.call h4 sv4)
          have HS4 := hid M2a.out.size
          have SV4 := hid sv4
          have HLT := hid M2a.out.lt
          have M4a := hid (M4.out.setE a4 l4 c4)
          have HGO := hid hgo
          clear h4 sv4 M2a hgo
          obtain ⟨⟨x0, x1, x2, x3, x4, x5, x6, x7⟩, f0, f1, f2, f3, f4, f5, f6, f7⟩ := M4.out.res
          obtain ⟨⟨y0, y1, y2, y3, y4, y5, y6, y7⟩, e0, e1, e2, e3, e4, e5, e6, e7⟩ := M4.out.box
          simp only [zeroX, plainX] at x0 x1 x2 x3 x4 x5 x6 x7 y0 y1 y2 y3 y4 y5 y6 y7
          go_wp2
          refine bodyPost_ret (v := .agg #[.int .i64 2, .int .i64 0, .int .u32 0, .int .u32 0, .int .i32 0, .slice none 0 0, .slice a2 l2 c2, .slice a4 l4 c4]) (by simp [results, Tryd.results87, go_sem, x0, x1, x2, x3, x4, x5, x6, x7]) rfl ?_
          rw [← HRR.out, HR.out]
          by_cases hb4 : (listF zs (d + 1) false r1.n r1.s).s.2.1 = 0
          · obtain ⟨t4, hq4, ht4, hl4, hlow4, hle4⟩ := HGO.out hb4
            have FO := fin_two (b := w.heap.size) (c := c2) (d := c4) (op := 2) (res := 0) (by omega) (by omega) HL2.out HW2.out HE2.out HLT.out SV4.out hl4 (fun b hb => Nat.le_trans HS4.out (hlow4 b hb)) hle4
            exact ⟨⟨2, 0, 0, 0, 0, [], none, 0, a2, l2, c2, a4, l4, c4⟩, t2, t4, rfl, M4a.out.fin.1, M4a.out.fin.2, fun _ => ⟨FO.1, FO.2, bare_two (by rw [HRX.out]; rfl) HT2.out HL2.out.1 ht4 hl4.1⟩⟩
          · exact ⟨⟨2, 0, 0, 0, 0, [], none, 0, a2, l2, c2, a4, l4, c4⟩, t2, .nil, rfl, M4a.out.fin.1, M4a.out.fin.2, fun h => absurd h hb4⟩
        · have HR : Hid (oneG zs (listF zs) 2 d n s = ⟨Ix.hold (restR zs 2 s).x r1.t .nil, r1.t, .nil, r1.n, r1.s⟩) := hid (oneG_one HK.out HT.out HR1.out (fun h => h5 (by rw [HQ2.out]; exact h.2)))
          go_wp2_with fail
          refine (bad_no k _ _ _ _ M2a.out.r HB2.out).mono ?_
          rintro e w3 ⟨rfl, rfl⟩
          clear yc6 yf6
          obtain ⟨⟨x0, x1, x2, x3, x4, x5, x6, x7⟩, f0, f1, f2, f3, f4, f5, f6, f7⟩ := M2a.out.res
          obtain ⟨⟨y0, y1, y2, y3, y4, y5, y6, y7⟩, e0, e1, e2, e3, e4, e5, e6, e7⟩ := M2a.out.box
          simp only [zeroX, plainX] at x0 x1 x2 x3 x4 x5 x6 x7 y0 y1 y2 y3 y4 y5 y6 y7
          go_wp2
          refine bodyPost_ret (v := .agg #[.int .i64 2, .int .i64 0, .int .u32 0, .int .u32 0, .int .i32 0, .slice none 0 0, .slice a2 l2 c2, .slice none 0 0]) (by simp [results, Tryd.results87, go_sem, x0, x1, x2, x3, x4, x5, x6, x7]) rfl ?_
          rw [← HRR.out, HR.out]
          have FO := fin_one (b := w.heap.size) (c := c2) (op := 2) (res := 0) (by omega) (by omega) HL2.out HW2.out HE2.out
          exact ⟨⟨2, 0, 0, 0, 0, [], none, 0, a2, l2, c2, none, 0, 0⟩, t2, .nil, rfl, M2a.out.fin.1, M2a.out.fin.2, fun _ => ⟨FO.1, FO.2, bare_one (by rw [HRX.out]; rfl) HT2.out HL2.out.1⟩⟩
      · have HB2 := hid hb2
        have HR : Hid (oneG zs (listF zs) 2 d n s = ⟨Ix.hold (restR zs 2 s).x r1.t .nil, r1.t, .nil, r1.n, r1.s⟩) := hid (oneG_one HK.out HT.out HR1.out (fun h => hb2 h.1))
        clear hb2 HGO HS1
        go_wp2_with fail
        refine (bad_yes k _ _ _ _ M2a.out.r HB2.out).mono ?_
        rintro e w3 ⟨rfl, rfl⟩
        clear yc6 yf6
        obtain ⟨⟨x0, x1, x2, x3, x4, x5, x6, x7⟩, f0, f1, f2, f3, f4, f5, f6, f7⟩ := M2a.out.res
        obtain ⟨⟨y0, y1, y2, y3, y4, y5, y6, y7⟩, e0, e1, e2, e3, e4, e5, e6, e7⟩ := M2a.out.box
        simp only [zeroX, plainX] at x0 x1 x2 x3 x4 x5 x6 x7 y0 y1 y2 y3 y4 y5 y6 y7
        go_wp2
        refine bodyPost_ret (v := .agg #[.int .i64 2, .int .i64 0, .int .u32 0, .int .u32 0, .int .i32 0, .slice none 0 0, .slice a2 l2 c2, .slice none 0 0]) (by simp [results, Tryd.results87, go_sem, x0, x1, x2, x3, x4, x5, x6, x7]) rfl ?_
        rw [← HRR.out, HR.out]
        exact ⟨⟨2, 0, 0, 0, 0, [], none, 0, a2, l2, c2, none, 0, 0⟩, .nil, .nil, rfl, M2a.out.fin.1, M2a.out.fin.2, fun h => absurd h HB2.out⟩
    by_cases h127 : y = 127
    · subst h127
      have hts : (tagR zs isRes s).2 = s1 := by rw [hta, show isRes 127 = true from rfl, if_pos rfl]
      have HT := hid (show (tagR zs isRes s).2.2.1 = 0 by rw [hts]; exact hb1)
      rw [hts] at gt hon
      have REM := hid (Nat.le_trans (hon.rem zs) hm)
      have GS := hid gt
      obtain ⟨r1, hr1⟩ : ∃ r, listF zs (d + 1) false n s1 = r := ⟨_, rfl⟩
      have HR1 : Hid (listF zs (d + 1) (decide ((2 : Int) = 4)) n (tagR zs isRes s).2 = r1) := by rw [hts]; exact hr1
      have hfine := listF_fine zs (d + 1) false n s1 gt
      have hcnt := listF_cnt zs (d + 1) false n s1 hn.2
      rw [hr1] at hfine hcnt
      have HG1 := hid hfine.1
      have REM1 := hid (Nat.le_trans (hfine.2.rem zs) REM.out)
      have HN1 := hid (show 0 ≤ r1.n ∧ r1.n ≤ 262144 by omega)
      have HN := hid hn
      have HD1 := hid (show d + 1 ≤ 901 by omega)
      have HDD := hid (show ((d + 1 : Nat) : Int) = (d : Int) + 1 by omega)
      have HRX := hid hxr
      obtain ⟨rr, hrr⟩ : ∃ rr, oneG zs (listF zs) 2 d n s = rr := ⟨_, rfl⟩
      rw [hrr]
      have HRR := hid hrr
      clear hrr
      have HB := hid hb1
      have hd9 : (d : Int) ≤ 900 := by omega
      have LH := hid LH
      clear h hg hlen hz gb gt hon hz0 hta htb hxr hy hs1 hp hb1 hts ha hm hd hn hfine hcnt
      go_enter Tryd.func87, Tryd.ntmps87
      go_wp2_with fail
      refine (C1.out _ M0.out.r M0.out.sv).mono ?_
      clear C1
      rintro e w1 ⟨rfl, h1, sv1⟩
      have M1 := hid (M0.out.call h1 sv1)
      clear h1 sv1 M0
      clear c1
      go_wp2_with fail
      refine (bad_no k _ _ _ _ M1.out.r HB.out).mono ?_
      rintro e w2 ⟨rfl, rfl⟩
      have yc1 := M1.out.box.at_.c1
      have yf1 := M1.out.box.f1
      dsimp only [plainX] at yc1
      have M1r := hid (M1.out.setRes 1)
      go_wp2_with fail
      refine (bad_no k _ _ _ _ M1r.out.r HB.out).mono ?_
      rintro e w2 ⟨rfl, rfl⟩
      clear yc1 yf1 M1
      have C2 := LH.out (d + 1) false n s1 _ M1r.out.r GS.out REM.out HD1.out HN.out.1 HN.out.2 (HZ.out _ M1r.out.sv)
      rw [HDD.out, hr1] at C2
      have D2 := hid C2
      clear C2
      obtain ⟨⟨yc0, -, -, -, -, -, -, -⟩, -, -, -, -, -, -, -, -⟩ := M1r.out.box
      dsimp only [plainX] at yc0
      go_wp2_with fail
      refine D2.out.mono ?_
      clear D2 yc0
      rintro e w2 ⟨a2, l2, c2, q2, rfl, h2, sv2, hgo⟩
      have M2 := hid (M1r.out.call h2 sv2)
      have HS1 := hid M1r.out.size
      obtain ⟨⟨-, -, -, -, -, -, yc6, -⟩, -, -, -, -, -, -, yf6, -⟩ := M2.out.box
      dsimp only [plainX] at yc6
      have M2a := hid (M2.out.setL a2 l2 c2)
      have HGO := hid hgo
      clear h2 sv2 M1r hgo
      by_cases hb2 : r1.s.2.1 = 0
      · have HB2 := hid hb2
        obtain ⟨t2, hq2, ht2, hl2, hlow2, hle2⟩ := HGO.out hb2
        have HL2 := hid hl2
        have HW2 := hid (fun b hb => Nat.le_trans HS1.out (hlow2 b hb))
        have HE2 := hid hle2
        have HT2 := hid ht2
        have HQ2 := hid hq2
        clear hb2 hl2 hlow2 hle2 ht2 hq2 HGO HS1
        by_cases h5 : q2 = 5
        · have HR := hid (oneG_two (zs := zs) (rec := listF zs) (d := d) (c := n) (s := s) HK.out HT.out HR1.out ⟨HB2.out, by rw [← HQ2.out]; exact h5⟩ rfl)
          subst h5
          go_wp2_with fail
          refine (bad_no k _ _ _ _ M2a.out.r HB2.out).mono ?_
          rintro e w3 ⟨rfl, rfl⟩
          clear yc6 yf6
          have C3 := LH.out (d + 1) false r1.n r1.s _ M2a.out.r HG1.out REM1.out HD1.out HN1.out.1 HN1.out.2 (HZ.out _ M2a.out.sv)
          rw [HDD.out] at C3
          have D3 := hid C3
          clear C3
          go_wp2_with fail
          refine D3.out.mono ?_
          clear D3
          rintro e w4 ⟨a4, l4, c4, q4, rfl, h4, sv4, hgo⟩
          have M4 := hid (M2a.out.call h4 sv4)
          have HS4 := hid M2a.out.size
          have SV4 := hid sv4
          have HLT := hid M2a.out.lt
          have M4a := hid (M4.out.setE a4 l4 c4)
          have HGO := hid hgo
          clear h4 sv4 M2a hgo
          obtain ⟨⟨x0, x1, x2, x3, x4, x5, x6, x7⟩, f0, f1, f2, f3, f4, f5, f6, f7⟩ := M4.out.res
          obtain ⟨⟨y0, y1, y2, y3, y4, y5, y6, y7⟩, e0, e1, e2, e3, e4, e5, e6, e7⟩ := M4.out.box
          simp only [zeroX, plainX] at x0 x1 x2 x3 x4 x5 x6 x7 y0 y1 y2 y3 y4 y5 y6 y7
          go_wp2
          refine bodyPost_ret (v := .agg #[.int .i64 2, .int .i64 1, .int .u32 0, .int .u32 0, .int .i32 0, .slice none 0 0, .slice a2 l2 c2, .slice a4 l4 c4]) (by simp [results, Tryd.results87, go_sem, x0, x1, x2, x3, x4, x5, x6, x7]) rfl ?_
          rw [← HRR.out, HR.out]
          by_cases hb4 : (listF zs (d + 1) false r1.n r1.s).s.2.1 = 0
          · obtain ⟨t4, hq4, ht4, hl4, hlow4, hle4⟩ := HGO.out hb4
            have FO := fin_two (b := w.heap.size) (c := c2) (d := c4) (op := 2) (res := 1) (by omega) (by omega) HL2.out HW2.out HE2.out HLT.out SV4.out hl4 (fun b hb => Nat.le_trans HS4.out (hlow4 b hb)) hle4
            exact ⟨⟨2, 1, 0, 0, 0, [], none, 0, a2, l2, c2, a4, l4, c4⟩, t2, t4, rfl, M4a.out.fin.1, M4a.out.fin.2, fun _ => ⟨FO.1, FO.2, bare_two (by rw [HRX.out]; rfl) HT2.out HL2.out.1 ht4 hl4.1⟩⟩
          · exact ⟨⟨2, 1, 0, 0, 0, [], none, 0, a2, l2, c2, a4, l4, c4⟩, t2, .nil, rfl, M4a.out.fin.1, M4a.out.fin.2, fun h => absurd h hb4⟩
        · have HR : Hid (oneG zs (listF zs) 2 d n s = ⟨Ix.hold (restR zs 2 s).x r1.t .nil, r1.t, .nil, r1.n, r1.s⟩) := hid (oneG_one HK.out HT.out HR1.out (fun h => h5 (by rw [HQ2.out]; exact h.2)))
          go_wp2_with fail
          refine (bad_no k _ _ _ _ M2a.out.r HB2.out).mono ?_
          rintro e w3 ⟨rfl, rfl⟩
          clear yc6 yf6
          obtain ⟨⟨x0, x1, x2, x3, x4, x5, x6, x7⟩, f0, f1, f2, f3, f4, f5, f6, f7⟩ := M2a.out.res
          obtain ⟨⟨y0, y1, y2, y3, y4, y5, y6, y7⟩, e0, e1, e2, e3, e4, e5, e6, e7⟩ := M2a.out.box
          simp only [zeroX, plainX] at x0 x1 x2 x3 x4 x5 x6 x7 y0 y1 y2 y3 y4 y5 y6 y7
          go_wp2
          refine bodyPost_ret (v := .agg #[.int .i64 2, .int .i64 1, .int .u32 0, .int .u32 0, .int .i32 0, .slice none 0 0, .slice a2 l2 c2, .slice none 0 0]) (by simp [results, Tryd.results87, go_sem, x0, x1, x2, x3, x4, x5, x6, x7]) rfl ?_
          rw [← HRR.out, HR.out]
          have FO := fin_one (b := w.heap.size) (c := c2) (op := 2) (res := 1) (by omega) (by omega) HL2.out HW2.out HE2.out
          exact ⟨⟨2, 1, 0, 0, 0, [], none, 0, a2, l2, c2, none, 0, 0⟩, t2, .nil, rfl, M2a.out.fin.1, M2a.out.fin.2, fun _ => ⟨FO.1, FO.2, bare_one (by rw [HRX.out]; rfl) HT2.out HL2.out.1⟩⟩
      · have HB2 := hid hb2
        have HR : Hid (oneG zs (listF zs) 2 d n s = ⟨Ix.hold (restR zs 2 s).x r1.t .nil, r1.t, .nil, r1.n, r1.s⟩) := hid (oneG_one HK.out HT.out HR1.out (fun h => hb2 h.1))
        clear hb2 HGO HS1
        go_wp2_with fail
        refine (bad_yes k _ _ _ _ M2a.out.r HB2.out).mono ?_
        rintro e w3 ⟨rfl, rfl⟩
        clear yc6 yf6
        obtain ⟨⟨x0, x1, x2, x3, x4, x5, x6, x7⟩, f0, f1, f2, f3, f4, f5, f6, f7⟩ := M2a.out.res
        obtain ⟨⟨y0, y1, y2, y3, y4, y5, y6, y7⟩, e0, e1, e2, e3, e4, e5, e6, e7⟩ := M2a.out.box
        simp only [zeroX, plainX] at x0 x1 x2 x3 x4 x5 x6 x7 y0 y1 y2 y3 y4 y5 y6 y7
        go_wp2
        refine bodyPost_ret (v := .agg #[.int .i64 2, .int .i64 1, .int .u32 0, .int .u32 0, .int .i32 0, .slice none 0 0, .slice a2 l2 c2, .slice none 0 0]) (by simp [results, Tryd.results87, go_sem, x0, x1, x2, x3, x4, x5, x6, x7]) rfl ?_
        rw [← HRR.out, HR.out]
        exact ⟨⟨2, 1, 0, 0, 0, [], none, 0, a2, l2, c2, none, 0, 0⟩, .nil, .nil, rfl, M2a.out.fin.1, M2a.out.fin.2, fun h => absurd h HB2.out⟩
    have hisr : isRes y = false := by simp [isRes, h64, h127]
    have hts : (tagR zs isRes s).2 = refuseR s1 140 p := by rw [hta, hisr, if_neg (by decide)]
    have ht : (tagR zs isRes s).2.2.1 ≠ 0 := by rw [hts]; exact refuse_is_bad (by decide)
    have hr := oneG_bad (rec := listF zs) (d := d) (c := n) HK.out ht
    rw [hts] at hr
    obtain ⟨rr, hrr⟩ : ∃ rr, oneG zs (listF zs) 2 d n s = rr := ⟨_, rfl⟩
    rw [hrr] at hr ⊢
    obtain ⟨s2, hs2⟩ : ∃ t, refuseR s1 140 p = t := ⟨_, rfl⟩
    have hb2 : s2.2.1 ≠ 0 := by rw [← hs2]; exact refuse_is_bad (by decide)
    rw [hs2] at hr
    have FT := hid (fun W (hr : RcIs W k (.slice av len cap) s1 n) => fault_any k _ s1 n 140 p W hr)
    rw [hs2] at FT
    have HR := hid hr
    have HB := hid hb1
    have HB2 := hid hb2
    have e64 : (y != 64) = true := by simp [h64]
    have e127 : (y != 127) = true := by simp [h127]
    have f127 : (y == 127) = false := by simp [h127]
    clear h hg hlen hz gb gt hon hz0 hta htb hxr hy hs1 hp hb1 ht hr hts hrr HZ LH ha hm hd hn hisr hs2 hb2
    go_enter Tryd.func87, Tryd.ntmps87
    go_wp2_with fail
    refine (C1.out _ M0.out.r M0.out.sv).mono ?_
    clear C1
    rintro e w1 ⟨rfl, h1, sv1⟩
    have M1 := hid (M0.out.call h1 sv1)
    clear h1 sv1 M0
    clear c1
    go_wp2_with fail
    refine (bad_no k _ _ _ _ M1.out.r HB.out).mono ?_
    rintro e w2 ⟨rfl, rfl⟩
    go_wp2_with fail
    refine (FT.out _ M1.out.r).mono ?_
    clear FT
    rintro e w2 ⟨rfl, h2, sv2⟩
    have M2 := hid (M1.out.call h2 sv2)
    clear h2 sv2 M1
    go_wp2_with fail
    refine (bad_yes k _ _ _ _ M2.out.r HB2.out).mono ?_
    rintro e w3 ⟨rfl, rfl⟩
    obtain ⟨⟨x0, x1, x2, x3, x4, x5, x6, x7⟩, f0, f1, f2, f3, f4, f5, f6, f7⟩ := M2.out.res
    obtain ⟨⟨y0, y1, y2, y3, y4, y5, y6, y7⟩, e0, e1, e2, e3, e4, e5, e6, e7⟩ := M2.out.box
    simp only [zeroX, plainX] at x0 x1 x2 x3 x4 x5 x6 x7 y0 y1 y2 y3 y4 y5 y6 y7
    go_wp2
    refine bodyPost_ret (v := .agg #[.int .i64 2, .int .i64 0, .int .u32 0, .int .u32 0, .int .i32 0, .slice none 0 0, .slice none 0 0, .slice none 0 0]) (by simp [results, Tryd.results87, go_sem, x0, x1, x2, x3, x4, x5, x6, x7]) rfl ?_
    refine ⟨⟨2, 0, 0, 0, 0, [], none, 0, none, 0, 0, none, 0, 0⟩, .nil, .nil, rfl, ?_, M2.out.fin.2, fun h => absurd (HR.out.1 ▸ h) HB2.out⟩
    rw [HR.out.1, HR.out.2]
    exact M2.out.fin.1
  · have hy0 := hz0 hb1
    subst hy0
    have ht : (tagR zs isRes s).2.2.1 ≠ 0 := by rw [hta, show isRes 0 = false from rfl, if_neg (by decide), refuseR_bad hb1]; exact hb1
    have hr := oneG_bad (rec := listF zs) (d := d) (c := n) HK.out ht
    have hts : (tagR zs isRes s).2 = s1 := by rw [hta, show isRes 0 = false from rfl, if_neg (by decide), refuseR_bad hb1]
    rw [hts] at hr
    obtain ⟨rr, hrr⟩ : ∃ rr, oneG zs (listF zs) 2 d n s = rr := ⟨_, rfl⟩
    rw [hrr] at hr ⊢
    have HR := hid hr
    have HB := hid hb1
    clear h hg hlen hz gb gt hon hz0 hta htb hxr hy hs1 hp hb1 ht hr hts hrr HZ LH ha hm hd hn
    go_enter Tryd.func87, Tryd.ntmps87
    go_wp2_with fail
    refine (C1.out _ M0.out.r M0.out.sv).mono ?_
    clear C1
    rintro e w1 ⟨rfl, h1, sv1⟩
    have M1 := hid (M0.out.call h1 sv1)
    clear h1 sv1 M0
    clear c1
    go_wp2_with fail
    refine (bad_yes k _ _ _ _ M1.out.r HB.out).mono ?_
    rintro e w2 ⟨rfl, rfl⟩
    go_wp2_with fail
    refine (bad_yes k _ _ _ _ M1.out.r HB.out).mono ?_
    rintro e w2 ⟨rfl, rfl⟩
    obtain ⟨⟨x0, x1, x2, x3, x4, x5, x6, x7⟩, f0, f1, f2, f3, f4, f5, f6, f7⟩ := M1.out.res
    obtain ⟨⟨y0, y1, y2, y3, y4, y5, y6, y7⟩, e0, e1, e2, e3, e4, e5, e6, e7⟩ := M1.out.box
    simp only [zeroX, plainX] at x0 x1 x2 x3 x4 x5 x6 x7 y0 y1 y2 y3 y4 y5 y6 y7
    go_wp2
    refine bodyPost_ret (v := .agg #[.int .i64 2, .int .i64 0, .int .u32 0, .int .u32 0, .int .i32 0, .slice none 0 0, .slice none 0 0, .slice none 0 0]) (by simp [results, Tryd.results87, go_sem, x0, x1, x2, x3, x4, x5, x6, x7]) rfl ?_
    refine ⟨⟨2, 0, 0, 0, 0, [], none, 0, none, 0, 0, none, 0, 0⟩, .nil, .nil, rfl, ?_, M1.out.fin.2, fun h => absurd (HR.out.1 ▸ h) HB.out⟩
    rw [HR.out.1, HR.out.2]
    exact M1.out.fin.1

set_option maxRecDepth 100000 in
set_option maxHeartbeats 12800000 in
theorem blocks3 (k : Nat) (av : Option Addr) (len cap : Nat) (zs : List Int) (s : Rd) (n : Int) (d : Nat) (m : Nat) (w : World) (h : RcIs w k (.slice av len cap) s n) (hg : Kind.Good zs s) (hlen : zs.length = len) (hz : Bytes w av zs) (ha : ∀ b off, av = some ⟨b, off, none⟩ → zs ≠ [] → b ≠ k)
    (hm : rem zs s ≤ m) (hd : d ≤ 900) (hn : 0 ≤ n ∧ n ≤ 262144) (LH : ListH zs k av len cap m) :
    Calls Tryd.prog 87 #[.pointer (some ⟨k, 0, none⟩), .agg #[.int .i64 3, .int .i64 0, .int .u32 0, .int .u32 0, .int .i32 0, .slice none 0 0, .slice none 0 0, .slice none 0 0], .int .i64 d] w (DocO k (.slice av len cap) w (oneG zs (listF zs) 3 d n s)) := by
  have HK := hid (show kindP 3 = 1 by decide)
  have M0 := hid (Blk.start h 3)
  have C1 := hid (fun W (hr : RcIs W k (.slice av len cap) s n) (hs : Save k w W) => nextC_any k av len cap zs s n W hr hg hlen (hz.save hs ha))
  have HZ := hid (fun W (hs : Save k w W) => hz.save hs ha)
  have gb := byteR_good hg
  have gt := tagR_good (ok := isRes) hg
  have hon := tagR_on (ok := isRes) hg
  have c1 : ((w.alloc (.cells #[.int .i64 3, .int .i64 0, .int .u32 0, .int .u32 0, .int .i32 0, .slice none 0 0, .slice none 0 0, .slice none 0 0] 52)).alloc (.cells #[.int .i64 0, .int .i64 0, .int .u32 0, .int .u32 0, .int .i32 0, .slice none 0 0, .slice none 0 0, .slice none 0 0] 52)).cell? ⟨k, 1, none⟩ = some (.int .i64 s.1) := M0.out.r.c1
  have hz0 : (byteR zs s).2.2.1 ≠ 0 → (byteR zs s).1 = 0 := by
    intro hb
    unfold byteR at hb ⊢
    split
    · rename_i h0
      rw [if_pos h0] at hb
      split
      · rfl
      · rename_i h1
        rw [if_neg h1] at hb
        exact absurd rfl hb
    · rfl
  have hta : (tagR zs isRes s).2 = if isRes (byteR zs s).1 then (byteR zs s).2 else refuseR (byteR zs s).2 140 s.1 := rfl
  have htb : (tagR zs isRes s).1 = (byteR zs s).1 := rfl
  have hxr := restR1 (zs := zs) (s := s) HK.out
  rw [htb] at hxr
  obtain ⟨p, hp⟩ : ∃ p, s.1 = p := ⟨_, rfl⟩
  obtain ⟨y, hy⟩ : ∃ y, (byteR zs s).1 = y := ⟨_, rfl⟩
  obtain ⟨s1, hs1⟩ : ∃ t, (byteR zs s).2 = t := ⟨_, rfl⟩
  rw [hy, hs1] at C1 hz0 hta
  rw [hy] at hxr
  rw [hs1] at gb
  rw [hp] at hta c1
  by_cases hb1 : s1.2.1 = 0
  · by_cases h64 : y = 64
    · subst h64
      have hts : (tagR zs isRes s).2 = s1 := by rw [hta, show isRes 64 = true from rfl, if_pos rfl]
      have HT := hid (show (tagR zs isRes s).2.2.1 = 0 by rw [hts]; exact hb1)
      rw [hts] at gt hon
      have REM := hid (Nat.le_trans (hon.rem zs) hm)
      have GS := hid gt
      obtain ⟨r1, hr1⟩ : ∃ r, listF zs (d + 1) false n s1 = r := ⟨_, rfl⟩
      have HR1 : Hid (listF zs (d + 1) (decide ((3 : Int) = 4)) n (tagR zs isRes s).2 = r1) := by rw [hts]; exact hr1
      have hfine := listF_fine zs (d + 1) false n s1 gt
      have hcnt := listF_cnt zs (d + 1) false n s1 hn.2
      rw [hr1] at hfine hcnt
      have HG1 := hid hfine.1
      have REM1 := hid (Nat.le_trans (hfine.2.rem zs) REM.out)
      have HN1 := hid (show 0 ≤ r1.n ∧ r1.n ≤ 262144 by omega)
      have HN := hid hn
      have HD1 := hid (show d + 1 ≤ 901 by omega)
      have HDD := hid (show ((d + 1 : Nat) : Int) = (d : Int) + 1 by omega)
      have HRX := hid hxr
      obtain ⟨rr, hrr⟩ : ∃ rr, oneG zs (listF zs) 3 d n s = rr := ⟨_, rfl⟩
      rw [hrr]
      have HRR := hid hrr
      clear hrr
      have HB := hid hb1
      have hd9 : (d : Int) ≤ 900 := by omega
      have LH := hid LH
      clear h hg hlen hz gb gt hon hz0 hta htb hxr hy hs1 hp hb1 hts ha hm hd hn hfine hcnt
      go_enter Tryd.func87, Tryd.ntmps87
      go_wp2_with fail
      refine (C1.out _ M0.out.r M0.out.sv).mono ?_
      clear C1
      rintro e w1 ⟨rfl, h1, sv1⟩
      have M1 := hid (M0.out.call h1 sv1)
      clear h1 sv1 M0
      clear c1
      go_wp2_with fail
      refine (bad_no k _ _ _ _ M1.out.r HB.out).mono ?_
      rintro e w2 ⟨rfl, rfl⟩
      have M1r := M1
      go_wp2_with fail
      refine (bad_no k _ _ _ _ M1.out.r HB.out).mono ?_
      rintro e w2 ⟨rfl, rfl⟩
      clear M1
      have C2 := LH.out (d + 1) false n s1 _ M1r.out.r GS.out REM.out HD1.out HN.out.1 HN.out.2 (HZ.out _ M1r.out.sv)
      rw [HDD.out, hr1] at C2
      have D2 := hid C2
      clear C2
      obtain ⟨⟨yc0, -, -, -, -, -, -, -⟩, -, -, -, -, -, -, -, -⟩ := M1r.out.box
      dsimp only [plainX] at yc0
      go_wp2_with fail
      refine D2.out.mono ?_
      clear D2 yc0
      rintro e w2 ⟨a2, l2, c2, q2, rfl, h2, sv2, hgo⟩
      have M2 := hid (M1r.out.call h2 sv2)
      have HS1 := hid M1r.out.size
      obtain ⟨⟨-, -, -, -, -, -, yc6, -⟩, -, -, -, -, -, -, yf6, -⟩ := M2.out.box
      dsimp only [plainX] at yc6
      have M2a := hid (M2.out.setL a2 l2 c2)
      have HGO := hid hgo
      clear h2 sv2 M1r hgo
      by_cases hb2 : r1.s.2.1 = 0
      · have HB2 := hid hb2
        obtain ⟨t2, hq2, ht2, hl2, hlow2, hle2⟩ := HGO.out hb2
        have HL2 := hid hl2
        have HW2 := hid (fun b hb => Nat.le_trans HS1.out (hlow2 b hb))
        have HE2 := hid hle2
        have HT2 := hid ht2
        have HQ2 := hid hq2
        clear hb2 hl2 hlow2 hle2 ht2 hq2 HGO HS1
        by_cases h5 : q2 = 5
        · have HR := hid (oneG_two (zs := zs) (rec := listF zs) (d := d) (c := n) (s := s) HK.out HT.out HR1.out ⟨HB2.out, by rw [← HQ2.out]; exact h5⟩ rfl)
          subst h5
          go_wp2_with fail
          refine (bad_no k _ _ _ _ M2a.out.r HB2.out).mono ?_
          rintro e w3 ⟨rfl, rfl⟩
          clear yc6 yf6
          have C3 := LH.out (d + 1) false r1.n r1.s _ M2a.out.r HG1.out REM1.out HD1.out HN1.out.1 HN1.out.2 (HZ.out _ M2a.out.sv)
          rw [HDD.out] at C3
          have D3 := hid C3
          clear C3
          go_wp2_with fail
          refine D3.out.mono ?_
          clear D3
          rintro e w4 ⟨a4, l4, c4, q4, rfl, h4, sv4, hgo⟩
          have M4 := hid (M2a.out.call h4 sv4)
          have HS4 := hid M2a.out.size
          have SV4 := hid sv4
          have HLT := hid M2a.out.lt
          have M4a := hid (M4.out.setE a4 l4 c4)
          have HGO := hid hgo
          clear h4 sv4 M2a hgo
          obtain ⟨⟨x0, x1, x2, x3, x4, x5, x6, x7⟩, f0, f1, f2, f3, f4, f5, f6, f7⟩ := M4.out.res
          obtain ⟨⟨y0, y1, y2, y3, y4, y5, y6, y7⟩, e0, e1, e2, e3, e4, e5, e6, e7⟩ := M4.out.box
          simp only [zeroX, plainX] at x0 x1 x2 x3 x4 x5 x6 x7 y0 y1 y2 y3 y4 y5 y6 y7
          go_wp2
          refine bodyPost_ret (v := .agg #[.int .i64 3, .int .i64 0, .int .u32 0, .int .u32 0, .int .i32 0, .slice none 0 0, .slice a2 l2 c2, .slice a4 l4 c4]) (by simp [results, Tryd.results87, go_sem, x0, x1, x2, x3, x4, x5, x6, x7]) rfl ?_
          rw [← HRR.out, HR.out]
          by_cases hb4 : (listF zs (d + 1) false r1.n r1.s).s.2.1 = 0
          · obtain ⟨t4, hq4, ht4, hl4, hlow4, hle4⟩ := HGO.out hb4
            have FO := fin_two (b := w.heap.size) (c := c2) (d := c4) (op := 3) (res := 0) (by omega) (by omega) HL2.out HW2.out HE2.out HLT.out SV4.out hl4 (fun b hb => Nat.le_trans HS4.out (hlow4 b hb)) hle4
            exact ⟨⟨3, 0, 0, 0, 0, [], none, 0, a2, l2, c2, a4, l4, c4⟩, t2, t4, rfl, M4a.out.fin.1, M4a.out.fin.2, fun _ => ⟨FO.1, FO.2, bare_two (by rw [HRX.out]; rfl) HT2.out HL2.out.1 ht4 hl4.1⟩⟩
          · exact ⟨⟨3, 0, 0, 0, 0, [], none, 0, a2, l2, c2, a4, l4, c4⟩, t2, .nil, rfl, M4a.out.fin.1, M4a.out.fin.2, fun h => absurd h hb4⟩
        · have HR : Hid (oneG zs (listF zs) 3 d n s = ⟨Ix.hold (restR zs 3 s).x r1.t .nil, r1.t, .nil, r1.n, r1.s⟩) := hid (oneG_one HK.out HT.out HR1.out (fun h => h5 (by rw [HQ2.out]; exact h.2)))
          go_wp2_with fail
          refine (bad_no k _ _ _ _ M2a.out.r HB2.out).mono ?_
          rintro e w3 ⟨rfl, rfl⟩
          clear yc6 yf6
          obtain ⟨⟨x0, x1, x2, x3, x4, x5, x6, x7⟩, f0, f1, f2, f3, f4, f5, f6, f7⟩ := M2a.out.res
          obtain ⟨⟨y0, y1, y2, y3, y4, y5, y6, y7⟩, e0, e1, e2, e3, e4, e5, e6, e7⟩ := M2a.out.box
          simp only [zeroX, plainX] at x0 x1 x2 x3 x4 x5 x6 x7 y0 y1 y2 y3 y4 y5 y6 y7
          go_wp2
          refine bodyPost_ret (v := .agg #[.int .i64 3, .int .i64 0, .int .u32 0, .int .u32 0, .int .i32 0, .slice none 0 0, .slice a2 l2 c2, .slice none 0 0]) (by simp [results, Tryd.results87, go_sem, x0, x1, x2, x3, x4, x5, x6, x7]) rfl ?_
          rw [← HRR.out, HR.out]
          have FO := fin_one (b := w.heap.size) (c := c2) (op := 3) (res := 0) (by omega) (by omega) HL2.out HW2.out HE2.out
          exact ⟨⟨3, 0, 0, 0, 0, [], none, 0, a2, l2, c2, none, 0, 0⟩, t2, .nil, rfl, M2a.out.fin.1, M2a.out.fin.2, fun _ => ⟨FO.1, FO.2, bare_one (by rw [HRX.out]; rfl) HT2.out HL2.out.1⟩⟩
      · have HB2 := hid hb2
        have HR : Hid (oneG zs (listF zs) 3 d n s = ⟨Ix.hold (restR zs 3 s).x r1.t .nil, r1.t, .nil, r1.n, r1.s⟩) := hid (oneG_one HK.out HT.out HR1.out (fun h => hb2 h.1))
        clear hb2 HGO HS1
        go_wp2_with fail
        refine (bad_yes k _ _ _ _ M2a.out.r HB2.out).mono ?_
        rintro e w3 ⟨rfl, rfl⟩
        clear yc6 yf6
        obtain ⟨⟨x0, x1, x2, x3, x4, x5, x6, x7⟩, f0, f1, f2, f3, f4, f5, f6, f7⟩ := M2a.out.res
        obtain ⟨⟨y0, y1, y2, y3, y4, y5, y6, y7⟩, e0, e1, e2, e3, e4, e5, e6, e7⟩ := M2a.out.box
        simp only [zeroX, plainX] at x0 x1 x2 x3 x4 x5 x6 x7 y0 y1 y2 y3 y4 y5 y6 y7
        go_wp2
        refine bodyPost_ret (v := .agg #[.int .i64 3, .int .i64 0, .int .u32 0, .int .u32 0, .int .i32 0, .slice none 0 0, .slice a2 l2 c2, .slice none 0 0]) (by simp [results, Tryd.results87, go_sem, x0, x1, x2, x3, x4, x5, x6, x7]) rfl ?_
        rw [← HRR.out, HR.out]
        exact ⟨⟨3, 0, 0, 0, 0, [], none, 0, a2, l2, c2, none, 0, 0⟩, .nil, .nil, rfl, M2a.out.fin.1, M2a.out.fin.2, fun h => absurd h HB2.out⟩
    by_cases h127 : y = 127
    · subst h127
      have hts : (tagR zs isRes s).2 = s1 := by rw [hta, show isRes 127 = true from rfl, if_pos rfl]
      have HT := hid (show (tagR zs isRes s).2.2.1 = 0 by rw [hts]; exact hb1)
      rw [hts] at gt hon
      have REM := hid (Nat.le_trans (hon.rem zs) hm)
      have GS := hid gt
      obtain ⟨r1, hr1⟩ : ∃ r, listF zs (d + 1) false n s1 = r := ⟨_, rfl⟩
      have HR1 : Hid (listF zs (d + 1) (decide ((3 : Int) = 4)) n (tagR zs isRes s).2 = r1) := by rw [hts]; exact hr1
      have hfine := listF_fine zs (d + 1) false n s1 gt
      have hcnt := listF_cnt zs (d + 1) false n s1 hn.2
      rw [hr1] at hfine hcnt
      have HG1 := hid hfine.1
      have REM1 := hid (Nat.le_trans (hfine.2.rem zs) REM.out)
      have HN1 := hid (show 0 ≤ r1.n ∧ r1.n ≤ 262144 by omega)
      have HN := hid hn
      have HD1 := hid (show d + 1 ≤ 901 by omega)
      have HDD := hid (show ((d + 1 : Nat) : Int) = (d : Int) + 1 by omega)
      have HRX := hid hxr
      obtain ⟨rr, hrr⟩ : ∃ rr, oneG zs (listF zs) 3 d n s = rr := ⟨_, rfl⟩
      rw [hrr]
      have HRR := hid hrr
      clear hrr
      have HB := hid hb1
      have hd9 : (d : Int) ≤ 900 := by omega
      have LH := hid LH
      clear h hg hlen hz gb gt hon hz0 hta htb hxr hy hs1 hp hb1 hts ha hm hd hn hfine hcnt
      go_enter Tryd.func87, Tryd.ntmps87
      go_wp2_with fail
      refine (C1.out _ M0.out.r M0.out.sv).mono ?_
      clear C1
      rintro e w1 ⟨rfl, h1, sv1⟩
      have M1 := hid (M0.out.call h1 sv1)
      clear h1 sv1 M0
      clear c1
      go_wp2_with fail
      refine (bad_no k _ _ _ _ M1.out.r HB.out).mono ?_
      rintro e w2 ⟨rfl, rfl⟩
      have yc1 := M1.out.box.at_.c1
      have yf1 := M1.out.box.f1
      dsimp only [plainX] at yc1
      have M1r := hid (M1.out.setRes 1)
      go_wp2_with fail
      refine (bad_no k _ _ _ _ M1r.out.r HB.out).mono ?_
      rintro e w2 ⟨rfl, rfl⟩
      clear yc1 yf1 M1
      have C2 := LH.out (d + 1) false n s1 _ M1r.out.r GS.out REM.out HD1.out HN.out.1 HN.out.2 (HZ.out _ M1r.out.sv)
      rw [HDD.out, hr1] at C2
      have D2 := hid C2
      clear C2
      obtain ⟨⟨yc0, -, -, -, -, -, -, -⟩, -, -, -, -, -, -, -, -⟩ := M1r.out.box
      dsimp only [plainX] at yc0
      go_wp2_with fail
      refine D2.out.mono ?_
      clear D2 yc0
      rintro e w2 ⟨a2, l2, c2, q2, rfl, h2, sv2, hgo⟩
      have M2 := hid (M1r.out.call h2 sv2)
      have HS1 := hid M1r.out.size
      obtain ⟨⟨-, -, -, -, -, -, yc6, -⟩, -, -, -, -, -, -, yf6, -⟩ := M2.out.box
      dsimp only [plainX] at yc6
      have M2a := hid (M2.out.setL a2 l2 c2)
      have HGO := hid hgo
      clear h2 sv2 M1r hgo
      by_cases hb2 : r1.s.2.1 = 0
      · have HB2 := hid hb2
        obtain ⟨t2, hq2, ht2, hl2, hlow2, hle2⟩ := HGO.out hb2
        have HL2 := hid hl2
        have HW2 := hid (fun b hb => Nat.le_trans HS1.out (hlow2 b hb))
        have HE2 := hid hle2
        have HT2 := hid ht2
        have HQ2 := hid hq2
        clear hb2 hl2 hlow2 hle2 ht2 hq2 HGO HS1
        by_cases h5 : q2 = 5
        · have HR := hid (oneG_two (zs := zs) (rec := listF zs) (d := d) (c := n) (s := s) HK.out HT.out HR1.out ⟨HB2.out, by rw [← HQ2.out]; exact h5⟩ rfl)
          subst h5
          go_wp2_with fail
          refine (bad_no k _ _ _ _ M2a.out.r HB2.out).mono ?_
          rintro e w3 ⟨rfl, rfl⟩
          clear yc6 yf6
          have C3 := LH.out (d + 1) false r1.n r1.s _ M2a.out.r HG1.out REM1.out HD1.out HN1.out.1 HN1.out.2 (HZ.out _ M2a.out.sv)
          rw [HDD.out] at C3
          have D3 := hid C3
          clear C3
          go_wp2_with fail
          refine D3.out.mono ?_
          clear D3
          rintro e w4 ⟨a4, l4, c4, q4, rfl, h4, sv4, hgo⟩
          have M4 := hid (M2a.out.call h4 sv4)
          have HS4 := hid M2a.out.size
          have SV4 := hid sv4
          have HLT := hid M2a.out.lt
          have M4a := hid (M4.out.setE a4 l4 c4)
          have HGO := hid hgo
          clear h4 sv4 M2a hgo
          obtain ⟨⟨x0, x1, x2, x3, x4, x5, x6, x7⟩, f0, f1, f2, f3, f4, f5, f6, f7⟩ := M4.out.res
          obtain ⟨⟨y0, y1, y2, y3, y4, y5, y6, y7⟩, e0, e1, e2, e3, e4, e5, e6, e7⟩ := M4.out.box
          simp only [zeroX, plainX] at x0 x1 x2 x3 x4 x5 x6 x7 y0 y1 y2 y3 y4 y5 y6 y7
          go_wp2
          refine bodyPost_ret (v := .agg #[.int .i64 3, .int .i64 1, .int .u32 0, .int .u32 0, .int .i32 0, .slice none 0 0, .slice a2 l2 c2, .slice a4 l4 c4]) (by simp [results, Tryd.results87, go_sem, x0, x1, x2, x3, x4, x5, x6, x7]) rfl ?_
          rw [← HRR.out, HR.out]
          by_cases hb4 : (listF zs (d + 1) false r1.n r1.s).s.2.1 = 0
          · obtain ⟨t4, hq4, ht4, hl4, hlow4, hle4⟩ := HGO.out hb4
            have FO := fin_two (b := w.heap.size) (c := c2) (d := c4) (op := 3) (res := 1) (by omega) (by omega) HL2.out HW2.out HE2.out HLT.out SV4.out hl4 (fun b hb => Nat.le_trans HS4.out (hlow4 b hb)) hle4
            exact ⟨⟨3, 1, 0, 0, 0, [], none, 0, a2, l2, c2, a4, l4, c4⟩, t2, t4, rfl, M4a.out.fin.1, M4a.out.fin.2, fun _ => ⟨FO.1, FO.2, bare_two (by rw [HRX.out]; rfl) HT2.out HL2.out.1 ht4 hl4.1⟩⟩
          · exact ⟨⟨3, 1, 0, 0, 0, [], none, 0, a2, l2, c2, a4, l4, c4⟩, t2, .nil, rfl, M4a.out.fin.1, M4a.out.fin.2, fun h => absurd h hb4⟩
        · have HR : Hid (oneG zs (listF zs) 3 d n s = ⟨Ix.hold (restR zs 3 s).x r1.t .nil, r1.t, .nil, r1.n, r1.s⟩) := hid (oneG_one HK.out HT.out HR1.out (fun h => h5 (by rw [HQ2.out]; exact h.2)))
          go_wp2_with fail
          refine (bad_no k _ _ _ _ M2a.out.r HB2.out).mono ?_
          rintro e w3 ⟨rfl, rfl⟩
          clear yc6 yf6
          obtain ⟨⟨x0, x1, x2, x3, x4, x5, x6, x7⟩, f0, f1, f2, f3, f4, f5, f6, f7⟩ := M2a.out.res
          obtain ⟨⟨y0, y1, y2, y3, y4, y5, y6, y7⟩, e0, e1, e2, e3, e4, e5, e6, e7⟩ := M2a.out.box
          simp only [zeroX, plainX] at x0 x1 x2 x3 x4 x5 x6 x7 y0 y1 y2 y3 y4 y5 y6 y7
          go_wp2
          refine bodyPost_ret (v := .agg #[.int .i64 3, .int .i64 1, .int .u32 0, .int .u32 0, .int .i32 0, .slice none 0 0, .slice a2 l2 c2, .slice none 0 0]) (by simp [results, Tryd.results87, go_sem, x0, x1, x2, x3, x4, x5, x6, x7]) rfl ?_
          rw [← HRR.out, HR.out]
          have FO := fin_one (b := w.heap.size) (c := c2) (op := 3) (res := 1) (by omega) (by omega) HL2.out HW2.out HE2.out
          exact ⟨⟨3, 1, 0, 0, 0, [], none, 0, a2, l2, c2, none, 0, 0⟩, t2, .nil, rfl, M2a.out.fin.1, M2a.out.fin.2, fun _ => ⟨FO.1, FO.2, bare_one (by rw [HRX.out]; rfl) HT2.out HL2.out.1⟩⟩
      · have HB2 := hid hb2
        have HR : Hid (oneG zs (listF zs) 3 d n s = ⟨Ix.hold (restR zs 3 s).x r1.t .nil, r1.t, .nil, r1.n, r1.s⟩) := hid (oneG_one HK.out HT.out HR1.out (fun h => hb2 h.1))
        clear hb2 HGO HS1
        go_wp2_with fail
        refine (bad_yes k _ _ _ _ M2a.out.r HB2.out).mono ?_
        rintro e w3 ⟨rfl, rfl⟩
        clear yc6 yf6
        obtain ⟨⟨x0, x1, x2, x3, x4, x5, x6, x7⟩, f0, f1, f2, f3, f4, f5, f6, f7⟩ := M2a.out.res
        obtain ⟨⟨y0, y1, y2, y3, y4, y5, y6, y7⟩, e0, e1, e2, e3, e4, e5, e6, e7⟩ := M2a.out.box
        simp only [zeroX, plainX] at x0 x1 x2 x3 x4 x5 x6 x7 y0 y1 y2 y3 y4 y5 y6 y7
        go_wp2
        refine bodyPost_ret (v := .agg #[.int .i64 3, .int .i64 1, .int .u32 0, .int .u32 0, .int .i32 0, .slice none 0 0, .slice a2 l2 c2, .slice none 0 0]) (by simp [results, Tryd.results87, go_sem, x0, x1, x2, x3, x4, x5, x6, x7]) rfl ?_
        rw [← HRR.out, HR.out]
        exact ⟨⟨3, 1, 0, 0, 0, [], none, 0, a2, l2, c2, none, 0, 0⟩, .nil, .nil, rfl, M2a.out.fin.1, M2a.out.fin.2, fun h => absurd h HB2.out⟩
    have hisr : isRes y = false := by simp [isRes, h64, h127]
    have hts : (tagR zs isRes s).2 = refuseR s1 140 p := by rw [hta, hisr, if_neg (by decide)]
    have ht : (tagR zs isRes s).2.2.1 ≠ 0 := by rw [hts]; exact refuse_is_bad (by decide)
    have hr := oneG_bad (rec := listF zs) (d := d) (c := n) HK.out ht
    rw [hts] at hr
    obtain ⟨rr, hrr⟩ : ∃ rr, oneG zs (listF zs) 3 d n s = rr := ⟨_, rfl⟩
    rw [hrr] at hr ⊢
    obtain ⟨s2, hs2⟩ : ∃ t, refuseR s1 140 p = t := ⟨_, rfl⟩
    have hb2 : s2.2.1 ≠ 0 := by rw [← hs2]; exact refuse_is_bad (by decide)
    rw [hs2] at hr
    have FT := hid (fun W (hr : RcIs W k (.slice av len cap) s1 n) => fault_any k _ s1 n 140 p W hr)
    rw [hs2] at FT
    have HR := hid hr
    have HB := hid hb1
    have HB2 := hid hb2
    have e64 : (y != 64) = true := by simp [h64]
    have e127 : (y != 127) = true := by simp [h127]
    have f127 : (y == 127) = false := by simp [h127]
    clear h hg hlen hz gb gt hon hz0 hta htb hxr hy hs1 hp hb1 ht hr hts hrr HZ LH ha hm hd hn hisr hs2 hb2
    go_enter Tryd.func87, Tryd.ntmps87
    go_wp2_with fail
    refine (C1.out _ M0.out.r M0.out.sv).mono ?_
    clear C1
    rintro e w1 ⟨rfl, h1, sv1⟩
    have M1 := hid (M0.out.call h1 sv1)
    clear h1 sv1 M0
    clear c1
    go_wp2_with fail
    refine (bad_no k _ _ _ _ M1.out.r HB.out).mono ?_
    rintro e w2 ⟨rfl, rfl⟩
    go_wp2_with fail
    refine (FT.out _ M1.out.r).mono ?_
    clear FT
    rintro e w2 ⟨rfl, h2, sv2⟩
    have M2 := hid (M1.out.call h2 sv2)
    clear h2 sv2 M1
    go_wp2_with fail
    refine (bad_yes k _ _ _ _ M2.out.r HB2.out).mono ?_
    rintro e w3 ⟨rfl, rfl⟩
    obtain ⟨⟨x0, x1, x2, x3, x4, x5, x6, x7⟩, f0, f1, f2, f3, f4, f5, f6, f7⟩ := M2.out.res
    obtain ⟨⟨y0, y1, y2, y3, y4, y5, y6, y7⟩, e0, e1, e2, e3, e4, e5, e6, e7⟩ := M2.out.box
    simp only [zeroX, plainX] at x0 x1 x2 x3 x4 x5 x6 x7 y0 y1 y2 y3 y4 y5 y6 y7
    go_wp2
    refine bodyPost_ret (v := .agg #[.int .i64 3, .int .i64 0, .int .u32 0, .int .u32 0, .int .i32 0, .slice none 0 0, .slice none 0 0, .slice none 0 0]) (by simp [results, Tryd.results87, go_sem, x0, x1, x2, x3, x4, x5, x6, x7]) rfl ?_
    refine ⟨⟨3, 0, 0, 0, 0, [], none, 0, none, 0, 0, none, 0, 0⟩, .nil, .nil, rfl, ?_, M2.out.fin.2, fun h => absurd (HR.out.1 ▸ h) HB2.out⟩
    rw [HR.out.1, HR.out.2]
    exact M2.out.fin.1
  · have hy0 := hz0 hb1
    subst hy0
    have ht : (tagR zs isRes s).2.2.1 ≠ 0 := by rw [hta, show isRes 0 = false from rfl, if_neg (by decide), refuseR_bad hb1]; exact hb1
    have hr := oneG_bad (rec := listF zs) (d := d) (c := n) HK.out ht
    have hts : (tagR zs isRes s).2 = s1 := by rw [hta, show isRes 0 = false from rfl, if_neg (by decide), refuseR_bad hb1]
    rw [hts] at hr
    obtain ⟨rr, hrr⟩ : ∃ rr, oneG zs (listF zs) 3 d n s = rr := ⟨_, rfl⟩
    rw [hrr] at hr ⊢
    have HR := hid hr
    have HB := hid hb1
    clear h hg hlen hz gb gt hon hz0 hta htb hxr hy hs1 hp hb1 ht hr hts hrr HZ LH ha hm hd hn
    go_enter Tryd.func87, Tryd.ntmps87
    go_wp2_with fail
    refine (C1.out _ M0.out.r M0.out.sv).mono ?_
    clear C1
    rintro e w1 ⟨rfl, h1, sv1⟩
    have M1 := hid (M0.out.call h1 sv1)
    clear h1 sv1 M0
    clear c1
    go_wp2_with fail
    refine (bad_yes k _ _ _ _ M1.out.r HB.out).mono ?_
    rintro e w2 ⟨rfl, rfl⟩
    go_wp2_with fail
    refine (bad_yes k _ _ _ _ M1.out.r HB.out).mono ?_
    rintro e w2 ⟨rfl, rfl⟩
    obtain ⟨⟨x0, x1, x2, x3, x4, x5, x6, x7⟩, f0, f1, f2, f3, f4, f5, f6, f7⟩ := M1.out.res
    obtain ⟨⟨y0, y1, y2, y3, y4, y5, y6, y7⟩, e0, e1, e2, e3, e4, e5, e6, e7⟩ := M1.out.box
    simp only [zeroX, plainX] at x0 x1 x2 x3 x4 x5 x6 x7 y0 y1 y2 y3 y4 y5 y6 y7
    go_wp2
    refine bodyPost_ret (v := .agg #[.int .i64 3, .int .i64 0, .int .u32 0, .int .u32 0, .int .i32 0, .slice none 0 0, .slice none 0 0, .slice none 0 0]) (by simp [results, Tryd.results87, go_sem, x0, x1, x2, x3, x4, x5, x6, x7]) rfl ?_
    refine ⟨⟨3, 0, 0, 0, 0, [], none, 0, none, 0, 0, none, 0, 0⟩, .nil, .nil, rfl, ?_, M1.out.fin.2, fun h => absurd (HR.out.1 ▸ h) HB.out⟩
    rw [HR.out.1, HR.out.2]
    exact M1.out.fin.1

set_option maxRecDepth 100000 in
set_option maxHeartbeats 12800000 in
theorem blocks4 (k : Nat) (av : Option Addr) (len cap : Nat) (zs : List Int) (s : Rd) (n : Int) (d : Nat) (m : Nat) (w : World) (h : RcIs w k (.slice av len cap) s n) (hg : Kind.Good zs s) (hlen : zs.length = len) (hz : Bytes w av zs) (ha : ∀ b off, av = some ⟨b, off, none⟩ → zs ≠ [] → b ≠ k)
    (hm : rem zs s ≤ m) (hd : d ≤ 900) (hn : 0 ≤ n ∧ n ≤ 262144) (LH : ListH zs k av len cap m) :
    Calls Tryd.prog 87 #[.pointer (some ⟨k, 0, none⟩), .agg #[.int .i64 4, .int .i64 0, .int .u32 0, .int .u32 0, .int .i32 0, .slice none 0 0, .slice none 0 0, .slice none 0 0], .int .i64 d] w (DocO k (.slice av len cap) w (oneG zs (listF zs) 4 d n s)) := by
  have HK := hid (show kindP 4 = 1 by decide)
  have M0 := hid (Blk.start h 4)
  have C1 := hid (fun W (hr : RcIs W k (.slice av len cap) s n) (hs : Save k w W) => nextC_any k av len cap zs s n W hr hg hlen (hz.save hs ha))
  have HZ := hid (fun W (hs : Save k w W) => hz.save hs ha)
  have gb := byteR_good hg
  have gt := tagR_good (ok := isRes) hg
  have hon := tagR_on (ok := isRes) hg
  have c1 : ((w.alloc (.cells #[.int .i64 4, .int .i64 0, .int .u32 0, .int .u32 0, .int .i32 0, .slice none 0 0, .slice none 0 0, .slice none 0 0] 52)).alloc (.cells #[.int .i64 0, .int .i64 0, .int .u32 0, .int .u32 0, .int .i32 0, .slice none 0 0, .slice none 0 0, .slice none 0 0] 52)).cell? ⟨k, 1, none⟩ = some (.int .i64 s.1) := M0.out.r.c1
  have hz0 : (byteR zs s).2.2.1 ≠ 0 → (byteR zs s).1 = 0 := by
    intro hb
    unfold byteR at hb ⊢
    split
    · rename_i h0
      rw [if_pos h0] at hb
      split
      · rfl
      · rename_i h1
        rw [if_neg h1] at hb
        exact absurd rfl hb
    · rfl
  have hta : (tagR zs isRes s).2 = if isRes (byteR zs s).1 then (byteR zs s).2 else refuseR (byteR zs s).2 140 s.1 := rfl
  have htb : (tagR zs isRes s).1 = (byteR zs s).1 := rfl
  have hxr := restR1 (zs := zs) (s := s) HK.out
  rw [htb] at hxr
  obtain ⟨p, hp⟩ : ∃ p, s.1 = p := ⟨_, rfl⟩
  obtain ⟨y, hy⟩ : ∃ y, (byteR zs s).1 = y := ⟨_, rfl⟩
  obtain ⟨s1, hs1⟩ : ∃ t, (byteR zs s).2 = t := ⟨_, rfl⟩
  rw [hy, hs1] at C1 hz0 hta
  rw [hy] at hxr
  rw [hs1] at gb
  rw [hp] at hta c1
  by_cases hb1 : s1.2.1 = 0
  · by_cases h64 : y = 64
    · subst h64
      have hts : (tagR zs isRes s).2 = s1 := by rw [hta, show isRes 64 = true from rfl, if_pos rfl]
      have HT := hid (show (tagR zs isRes s).2.2.1 = 0 by rw [hts]; exact hb1)
      rw [hts] at gt hon
      have REM := hid (Nat.le_trans (hon.rem zs) hm)
      have GS := hid gt
      obtain ⟨r1, hr1⟩ : ∃ r, listF zs (d + 1) true n s1 = r := ⟨_, rfl⟩
      have HR1 : Hid (listF zs (d + 1) (decide ((4 : Int) = 4)) n (tagR zs isRes s).2 = r1) := by rw [hts]; exact hr1
      have hfine := listF_fine zs (d + 1) true n s1 gt
      have hcnt := listF_cnt zs (d + 1) true n s1 hn.2
      rw [hr1] at hfine hcnt
      have HG1 := hid hfine.1
      have REM1 := hid (Nat.le_trans (hfine.2.rem zs) REM.out)
      have HN1 := hid (show 0 ≤ r1.n ∧ r1.n ≤ 262144 by omega)
      have HN := hid hn
      have HD1 := hid (show d + 1 ≤ 901 by omega)
      have HDD := hid (show ((d + 1 : Nat) : Int) = (d : Int) + 1 by omega)
      have HRX := hid hxr
      obtain ⟨rr, hrr⟩ : ∃ rr, oneG zs (listF zs) 4 d n s = rr := ⟨_, rfl⟩
      rw [hrr]
      have HRR := hid hrr
      clear hrr
      have HB := hid hb1
      have hd9 : (d : Int) ≤ 900 := by omega
      have LH := hid LH
      clear h hg hlen hz gb gt hon hz0 hta htb hxr hy hs1 hp hb1 hts ha hm hd hn hfine hcnt
      go_enter Tryd.func87, Tryd.ntmps87
      go_wp2_with fail
      refine (C1.out _ M0.out.r M0.out.sv).mono ?_
      clear C1
      rintro e w1 ⟨rfl, h1, sv1⟩
      have M1 := hid (M0.out.call h1 sv1)
      clear h1 sv1 M0
      clear c1
      go_wp2_with fail
      refine (bad_no k _ _ _ _ M1.out.r HB.out).mono ?_
      rintro e w2 ⟨rfl, rfl⟩
      have M1r := M1
      go_wp2_with fail
      refine (bad_no k _ _ _ _ M1.out.r HB.out).mono ?_
      rintro e w2 ⟨rfl, rfl⟩
      clear M1
      have C2 := LH.out (d + 1) true n s1 _ M1r.out.r GS.out REM.out HD1.out HN.out.1 HN.out.2 (HZ.out _ M1r.out.sv)
      rw [HDD.out, hr1] at C2
      have D2 := hid C2
      clear C2
      obtain ⟨⟨yc0, -, -, -, -, -, -, -⟩, -, -, -, -, -, -, -, -⟩ := M1r.out.box
      dsimp only [plainX] at yc0
      go_wp2_with fail
      refine D2.out.mono ?_
      clear D2 yc0
      rintro e w2 ⟨a2, l2, c2, q2, rfl, h2, sv2, hgo⟩
      have M2 := hid (M1r.out.call h2 sv2)
      have HS1 := hid M1r.out.size
      obtain ⟨⟨-, -, -, -, -, -, yc6, -⟩, -, -, -, -, -, -, yf6, -⟩ := M2.out.box
      dsimp only [plainX] at yc6
      have M2a := hid (M2.out.setL a2 l2 c2)
      have HGO := hid hgo
      clear h2 sv2 M1r hgo
      by_cases hb2 : r1.s.2.1 = 0
      · have HB2 := hid hb2
        obtain ⟨t2, hq2, ht2, hl2, hlow2, hle2⟩ := HGO.out hb2
        have HL2 := hid hl2
        have HW2 := hid (fun b hb => Nat.le_trans HS1.out (hlow2 b hb))
        have HE2 := hid hle2
        have HT2 := hid ht2
        have HQ2 := hid hq2
        clear hb2 hl2 hlow2 hle2 ht2 hq2 HGO HS1
        by_cases h5 : q2 = 5
        · have HR := hid (oneG_two (zs := zs) (rec := listF zs) (d := d) (c := n) (s := s) HK.out HT.out HR1.out ⟨HB2.out, by rw [← HQ2.out]; exact h5⟩ rfl)
          subst h5
          go_wp2_with fail
          refine (bad_no k _ _ _ _ M2a.out.r HB2.out).mono ?_
          rintro e w3 ⟨rfl, rfl⟩
          clear yc6 yf6
          have C3 := LH.out (d + 1) false r1.n r1.s _ M2a.out.r HG1.out REM1.out HD1.out HN1.out.1 HN1.out.2 (HZ.out _ M2a.out.sv)
          rw [HDD.out] at C3
          have D3 := hid C3
          clear C3
          go_wp2_with fail
          refine D3.out.mono ?_
          clear D3
          rintro e w4 ⟨a4, l4, c4, q4, rfl, h4, sv4, hgo⟩
          have M4 := hid (M2a.out.call h4 sv4)
          have HS4 := hid M2a.out.size
          have SV4 := hid sv4
          have HLT := hid M2a.out.lt
          have M4a := hid (M4.out.setE a4 l4 c4)
          have HGO := hid hgo
          clear h4 sv4 M2a hgo
          obtain ⟨⟨x0, x1, x2, x3, x4, x5, x6, x7⟩, f0, f1, f2, f3, f4, f5, f6, f7⟩ := M4.out.res
          obtain ⟨⟨y0, y1, y2, y3, y4, y5, y6, y7⟩, e0, e1, e2, e3, e4, e5, e6, e7⟩ := M4.out.box
          simp only [zeroX, plainX] at x0 x1 x2 x3 x4 x5 x6 x7 y0 y1 y2 y3 y4 y5 y6 y7
          go_wp2
          refine bodyPost_ret (v := .agg #[.int .i64 4, .int .i64 0, .int .u32 0, .int .u32 0, .int .i32 0, .slice none 0 0, .slice a2 l2 c2, .slice a4 l4 c4]) (by simp [results, Tryd.results87, go_sem, x0, x1, x2, x3, x4, x5, x6, x7]) rfl ?_
          rw [← HRR.out, HR.out]
          by_cases hb4 : (listF zs (d + 1) false r1.n r1.s).s.2.1 = 0
          · obtain ⟨t4, hq4, ht4, hl4, hlow4, hle4⟩ := HGO.out hb4
            have FO := fin_two (b := w.heap.size) (c := c2) (d := c4) (op := 4) (res := 0) (by omega) (by omega) HL2.out HW2.out HE2.out HLT.out SV4.out hl4 (fun b hb => Nat.le_trans HS4.out (hlow4 b hb)) hle4
            exact ⟨⟨4, 0, 0, 0, 0, [], none, 0, a2, l2, c2, a4, l4, c4⟩, t2, t4, rfl, M4a.out.fin.1, M4a.out.fin.2, fun _ => ⟨FO.1, FO.2, bare_two (by rw [HRX.out]; rfl) HT2.out HL2.out.1 ht4 hl4.1⟩⟩
          · exact ⟨⟨4, 0, 0, 0, 0, [], none, 0, a2, l2, c2, a4, l4, c4⟩, t2, .nil, rfl, M4a.out.fin.1, M4a.out.fin.2, fun h => absurd h hb4⟩
        · have HR : Hid (oneG zs (listF zs) 4 d n s = ⟨Ix.hold (restR zs 4 s).x r1.t .nil, r1.t, .nil, r1.n, r1.s⟩) := hid (oneG_one HK.out HT.out HR1.out (fun h => h5 (by rw [HQ2.out]; exact h.2)))
          go_wp2_with fail
          refine (bad_no k _ _ _ _ M2a.out.r HB2.out).mono ?_
          rintro e w3 ⟨rfl, rfl⟩
          clear yc6 yf6
          obtain ⟨⟨x0, x1, x2, x3, x4, x5, x6, x7⟩, f0, f1, f2, f3, f4, f5, f6, f7⟩ := M2a.out.res
          obtain ⟨⟨y0, y1, y2, y3, y4, y5, y6, y7⟩, e0, e1, e2, e3, e4, e5, e6, e7⟩ := M2a.out.box
          simp only [zeroX, plainX] at x0 x1 x2 x3 x4 x5 x6 x7 y0 y1 y2 y3 y4 y5 y6 y7
          go_wp2
          refine bodyPost_ret (v := .agg #[.int .i64 4, .int .i64 0, .int .u32 0, .int .u32 0, .int .i32 0, .slice none 0 0, .slice a2 l2 c2, .slice none 0 0]) (by simp [results, Tryd.results87, go_sem, x0, x1, x2, x3, x4, x5, x6, x7]) rfl ?_
          rw [← HRR.out, HR.out]
          have FO := fin_one (b := w.heap.size) (c := c2) (op := 4) (res := 0) (by omega) (by omega) HL2.out HW2.out HE2.out
          exact ⟨⟨4, 0, 0, 0, 0, [], none, 0, a2, l2, c2, none, 0, 0⟩, t2, .nil, rfl, M2a.out.fin.1, M2a.out.fin.2, fun _ => ⟨FO.1, FO.2, bare_one (by rw [HRX.out]; rfl) HT2.out HL2.out.1⟩⟩
      · have HB2 := hid hb2
        have HR : Hid (oneG zs (listF zs) 4 d n s = ⟨Ix.hold (restR zs 4 s).x r1.t .nil, r1.t, .nil, r1.n, r1.s⟩) := hid (oneG_one HK.out HT.out HR1.out (fun h => hb2 h.1))
        clear hb2 HGO HS1
        go_wp2_with fail
        refine (bad_yes k _ _ _ _ M2a.out.r HB2.out).mono ?_
        rintro e w3 ⟨rfl, rfl⟩
        clear yc6 yf6
        obtain ⟨⟨x0, x1, x2, x3, x4, x5, x6, x7⟩, f0, f1, f2, f3, f4, f5, f6, f7⟩ := M2a.out.res
        obtain ⟨⟨y0, y1, y2, y3, y4, y5, y6, y7⟩, e0, e1, e2, e3, e4, e5, e6, e7⟩ := M2a.out.box
        simp only [zeroX, plainX] at x0 x1 x2 x3 x4 x5 x6 x7 y0 y1 y2 y3 y4 y5 y6 y7
        go_wp2
        refine bodyPost_ret (v := .agg #[.int .i64 4, .int .i64 0, .int .u32 0, .int .u32 0, .int .i32 0, .slice none 0 0, .slice a2 l2 c2, .slice none 0 0]) (by simp [results, Tryd.results87, go_sem, x0, x1, x2, x3, x4, x5, x6, x7]) rfl ?_
        rw [← HRR.out, HR.out]
        exact ⟨⟨4, 0, 0, 0, 0, [], none, 0, a2, l2, c2, none, 0, 0⟩, .nil, .nil, rfl, M2a.out.fin.1, M2a.out.fin.2, fun h => absurd h HB2.out⟩
    by_cases h127 : y = 127
    · subst h127
      have hts : (tagR zs isRes s).2 = s1 := by rw [hta, show isRes 127 = true from rfl, if_pos rfl]
      have HT := hid (show (tagR zs isRes s).2.2.1 = 0 by rw [hts]; exact hb1)
      rw [hts] at gt hon
      have REM := hid (Nat.le_trans (hon.rem zs) hm)
      have GS := hid gt
      obtain ⟨r1, hr1⟩ : ∃ r, listF zs (d + 1) true n s1 = r := ⟨_, rfl⟩
      have HR1 : Hid (listF zs (d + 1) (decide ((4 : Int) = 4)) n (tagR zs isRes s).2 = r1) := by rw [hts]; exact hr1
      have hfine := listF_fine zs (d + 1) true n s1 gt
      have hcnt := listF_cnt zs (d + 1) true n s1 hn.2
      rw [hr1] at hfine hcnt
      have HG1 := hid hfine.1
      have REM1 := hid (Nat.le_trans (hfine.2.rem zs) REM.out)
      have HN1 := hid (show 0 ≤ r1.n ∧ r1.n ≤ 262144 by omega)
      have HN := hid hn
      have HD1 := hid (show d + 1 ≤ 901 by omega)
      have HDD := hid (show ((d + 1 : Nat) : Int) = (d : Int) + 1 by omega)
      have HRX := hid hxr
      obtain ⟨rr, hrr⟩ : ∃ rr, oneG zs (listF zs) 4 d n s = rr := ⟨_, rfl⟩
      rw [hrr]
      have HRR := hid hrr
      clear hrr
      have HB := hid hb1
      have hd9 : (d : Int) ≤ 900 := by omega
      have LH := hid LH
      clear h hg hlen hz gb gt hon hz0 hta htb hxr hy hs1 hp hb1 hts ha hm hd hn hfine hcnt
      go_enter Tryd.func87, Tryd.ntmps87
      go_wp2_with fail
      refine (C1.out _ M0.out.r M0.out.sv).mono ?_
      clear C1
      rintro e w1 ⟨rfl, h1, sv1⟩
      have M1 := hid (M0.out.call h1 sv1)
      clear h1 sv1 M0
      clear c1
      go_wp2_with fail
      refine (bad_no k _ _ _ _ M1.out.r HB.out).mono ?_
      rintro e w2 ⟨rfl, rfl⟩
      have yc1 := M1.out.box.at_.c1
      have yf1 := M1.out.box.f1
      dsimp only [plainX] at yc1
      have M1r := hid (M1.out.setRes 1)
      go_wp2_with fail
      refine (bad_no k _ _ _ _ M1r.out.r HB.out).mono ?_
      rintro e w2 ⟨rfl, rfl⟩
      clear yc1 yf1 M1
      have C2 := LH.out (d + 1) true n s1 _ M1r.out.r GS.out REM.out HD1.out HN.out.1 HN.out.2 (HZ.out _ M1r.out.sv)
      rw [HDD.out, hr1] at C2
      have D2 := hid C2
      clear C2
      obtain ⟨⟨yc0, -, -, -, -, -, -, -⟩, -, -, -, -, -, -, -, -⟩ := M1r.out.box
      dsimp only [plainX] at yc0
      go_wp2_with fail
      refine D2.out.mono ?_
      clear D2 yc0
      rintro e w2 ⟨a2, l2, c2, q2, rfl, h2, sv2, hgo⟩
      have M2 := hid (M1r.out.call h2 sv2)
      have HS1 := hid M1r.out.size
      obtain ⟨⟨-, -, -, -, -, -, yc6, -⟩, -, -, -, -, -, -, yf6, -⟩ := M2.out.box
      dsimp only [plainX] at yc6
      have M2a := hid (M2.out.setL a2 l2 c2)
      have HGO := hid hgo
      clear h2 sv2 M1r hgo
      by_cases hb2 : r1.s.2.1 = 0
      · have HB2 := hid hb2
        obtain ⟨t2, hq2, ht2, hl2, hlow2, hle2⟩ := HGO.out hb2
        have HL2 := hid hl2
        have HW2 := hid (fun b hb => Nat.le_trans HS1.out (hlow2 b hb))
        have HE2 := hid hle2
        have HT2 := hid ht2
        have HQ2 := hid hq2
        clear hb2 hl2 hlow2 hle2 ht2 hq2 HGO HS1
        by_cases h5 : q2 = 5
        · have HR := hid (oneG_two (zs := zs) (rec := listF zs) (d := d) (c := n) (s := s) HK.out HT.out HR1.out ⟨HB2.out, by rw [← HQ2.out]; exact h5⟩ rfl)
          subst h5
          go_wp2_with fail
          refine (bad_no k _ _ _ _ M2a.out.r HB2.out).mono ?_
          rintro e w3 ⟨rfl, rfl⟩
          clear yc6 yf6
          have C3 := LH.out (d + 1) false r1.n r1.s _ M2a.out.r HG1.out REM1.out HD1.out HN1.out.1 HN1.out.2 (HZ.out _ M2a.out.sv)
          rw [HDD.out] at C3
          have D3 := hid C3
          clear C3
          go_wp2_with fail
          refine D3.out.mono ?_
          clear D3
          rintro e w4 ⟨a4, l4, c4, q4, rfl, h4, sv4, hgo⟩
          have M4 := hid (M2a.out.call h4 sv4)
          have HS4 := hid M2a.out.size
          have SV4 := hid sv4
          have HLT := hid M2a.out.lt
          have M4a := hid (M4.out.setE a4 l4 c4)
          have HGO := hid hgo
          clear h4 sv4 M2a hgo
          obtain ⟨⟨x0, x1, x2, x3, x4, x5, x6, x7⟩, f0, f1, f2, f3, f4, f5, f6, f7⟩ := M4.out.res
          obtain ⟨⟨y0, y1, y2, y3, y4, y5, y6, y7⟩, e0, e1, e2, e3, e4, e5, e6, e7⟩ := M4.out.box
          simp only [zeroX, plainX] at x0 x1 x2 x3 x4 x5 x6 x7 y0 y1 y2 y3 y4 y5 y6 y7
          go_wp2
          refine bodyPost_ret (v := .agg #[.int .i64 4, .int .i64 1, .int .u32 0, .int .u32 0, .int .i32 0, .slice none 0 0, .slice a2 l2 c2, .slice a4 l4 c4]) (by simp [results, Tryd.results87, go_sem, x0, x1, x2, x3, x4, x5, x6, x7]) rfl ?_
          rw [← HRR.out, HR.out]
          by_cases hb4 : (listF zs (d + 1) false r1.n r1.s).s.2.1 = 0
          · obtain ⟨t4, hq4, ht4, hl4, hlow4, hle4⟩ := HGO.out hb4
            have FO := fin_two (b := w.heap.size) (c := c2) (d := c4) (op := 4) (res := 1) (by omega) (by omega) HL2.out HW2.out HE2.out HLT.out SV4.out hl4 (fun b hb => Nat.le_trans HS4.out (hlow4 b hb)) hle4
            exact ⟨⟨4, 1, 0, 0, 0, [], none, 0, a2, l2, c2, a4, l4, c4⟩, t2, t4, rfl, M4a.out.fin.1, M4a.out.fin.2, fun _ => ⟨FO.1, FO.2, bare_two (by rw [HRX.out]; rfl) HT2.out HL2.out.1 ht4 hl4.1⟩⟩
          · exact ⟨⟨4, 1, 0, 0, 0, [], none, 0, a2, l2, c2, a4, l4, c4⟩, t2, .nil, rfl, M4a.out.fin.1, M4a.out.fin.2, fun h => absurd h hb4⟩
        · have HR : Hid (oneG zs (listF zs) 4 d n s = ⟨Ix.hold (restR zs 4 s).x r1.t .nil, r1.t, .nil, r1.n, r1.s⟩) := hid (oneG_one HK.out HT.out HR1.out (fun h => h5 (by rw [HQ2.out]; exact h.2)))
          go_wp2_with fail
          refine (bad_no k _ _ _ _ M2a.out.r HB2.out).mono ?_
          rintro e w3 ⟨rfl, rfl⟩
          clear yc6 yf6
          obtain ⟨⟨x0, x1, x2, x3, x4, x5, x6, x7⟩, f0, f1, f2, f3, f4, f5, f6, f7⟩ := M2a.out.res
          obtain ⟨⟨y0, y1, y2, y3, y4, y5, y6, y7⟩, e0, e1, e2, e3, e4, e5, e6, e7⟩ := M2a.out.box
          simp only [zeroX, plainX] at x0 x1 x2 x3 x4 x5 x6 x7 y0 y1 y2 y3 y4 y5 y6 y7
          go_wp2
          refine bodyPost_ret (v := .agg #[.int .i64 4, .int .i64 1, .int .u32 0, .int .u32 0, .int .i32 0, .slice none 0 0, .slice a2 l2 c2, .slice none 0 0]) (by simp [results, Tryd.results87, go_sem, x0, x1, x2, x3, x4, x5, x6, x7]) rfl ?_
          rw [← HRR.out, HR.out]
          have FO := fin_one (b := w.heap.size) (c := c2) (op := 4) (res := 1) (by omega) (by omega) HL2.out HW2.out HE2.out
          exact ⟨⟨4, 1, 0, 0, 0, [], none, 0, a2, l2, c2, none, 0, 0⟩, t2, .nil, rfl, M2a.out.fin.1, M2a.out.fin.2, fun _ => ⟨FO.1, FO.2, bare_one (by rw [HRX.out]; rfl) HT2.out HL2.out.1⟩⟩
      · have HB2 := hid hb2
        have HR : Hid (oneG zs (listF zs) 4 d n s = ⟨Ix.hold (restR zs 4 s).x r1.t .nil, r1.t, .nil, r1.n, r1.s⟩) := hid (oneG_one HK.out HT.out HR1.out (fun h => hb2 h.1))
        clear hb2 HGO HS1
        go_wp2_with fail
        refine (bad_yes k _ _ _ _ M2a.out.r HB2.out).mono ?_
        rintro e w3 ⟨rfl, rfl⟩
        clear yc6 yf6
        obtain ⟨⟨x0, x1, x2, x3, x4, x5, x6, x7⟩, f0, f1, f2, f3, f4, f5, f6, f7⟩ := M2a.out.res
        obtain ⟨⟨y0, y1, y2, y3, y4, y5, y6, y7⟩, e0, e1, e2, e3, e4, e5, e6, e7⟩ := M2a.out.box
        simp only [zeroX, plainX] at x0 x1 x2 x3 x4 x5 x6 x7 y0 y1 y2 y3 y4 y5 y6 y7
        go_wp2
        refine bodyPost_ret (v := .agg #[.int .i64 4, .int .i64 1, .int .u32 0, .int .u32 0, .int .i32 0, .slice none 0 0, .slice a2 l2 c2, .slice none 0 0]) (by simp [results, Tryd.results87, go_sem, x0, x1, x2, x3, x4, x5, x6, x7]) rfl ?_
        rw [← HRR.out, HR.out]
        exact ⟨⟨4, 1, 0, 0, 0, [], none, 0, a2, l2, c2, none, 0, 0⟩, .nil, .nil, rfl, M2a.out.fin.1, M2a.out.fin.2, fun h => absurd h HB2.out⟩
    have hisr : isRes y = false := by simp [isRes, h64, h127]
    have hts : (tagR zs isRes s).2 = refuseR s1 140 p := by rw [hta, hisr, if_neg (by decide)]
    have ht : (tagR zs isRes s).2.2.1 ≠ 0 := by rw [hts]; exact refuse_is_bad (by decide)
    have hr := oneG_bad (rec := listF zs) (d := d) (c := n) HK.out ht
    rw [hts] at hr
    obtain ⟨rr, hrr⟩ : ∃ rr, oneG zs (listF zs) 4 d n s = rr := ⟨_, rfl⟩
    rw [hrr] at hr ⊢
    obtain ⟨s2, hs2⟩ : ∃ t, refuseR s1 140 p = t := ⟨_, rfl⟩
    have hb2 : s2.2.1 ≠ 0 := by rw [← hs2]; exact refuse_is_bad (by decide)
    rw [hs2] at hr
    have FT := hid (fun W (hr : RcIs W k (.slice av len cap) s1 n) => fault_any k _ s1 n 140 p W hr)
    rw [hs2] at FT
    have HR := hid hr
    have HB := hid hb1
    have HB2 := hid hb2
    have e64 : (y != 64) = true := by simp [h64]
    have e127 : (y != 127) = true := by simp [h127]
    have f127 : (y == 127) = false := by simp [h127]
    clear h hg hlen hz gb gt hon hz0 hta htb hxr hy hs1 hp hb1 ht hr hts hrr HZ LH ha hm hd hn hisr hs2 hb2
    go_enter Tryd.func87, Tryd.ntmps87
    go_wp2_with fail
    refine (C1.out _ M0.out.r M0.out.sv).mono ?_
    clear C1
    rintro e w1 ⟨rfl, h1, sv1⟩
    have M1 := hid (M0.out.call h1 sv1)
    clear h1 sv1 M0
    clear c1
    go_wp2_with fail
    refine (bad_no k _ _ _ _ M1.out.r HB.out).mono ?_
    rintro e w2 ⟨rfl, rfl⟩
    go_wp2_with fail
    refine (FT.out _ M1.out.r).mono ?_
    clear FT
    rintro e w2 ⟨rfl, h2, sv2⟩
    have M2 := hid (M1.out.call h2 sv2)
    clear h2 sv2 M1
    go_wp2_with fail
    refine (bad_yes k _ _ _ _ M2.out.r HB2.out).mono ?_
    rintro e w3 ⟨rfl, rfl⟩
    obtain ⟨⟨x0, x1, x2, x3, x4, x5, x6, x7⟩, f0, f1, f2, f3, f4, f5, f6, f7⟩ := M2.out.res
    obtain ⟨⟨y0, y1, y2, y3, y4, y5, y6, y7⟩, e0, e1, e2, e3, e4, e5, e6, e7⟩ := M2.out.box
    simp only [zeroX, plainX] at x0 x1 x2 x3 x4 x5 x6 x7 y0 y1 y2 y3 y4 y5 y6 y7
    go_wp2
    refine bodyPost_ret (v := .agg #[.int .i64 4, .int .i64 0, .int .u32 0, .int .u32 0, .int .i32 0, .slice none 0 0, .slice none 0 0, .slice none 0 0]) (by simp [results, Tryd.results87, go_sem, x0, x1, x2, x3, x4, x5, x6, x7]) rfl ?_
    refine ⟨⟨4, 0, 0, 0, 0, [], none, 0, none, 0, 0, none, 0, 0⟩, .nil, .nil, rfl, ?_, M2.out.fin.2, fun h => absurd (HR.out.1 ▸ h) HB2.out⟩
    rw [HR.out.1, HR.out.2]
    exact M2.out.fin.1
  · have hy0 := hz0 hb1
    subst hy0
    have ht : (tagR zs isRes s).2.2.1 ≠ 0 := by rw [hta, show isRes 0 = false from rfl, if_neg (by decide), refuseR_bad hb1]; exact hb1
    have hr := oneG_bad (rec := listF zs) (d := d) (c := n) HK.out ht
    have hts : (tagR zs isRes s).2 = s1 := by rw [hta, show isRes 0 = false from rfl, if_neg (by decide), refuseR_bad hb1]
    rw [hts] at hr
    obtain ⟨rr, hrr⟩ : ∃ rr, oneG zs (listF zs) 4 d n s = rr := ⟨_, rfl⟩
    rw [hrr] at hr ⊢
    have HR := hid hr
    have HB := hid hb1
    clear h hg hlen hz gb gt hon hz0 hta htb hxr hy hs1 hp hb1 ht hr hts hrr HZ LH ha hm hd hn
    go_enter Tryd.func87, Tryd.ntmps87
    go_wp2_with fail
    refine (C1.out _ M0.out.r M0.out.sv).mono ?_
    clear C1
    rintro e w1 ⟨rfl, h1, sv1⟩
    have M1 := hid (M0.out.call h1 sv1)
    clear h1 sv1 M0
    clear c1
    go_wp2_with fail
    refine (bad_yes k _ _ _ _ M1.out.r HB.out).mono ?_
    rintro e w2 ⟨rfl, rfl⟩
    go_wp2_with fail
    refine (bad_yes k _ _ _ _ M1.out.r HB.out).mono ?_
    rintro e w2 ⟨rfl, rfl⟩
    obtain ⟨⟨x0, x1, x2, x3, x4, x5, x6, x7⟩, f0, f1, f2, f3, f4, f5, f6, f7⟩ := M1.out.res
    obtain ⟨⟨y0, y1, y2, y3, y4, y5, y6, y7⟩, e0, e1, e2, e3, e4, e5, e6, e7⟩ := M1.out.box
    simp only [zeroX, plainX] at x0 x1 x2 x3 x4 x5 x6 x7 y0 y1 y2 y3 y4 y5 y6 y7
    go_wp2
    refine bodyPost_ret (v := .agg #[.int .i64 4, .int .i64 0, .int .u32 0, .int .u32 0, .int .i32 0, .slice none 0 0, .slice none 0 0, .slice none 0 0]) (by simp [results, Tryd.results87, go_sem, x0, x1, x2, x3, x4, x5, x6, x7]) rfl ?_
    refine ⟨⟨4, 0, 0, 0, 0, [], none, 0, none, 0, 0, none, 0, 0⟩, .nil, .nil, rfl, ?_, M1.out.fin.2, fun h => absurd (HR.out.1 ▸ h) HB.out⟩
    rw [HR.out.1, HR.out.2]
    exact M1.out.fin.1
end Go.Proofs.YtcjamlgdidiaeaaDoor.Body

/-
  BODY: the document's own one and list, by contract. (tools/gen_bodyrefl.py)
-/
namespace Go.Proofs.YtcjamlgdidiaeaaDoor.Body
set_option linter.unusedVariables false
open Go.RowKit Go.Proofs.YtcjamlgdidiaeaaDoor.Instr
open Go.Proofs.YtcjamlgdidiaeaaDoor.Kind (Rd numR refuseR startR numR_good numR_bounds refuseR_good getL_next)

theorem Mid.finAny {w W : World} {k : Nat} {v : Value} {n : Int} {s : Rd} {x : Ix} (M : Mid w k v n s x W) (y : Ix) : RcIs (Body.fin W w.heap.size y) k v s n ∧ Save k w (Body.fin W w.heap.size y) :=
  ⟨M.r.belowB (fin_below W w.heap.size y (Nat.le_refl _)) M.lt, save_under M.sv (fin_below W w.heap.size y (Nat.le_refl _))⟩
theorem Mid.size {w W : World} {k : Nat} {v : Value} {n : Int} {s : Rd} {x : Ix} (M : Mid w k v n s x W) : w.heap.size + 2 ≤ W.heap.size := by
  have := World.block_lt_of_cell? W _ M.box.at_.c0
  simp only at this
  omega
theorem oneG_plain {zs : List Int} {rec : Nat → Bool → Int → Rd → Lr} {op : Int} {d : Nat} {c : Int} {s : Rd} (hk : kindP op ≠ 1) : oneG zs rec op d c s = ⟨(restR zs op s).x, .nil, .nil, c, (restR zs op s).s⟩ := by
  unfold oneG
  rw [if_neg (fun h => hk h.1)]
theorem restR_nil {zs : List Int} {op : Int} {s : Rd} : (restR zs op s).x.la = none ∧ (restR zs op s).x.ln = 0 ∧ (restR zs op s).x.lc = 0 ∧ (restR zs op s).x.ea = none ∧ (restR zs op s).x.en = 0 ∧ (restR zs op s).x.ec = 0 := by
  unfold restR
  split <;> exact ⟨rfl, rfl, rfl, rfl, rfl, rfl⟩
theorem docO_of {k : Nat} {v : Value} {w : World} {n op : Int} {s : Rd} {zs : List Int} {d : Nat} {e : Ending} {w' : World} (hz : ∀ c ∈ zs, 0 ≤ c ∧ c < 256) (h0 : -9223372036854775808 ≤ op ∧ op ≤ 9223372036854775807) (hk : kindP op ≠ 1)
    (h : DocIx k v w n (restR zs op s).x (restR zs op s).s e w') : DocO k v w (oneG zs (listF zs) op d n s) e w' := by
  rw [oneG_plain hk]
  obtain ⟨ta, tc, he, ho, hr, hs⟩ := h
  obtain ⟨hok, htn⟩ := restR_ok (s := s) hz h0
  obtain ⟨e1, e2, e3, e4, e5, e6⟩ := restR_nil (zs := zs) (op := op) (s := s)
  have hpl := restR_plain (zs := zs) (op := op) (s := s)
  obtain ⟨t1, t2, t3⟩ := tags_of ho
  refine ⟨_, .nil, .nil, he, hr, hs, fun _ => ⟨?_, ?_, ?_⟩⟩
  · exact ⟨⟨hok.op, hok.res, hok.a, hok.b, hok.n, hok.tags, hok.tn, hok.ln, hok.en⟩, t1, ⟨e2.symm, .inl rfl⟩, ⟨e5.symm, .inl rfl⟩, trivial⟩
  · intro q hq
    simp only [Il.foot, inTags, e2, e5, List.append_nil] at hq
    rcases List.mem_append.1 hq with hq | hq
    · rcases List.mem_append.1 hq with hq | hq
      · exact t2 q hq
      · simp [blkOf] at hq
    · simp [blkOf] at hq
  · generalize (restR zs op s).x = x at *
    simp only [Il.bare, Ix.bare, inTags, e2, e5]
    rw [hpl]
    rfl

set_option maxHeartbeats 3200000 in
theorem one1_2 (k : Nat) (av : Option Addr) (len cap : Nat) (zs : List Int) (s : Rd) (n : Int) (d : Nat) (m : Nat) (w : World) (h : RcIs w k (.slice av len cap) s n) (hg : Kind.Good zs s) (hlen : zs.length = len) (hz : Bytes w av zs) (ha : ∀ b off, av = some ⟨b, off, none⟩ → zs ≠ [] → b ≠ k)
    (hm : rem zs s ≤ m) (hd : d ≤ 900) (hn : 0 ≤ n ∧ n ≤ 262144) (LH : ListH zs k av len cap m) :
    Calls Tryd.prog 62 #[.pointer (some ⟨k, 0, none⟩), .int .i64 2, .int .i64 d] w (DocO k (.slice av len cap) w (oneG zs (listF zs) 2 d n s)) := by
  have FA := hid (fun W => refAlign_any (2) W)
  have FL := hid (fun W => refLists_any 2 W)
  rw [show listsP 2 = true by decide] at FL
  rw [show storedP 2 = false by decide] at FA
  obtain ⟨al, hal⟩ : ∃ al, alignP 2 = al := ⟨_, rfl⟩
  rw [hal] at FA
  clear hal
  have M0 := hid (Mid.start h 2)
  have B0 := hid (blocks2 k av len cap zs s n d m ((w.alloc (.cells #[.int .i64 0, .int .i64 0, .int .u32 0, .int .u32 0, .int .i32 0, .slice none 0 0, .slice none 0 0, .slice none 0 0] 52)).alloc (.cells #[.int .i64 2, .int .i64 0, .int .u32 0, .int .u32 0, .int .i32 0, .slice none 0 0, .slice none 0 0, .slice none 0 0] 52)) M0.out.r hg hlen (hz.save M0.out.sv ha) ha hm hd hn LH)
  obtain ⟨rr, hrr⟩ : ∃ rr, oneG zs (listF zs) 2 d n s = rr := ⟨_, rfl⟩
  rw [hrr] at B0 ⊢
  clear h hg hlen hz ha hm hd hn LH hrr
  go_enter Tryd.func62, Tryd.ntmps62
  go_wp2_with fail
  refine (FA.out _).mono ?_
  rintro e w' ⟨rfl, rfl⟩
  generalize ((w.alloc (.cells #[.int .i64 0, .int .i64 0, .int .u32 0, .int .u32 0, .int .i32 0, .slice none 0 0, .slice none 0 0, .slice none 0 0] 52)).alloc (.cells #[.int .i64 2, .int .i64 0, .int .u32 0, .int .u32 0, .int .i32 0, .slice none 0 0, .slice none 0 0, .slice none 0 0] 52)) = w0 at *
  go_wp2_with fail
  refine (FL.out _).mono ?_
  rintro e w' ⟨rfl, rfl⟩
  clear FA FL
  obtain ⟨⟨y0, y1, y2, y3, y4, y5, y6, y7⟩, e0, e1, e2, e3, e4, e5, e6, e7⟩ := M0.out.box
  simp only [plainX] at y0 y1 y2 y3 y4 y5 y6 y7
  go_wp2_with fail
  refine B0.out.mono ?_
  clear B0 y0 y1 y2 y3 y4 y5 y6 y7 e0 e1 e2 e3 e4 e5 e6 e7
  rintro e w1 ⟨⟨p0, p1, p2, p3, p4, p5, p6, p7, p8, p9, p10, p11, p12, p13⟩, l, f, rfl, h1, sv1, hgo⟩
  have M1 := hid (M0.out.call h1 sv1)
  have HS := hid M0.out.size
  have HGO := hid hgo
  clear h1 sv1 M0 hgo
  obtain ⟨⟨x0, x1, x2, x3, x4, x5, x6, x7⟩, f0, f1, f2, f3, f4, f5, f6, f7⟩ := M1.out.res
  simp only [zeroX, plainX] at x0 x1 x2 x3 x4 x5 x6 x7
  simp only [Ix.vals]
  go_wp2
  refine bodyPost_ret (v := .agg #[.int .i64 p0, .int .i64 p1, .int .u32 p2, .int .u32 p3, .int .i32 p4, .slice p6 p5.length p7, .slice p8 p9 p10, .slice p11 p12 p13]) (by simp [results, Tryd.results62, go_sem, x0, x1, x2, x3, x4, x5, x6, x7]) rfl ?_
  have FN := M1.out.finAny ⟨p0, p1, p2, p3, p4, p5, p6, p7, p8, p9, p10, p11, p12, p13⟩
  have TF : Touch (fun j => j < w.heap.size + 2) w1 (fin w1 w.heap.size ⟨p0, p1, p2, p3, p4, p5, p6, p7, p8, p9, p10, p11, p12, p13⟩) := fin_touch w1 w.heap.size _ (by omega) (Touch.refl _ w1)
  refine ⟨⟨p0, p1, p2, p3, p4, p5, p6, p7, p8, p9, p10, p11, p12, p13⟩, l, f, rfl, FN.1, FN.2, fun hb => ?_⟩
  obtain ⟨k1, k2, k3⟩ := HGO.out hb
  have hs := HS.out
  exact ⟨kids_touch TF k1 (fun q hq => by have := k2 q hq; omega), fun q hq => by have := k2 q hq; omega, k3⟩

set_option maxHeartbeats 3200000 in
theorem one1_3 (k : Nat) (av : Option Addr) (len cap : Nat) (zs : List Int) (s : Rd) (n : Int) (d : Nat) (m : Nat) (w : World) (h : RcIs w k (.slice av len cap) s n) (hg : Kind.Good zs s) (hlen : zs.length = len) (hz : Bytes w av zs) (ha : ∀ b off, av = some ⟨b, off, none⟩ → zs ≠ [] → b ≠ k)
    (hm : rem zs s ≤ m) (hd : d ≤ 900) (hn : 0 ≤ n ∧ n ≤ 262144) (LH : ListH zs k av len cap m) :
    Calls Tryd.prog 62 #[.pointer (some ⟨k, 0, none⟩), .int .i64 3, .int .i64 d] w (DocO k (.slice av len cap) w (oneG zs (listF zs) 3 d n s)) := by
  have FA := hid (fun W => refAlign_any (3) W)
  have FL := hid (fun W => refLists_any 3 W)
  rw [show listsP 3 = true by decide] at FL
  rw [show storedP 3 = false by decide] at FA
  obtain ⟨al, hal⟩ : ∃ al, alignP 3 = al := ⟨_, rfl⟩
  rw [hal] at FA
  clear hal
  have M0 := hid (Mid.start h 3)
  have B0 := hid (blocks3 k av len cap zs s n d m ((w.alloc (.cells #[.int .i64 0, .int .i64 0, .int .u32 0, .int .u32 0, .int .i32 0, .slice none 0 0, .slice none 0 0, .slice none 0 0] 52)).alloc (.cells #[.int .i64 3, .int .i64 0, .int .u32 0, .int .u32 0, .int .i32 0, .slice none 0 0, .slice none 0 0, .slice none 0 0] 52)) M0.out.r hg hlen (hz.save M0.out.sv ha) ha hm hd hn LH)
  obtain ⟨rr, hrr⟩ : ∃ rr, oneG zs (listF zs) 3 d n s = rr := ⟨_, rfl⟩
  rw [hrr] at B0 ⊢
  clear h hg hlen hz ha hm hd hn LH hrr
  go_enter Tryd.func62, Tryd.ntmps62
  go_wp2_with fail
  refine (FA.out _).mono ?_
  rintro e w' ⟨rfl, rfl⟩
  generalize ((w.alloc (.cells #[.int .i64 0, .int .i64 0, .int .u32 0, .int .u32 0, .int .i32 0, .slice none 0 0, .slice none 0 0, .slice none 0 0] 52)).alloc (.cells #[.int .i64 3, .int .i64 0, .int .u32 0, .int .u32 0, .int .i32 0, .slice none 0 0, .slice none 0 0, .slice none 0 0] 52)) = w0 at *
  go_wp2_with fail
  refine (FL.out _).mono ?_
  rintro e w' ⟨rfl, rfl⟩
  clear FA FL
  obtain ⟨⟨y0, y1, y2, y3, y4, y5, y6, y7⟩, e0, e1, e2, e3, e4, e5, e6, e7⟩ := M0.out.box
  simp only [plainX] at y0 y1 y2 y3 y4 y5 y6 y7
  go_wp2_with fail
  refine B0.out.mono ?_
  clear B0 y0 y1 y2 y3 y4 y5 y6 y7 e0 e1 e2 e3 e4 e5 e6 e7
  rintro e w1 ⟨⟨p0, p1, p2, p3, p4, p5, p6, p7, p8, p9, p10, p11, p12, p13⟩, l, f, rfl, h1, sv1, hgo⟩
  have M1 := hid (M0.out.call h1 sv1)
  have HS := hid M0.out.size
  have HGO := hid hgo
  clear h1 sv1 M0 hgo
  obtain ⟨⟨x0, x1, x2, x3, x4, x5, x6, x7⟩, f0, f1, f2, f3, f4, f5, f6, f7⟩ := M1.out.res
  simp only [zeroX, plainX] at x0 x1 x2 x3 x4 x5 x6 x7
  simp only [Ix.vals]
  go_wp2
  refine bodyPost_ret (v := .agg #[.int .i64 p0, .int .i64 p1, .int .u32 p2, .int .u32 p3, .int .i32 p4, .slice p6 p5.length p7, .slice p8 p9 p10, .slice p11 p12 p13]) (by simp [results, Tryd.results62, go_sem, x0, x1, x2, x3, x4, x5, x6, x7]) rfl ?_
  have FN := M1.out.finAny ⟨p0, p1, p2, p3, p4, p5, p6, p7, p8, p9, p10, p11, p12, p13⟩
  have TF : Touch (fun j => j < w.heap.size + 2) w1 (fin w1 w.heap.size ⟨p0, p1, p2, p3, p4, p5, p6, p7, p8, p9, p10, p11, p12, p13⟩) := fin_touch w1 w.heap.size _ (by omega) (Touch.refl _ w1)
  refine ⟨⟨p0, p1, p2, p3, p4, p5, p6, p7, p8, p9, p10, p11, p12, p13⟩, l, f, rfl, FN.1, FN.2, fun hb => ?_⟩
  obtain ⟨k1, k2, k3⟩ := HGO.out hb
  have hs := HS.out
  exact ⟨kids_touch TF k1 (fun q hq => by have := k2 q hq; omega), fun q hq => by have := k2 q hq; omega, k3⟩

set_option maxHeartbeats 3200000 in
theorem one1_4 (k : Nat) (av : Option Addr) (len cap : Nat) (zs : List Int) (s : Rd) (n : Int) (d : Nat) (m : Nat) (w : World) (h : RcIs w k (.slice av len cap) s n) (hg : Kind.Good zs s) (hlen : zs.length = len) (hz : Bytes w av zs) (ha : ∀ b off, av = some ⟨b, off, none⟩ → zs ≠ [] → b ≠ k)
    (hm : rem zs s ≤ m) (hd : d ≤ 900) (hn : 0 ≤ n ∧ n ≤ 262144) (LH : ListH zs k av len cap m) :
    Calls Tryd.prog 62 #[.pointer (some ⟨k, 0, none⟩), .int .i64 4, .int .i64 d] w (DocO k (.slice av len cap) w (oneG zs (listF zs) 4 d n s)) := by
  have FA := hid (fun W => refAlign_any (4) W)
  have FL := hid (fun W => refLists_any 4 W)
  rw [show listsP 4 = true by decide] at FL
  rw [show storedP 4 = false by decide] at FA
  obtain ⟨al, hal⟩ : ∃ al, alignP 4 = al := ⟨_, rfl⟩
  rw [hal] at FA
  clear hal
  have M0 := hid (Mid.start h 4)
  have B0 := hid (blocks4 k av len cap zs s n d m ((w.alloc (.cells #[.int .i64 0, .int .i64 0, .int .u32 0, .int .u32 0, .int .i32 0, .slice none 0 0, .slice none 0 0, .slice none 0 0] 52)).alloc (.cells #[.int .i64 4, .int .i64 0, .int .u32 0, .int .u32 0, .int .i32 0, .slice none 0 0, .slice none 0 0, .slice none 0 0] 52)) M0.out.r hg hlen (hz.save M0.out.sv ha) ha hm hd hn LH)
  obtain ⟨rr, hrr⟩ : ∃ rr, oneG zs (listF zs) 4 d n s = rr := ⟨_, rfl⟩
  rw [hrr] at B0 ⊢
  clear h hg hlen hz ha hm hd hn LH hrr
  go_enter Tryd.func62, Tryd.ntmps62
  go_wp2_with fail
  refine (FA.out _).mono ?_
  rintro e w' ⟨rfl, rfl⟩
  generalize ((w.alloc (.cells #[.int .i64 0, .int .i64 0, .int .u32 0, .int .u32 0, .int .i32 0, .slice none 0 0, .slice none 0 0, .slice none 0 0] 52)).alloc (.cells #[.int .i64 4, .int .i64 0, .int .u32 0, .int .u32 0, .int .i32 0, .slice none 0 0, .slice none 0 0, .slice none 0 0] 52)) = w0 at *
  go_wp2_with fail
  refine (FL.out _).mono ?_
  rintro e w' ⟨rfl, rfl⟩
  clear FA FL
  obtain ⟨⟨y0, y1, y2, y3, y4, y5, y6, y7⟩, e0, e1, e2, e3, e4, e5, e6, e7⟩ := M0.out.box
  simp only [plainX] at y0 y1 y2 y3 y4 y5 y6 y7
  go_wp2_with fail
  refine B0.out.mono ?_
  clear B0 y0 y1 y2 y3 y4 y5 y6 y7 e0 e1 e2 e3 e4 e5 e6 e7
  rintro e w1 ⟨⟨p0, p1, p2, p3, p4, p5, p6, p7, p8, p9, p10, p11, p12, p13⟩, l, f, rfl, h1, sv1, hgo⟩
  have M1 := hid (M0.out.call h1 sv1)
  have HS := hid M0.out.size
  have HGO := hid hgo
  clear h1 sv1 M0 hgo
  obtain ⟨⟨x0, x1, x2, x3, x4, x5, x6, x7⟩, f0, f1, f2, f3, f4, f5, f6, f7⟩ := M1.out.res
  simp only [zeroX, plainX] at x0 x1 x2 x3 x4 x5 x6 x7
  simp only [Ix.vals]
  go_wp2
  refine bodyPost_ret (v := .agg #[.int .i64 p0, .int .i64 p1, .int .u32 p2, .int .u32 p3, .int .i32 p4, .slice p6 p5.length p7, .slice p8 p9 p10, .slice p11 p12 p13]) (by simp [results, Tryd.results62, go_sem, x0, x1, x2, x3, x4, x5, x6, x7]) rfl ?_
  have FN := M1.out.finAny ⟨p0, p1, p2, p3, p4, p5, p6, p7, p8, p9, p10, p11, p12, p13⟩
  have TF : Touch (fun j => j < w.heap.size + 2) w1 (fin w1 w.heap.size ⟨p0, p1, p2, p3, p4, p5, p6, p7, p8, p9, p10, p11, p12, p13⟩) := fin_touch w1 w.heap.size _ (by omega) (Touch.refl _ w1)
  refine ⟨⟨p0, p1, p2, p3, p4, p5, p6, p7, p8, p9, p10, p11, p12, p13⟩, l, f, rfl, FN.1, FN.2, fun hb => ?_⟩
  obtain ⟨k1, k2, k3⟩ := HGO.out hb
  have hs := HS.out
  exact ⟨kids_touch TF k1 (fun q hq => by have := k2 q hq; omega), fun q hq => by have := k2 q hq; omega, k3⟩

/-- An instruction, with its lists by the contract that is handed in. -/
theorem one_doc (k : Nat) (av : Option Addr) (len cap : Nat) (zs : List Int) (s : Rd) (n op : Int) (d : Nat) (m : Nat) (w : World) (h : RcIs w k (.slice av len cap) s n) (hg : Kind.Good zs s) (hlen : zs.length = len) (hz : Bytes w av zs) (ha : ∀ b off, av = some ⟨b, off, none⟩ → zs ≠ [] → b ≠ k)
    (hm : rem zs s ≤ m) (hd : d ≤ 900) (hn : 0 ≤ n ∧ n ≤ 262144) (hop : 0 ≤ op ∧ op < 256) (LH : ListH zs k av len cap m) :
    Calls Tryd.prog 62 #[.pointer (some ⟨k, 0, none⟩), .int .i64 op, .int .i64 d] w (DocO k (.slice av len cap) w (oneG zs (listF zs) op d n s)) := by
  have hb : -9223372036854775808 ≤ op ∧ op ≤ 9223372036854775807 := by omega
  rcases kind_cases op with hk | hk | hk | hk | hk | hk | hk | hk
  · exact (doc0 k av len cap zs s n op d w h hg hlen hz ha hk).mono fun e w' h => docO_of hz.byte hb (by omega) h
  · have hop : op = 2 ∨ op = 3 ∨ op = 4 := by
      unfold kindP at hk
      (repeat' split at hk) <;> omega
    rcases hop with rfl | rfl | rfl
    · exact one1_2 k av len cap zs s n d m w h hg hlen hz ha hm hd hn LH
    · exact one1_3 k av len cap zs s n d m w h hg hlen hz ha hm hd hn LH
    · exact one1_4 k av len cap zs s n d m w h hg hlen hz ha hm hd hn LH
  · exact (doc2 k av len cap zs s n op d w h hg hlen hz ha hk).mono fun e w' h => docO_of hz.byte hb (by omega) h
  · exact (doc3 k av len cap zs s n op d w h hg hlen hz ha hk).mono fun e w' h => docO_of hz.byte hb (by omega) h
  · exact (doc4 k av len cap zs s n op d w h hg hlen hz ha hk).mono fun e w' h => docO_of hz.byte hb (by omega) h
  · exact (doc5 k av len cap zs s n op d w h hg hlen hz ha hk).mono fun e w' h => docO_of hz.byte hb (by omega) h
  · exact (doc6 k av len cap zs s n op d w h hg hlen hz ha hk).mono fun e w' h => docO_of hz.byte hb (by omega) h
  · exact (doc7 k av len cap zs s n op d w h hg hlen hz ha hk).mono fun e w' h => docO_of hz.byte hb (by omega) h
end Go.Proofs.YtcjamlgdidiaeaaDoor.Body

/-
  BODY: the document's own list, by contract. (tools/gen_bodyrefm.py)
-/
namespace Go.Proofs.YtcjamlgdidiaeaaDoor.Body
set_option linter.unusedVariables false
open Go.RowKit Go.Proofs.YtcjamlgdidiaeaaDoor.Instr
open Go.Proofs.YtcjamlgdidiaeaaDoor.Kind (Rd numR refuseR startR numR_good numR_bounds refuseR_good getL_next)

/-- What holds between two instructions of a list. -/
def LI (zs : List Int) (d : Nat) (o : Bool) (w : World) (R : Lr) (out : Value) (W : World) (s : Rd) (c : Int) : Prop :=
  if s.2.1 = 0 then ∃ t, LOk w out t W ∧ R = Lr.pre t.bare (listF zs d o c s) ∧ (t.len : Int) ≤ c ∧ 0 ≤ c ∧ c ≤ 262144
  else (∃ a n e, out = .slice a n e) ∧ R.s = s ∧ R.n = c
theorem byteR_zero {zs : List Int} {s : Rd} (hb : (byteR zs s).2.2.1 ≠ 0) : (byteR zs s).1 = 0 := by
  unfold byteR at hb ⊢
  split
  · rename_i h0
    rw [if_pos h0] at hb
    split
    · rfl
    · rename_i h1
      rw [if_neg h1] at hb
      exact absurd rfl hb
  · rfl
theorem opR_of {zs : List Int} {o : Bool} {d : Nat} {c : Int} {s : Rd} {y : Int} {s1 : Rd} (hy : (byteR zs s).1 = y) (hs : (byteR zs s).2 = s1) :
    opR zs o d c s = (y, if y = 11 ∨ (y = 5 ∧ o = true) then s1 else if nameL y = [] then refuseR s1 160 s.1 else if 900 < d ∨ 262144 ≤ c then refuseR s1 141 s.1 else s1) := by
  subst hy hs
  rfl
theorem below_grown {w W W' : World} {out : Value} {n : Nat} {xs : List Value} {o : Obj} (h : W.ownsRow w.heap.size 52 8 out n xs) (hw : w.heap.size ≤ W.heap.size) (hg : (W.alloc o).grownBy W' out.ownBlock) : Below w.heap.size W W' :=
  ((Below.refl w.heap.size W).alloc hw o).grown hg (by simp; omega) (fun j hj => (World.ownsRow.lt h j hj).1)

set_option maxRecDepth 100000 in
set_option maxHeartbeats 12800000 in
theorem list_in (k : Nat) (av : Option Addr) (len cap : Nat) (zs : List Int) (m : Nat) (LH : ∀ m', m' < m → ListH zs k av len cap m') (hlen : zs.length = len) (ha : ∀ b off, av = some ⟨b, off, none⟩ → zs ≠ [] → b ≠ k)
    (d : Nat) (o : Bool) (c0 : Int) (s0 : Rd) (w : World) (h : RcIs w k (.slice av len cap) s0 c0) (hg : Kind.Good zs s0) (hm : rem zs s0 ≤ m) (hd : d ≤ 901) (hc0 : 0 ≤ c0) (hc1 : c0 ≤ 262144) (hz : Bytes w av zs) :
    Calls Tryd.prog 37 #[.pointer (some ⟨k, 0, none⟩), .int .i64 d, .bool o] w (DocL k (.slice av len cap) w (listF zs d o c0 s0)) := by
  have hkw : k < w.heap.size := World.block_lt_of_cell? w _ h.c0
  obtain ⟨R, hR⟩ : ∃ R, listF zs d o c0 s0 = R := ⟨_, rfl⟩
  rw [hR]
  have HI0 : Hid (LI zs d o w R (.slice none 0 0) w s0 c0) := by
    show LI zs d o w R (.slice none 0 0) w s0 c0
    unfold LI
    by_cases hb : s0.2.1 = 0
    · rw [if_pos hb]
      exact ⟨.nil, LOk.start w w, by rw [← hR]; rfl, by simpa [Il.len] using hc0, hc0, hc1⟩
    · rw [if_neg hb]
      have hbad := listF_bad (zs := zs) (d := d) (o := o) (c := c0) hb
      rw [hR] at hbad
      exact ⟨⟨_, _, _, rfl⟩, by rw [hbad], by rw [hbad]⟩
  have HZ := hid (fun W (hs : Save k w W) => hz.save hs ha)
  have HZB := hid hz.byte
  have HL := hid hlen
  have HA := hid ha
  have LHH := hid LH
  have HH := hid (And.intro h (And.intro hg hm))
  clear hR h hg hm hz hlen ha hc0 hc1 LH
  go_enter Tryd.func37, Tryd.ntmps37
  go_wp2
  go_loopw [8, 9, 10] (fun out v9 v10 wr => ∃ (s : Rd) (c : Int), RcIs wr k (.slice av len cap) s c ∧ Save k w wr ∧ Kind.Good zs s ∧ rem zs s ≤ m ∧ Hid (LI zs d o w R out wr s c)) (fun _ _ _ wr => remW len k wr)
  case atStart => exact ⟨s0, c0, HH.out.1, Save.refl _ _, HH.out.2.1, HH.out.2.2, HI0⟩
  case round =>
    clear HH HI0 s0 c0
    obtain ⟨s, c, hr, sv, hg, hm, HI⟩ := hrel
    have HRW := hid (remW_of hr.toRdIs HL.out)
    have c1 := hr.c1
    have NX := nextC_any k av len cap zs s c wr hr hg HL.out (HZ.out wr sv)
    have hyb : 0 ≤ (byteR zs s).1 ∧ (byteR zs s).1 < 256 := by
      unfold byteR
      split
      · split
        · simp
        · rename_i h0 h1
          have := hg h0
          simp only
          exact (HZ.out wr sv).get (by omega)
      · simp
    have hgb := byteR_good hg
    have hyz := byteR_zero (zs := zs) (s := s)
    have hop := opR_of (zs := zs) (o := o) (d := d) (c := c) (s := s) rfl rfl
    have hless := opR_less (oth := o) (deep := d) (cnt := c) hg
    obtain ⟨p, hp⟩ : ∃ p, s.1 = p := ⟨_, rfl⟩
    obtain ⟨y, hy⟩ : ∃ y, (byteR zs s).1 = y := ⟨_, rfl⟩
    obtain ⟨s1, hs1⟩ : ∃ t, (byteR zs s).2 = t := ⟨_, rfl⟩
    rw [hp] at c1
    rw [hy, hs1] at NX hop hyz
    rw [hs1] at hgb
    rw [hy] at hyb
    rw [hp] at hop
    have NX := hid NX
    have hbs : s.2.1 ≠ 0 → s1 = s := fun hb => by rw [← hs1, byteR_bad hb]
    clear hy hs1 hp
    have HG := hid hg
    clear hg
    by_cases hb1 : s1.2.1 = 0
    · have hb : s.2.1 = 0 := by
        by_cases hb : s.2.1 = 0
        · exact hb
        · rw [hbs hb] at hb1; exact absurd hb1 hb
      have hI := HI.out
      unfold LI at hI
      rw [if_pos hb] at hI
      obtain ⟨t, hL, hRR, htl, hc0, hc1⟩ := hI
      have HB1 := hid hb1
      have HLO := hid hL
      have HRR := hid hRR
      have hsz : w.heap.size ≤ wr.heap.size := sv.size
      clear hb1 hbs hyz hL hRR HI hb
      by_cases h11 : y = 11
      · subst h11
        rw [if_pos (.inl rfl)] at hop
        have hR2 := HRR.out
        rw [listF_quit HG.out (s1 := s1) hop HB1.out (by simp)] at hR2
        have HR2 := hid hR2
        clear hR2 HRR hop hless hgb hm
        go_wp2_with fail
        refine NX.out.mono ?_
        clear NX
        rintro e w1 ⟨rfl, h1, sv1⟩
        go_wp2_with fail
        refine (bad_no k _ _ _ _ h1 HB1.out).mono ?_
        rintro e1 w2 ⟨rfl, rfl⟩
        have HL1 := HLO.out.save sv1 hkw
        obtain ⟨a, e, rfl, hla, hlow⟩ := HL1.value
        have HLA := hid hla
        have HLW := hid hlow
        clear hla hlow HL1 HLO
        go_wp2
        go_ret2
        have hR2 := HR2.out
        subst hR2
        exact ⟨a, t.len, e, 11, rfl, h1, sv.trans sv1, fun _ => ⟨t, rfl, (app_nil _).symm, HLA.out, HLW.out, by omega⟩⟩
      by_cases h5 : y = 5 ∧ o = true
      · obtain ⟨rfl, rfl⟩ := h5
        rw [if_pos (.inr ⟨rfl, rfl⟩)] at hop
        clear h11
        have hR2 := HRR.out
        rw [listF_quit HG.out (s1 := s1) hop HB1.out (by simp)] at hR2
        have HR2 := hid hR2
        clear hR2 HRR hop hless hgb hm
        go_wp2_with fail
        refine NX.out.mono ?_
        clear NX
        rintro e w1 ⟨rfl, h1, sv1⟩
        go_wp2_with fail
        refine (bad_no k _ _ _ _ h1 HB1.out).mono ?_
        rintro e1 w2 ⟨rfl, rfl⟩
        have HL1 := HLO.out.save sv1 hkw
        obtain ⟨a, e, rfl, hla, hlow⟩ := HL1.value
        have HLA := hid hla
        have HLW := hid hlow
        clear hla hlow HL1 HLO
        go_wp2
        go_ret2
        have hR2 := HR2.out
        subst hR2
        exact ⟨a, t.len, e, 5, rfl, h1, sv.trans sv1, fun _ => ⟨t, rfl, (app_nil _).symm, HLA.out, HLW.out, by omega⟩⟩
      rw [if_neg (fun h => h.elim h11 h5)] at hop
      have hsp : y = 5 ∧ o = false ∨ ¬ y = 5 := by
        by_cases h : y = 5
        · refine .inl ⟨h, ?_⟩
          cases o
          · rfl
          · exact absurd ⟨h, rfl⟩ h5
        · exact .inr h
      clear h5
      have NM := hid (fun w' => refName_any y w')
      by_cases hn : nameL y = []
      · rw [if_pos hn] at hop
        have hs : strOfNums (nameL y) = ⟨#[]⟩ := by rw [hn]; rfl
        rw [hs] at NM
        clear hs hn
        have hR2 := HRR.out
        have hbad : (refuseR s1 160 p).2.1 ≠ 0 := refuse_is_bad (by decide)
        rw [listF_stop HG.out hop hbad] at hR2
        have HR2 := hid hR2
        have HBD := hid hbad
        clear hR2 HRR hop hless hgb hm hbad
        rcases hsp with ⟨rfl, rfl⟩ | hsp
        · go_wp2_with fail
          refine NX.out.mono ?_
          clear NX
          rintro e w1 ⟨rfl, h1, sv1⟩
          go_wp2_with fail
          refine (bad_no k _ _ _ _ h1 HB1.out).mono ?_
          rintro e1 w2 ⟨rfl, rfl⟩
          go_wp2_with fail
          refine (NM.out _).mono ?_
          clear NM
          rintro e1 w2 ⟨rfl, hb2⟩
          have h2 := h1.below hb2
          have sv2 := sv1.trans (Save.of_below hb2)
          clear h1 sv1
          clear hb2
          go_wp2_with fail
          refine (fault_any k _ s1 c 160 p _ h2).mono ?_
          rintro e2 w3 ⟨rfl, h3, sv3⟩
          go_wp2
          go_ret2
          have hR2 := HR2.out
          subst hR2
          exact ⟨none, 0, 0, 5, rfl, h3, (sv.trans sv2).trans sv3, fun h => absurd h HBD.out⟩
        · go_wp2_with fail
          refine NX.out.mono ?_
          clear NX
          rintro e w1 ⟨rfl, h1, sv1⟩
          go_wp2_with fail
          refine (bad_no k _ _ _ _ h1 HB1.out).mono ?_
          rintro e1 w2 ⟨rfl, rfl⟩
          go_wp2_with fail
          refine (NM.out _).mono ?_
          clear NM
          rintro e1 w2 ⟨rfl, hb2⟩
          have h2 := h1.below hb2
          have sv2 := sv1.trans (Save.of_below hb2)
          clear h1 sv1
          clear hb2
          go_wp2_with fail
          refine (fault_any k _ s1 c 160 p _ h2).mono ?_
          rintro e2 w3 ⟨rfl, h3, sv3⟩
          go_wp2
          go_ret2
          have hR2 := HR2.out
          subst hR2
          exact ⟨none, 0, 0, y, rfl, h3, (sv.trans sv2).trans sv3, fun h => absurd h HBD.out⟩
      have h55 : ¬ y = 5 := by rintro rfl; exact hn (by decide)
      have hns : (strOfNums (nameL y)).toList.isEmpty = false := by
        rw [← Bool.not_eq_true]; intro h; exact hn (isSome_name.1 h)
      obtain ⟨nm, hnm⟩ : ∃ nm, strOfNums (nameL y) = nm := ⟨_, rfl⟩
      rw [hnm] at NM hns
      rw [if_neg hn] at hop
      clear hn hnm hsp
      by_cases hf : 900 < d ∨ 262144 ≤ c
      · rw [if_pos hf] at hop
        have hR2 := HRR.out
        have hbad : (refuseR s1 141 p).2.1 ≠ 0 := refuse_is_bad (by decide)
        rw [listF_stop HG.out hop hbad] at hR2
        have HR2 := hid hR2
        have HBD := hid hbad
        clear hR2 HRR hop hless hgb hm hbad
        by_cases hf1 : 900 < d
        · have hf' : (900 : Int) < (d : Int) := by omega
          go_wp2_with fail
          refine NX.out.mono ?_
          clear NX
          rintro e w1 ⟨rfl, h1, sv1⟩
          go_wp2_with fail
          refine (bad_no k _ _ _ _ h1 HB1.out).mono ?_
          rintro e1 w2 ⟨rfl, rfl⟩
          go_wp2_with fail
          refine (NM.out _).mono ?_
          clear NM
          rintro e1 w2 ⟨rfl, hb2⟩
          have h2 := h1.below hb2
          have sv2 := sv1.trans (Save.of_below hb2)
          clear h1 sv1
          clear hb2
          go_wp2_with fail
          refine (fault_any k _ s1 c 141 p _ h2).mono ?_
          rintro e2 w3 ⟨rfl, h3, sv3⟩
          go_wp2
          go_ret2
          have hR2 := HR2.out
          subst hR2
          exact ⟨none, 0, 0, y, rfl, h3, (sv.trans sv2).trans sv3, fun h => absurd h HBD.out⟩
        · have hf2 : 262144 ≤ c := hf.resolve_left hf1
          have hf0 : ¬ (900 : Int) < (d : Int) := by omega
          clear hf hf1
          go_wp2_with fail
          refine NX.out.mono ?_
          clear NX
          rintro e w1 ⟨rfl, h1, sv1⟩
          go_wp2_with fail
          refine (bad_no k _ _ _ _ h1 HB1.out).mono ?_
          rintro e1 w2 ⟨rfl, rfl⟩
          go_wp2_with fail
          refine (NM.out _).mono ?_
          clear NM
          rintro e1 w2 ⟨rfl, hb2⟩
          have h2 := h1.below hb2
          have sv2 := sv1.trans (Save.of_below hb2)
          clear h1 sv1
          have c4 := h2.c4
          clear hb2
          go_wp2_with fail
          refine (fault_any k _ s1 c 141 p _ h2).mono ?_
          rintro e2 w3 ⟨rfl, h3, sv3⟩
          go_wp2
          go_ret2
          have hR2 := HR2.out
          subst hR2
          exact ⟨none, 0, 0, y, rfl, h3, (sv.trans sv2).trans sv3, fun h => absurd h HBD.out⟩
      rw [if_neg hf] at hop
      have hd9 : d ≤ 900 := by omega
      have hf0 : ¬ (900 : Int) < (d : Int) := by omega
      have hf2 : ¬ 262144 ≤ c := by omega
      have hR2 := HRR.out
      rw [listF_more HG.out hop HB1.out h11 h55, pre_pre] at hR2
      have hlt : rem zs s1 < rem zs s := by have := hless (by rw [hop]; exact HB1.out); rw [hop] at this; exact this
      have HLT := hid hlt
      have HMM := hid hm
      have hofine := oneG_fine (listF_fine zs) y d (c + 1) s1 hgb
      have hocnt := oneG_cnt (zs := zs) (listF_cnt zs) y d (c + 1) s1 (by omega)
      have hotl := listF_bad (zs := zs) (d := d) (o := o) (c := (oneG zs (listF zs) y d (c + 1) s1).n) (s := (oneG zs (listF zs) y d (c + 1) s1).s)
      have ONE := hid (fun W (hr : RcIs W k (.slice av len cap) s1 (c + 1)) (hs : Save k w W) => one_doc k av len cap zs s1 (c + 1) y d (rem zs s1) W hr hgb HL.out (HZ.out W hs) HA.out (Nat.le_refl _) hd9 (by omega) hyb (LHH.out (rem zs s1) (by have := HLT.out; have := HMM.out; omega)))
      obtain ⟨oo, hoo⟩ : ∃ oo, oneG zs (listF zs) y d (c + 1) s1 = oo := ⟨_, rfl⟩
      rw [hoo] at hofine hocnt hR2 ONE hotl
      have HR2 := hid hR2
      have HFI := hid hofine
      have HCN := hid hocnt
      have HTL := hid hotl
      clear hR2 HRR hop hless hgb hm hf hlt hofine hocnt hoo hotl
      go_wp2_with fail
      refine NX.out.mono ?_
      clear NX
      rintro e w1 ⟨rfl, h1, sv1⟩
      go_wp2_with fail
      refine (bad_no k _ _ _ _ h1 HB1.out).mono ?_
      rintro e1 w2 ⟨rfl, rfl⟩
      go_wp2_with fail
      refine (NM.out _).mono ?_
      clear NM
      rintro e1 w2 ⟨rfl, hb2⟩
      have h2 := h1.below hb2
      have sv2 := sv1.trans (Save.of_below hb2)
      clear h1 sv1
      have HL2 := (HLO.out.save sv2 hkw)
      have c4 := h2.c4
      have f4 := h2.f4
      have h3 := hid (h2.count (c + 1))
      have hs23 : Save k w2 (w2.setCell ⟨k, 4, none⟩ (.int .i64 (c + 1))) := (Save.refl k w2).setCell (p := ⟨k, 4, none⟩) (.inl rfl) _
      have SV3 := hid (sv.trans (sv2.trans hs23))
      have HL3 := hid (HL2.save hs23 hkw)
      clear h2 hb2 sv2 hs23 HLO HL2 sv
      go_wp2_with fail
      refine (ONE.out _ h3.out SV3.out).mono ?_
      clear ONE h3 c4 f4
      rintro e1 w4 ⟨⟨p0, p1, p2, p3, p4, p5, p6, p7, p8, p9, p10, p11, p12, p13⟩, l, f, rfl, h4, sv4, hgo⟩
      have HL4 := hid (HL3.out.save sv4 hkw)
      have SZ3 := hid SV3.out.size
      have hsz4 : w.heap.size ≤ w4.heap.size := Nat.le_trans SZ3.out sv4.size
      have SV4 := hid (SV3.out.trans sv4)
      have HGO := hid hgo
      have H4 := hid h4
      have HROW := hid HL4.out.row
      have htl2 : t.len ≤ 1000000 := by omega
      clear sv4 hgo h4
      simp only [Ix.vals]
      go_wp2_with (first
        | (at_builtin; refine append_ins rfl (.tmp 59) (.tmp 65) rfl ⟨p0, p1, p2, p3, p4, p5, p6, p7, p8, p9, p10, p11, p12, p13⟩ rfl HROW.out hsz4 rfl htl2 ?_; intro g cap6 w6 hown hgrow hat; have HOWN := hid hown; have HGR := hid hgrow; have HAT := hid hat; clear hown hgrow hat; refine Hid.out ?_))
      refine hid ?_
      go_wp2
      go_roundw
      case rel =>
        have hB := below_grown HL4.out.row hsz4 HGR.out
        have h6 := H4.out.belowB hB hkw
        refine ⟨oo.s, oo.n, h6, save_under SV4.out hB, HFI.out.1, ?_, ?_⟩
        · have := HFI.out.2.rem zs; have := HLT.out; have := HMM.out; omega
        · show LI zs d o w R _ w6 oo.s oo.n
          unfold LI
          by_cases hb : oo.s.2.1 = 0
          · rw [if_pos hb]
            obtain ⟨k1, k2, k3⟩ := HGO.out hb
            have hsn := HL3.out.snoc HL4.out k1 k2 SZ3.out HOWN.out HGR.out HAT.out
            refine ⟨_, hsn, ?_, ?_, ?_, HCN.out.2⟩
            · rw [HR2.out, bare_app, k3]
            · rw [app_len]; simp only [Il.len]; have := HCN.out.1; omega
            · have := HCN.out.1; omega
          · rw [if_neg hb]
            rw [HR2.out, HTL.out hb]
            exact ⟨⟨_, _, _, rfl⟩, rfl, rfl⟩
      case measure =>
        have hB := below_grown HL4.out.row hsz4 HGR.out
        have h6 := H4.out.belowB hB hkw
        rw [remW_of h6.toRdIs HL.out, HRW.out]
        have := HFI.out.2.rem zs; have := HLT.out; omega
    · have hy0 := hyz hb1
      subst hy0
      have HB1 := hid hb1
      have hend : R.s = s1 ∧ R.n = c ∧ ∃ a n e, u8 = .slice a n e := by
        have hI := HI.out
        unfold LI at hI
        by_cases hb : s.2.1 = 0
        · rw [if_pos hb] at hI
          obtain ⟨t, hL, hRR, htl, hc0, hc1⟩ := hI
          have ho : opR zs o d c s = (0, s1) := by
            rw [hop, if_neg (by rintro (h | ⟨h, _⟩) <;> cases h), if_neg (by decide)]
            rw [refuseR_bad hb1]
            simp
          rw [listF_stop HG.out ho hb1] at hRR
          obtain ⟨a, e, ho2, _⟩ := hL.value
          exact ⟨by rw [hRR]; rfl, by rw [hRR]; rfl, a, _, e, ho2⟩
        · rw [if_neg hb] at hI
          rw [hbs hb]
          exact ⟨hI.2.1, hI.2.2, hI.1⟩
      obtain ⟨hRs, hRn, a, n, e, rfl⟩ := hend
      have HRs := hid hRs
      have HRn := hid hRn
      clear hb1 hRs hRn hyz hop hbs HI hless hyb hgb hm
      go_wp2_with fail
      refine NX.out.mono ?_
      clear NX
      rintro e w1 ⟨rfl, h1, sv1⟩
      go_wp2_with fail
      refine (bad_yes k _ _ _ _ h1 HB1.out).mono ?_
      rintro e1 w2 ⟨rfl, rfl⟩
      go_wp2
      go_ret2
      refine ⟨a, n, e, 11, rfl, ?_, sv.trans sv1, fun h => absurd (HRs.out ▸ h) HB1.out⟩
      rw [HRs.out, HRn.out]
      exact h1
theorem list_doc (k : Nat) (av : Option Addr) (len cap : Nat) (zs : List Int) (hlen : zs.length = len) (ha : ∀ b off, av = some ⟨b, off, none⟩ → zs ≠ [] → b ≠ k) : ∀ m, ListH zs k av len cap m := by
  intro m
  induction m using Nat.strongRecOn with
  | ind m ih => exact fun d o c s W h hg hm hd h0 h1 hz => list_in k av len cap zs m ih hlen ha d o c s W h hg hm hd h0 h1 hz
end Go.Proofs.YtcjamlgdidiaeaaDoor.Body

/-
  BODY: the document's own Get, by contract.
-/
namespace Go.Proofs.YtcjamlgdidiaeaaDoor.Body
set_option linter.unusedVariables false
open Go.RowKit Go.Proofs.YtcjamlgdidiaeaaDoor.Instr
open Go.Proofs.YtcjamlgdidiaeaaDoor.Kind (Rd numR refuseR startR numR_good numR_bounds refuseR_good getL_next)

/-- Two cells that are there. -/
structure Duq (T : Nat) (x y : Value) (w : World) : Prop where
  c0 : w.cell? ⟨T, 0, none⟩ = some x
  c1 : w.cell? ⟨T, 1, none⟩ = some y
  f0 : w.frozen? ⟨T, 0, none⟩ = false
  f1 : w.frozen? ⟨T, 1, none⟩ = false
theorem Duq.made (w : World) (x y : Value) (t : TypeId) : Duq w.heap.size x y (w.alloc (.cells #[x, y] t)) := by
  constructor <;> go_simp
theorem Duq.save {k T : Nat} {x y : Value} {w w' : World} (h : Duq T x y w) (hs : Save k w w') (hk : T ≠ k) : Duq T x y w' :=
  have hl := World.block_lt_of_cell? w _ h.c0
  ⟨hs.cell hk h.c0, hs.cell hk h.c1, hs.frozen hl hk h.f0, hs.frozen hl hk h.f1⟩
theorem Duq.below {T : Nat} {x y : Value} {w w' : World} (h : Duq T x y w) (hb : Below w.heap.size w w') : Duq T x y w' :=
  h.save (k := w.heap.size) (Save.of_below hb) (by have := World.block_lt_of_cell? w _ h.c0; simp at this; omega)
theorem alloc_bq (w : World) (o : Obj) : Below w.heap.size w (w.alloc o) := (Below.refl _ _).alloc (Nat.le_refl _) o
/-- What the document's own Get gives: instructions somewhere in memory. -/
def GotJ (w : World) (q : Int) (s : Rd) (T : Il) (e : Ending) (w' : World) : Prop :=
  ∃ (a : Option Addr) (n c : Nat) (t : Il), e = .returned (.tuple #[.slice a n c, .int .i64 q, .agg #[.int .i64 s.2.1, .int .i64 s.2.2]]) ∧ Below w.heap.size w w' ∧ ListAt w'.heap.size w' a n t ∧ t.bare = T ∧ n ≤ 262144
theorem rc_new (w : World) (v : Value) (p : Int) (t : TypeId) : RcIs (w.alloc (.cells #[v, .int .i64 p, .int .i64 0, .int .i64 0, .int .i64 0] t)) w.heap.size v (p, 0, 0) 0 := by
  refine ⟨⟨?_, ?_, ?_, ?_, ?_, ?_, ?_, ?_⟩, ?_, ?_⟩ <;> go_simp

set_option maxHeartbeats 1600000 in
theorem refGet_out (av : Option Addr) (len cap : Nat) (p : Int) (w : World) (hp : p < 0 ∨ (len : Int) < p) :
    Calls Tryd.prog 20 #[.slice av len cap, .int .i64 p] w (GotJ w 0 (p, 5, 0) .nil) := by
  by_cases h0 : p < 0
  · clear hp
    go_enter Tryd.func20, Tryd.ntmps20
    go_wp2
    refine bodyPost_ret (v := .tuple #[.slice none 0 0, .int .i64 0, .agg #[.int .i64 5, .int .i64 0]]) (by simp [results, Tryd.results20, go_sem]) rfl ⟨none, 0, 0, .nil, rfl, ?_, ⟨rfl, .inl rfl⟩, rfl, Nat.zero_le _⟩
    exact (Below.refl _ _).alloc (Nat.le_refl _) _
  · have h1 : (len : Int) < p := by omega
    clear hp
    go_enter Tryd.func20, Tryd.ntmps20
    go_wp2
    refine bodyPost_ret (v := .tuple #[.slice none 0 0, .int .i64 0, .agg #[.int .i64 5, .int .i64 0]]) (by simp [results, Tryd.results20, go_sem]) rfl ⟨none, 0, 0, .nil, rfl, ?_, ⟨rfl, .inl rfl⟩, rfl, Nat.zero_le _⟩
    exact (Below.refl _ _).alloc (Nat.le_refl _) _

set_option maxRecDepth 100000 in
set_option maxHeartbeats 3200000 in
theorem refGet_in (av : Option Addr) (len cap i : Nat) (zs : List Int) (w : World) (hlen : zs.length = len) (hz : Bytes w av zs) (hi : i ≤ len) :
    Calls Tryd.prog 20 #[.slice av len cap, .int .i64 i] w (GotJ w (getQ zs i).1 (getQ zs i).2.1 (getQ zs i).2.2) := by
  have hst : startR zs i = ((i : Int), 0, 0) := by unfold startR; rw [if_neg (by omega)]
  have hgd : Kind.Good zs ((i : Int), 0, 0) := good_at (by omega)
  have hfin := (listF_fine zs 1 false 0 _ hgd).1
  have hn0 : ¬ (i : Int) < 0 := by omega
  have hn1 : ¬ (len : Int) < (i : Int) := by omega
  have HB0 := hid (show Below w.heap.size w ((w.alloc (.cells #[.int .i64 0, .int .i64 0] 38)).alloc (.cells #[.slice av len cap, .int .i64 i, .int .i64 0, .int .i64 0, .int .i64 0] 66)) from thenA (thenA (Below.refl _ _) _) _)
  have hrc := rc_new (w.alloc (.cells #[.int .i64 0, .int .i64 0] 38)) (.slice av len cap) i 66
  rw [show (w.alloc (.cells #[.int .i64 0, .int .i64 0] 38)).heap.size = w.heap.size + 1 by simp] at hrc
  have hls := list_doc (w.heap.size + 1) av len cap zs hlen (fun b off ha hne => by have := Bytes.lt hz b off ha hne; omega) (rem zs ((i : Int), 0, 0)) 1 false 0 ((i : Int), 0, 0) _ hrc hgd (Nat.le_refl _) (by omega) (by omega) (by omega) (hz.below HB0.out)
  have D0 := hid ((Duq.made w (.int .i64 0) (.int .i64 0) 38).below (alloc_bq _ (.cells #[.slice av len cap, .int .i64 i, .int .i64 0, .int .i64 0, .int .i64 0] 66)))
  have hqq : getQ zs i = if (listF zs 1 false 0 ((i : Int), 0, 0)).s.2.1 = 0 then ((listF zs 1 false 0 ((i : Int), 0, 0)).s.1, ((listF zs 1 false 0 ((i : Int), 0, 0)).s.1, 0, 0), (listF zs 1 false 0 ((i : Int), 0, 0)).t) else (0, (listF zs 1 false 0 ((i : Int), 0, 0)).s, .nil) := by
    unfold getQ getP
    rw [hst]
  obtain ⟨R, hR⟩ : ∃ R, listF zs 1 false 0 ((i : Int), 0, 0) = R := ⟨_, rfl⟩
  rw [hR] at hls hqq hfin
  rw [hqq]
  rw [show ((1 : Nat) : Int) = 1 from rfl] at hls
  have LS := hid hls
  clear hls hqq hst hgd hR hrc hz hlen
  obtain ⟨T, q, N, e, f, g⟩ := R
  simp only at hfin LS ⊢
  by_cases h0 : f = 0
  · subst h0
    have hg0 := (hfin rfl).2.2
    simp only at hg0
    subst hg0
    simp only [if_true]
    clear hfin
    go_enter Tryd.func20, Tryd.ntmps20
    go_wp2_with fail
    refine LS.out.mono ?_
    clear LS
    rintro e1 w2 ⟨a, n, c, q2, rfl, h2, sv2, hgo⟩
    obtain ⟨t, hq, ht, hl, hlow, hle⟩ := hgo rfl
    have HL := hid hl
    have HT := hid ht
    have HLW := hid hlow
    have HLE := hid hle
    have D2 := D0.out.save sv2 (by omega)
    obtain ⟨y0, y1, y2, y3⟩ := D2
    have z1 := h2.c1
    have HB2 := hid (HB0.out.trans ((sv2.below (B := w.heap.size) (by simp; omega) (by omega)).mono (Nat.le_refl _)))
    have hsz : w.heap.size < w2.heap.size := by have := sv2.size; simp at this; omega
    simp only at z1
    clear hq ht hl hlow hle hgo sv2 D0 HB0
    go_wp2_with fail
    refine (bad_no _ _ _ _ _ h2 rfl).mono ?_
    rintro e3 w3 ⟨rfl, rfl⟩
    clear h2
    go_wp2
    go_region
    all_goals go_wp2
    all_goals refine bodyPost_ret (v := .tuple #[.slice a n c, .int .i64 e, .agg #[.int .i64 0, .int .i64 0]]) (by simp [results, Tryd.results20, go_sem, y0, y1]) rfl ?_
    all_goals
      refine ⟨a, n, c, t, rfl, get_end HB2.out _ _, lies_on (B := w.heap.size + 1) HL.out ((get_touch w2 w.heap.size _ _).mono (fun j hj => by omega)) (fun b hb => ?_), HT.out, HLE.out⟩
      have h1 := HLW.out b hb
      simp at h1
      omega
  · rw [if_neg h0]
    have HF := hid h0
    clear hfin h0
    go_enter Tryd.func20, Tryd.ntmps20
    go_wp2_with fail
    refine LS.out.mono ?_
    clear LS
    rintro e1 w2 ⟨a, n, c, q2, rfl, h2, sv2, -⟩
    have D2 := D0.out.save sv2 (by omega)
    obtain ⟨y0, y1, y2, y3⟩ := D2
    have z2 := h2.c2
    have z3 := h2.c3
    have HB2 := hid (HB0.out.trans ((sv2.below (B := w.heap.size) (by simp; omega) (by omega)).mono (Nat.le_refl _)))
    have hsz : w.heap.size < w2.heap.size := by have := sv2.size; simp at this; omega
    simp only at z2 z3
    clear sv2 D0 HB0
    go_wp2_with fail
    refine (bad_yes _ _ _ _ _ h2 HF.out).mono ?_
    rintro e3 w3 ⟨rfl, rfl⟩
    clear h2
    go_wp2
    go_region
    all_goals go_wp2
    all_goals refine bodyPost_ret (v := .tuple #[.slice none 0 0, .int .i64 0, .agg #[.int .i64 f, .int .i64 g]]) (by simp [results, Tryd.results20, go_sem, y0, y1]) rfl ?_
    all_goals exact ⟨none, 0, 0, .nil, rfl, get_end HB2.out _ _, ⟨rfl, .inl rfl⟩, rfl, Nat.zero_le _⟩
theorem refGet06_any (av : Option Addr) (len cap : Nat) (p : Int) (zs : List Int) (w : World) (hlen : zs.length = len) (hz : Bytes w av zs) :
    Calls Tryd.prog 20 #[.slice av len cap, .int .i64 p] w (GotJ w (getQ zs p).1 (getQ zs p).2.1 (getQ zs p).2.2) := by
  by_cases hp : p < 0 ∨ (len : Int) < p
  · have hst : startR zs p = (p, 5, 0) := by unfold startR; rw [hlen, if_pos hp]
    have hq : getQ zs p = (0, (p, 5, 0), .nil) := by
      unfold getQ getP
      rw [hst, listF_bad (by simp)]
      rfl
    rw [hq]
    exact refGet_out av len cap p w hp
  · obtain ⟨i, rfl⟩ := Int.eq_ofNat_of_zero_le (show 0 ≤ p by omega)
    exact refGet_in av len cap i zs w hlen hz (by omega)
end Go.Proofs.YtcjamlgdidiaeaaDoor.Body
