import Derived.Test.YtdljneclfgneoaaGreatDoorVb05
import Derived.Test.YtdljneclfgneoaaGreatDoorVb02
import Derived.Test.YtdljneclfgneoaaGreatDoorVb07
import Derived.Test.YtdljneclfgneoaaGreatDoorVb04
import Derived.Deep.Cut
import Derived.Deep.RegionHeld3
import Derived.Shelf.Abstract
import Derived.Shelf.RegionOpen
import Derived.OwnWalkIn
import Derived.TacticsInMore
import Derived.LoopNIn
import Derived.LoopIn
import Derived.Laws.Tables
import Derived.Laws.AppendOwnNone
import Derived.Deep.WholeRow
import Derived.Deep.RegionHeldLaw
namespace Go.Proofs.YtdljneclfgneoaaGreatDoor.Instr
end Go.Proofs.YtdljneclfgneoaaGreatDoor.Instr
namespace Go.Proofs.YtdljneclfgneoaaGreatDoor.Mod
end Go.Proofs.YtdljneclfgneoaaGreatDoor.Mod
namespace Go.Proofs.YtdljneclfgneoaaGreatDoor.Stk
end Go.Proofs.YtdljneclfgneoaaGreatDoor.Stk
namespace Go.Proofs.YtdljneclfgneoaaGreatDoor.Val
open Go.RowKit Go.Proofs.YtdljneclfgneoaaGreatDoor.Instr Go.Proofs.YtdljneclfgneoaaGreatDoor.Mod
open Go.Proofs.YtdljneclfgneoaaGreatDoor.Stk (Fr R pushR popR deadR enterR leaveR labelR newR StAt MadeP OwnF valid lastF)
set_option linter.unusedVariables false

/-- A checker's cells; the first eleven are the module's. -/
def ckA (v : Array Value) (lo re h : Int) (sl : Value) (cnt at_ er : Int) : Array Value :=
  #[v.getD 0 undef, v.getD 1 undef, v.getD 2 undef, v.getD 3 undef, v.getD 4 undef, v.getD 5 undef, v.getD 6 undef, v.getD 7 undef, v.getD 8 undef, v.getD 9 undef, v.getD 10 undef, .int .i64 lo, .int .i64 re, .int .i64 h, sl, .int .i64 cnt, .int .i64 at_, .int .i64 er]
def Bk (W : World) (g : Nat) (v : Array Value) (lo re h : Int) (sl : Value) (cnt at_ er : Int) : Prop := W.heap[g]? = some (.cells (ckA v lo re h sl cnt at_ er) 256 (0, 0))
section
variable {W W' : World} {g : Nat} {v : Array Value} {lo re h cnt at_ er : Int} {sl : Value}
theorem Bk.lt (b : Bk W g v lo re h sl cnt at_ er) : g < W.heap.size := (Array.getElem?_eq_some_iff.1 b).1
theorem Bk.cell (b : Bk W g v lo re h sl cnt at_ er) (j : Nat) : W.cell? ⟨g, j, none⟩ = (ckA v lo re h sl cnt at_ er)[j]? := cell_of_row W g j _ _ _ b
theorem Bk.c11 (b : Bk W g v lo re h sl cnt at_ er) : W.cell? ⟨g, 11, none⟩ = some (.int .i64 lo) := b.cell 11
theorem Bk.c12 (b : Bk W g v lo re h sl cnt at_ er) : W.cell? ⟨g, 12, none⟩ = some (.int .i64 re) := b.cell 12
theorem Bk.c13 (b : Bk W g v lo re h sl cnt at_ er) : W.cell? ⟨g, 13, none⟩ = some (.int .i64 h) := b.cell 13
theorem Bk.c14 (b : Bk W g v lo re h sl cnt at_ er) : W.cell? ⟨g, 14, none⟩ = some sl := b.cell 14
theorem Bk.c15 (b : Bk W g v lo re h sl cnt at_ er) : W.cell? ⟨g, 15, none⟩ = some (.int .i64 cnt) := b.cell 15
theorem Bk.c16 (b : Bk W g v lo re h sl cnt at_ er) : W.cell? ⟨g, 16, none⟩ = some (.int .i64 at_) := b.cell 16
theorem Bk.c17 (b : Bk W g v lo re h sl cnt at_ er) : W.cell? ⟨g, 17, none⟩ = some (.int .i64 er) := b.cell 17
theorem Bk.f (b : Bk W g v lo re h sl cnt at_ er) (j : Nat) : W.frozen? ⟨g, j, none⟩ = false := frozen_of_row W g j _ _ b
theorem Bk.set13 (b : Bk W g v lo re h sl cnt at_ er) (x : Int) : Bk (W.setCell ⟨g, 13, none⟩ (.int .i64 x)) g v lo re x sl cnt at_ er := heap_setCell_same W g 13 _ _ _ b
theorem Bk.set14 (b : Bk W g v lo re h sl cnt at_ er) (x : Value) : Bk (W.setCell ⟨g, 14, none⟩ x) g v lo re h x cnt at_ er := heap_setCell_same W g 14 _ _ _ b
theorem Bk.set15 (b : Bk W g v lo re h sl cnt at_ er) (x : Int) : Bk (W.setCell ⟨g, 15, none⟩ (.int .i64 x)) g v lo re h sl x at_ er := heap_setCell_same W g 15 _ _ _ b
theorem Bk.set16 (b : Bk W g v lo re h sl cnt at_ er) (x : Int) : Bk (W.setCell ⟨g, 16, none⟩ (.int .i64 x)) g v lo re h sl cnt x er := heap_setCell_same W g 16 _ _ _ b
theorem Bk.set17 (b : Bk W g v lo re h sl cnt at_ er) (x : Int) : Bk (W.setCell ⟨g, 17, none⟩ (.int .i64 x)) g v lo re h sl cnt at_ x := heap_setCell_same W g 17 _ _ _ b
theorem Bk.below (b : Bk W g v lo re h sl cnt at_ er) (hb : Below W.heap.size W W') : Bk W' g v lo re h sl cnt at_ er := (hb.block g b.lt).trans b
end
/-- The frames lie elsewhere. -/
structure FrAt (g : Nat) (W : World) (a : Option Addr) (n c : Nat) (l : List Fr) : Prop where
  st : StAt W.heap.size W a n c l
  ne : ∀ b off, a = some ⟨b, off, none⟩ → b ≠ g
theorem FrAt.on {g : Nat} {W W' : World} {a : Option Addr} {n c : Nat} {l : List Fr} (h : FrAt g W a n c l) (hb : Below W.heap.size W W') : FrAt g W' a n c l := ⟨h.st.on hb, h.ne⟩
theorem FrAt.set {g : Nat} {W : World} {a : Option Addr} {n c : Nat} {l : List Fr} (h : FrAt g W a n c l) (j : Nat) (u : Value) : FrAt g (W.setCell ⟨g, j, none⟩ u) a n c l := by
  refine ⟨⟨?_, h.st.len, h.st.cap, h.st.fit⟩, h.ne⟩
  have hz : (W.setCell ⟨g, j, none⟩ u).heap.size = W.heap.size := by simp [World.setCell]
  rw [hz]
  rcases h.st.rows with h1 | ⟨b, off, ha, hb, hc⟩
  · exact .inl h1
  · exact .inr ⟨b, off, ha, hb, fun i hi q hq v hv => (World.cell?_setCell_far _ ⟨g, j, none⟩ _ _ (Ne.symm (h.ne b off ha))).trans (hc i hi q hq v hv)⟩
/-- The module, and the table of arities, below n₀. -/
structure Mo (n₀ : Nat) (m : Md) (W : World) : Prop where
  md : ModAt n₀ W m
  ar : Num.Arit W
  ag : 0 < n₀
theorem Mo.below {n₀ : Nat} {m : Md} {W W' : World} (h : Mo n₀ m W) (hb : Below n₀ W W') : Mo n₀ m W' := ⟨h.md.below hb, fun j hj => (hb.cell (p := ⟨0, j, none⟩) h.ag).trans (h.ar j hj), h.ag⟩
/-- A checker: where it lies, over a module that lies below it. -/
structure Ck (g n₀ : Nat) (m : Md) (lo re : Int) (s : St) (W : World) : Prop where
  blk : ∃ a n c, Bk W g m.v lo re s.h (.slice a n c) s.cnt s.at_ s.er ∧ FrAt g W a n c s.l
  mo : Mo n₀ m W
  le : n₀ ≤ g
theorem Ck.md {g n₀ : Nat} {m : Md} {lo re : Int} {s : St} {W : World} (h : Ck g n₀ m lo re s W) : ModAt n₀ W m := h.mo.md
theorem Ck.lt {g n₀ : Nat} {m : Md} {lo re : Int} {s : St} {W : World} (h : Ck g n₀ m lo re s W) : g < W.heap.size := by
  obtain ⟨a, n, c, hb, _⟩ := h.blk
  exact hb.lt
theorem Ck.on {g n₀ : Nat} {m : Md} {lo re : Int} {s : St} {W W' : World} (h : Ck g n₀ m lo re s W) (hb : Below W.heap.size W W') : Ck g n₀ m lo re s W' := by
  obtain ⟨a, n, c, hk, hf⟩ := h.blk
  exact ⟨⟨a, n, c, hk.below hb, hf.on hb⟩, h.mo.below (hb.mono (by have := hk.lt; have := h.le; omega)), h.le⟩
theorem md_set {n₀ g : Nat} {W : World} {m : Md} (h : Mo n₀ m W) (hg : n₀ ≤ g) (j : Nat) (u : Value) : Mo n₀ m (W.setCell ⟨g, j, none⟩ u) := h.below ((Below.refl _ _).setCell hg u)
/-- What a call on the stand gave is stored. -/
theorem Ck.put {g n₀ : Nat} {m : Md} {lo re : Int} {s : St} {w w1 : World} {r : R} {a : Option Addr} {n c : Nat} (h : Ck g n₀ m lo re s w) (hb : Below w.heap.size w w1) (hf : FrAt g w1 a n c r.l) :
    Ck g n₀ m lo re (s.put r) (((w1.setCell ⟨g, 13, none⟩ (.int .i64 r.h)).setCell ⟨g, 14, none⟩ (.slice a n c)).setCell ⟨g, 17, none⟩ (.int .i64 r.e)) ∧
      Save g w (((w1.setCell ⟨g, 13, none⟩ (.int .i64 r.h)).setCell ⟨g, 14, none⟩ (.slice a n c)).setCell ⟨g, 17, none⟩ (.int .i64 r.e)) := by
  have h1 := h.on hb
  obtain ⟨a', n', c', hk, _⟩ := h1.blk
  refine ⟨⟨⟨a, n, c, ((hk.set13 r.h).set14 (.slice a n c)).set17 r.e, ((hf.set _ _).set _ _).set _ _⟩, md_set (md_set (md_set h1.mo h.le _ _) h.le _ _) h.le _ _, h.le⟩, ?_⟩
  exact (((Save.of_below hb).setCell (p := ⟨g, 13, none⟩) (.inl rfl) (.int .i64 r.h)).setCell (p := ⟨g, 14, none⟩) (.inl rfl) (.slice a n c)).setCell (p := ⟨g, 17, none⟩) (.inl rfl) (.int .i64 r.e)
theorem madeP_st {w w' : World} {r : R} {e : Ending} {g : Nat} (hm : MadeP w r e w') (hl : r.l.length ≤ 1000000) (hg : g < w.heap.size) :
    ∃ a n c, e = .returned (.tuple #[.agg #[.int .i64 r.h, .slice a n c], .int .i64 r.e]) ∧ FrAt g w' a n c r.l ∧ Below w.heap.size w w' := by
  obtain ⟨a, n, c, rfl, ho, hb⟩ := hm
  obtain ⟨a', c', hv, hst⟩ := ho.slice hl
  simp only [Value.slice.injEq] at hv
  obtain ⟨rfl, rfl, rfl⟩ := hv
  refine ⟨_, _, _, rfl, ⟨hst, fun b off hab => ?_⟩, hb⟩
  subst hab
  have := (World.ownsRow.lt ho.row b ?_).1
  · omega
  · rcases ho.row.2 with ⟨h0, _⟩ | ⟨g', cap, cur, h0, _⟩
    · simp at h0
    · simp only [Value.slice.injEq, Option.some.injEq, Addr.mk.injEq] at h0
      obtain ⟨⟨rfl, rfl, _⟩, _⟩ := h0
      rfl
theorem valid_len {h : Int} {l : List Fr} (hv : ¬ valid h l = false) : l.length ≤ 1000 := (Stk.valid_yes (by simpa using hv)).2.2.2
theorem pushR_len (h : Int) (l : List Fr) (n : Int) : (pushR h l n).l.length ≤ 1000000 := by
  unfold pushR
  split
  · simp [Stk.bad]
  · rename_i hv; have := valid_len hv
    split; · simp [Stk.bad]
    split; · simp [Stk.bad]
    simp only; omega
theorem popR_len (h : Int) (l : List Fr) (n : Int) : (popR h l n).l.length ≤ 1000000 := by
  unfold popR
  split
  · simp [Stk.bad]
  · rename_i hv; have := valid_len hv
    split; · simp [Stk.bad]
    split; · simp only; omega
    simp [Stk.bad]
theorem deadR_len (h : Int) (l : List Fr) : (deadR h l).l.length ≤ 1000000 := by
  unfold deadR
  split
  · simp [Stk.bad]
  · rename_i hv; have := valid_len hv
    simp only [List.length_set]; omega
theorem enterR_len (h : Int) (l : List Fr) (o e : Int) : (enterR h l o e).l.length ≤ 1000000 := by
  unfold enterR
  split
  · simp [Stk.bad]
  · rename_i hv; have := valid_len hv
    split; · simp [Stk.bad]
    split; · simp [Stk.bad]
    simp only [List.length_append, List.length_cons, List.length_nil]; omega
theorem leaveR_len (h : Int) (l : List Fr) : (leaveR h l).l.length ≤ 1000000 := by
  unfold leaveR
  split
  · simp [Stk.bad]
  · rename_i hv; have := valid_len hv
    split; · simp [Stk.bad]
    split; · simp [Stk.bad]
    simp only [List.length_take]; omega

theorem Ck.below {g n₀ : Nat} {m : Md} {lo re : Int} {s : St} {w w' : World} (h : Ck g n₀ m lo re s w) (hs : Save g w w') : Below n₀ w w' := hs.below (by have := h.lt; have := h.le; omega) h.le
def Done (g n₀ : Nat) (m : Md) (lo re : Int) (w : World) (s' : St) (e : Ending) (w' : World) : Prop := e = .returned (.tuple #[]) ∧ Ck g n₀ m lo re s' w' ∧ Save g w w'
set_option maxRecDepth 100000 in
set_option maxHeartbeats 2000000 in
theorem fail_m (g n₀ : Nat) (m : Md) (lo re : Int) (s : St) (x : Int) (w : World) (h : Ck g n₀ m lo re s w) :
    Calls Tryz.prog 276 #[.pointer (some ⟨g, 0, none⟩), .int .i64 x] w (Done g n₀ m lo re w (failS x s)) := by
  obtain ⟨a, n, c, hk, hf⟩ := h.blk
  have HC := hid h
  by_cases h0 : s.er = 0
  · have HE := hid (show failS x s = ⟨s.h, s.l, s.cnt, s.at_, x⟩ by unfold failS; rw [if_pos h0])
    have HQ := hid (show Ck g n₀ m lo re ⟨s.h, s.l, s.cnt, s.at_, x⟩ (w.setCell ⟨g, 17, none⟩ (.int .i64 x)) from ⟨⟨a, n, c, hk.set17 x, hf.set _ _⟩, md_set h.mo h.le _ _, h.le⟩)
    have c17 := hk.c17
    have f17 := hk.f 17
    rw [h0] at c17
    clear h hk hf h0
    go_enter Tryz.func276, Tryz.ntmps276
    go_wp2
    go_end0
    refine ⟨rfl, ?_, (Save.refl g w).setCell (.inl rfl) _⟩
    rw [HE.out]; exact HQ.out
  · have HE := hid (show failS x s = s by unfold failS; rw [if_neg h0])
    have c17 := hk.c17
    clear h hk hf
    go_enter Tryz.func276, Tryz.ntmps276
    go_wp2
    refine bodyPost_ret (results_none rfl _ _ _) rfl ⟨rfl, ?_, Save.refl _ _⟩
    rw [HE.out]; exact HC.out
set_option maxRecDepth 100000 in
set_option maxHeartbeats 2000000 in
theorem push_m (g n₀ : Nat) (m : Md) (lo re : Int) (s : St) (k : Int) (w : World) (h : Ck g n₀ m lo re s w) :
    Calls Tryz.prog 284 #[.pointer (some ⟨g, 0, none⟩), .int .i64 k] w (Done g n₀ m lo re w (pushS k s)) := by
  obtain ⟨a, n, c, hk, hf⟩ := h.blk
  have HC := hid h
  by_cases h0 : s.er = 0
  · have HE := hid (show pushS k s = s.put (pushR s.h s.l k) by unfold pushS; rw [if_pos h0])
    have c17 := hk.c17
    rw [h0] at c17
    have HK1 := hid hk
    have HLT := hid h.lt
    have CC := hid (Stk.push_any s.h a n c s.l k w hf.st)
    have c13 := hk.c13
    have c14 := hk.c14
    clear h hk hf h0
    go_enter Tryz.func284, Tryz.ntmps284
    go_wp2_with fail
    refine CC.out.mono ?_
    intro e1 w1 hm1
    obtain ⟨a1, n1, c1, rfl, hf1, hb1⟩ := madeP_st hm1 (pushR_len _ _ _) HLT.out
    have hk1 := HK1.out.below hb1
    have f13 := hk1.f 13
    have f14 := hk1.f 14
    have f17 := hk1.f 17
    have d13 := hk1.c13
    have d14 := hk1.c14
    have d17 := hk1.c17
    have HP := hid (HC.out.put hb1 hf1)
    clear hk1 hf1 hb1 hm1 CC c13 c14 c17
    go_wp2
    go_end0
    obtain ⟨hP, hS⟩ := HP.out
    refine ⟨rfl, ?_, hS⟩
    rw [HE.out]; exact hP
  · have HE := hid (show pushS k s = s by unfold pushS; rw [if_neg h0])
    have c17 := hk.c17
    clear h hk hf
    go_enter Tryz.func284, Tryz.ntmps284
    go_wp2
    refine bodyPost_ret (results_none rfl _ _ _) rfl ⟨rfl, ?_, Save.refl _ _⟩
    rw [HE.out]; exact HC.out
set_option maxRecDepth 100000 in
set_option maxHeartbeats 2000000 in
theorem pop_m (g n₀ : Nat) (m : Md) (lo re : Int) (s : St) (k : Int) (w : World) (h : Ck g n₀ m lo re s w) (hk0 : k ≤ 9223372036854775807) :
    Calls Tryz.prog 282 #[.pointer (some ⟨g, 0, none⟩), .int .i64 k] w (Done g n₀ m lo re w (popS k s)) := by
  obtain ⟨a, n, c, hk, hf⟩ := h.blk
  have HC := hid h
  by_cases h0 : s.er = 0
  · have HE := hid (show popS k s = s.put (popR s.h s.l k) by unfold popS; rw [if_pos h0])
    have c17 := hk.c17
    rw [h0] at c17
    have HK1 := hid hk
    have HLT := hid h.lt
    have CC := hid (Stk.pop_any s.h a n c s.l k w hf.st hk0)
    have c13 := hk.c13
    have c14 := hk.c14
    clear h hk hf h0
    go_enter Tryz.func282, Tryz.ntmps282
    go_wp2_with fail
    refine CC.out.mono ?_
    intro e1 w1 hm1
    obtain ⟨a1, n1, c1, rfl, hf1, hb1⟩ := madeP_st hm1 (popR_len _ _ _) HLT.out
    have hk1 := HK1.out.below hb1
    have f13 := hk1.f 13
    have f14 := hk1.f 14
    have f17 := hk1.f 17
    have d13 := hk1.c13
    have d14 := hk1.c14
    have d17 := hk1.c17
    have HP := hid (HC.out.put hb1 hf1)
    clear hk1 hf1 hb1 hm1 CC c13 c14 c17
    go_wp2
    go_end0
    obtain ⟨hP, hS⟩ := HP.out
    refine ⟨rfl, ?_, hS⟩
    rw [HE.out]; exact hP
  · have HE := hid (show popS k s = s by unfold popS; rw [if_neg h0])
    have c17 := hk.c17
    clear h hk hf
    go_enter Tryz.func282, Tryz.ntmps282
    go_wp2
    refine bodyPost_ret (results_none rfl _ _ _) rfl ⟨rfl, ?_, Save.refl _ _⟩
    rw [HE.out]; exact HC.out
set_option maxRecDepth 100000 in
set_option maxHeartbeats 2000000 in
theorem dead_m (g n₀ : Nat) (m : Md) (lo re : Int) (s : St)  (w : World) (h : Ck g n₀ m lo re s w) :
    Calls Tryz.prog 278 #[.pointer (some ⟨g, 0, none⟩)] w (Done g n₀ m lo re w (deadS s)) := by
  obtain ⟨a, n, c, hk, hf⟩ := h.blk
  have HC := hid h
  by_cases h0 : s.er = 0
  · have HE := hid (show deadS s = s.put (deadR s.h s.l) by unfold deadS; rw [if_pos h0])
    have c17 := hk.c17
    rw [h0] at c17
    have HK1 := hid hk
    have HLT := hid h.lt
    have CC := hid (Stk.dead_any s.h a n c s.l w hf.st)
    have c13 := hk.c13
    have c14 := hk.c14
    clear h hk hf h0
    go_enter Tryz.func278, Tryz.ntmps278
    go_wp2_with fail
    refine CC.out.mono ?_
    intro e1 w1 hm1
    obtain ⟨a1, n1, c1, rfl, hf1, hb1⟩ := madeP_st hm1 (deadR_len _ _) HLT.out
    have hk1 := HK1.out.below hb1
    have f13 := hk1.f 13
    have f14 := hk1.f 14
    have f17 := hk1.f 17
    have d13 := hk1.c13
    have d14 := hk1.c14
    have d17 := hk1.c17
    have HP := hid (HC.out.put hb1 hf1)
    clear hk1 hf1 hb1 hm1 CC c13 c14 c17
    go_wp2
    go_end0
    obtain ⟨hP, hS⟩ := HP.out
    refine ⟨rfl, ?_, hS⟩
    rw [HE.out]; exact hP
  · have HE := hid (show deadS s = s by unfold deadS; rw [if_neg h0])
    have c17 := hk.c17
    clear h hk hf
    go_enter Tryz.func278, Tryz.ntmps278
    go_wp2
    refine bodyPost_ret (results_none rfl _ _ _) rfl ⟨rfl, ?_, Save.refl _ _⟩
    rw [HE.out]; exact HC.out
set_option maxRecDepth 100000 in
set_option maxHeartbeats 2000000 in
theorem enter_m (g n₀ : Nat) (m : Md) (lo re : Int) (s : St) (o r : Int) (w : World) (h : Ck g n₀ m lo re s w) :
    Calls Tryz.prog 279 #[.pointer (some ⟨g, 0, none⟩), .int .i64 o, .int .i64 r] w (Done g n₀ m lo re w (enterS o r s)) := by
  obtain ⟨a, n, c, hk, hf⟩ := h.blk
  have HC := hid h
  by_cases h0 : s.er = 0
  · have HE := hid (show enterS o r s = s.put (enterR s.h s.l o r) by unfold enterS; rw [if_pos h0])
    have c17 := hk.c17
    rw [h0] at c17
    have HK1 := hid hk
    have HLT := hid h.lt
    have CC := hid (Stk.enter_any s.h a n c s.l o r w hf.st)
    have c13 := hk.c13
    have c14 := hk.c14
    clear h hk hf h0
    go_enter Tryz.func279, Tryz.ntmps279
    go_wp2_with fail
    refine CC.out.mono ?_
    intro e1 w1 hm1
    obtain ⟨a1, n1, c1, rfl, hf1, hb1⟩ := madeP_st hm1 (enterR_len _ _ _ _) HLT.out
    have hk1 := HK1.out.below hb1
    have f13 := hk1.f 13
    have f14 := hk1.f 14
    have f17 := hk1.f 17
    have d13 := hk1.c13
    have d14 := hk1.c14
    have d17 := hk1.c17
    have HP := hid (HC.out.put hb1 hf1)
    clear hk1 hf1 hb1 hm1 CC c13 c14 c17
    go_wp2
    go_end0
    obtain ⟨hP, hS⟩ := HP.out
    refine ⟨rfl, ?_, hS⟩
    rw [HE.out]; exact hP
  · have HE := hid (show enterS o r s = s by unfold enterS; rw [if_neg h0])
    have c17 := hk.c17
    clear h hk hf
    go_enter Tryz.func279, Tryz.ntmps279
    go_wp2
    refine bodyPost_ret (results_none rfl _ _ _) rfl ⟨rfl, ?_, Save.refl _ _⟩
    rw [HE.out]; exact HC.out
set_option maxRecDepth 100000 in
set_option maxHeartbeats 2000000 in
theorem leave_m (g n₀ : Nat) (m : Md) (lo re : Int) (s : St) (own : Int) (w : World) (h : Ck g n₀ m lo re s w) :
    Calls Tryz.prog 243 #[.pointer (some ⟨g, 0, none⟩), .int .i64 own] w (Done g n₀ m lo re w (leaveS own s)) := by
  obtain ⟨a, n, c, hk, hf⟩ := h.blk
  have HC := hid h
  by_cases h0 : s.er = 0
  · have HE := hid (show leaveS own s = St.put ⟨s.h, s.l, s.cnt, own, s.er⟩ (leaveR s.h s.l) by unfold leaveS; rw [if_pos h0])
    have c17 := hk.c17
    rw [h0] at c17
    have hk1 := hk.set16 own
    have h1 : Ck g n₀ m lo re ⟨s.h, s.l, s.cnt, own, s.er⟩ (w.setCell ⟨g, 16, none⟩ (.int .i64 own)) := ⟨⟨a, n, c, hk1, hf.set _ _⟩, md_set h.mo h.le _ _, h.le⟩
    have HS1 : Hid (Save g w (w.setCell ⟨g, 16, none⟩ (.int .i64 own))) := hid ((Save.refl g w).setCell (.inl rfl) _)
    have HC1 := hid h1
    have HK1 := hid hk1
    have HLT := hid h1.lt
    have CC := hid (Stk.leave_any s.h a n c s.l (w.setCell ⟨g, 16, none⟩ (.int .i64 own)) (hf.set 16 _).st)
    have f16 := hk.f 16
    have c16 := hk.c16
    clear h hk hk1 hf h1 h0
    go_enter Tryz.func243, Tryz.ntmps243
    go_upto_region 2 with fail
    obtain ⟨w0, hw0⟩ : ∃ u, u = w.setCell ⟨g, 16, none⟩ (.int .i64 own) := ⟨_, rfl⟩
    rw [← hw0] at HC1 HK1 CC HLT HS1 ⊢
    clear c17 c16 f16 hw0
    have c13 := HK1.out.c13
    have c14 := HK1.out.c14
    go_wp2_with fail
    refine CC.out.mono ?_
    intro e1 w1 hm1
    obtain ⟨a1, n1, c1, rfl, hf1, hb1⟩ := madeP_st hm1 (leaveR_len _ _) HLT.out
    have hk1 := HK1.out.below hb1
    have f13 := hk1.f 13
    have f14 := hk1.f 14
    have f17 := hk1.f 17
    have d13 := hk1.c13
    have d14 := hk1.c14
    have d17 := hk1.c17
    have HP := hid (HC1.out.put hb1 hf1)
    clear hk1 hf1 hb1 hm1 CC c13 c14
    go_wp2
    go_end0
    obtain ⟨hP, hS⟩ := HP.out
    refine ⟨rfl, ?_, (HS1.out.trans hS)⟩
    rw [HE.out]; exact hP
  · have HE := hid (show leaveS own s = s by unfold leaveS; rw [if_neg h0])
    have c17 := hk.c17
    clear h hk hf
    go_enter Tryz.func243, Tryz.ntmps243
    go_wp2
    refine bodyPost_ret (results_none rfl _ _ _) rfl ⟨rfl, ?_, Save.refl _ _⟩
    rw [HE.out]; exact HC.out
set_option maxRecDepth 100000 in
set_option maxHeartbeats 2000000 in
theorem label_m (g n₀ : Nat) (m : Md) (lo re : Int) (s : St) (k : Int) (w : World) (h : Ck g n₀ m lo re s w) (hk : 0 ≤ k ∧ k < 4294967296) :
    Calls Tryz.prog 283 #[.pointer (some ⟨g, 0, none⟩), .int .u32 k] w (fun e w' => e = .returned (.int .i64 (labelS k s).1) ∧ Ck g n₀ m lo re (labelS k s).2 w' ∧ Save g w w') := by
  obtain ⟨a, n, c, hB, hf⟩ := h.blk
  have HC := hid h
  by_cases h0 : s.er = 0
  · have HE := hid (show labelS k s = ((labelR s.h s.l k).1, failS (labelR s.h s.l k).2 s) by unfold labelS; rw [if_pos h0])
    have hw : IntKind.i64.wrap k = k := by rw [IntKind.wrap_i64]; omega
    have c13 := hB.c13
    have c14 := hB.c14
    have c17 := hB.c17
    rw [h0] at c17
    have CC := hid (Stk.label_any s.h a n c s.l k w hf.st)
    obtain ⟨x, hx⟩ : ∃ x, labelR s.h s.l k = x := ⟨_, rfl⟩
    rw [hx] at CC HE
    clear h hB hf h0 hk hx
    go_enter Tryz.func283, Tryz.ntmps283
    go_wp2_with fail
    refine CC.out.mono ?_
    rintro e1 w1 ⟨rfl, hb1⟩
    have HC1 := hid (HC.out.on hb1)
    have HB1 := hid hb1
    have C2 := hid (fail_m g n₀ m lo re s x.2 w1 HC1.out)
    clear CC c13 c14 c17 hb1
    go_wp2_with fail
    refine C2.out.mono ?_
    rintro e2 w2 ⟨rfl, hc2, hs2⟩
    have HC2 := hid hc2
    have HS2 := hid ((Save.of_below HB1.out).trans hs2)
    clear C2 hc2 hs2
    go_wp2
    go_ret
    rw [HE.out]
    exact ⟨rfl, HC2.out, HS2.out⟩
  · have HE := hid (show labelS k s = (0, s) by unfold labelS; rw [if_neg h0])
    have c17 := hB.c17
    clear h hB hf
    go_enter Tryz.func283, Tryz.ntmps283
    go_wp2
    go_ret
    rw [HE.out]
    exact ⟨rfl, HC.out, Save.refl _ _⟩
end Go.Proofs.YtdljneclfgneoaaGreatDoor.Val

namespace Go.Proofs.YtdljneclfgneoaaGreatDoor.Kind
open Go.RowKit

theorem nearestType_any (p r : Int) (w : World) : Calls Tryz.prog 274 #[.agg #[.int .i64 p, .int .i64 r]] w
    fun e w' => e = .returned (.agg #[.int .i64 (min (max p 0) 255), .int .i64 (min (max r 0) 1)]) ∧ Below w.heap.size w w' := by
  go_enter Tryz.func274, Tryz.ntmps274
  go_wp2
  all_goals
    refine bodyPost_ret (v := .agg #[.int .i64 (min (max p 0) 255), .int .i64 (min (max r 0) 1)]) ?_ rfl ⟨rfl, ((Below.refl _ _).alloc (Nat.le_refl _) _).alloc (by simp) _⟩
    first
      | (simp [results, Tryz.results274, go_sem]; done)
      | (simp [results, Tryz.results274, go_sem]; omega)
theorem near_ok {p r : Int} (h : okType p r = true) : min (max p 0) 255 = p ∧ min (max r 0) 1 = r := by
  unfold okType at h; simp at h; omega
theorem near_no {p r : Int} (h : okType p r = false) : ¬ (p = min (max p 0) 255 ∧ r = min (max r 0) 1) := by
  rintro ⟨h1, h2⟩
  have : okType p r = true := by unfold okType; simp; omega
  rw [h] at this; cases this
theorem box_start (w : World) (x y : Value) (t : TypeId) : Below w.heap.size w (w.alloc (.cells #[x, y] t)).drew ∧ (w.alloc (.cells #[x, y] t)).drew.cell? ⟨w.heap.size, 0, none⟩ = some x ∧ (w.alloc (.cells #[x, y] t)).drew.cell? ⟨w.heap.size, 1, none⟩ = some y :=
  ⟨((Below.refl _ _).alloc (Nat.le_refl _) _).drew, by go_simp, by go_simp⟩
theorem box_keep {w w1 w2 : World} {x y : Value} {k : Nat} (h : Below w.heap.size w w1 ∧ w1.cell? ⟨k, 0, none⟩ = some x ∧ w1.cell? ⟨k, 1, none⟩ = some y) (hb : Below w1.heap.size w1 w2) :
    Below w.heap.size w w2 ∧ w2.cell? ⟨k, 0, none⟩ = some x ∧ w2.cell? ⟨k, 1, none⟩ = some y := ⟨thenB h.1 hb, keep hb h.2.1, keep hb h.2.2⟩
theorem box_out {w w1 : World} {x y : Value} {k : Nat} (h : Below w.heap.size w w1 ∧ w1.cell? ⟨k, 0, none⟩ = some x ∧ w1.cell? ⟨k, 1, none⟩ = some y) : Below w.heap.size w w1 := h.1
def codeType (p r : Int) : Int := if okType p r then 0 else 2
set_option maxHeartbeats 800000 in
theorem check_any (p r : Int) (w : World) : Calls Tryz.prog 235 #[.agg #[.int .i64 p, .int .i64 r]] w
    fun e w' => e = .returned (.int .i64 (codeType p r)) ∧ Below w.heap.size w w' := by
  have q1 := eqType
  have q2 := guardType
  have hN := fun w => nearestType_any p r w
  by_cases h : okType p r = true
  · obtain ⟨e1, e2⟩ := near_ok h
    have HC : Hid (codeType p r = 0) := by unfold codeType; rw [if_pos h]; rfl
    simp only [e1, e2] at hN
    clear h e1 e2
    go_enter Tryz.func235, Tryz.ntmps235
    go_wp2
    go_region_held3 (fun w' => Below w.heap.size w w' ∧ w'.cell? ⟨w.heap.size, 0, none⟩ = some (.int .i64 p) ∧ w'.cell? ⟨w.heap.size, 1, none⟩ = some (.int .i64 r)) (first | assumption | exact box_start w _ _ _ | exact box_keep (by assumption) (by assumption))
      (first
        | (go_at_call 274; refine (hN _).mono ?_; rintro e w2 ⟨rfl, hb2⟩))
    go_wp2
    go_ret
    exact ⟨ret_int HC.out.symm, box_out (x := .int .i64 p) (y := .int .i64 r) (k := w.heap.size) (by assumption)⟩
  · have h' : okType p r = false := by simpa using h
    have hn := near_no h'
    have HC : Hid (codeType p r = 2) := by unfold codeType; rw [h']; rfl
    generalize min (max p 0) 255 = m1 at *
    generalize min (max r 0) 1 = m2 at *
    have hor : (p == m1) = false ∧ (p != m1) = true ∨ (r == m2) = false ∧ (r != m2) = true := by
      by_cases h1 : p = m1
      · right
        have : r ≠ m2 := fun h2 => hn ⟨h1, h2⟩
        simp [this]
      · left; simp [h1]
    clear h h' hn
    rcases hor with ⟨n1, n2⟩ | ⟨n1, n2⟩
    all_goals
      go_enter Tryz.func235, Tryz.ntmps235
      go_wp2
      go_region_held3 (fun w' => Below w.heap.size w w' ∧ w'.cell? ⟨w.heap.size, 0, none⟩ = some (.int .i64 p) ∧ w'.cell? ⟨w.heap.size, 1, none⟩ = some (.int .i64 r)) (first | assumption | exact box_start w _ _ _ | exact box_keep (by assumption) (by assumption))
        (first
          | (go_at_call 274; refine (hN _).mono ?_; rintro e w2 ⟨rfl, hb2⟩))
      go_wp2
      go_ret
      exact ⟨ret_int HC.out.symm, box_out (x := .int .i64 p) (y := .int .i64 r) (k := w.heap.size) (by assumption)⟩

theorem nearestLimits_any (n x most : Int) (c : Bool) (w : World) : Calls Tryz.prog 260 #[.agg #[.int .u32 n, .int .u32 x, .bool c], .int .u32 most] w
    fun e w' => e = .returned (.agg #[.int .u32 (min n most), .int .u32 (if c then min (max x (min n most)) most else 0), .bool c]) ∧ Below w.heap.size w w' := by
  cases c
  · go_enter Tryz.func260, Tryz.ntmps260
    go_wp2
    all_goals
      refine bodyPost_ret (v := .agg #[.int .u32 (min n most), .int .u32 0, .bool false]) ?_ rfl ⟨rfl, ?_⟩
      · simp [results, Tryz.results260, go_sem]
        try omega
      · first | exact ((Below.refl _ _).alloc (Nat.le_refl _) _).alloc (by simp) _ | trace_state
  · go_enter Tryz.func260, Tryz.ntmps260
    go_wp2
    all_goals
      refine bodyPost_ret (v := .agg #[.int .u32 (min n most), .int .u32 (min (max x (min n most)) most), .bool true]) ?_ rfl ⟨rfl, ?_⟩
      · simp [results, Tryz.results260, go_sem]
        try omega
      · first | exact ((Below.refl _ _).alloc (Nat.le_refl _) _).alloc (by simp) _ | trace_state
theorem nearL_ok {n x most : Int} {c : Bool} (h : okLim n x c most = true) : min n most = n ∧ (if c then min (max x (min n most)) most else 0) = x := by
  unfold okLim at h; cases c <;> simp at h ⊢ <;> omega
theorem nearL_no {n x most : Int} {c : Bool} (h : okLim n x c most = false) : ¬ (n = min n most ∧ x = (if c then min (max x (min n most)) most else 0)) := by
  rintro ⟨h1, h2⟩
  have : okLim n x c most = true := by unfold okLim; cases c <;> simp at h2 ⊢ <;> omega
  rw [h] at this; cases this
def codeLim (n x : Int) (c : Bool) (most : Int) : Int := if okLim n x c most then 0 else 2
theorem box3_start (w : World) (x y z : Value) (t : TypeId) : Below w.heap.size w (w.alloc (.cells #[x, y, z] t)).drew ∧ (w.alloc (.cells #[x, y, z] t)).drew.cell? ⟨w.heap.size, 0, none⟩ = some x ∧ (w.alloc (.cells #[x, y, z] t)).drew.cell? ⟨w.heap.size, 1, none⟩ = some y ∧ (w.alloc (.cells #[x, y, z] t)).drew.cell? ⟨w.heap.size, 2, none⟩ = some z :=
  ⟨((Below.refl _ _).alloc (Nat.le_refl _) _).drew, by go_simp, by go_simp, by go_simp⟩
theorem box3_keep {w w1 w2 : World} {x y z : Value} {k : Nat} (h : Below w.heap.size w w1 ∧ w1.cell? ⟨k, 0, none⟩ = some x ∧ w1.cell? ⟨k, 1, none⟩ = some y ∧ w1.cell? ⟨k, 2, none⟩ = some z) (hb : Below w1.heap.size w1 w2) :
    Below w.heap.size w w2 ∧ w2.cell? ⟨k, 0, none⟩ = some x ∧ w2.cell? ⟨k, 1, none⟩ = some y ∧ w2.cell? ⟨k, 2, none⟩ = some z := ⟨thenB h.1 hb, keep hb h.2.1, keep hb h.2.2.1, keep hb h.2.2.2⟩
theorem box3_out {w w1 : World} {x y z : Value} {k : Nat} (h : Below w.heap.size w w1 ∧ w1.cell? ⟨k, 0, none⟩ = some x ∧ w1.cell? ⟨k, 1, none⟩ = some y ∧ w1.cell? ⟨k, 2, none⟩ = some z) : Below w.heap.size w w1 := h.1
set_option maxHeartbeats 800000 in
theorem checkLimits_any (n x : Int) (c : Bool) (most : Int) (w : World) : Calls Tryz.prog 208 #[.agg #[.int .u32 n, .int .u32 x, .bool c], .int .u32 most] w
    fun e w' => e = .returned (.int .i64 (codeLim n x c most)) ∧ Below w.heap.size w w' := by
  have q1 := eqLim
  have q2 := guardLim
  have hN := fun w => nearestLimits_any n x most c w
  by_cases h : okLim n x c most = true
  · obtain ⟨e1, e2⟩ := nearL_ok h
    have HC : Hid (codeLim n x c most = 0) := by unfold codeLim; rw [if_pos h]; rfl
    rw [e2] at hN
    simp only [e1] at hN
    clear h e1 e2
    go_enter Tryz.func208, Tryz.ntmps208
    go_wp2
    go_region_held3 (fun w' => Below w.heap.size w w' ∧ w'.cell? ⟨w.heap.size, 0, none⟩ = some (.int .u32 n) ∧ w'.cell? ⟨w.heap.size, 1, none⟩ = some (.int .u32 x) ∧ w'.cell? ⟨w.heap.size, 2, none⟩ = some (.bool c)) (first | assumption | exact box3_start w _ _ _ _ | exact box3_keep (by assumption) (by assumption))
      (first
        | (go_at_call 260; refine (hN _).mono ?_; rintro e w2 ⟨rfl, hb2⟩))
    go_wp2
    go_ret
    exact ⟨ret_int HC.out.symm, box3_out (x := .int .u32 n) (y := .int .u32 x) (z := .bool c) (k := w.heap.size) (by assumption)⟩
  · have h' : okLim n x c most = false := by simpa using h
    have hn := nearL_no h'
    have HC : Hid (codeLim n x c most = 2) := by unfold codeLim; rw [h']; rfl
    generalize (if c then min (max x (min n most)) most else 0) = m2 at *
    generalize min n most = m1 at *
    have hor : (n == m1) = false ∧ (n != m1) = true ∨ (x == m2) = false ∧ (x != m2) = true := by
      by_cases h1 : n = m1
      · right
        have : x ≠ m2 := fun h2 => hn ⟨h1, h2⟩
        simp [this]
      · left; simp [h1]
    clear h h' hn
    rcases hor with ⟨n1, n2⟩ | ⟨n1, n2⟩
    all_goals
      go_enter Tryz.func208, Tryz.ntmps208
      go_wp2
      go_region_held3 (fun w' => Below w.heap.size w w' ∧ w'.cell? ⟨w.heap.size, 0, none⟩ = some (.int .u32 n) ∧ w'.cell? ⟨w.heap.size, 1, none⟩ = some (.int .u32 x) ∧ w'.cell? ⟨w.heap.size, 2, none⟩ = some (.bool c)) (first | assumption | exact box3_start w _ _ _ _ | exact box3_keep (by assumption) (by assumption))
        (first
          | (go_at_call 260; refine (hN _).mono ?_; rintro e w2 ⟨rfl, hb2⟩))
      go_wp2
      go_ret
      exact ⟨ret_int HC.out.symm, box3_out (x := .int .u32 n) (y := .int .u32 x) (z := .bool c) (k := w.heap.size) (by assumption)⟩
end Go.Proofs.YtdljneclfgneoaaGreatDoor.Kind

namespace Go.Proofs.YtdljneclfgneoaaGreatDoor.Mod
open Go.RowKit Go.Proofs.YtdljneclfgneoaaGreatDoor.Instr

theorem wrongN_any (n : Int) (w : World) : Calls Tryz.prog 237 #[.int .i64 n] w fun e w' => e = .returned (.bool (wrongN n)) ∧ w = w' := by
  have H : Hid (wrongN n = (decide (n < 0) || decide (2147483647 < n))) := rfl
  by_cases h : n < 0
  · have HE : Hid (wrongN n = true) := by show _ = _; rw [H.out]; simp [h]
    go_enter Tryz.func237, Tryz.ntmps237
    go_wp2
    go_ret
    exact ⟨ret_bool HE.out.symm, rfl⟩
  · have h' : decide (n < 0) = false := by simpa using h
    have HE : Hid (wrongN n = decide (2147483647 < n)) := by show _ = _; rw [H.out, h', Bool.false_or]
    clear H
    go_enter Tryz.func237, Tryz.ntmps237
    go_wp2
    go_ret
    exact ⟨ret_bool HE.out.symm, rfl⟩
theorem wrongI_any (x : Imp) (w : World) : Calls Tryz.prog 165 #[.agg #[.string x.mo, .string x.na, .int .i64 x.ty]] w fun e w' => e = .returned (.bool (wrongI x)) ∧ Below w.heap.size w w' := by
  unfold wrongI
  obtain ⟨q, hq⟩ : ∃ q, wrongN x.ty = q := ⟨_, rfl⟩
  have C := hid (fun w => wrongN_any x.ty w)
  rw [hq] at C ⊢
  clear hq
  go_enter Tryz.func165, Tryz.ntmps165
  go_wp2_with fail
  refine (C.out _).mono ?_
  rintro e w1 ⟨rfl, rfl⟩
  go_wp2
  go_ret
  exact ⟨rfl, (Below.refl _ _).alloc (Nat.le_refl _) _⟩
set_option maxHeartbeats 800000 in
theorem wrongF_any (x : Fn) (w : World) : Calls Tryz.prog 168 #[.agg #[.int .i64 x.ty, .int .i64 x.lo, .slice x.l.a x.l.t.len x.l.c]] w fun e w' => e = .returned (.bool (wrongF x)) ∧ Below w.heap.size w w' := by
  have H : Hid (wrongF x = (wrongN x.ty || (decide (x.lo < 0) || decide (50000 < x.lo)))) := rfl
  obtain ⟨q, hq⟩ : ∃ q, wrongN x.ty = q := ⟨_, rfl⟩
  have C := hid (fun w => wrongN_any x.ty w)
  rw [hq] at C H
  clear hq
  obtain ⟨lo, hlo⟩ : ∃ lo, x.lo = lo := ⟨_, rfl⟩
  rw [hlo] at H ⊢
  clear hlo
  cases q with
  | true =>
    have HE : Hid (wrongF x = true) := by show _ = _; rw [H.out]; rfl
    go_enter Tryz.func168, Tryz.ntmps168
    go_wp2_with fail
    refine (C.out _).mono ?_
    rintro e w1 ⟨rfl, rfl⟩
    go_wp2
    go_ret
    exact ⟨ret_bool HE.out.symm, (Below.refl _ _).alloc (Nat.le_refl _) _⟩
  | false =>
    by_cases h : lo < 0
    · have HE : Hid (wrongF x = true) := by show _ = _; rw [H.out]; simp [h]
      go_enter Tryz.func168, Tryz.ntmps168
      go_wp2_with fail
      refine (C.out _).mono ?_
      rintro e w1 ⟨rfl, rfl⟩
      go_wp2
      go_ret
      exact ⟨ret_bool HE.out.symm, (Below.refl _ _).alloc (Nat.le_refl _) _⟩
    · have h' : decide (lo < 0) = false := by simpa using h
      have HE : Hid (wrongF x = decide (50000 < lo)) := by show _ = _; rw [H.out, h', Bool.false_or, Bool.false_or]
      go_enter Tryz.func168, Tryz.ntmps168
      go_wp2_with fail
      refine (C.out _).mono ?_
      rintro e w1 ⟨rfl, rfl⟩
      go_wp2
      go_ret
      exact ⟨ret_bool HE.out.symm, (Below.refl _ _).alloc (Nat.le_refl _) _⟩
theorem wrongE_any (x : Ex) (w : World) : Calls Tryz.prog 171 #[.agg #[.string x.na, .int .i64 x.k, .int .u32 x.i]] w fun e w' => e = .returned (.bool (wrongE x)) ∧ Below w.heap.size w w' := by
  have H : Hid (wrongE x = (decide (x.k < 0) || decide (3 < x.k))) := rfl
  obtain ⟨lo, hlo⟩ : ∃ lo, x.k = lo := ⟨_, rfl⟩
  rw [hlo] at H ⊢
  clear hlo
  by_cases h : lo < 0
  · have HE : Hid (wrongE x = true) := by show _ = _; rw [H.out]; simp [h]
    go_enter Tryz.func171, Tryz.ntmps171
    go_wp2
    go_ret
    exact ⟨ret_bool HE.out.symm, (Below.refl _ _).alloc (Nat.le_refl _) _⟩
  · have h' : decide (lo < 0) = false := by simpa using h
    have HE : Hid (wrongE x = decide (3 < lo)) := by show _ = _; rw [H.out, h', Bool.false_or]
    go_enter Tryz.func171, Tryz.ntmps171
    go_wp2
    go_ret
    exact ⟨ret_bool HE.out.symm, (Below.refl _ _).alloc (Nat.le_refl _) _⟩
theorem isLong_any (s : ByteArray) (w : World) : Calls Tryz.prog 154 #[.string s] w fun e w' => e = .returned (.bool (longS s)) ∧ Below w.heap.size w w' := by
  have HE : Hid (longS s = decide (1000 < s.size)) := rfl
  go_enter Tryz.func154, Tryz.ntmps154
  go_wp2
  go_ret
  exact ⟨ret_bool (by rw [HE.out]; simp; omega), Below.refl _ _⟩
theorem wrongT_any (x : Int × Int) (w : World) : Calls Tryz.prog 162 #[.agg #[.int .i64 x.1, .int .i64 x.2]] w fun e w' => e = .returned (.bool (wrongT x)) ∧ Below w.heap.size w w' := by
  have C := hid (fun w => Kind.check_any x.1 x.2 w)
  unfold Kind.codeType at C
  unfold wrongT
  obtain ⟨q, hq⟩ : ∃ q, Kind.okType x.1 x.2 = q := ⟨_, rfl⟩
  rw [hq] at C ⊢
  clear hq
  cases q
  all_goals
    simp only [Bool.false_eq_true, if_true, if_false] at C
    go_enter Tryz.func162, Tryz.ntmps162
    go_wp2_with fail
    refine (C.out _).mono ?_
    rintro e w1 ⟨rfl, hb1⟩
    go_wp2
    go_ret
    exact ⟨rfl, thenB ((Below.refl _ _).alloc (Nat.le_refl _) _) hb1⟩
theorem beyond_any (x : Li) (g : Nat) (most : Int) (w : World) (hc : w.cell? ⟨g, 0, none⟩ = some (.int .u32 most)) :
    Calls Tryz.prog 240 #[.agg #[.int .u32 x.n, .int .u32 x.x, .bool x.c], .pointer (some ⟨g, 0, none⟩)] w fun e w' => e = .returned (.bool (beyond most x)) ∧ Below w.heap.size w w' := by
  have C := hid (fun w => Kind.checkLimits_any x.n x.x x.c most w)
  unfold Kind.codeLim at C
  unfold beyond
  obtain ⟨q, hq⟩ : ∃ q, Kind.okLim x.n x.x x.c most = q := ⟨_, rfl⟩
  rw [hq] at C ⊢
  clear hq
  have hg := World.block_lt_of_cell? w _ hc
  cases q
  all_goals
    simp only [Bool.false_eq_true, if_true, if_false] at C
    go_enter Tryz.func240, Tryz.ntmps240
    go_wp2_with fail
    refine (C.out _).mono ?_
    rintro e w1 ⟨rfl, hb1⟩
    go_wp2
    go_ret
    exact ⟨rfl, thenB ((Below.refl _ _).alloc (Nat.le_refl _) _) hb1⟩
end Go.Proofs.YtdljneclfgneoaaGreatDoor.Mod

namespace Go.Proofs.YtdljneclfgneoaaGreatDoor.Mod
open Go.RowKit Go.Shelf Go.Proofs.YtdljneclfgneoaaGreatDoor.Instr

theorem entersB : ∀ args w, (callFunc 240 args).run Tryz.prog w = .ok (.enter 240 args) w := enters_of Tryz.func240 (by kernel_rfl) rfl
set_option maxHeartbeats 1000000 in
theorem anyBeyond_any (l : List Li) (a : Option Addr) (n c : Nat) (most : Int) (w : World) (hn : l.length = n) (hr : Rows w.heap.size w a 3 (l.map Li.v)) (hl : n ≤ 140737488351232) :
    Calls Tryz.prog 173 #[.slice a n c, .int .u32 most] w fun e w' => e = .returned (.bool (l.any (beyond most))) ∧ Below w.heap.size w w' := by
  have hB := (Below.refl w.heap.size w).alloc (Nat.le_refl _) (.cells #[.int .u32 most] 36)
  have hc : (w.alloc (.cells #[.int .u32 most] 36)).cell? ⟨w.heap.size, 0, none⟩ = some (.int .u32 most) := by go_simp
  have C := hid (any_li l a n c (w.alloc (.cells #[.int .u32 most] 36)) hn ((hr.below hB).more hB.size) hl 240 #[.pointer (some ⟨w.heap.size, 0, none⟩)] entersB (beyond most)
    (fun W x _ hW => beyond_any x _ most W (Go.Proofs.YtdljneclfgneoaaGreatDoor.keep hW hc)))
  have HB := hid hB
  clear hB hc hn hr
  go_enter Tryz.func173, Tryz.ntmps173
  go_wp2_with fail
  refine C.out.mono ?_
  rintro e w1 ⟨rfl, hb1⟩
  clear C
  go_wp2
  go_ret
  exact ⟨rfl, HB.out.trans (hb1.mono HB.out.size)⟩

theorem Bad_any (zs : List Int) (a : Option Addr) (n c : Nat) (w : World) (hT : Utf.Tabs w) (hn : zs.length = n) (hz : Bytes w a zs) :
    Calls Tryz.prog 233 #[.slice a n c] w fun e w' => e = .returned (.int .i64 (Utf.badL zs)) ∧ Below w.heap.size w w' := by
  have e1 := str_of hz n c hn
  have C := hid (Utf.bad_any zs hz.byte w hT)
  clear hn hz
  go_enter Tryz.func233, Tryz.ntmps233
  go_wp2_with fail
  refine C.out.mono ?_
  rintro e w1 ⟨rfl, hb1⟩
  clear C
  go_wp2
  go_ret
  exact ⟨rfl, hb1⟩
set_option maxHeartbeats 400000 in
theorem isNoText_any (s : ByteArray) (w : World) (hT : Utf.Tabs w) (hs : s.size ≤ 140737488351232) : Calls Tryz.prog 159 #[.string s] w fun e w' => e = .returned (.bool (noText s)) ∧ Below w.heap.size w w' := by
  unfold noText
  obtain ⟨b, c, w1, e1, hz, hb1⟩ := bytes_of (numsOf s) (numsOf_bytes s) (by rw [numsOf_length]; exact hs) w
  rw [str_numsOf] at e1
  have C := hid (Bad_any (numsOf s) _ _ c w1 (hT.below hb1) rfl hz)
  obtain ⟨q, hq⟩ : ∃ q, Utf.badL (numsOf s) = q := ⟨_, rfl⟩
  rw [hq] at C ⊢
  obtain ⟨n, hn⟩ : ∃ n, (numsOf s).length = n := ⟨_, rfl⟩
  rw [hn] at C e1
  have HB := hid hb1
  clear hq hn hz hb1 hT
  go_enter Tryz.func159, Tryz.ntmps159
  go_wp2_with fail
  refine C.out.mono ?_
  rintro e w2 ⟨rfl, hb2⟩
  clear C e1
  go_wp2
  go_ret
  exact ⟨rfl, thenB HB.out hb2⟩
theorem asks_long (w : World) : Asks w 154 longS := ⟨enters_of Tryz.func154 (by kernel_rfl) rfl, fun W s _ _ => isLong_any s W⟩
theorem asks_text (w : World) (hT : Utf.Tabs w) : Asks w 159 noText := ⟨enters_of Tryz.func159 (by kernel_rfl) rfl, fun W s hs hW => isNoText_any s W (hT.below hW) hs⟩
end Go.Proofs.YtdljneclfgneoaaGreatDoor.Mod

namespace Go.Proofs.YtdljneclfgneoaaGreatDoor.Instr
open Go.RowKit Go.Shelf

attribute [local go_sem] Oper.semAt_some

theorem RoundIn.anyD {m m' : Nat} {P : Program} {l : Nat} {f : FuncId} {tmps : Array Value} {assign body : Code} {w : World} {R : Ending → World → Prop}
    (h : RoundIn Fence.wide m P l f tmps assign body w R) : RoundIn Fence.wide m' P l f tmps assign body w R := ⟨h.1, fun c cs _ => h.2 c cs (fun d h => by cases h)⟩
theorem YieldAt.anyD {m m' : Nat} {P : Program} {l : Nat} {args : Array Value} {W : World} {R : Ending → World → Prop} (h : YieldAt Fence.wide m P l args W R) : YieldAt Fence.wide m' P l args W R := by
  obtain ⟨fn, tmps, assign, body, hy, hR⟩ := h
  exact ⟨fn, tmps, assign, body, hy, RoundIn.anyD hR⟩

def encs (p : Int × Ix) : Array Value := #[.int .i64 p.1, .agg p.2.vals]

set_option maxHeartbeats 4000000 in
set_option maxRecDepth 100000 in
theorem descend_in (l n₀ n₁ N : Nat) (J Jx : List (Int × Ix) → World → Prop) (B : Nat) (hJ : AbidesFrom B J) (hn : n₀ ≤ n₁)
    (hY : ∀ m pre x W, J pre W → pre.length < N → n₁ ≤ W.heap.size → YieldAt Fence.wide m Tryz.prog l (encs x) W fun e W' =>
      (e = .returned (.bool true) ∧ J (pre ++ [x]) W' ∧ Kept n₀ n₁ W W') ∨ (e = .returned (.bool false) ∧ Jx (pre ++ [x]) W')) :
    ∀ (m : Nat) (t : Il) (n : Nat) (a : Option Addr) (len cap : Nat) (d : Int) (pre : List (Int × Ix)) (W : World), t.count ≤ m → ListAt n₀ W a len t → J pre W → pre.length + t.count ≤ N → n₁ ≤ W.heap.size → 0 ≤ d → d + t.deep ≤ 4611686018427387904 → len ≤ 140737488351232 →
      CallsIn Fence.wide n Tryz.prog 298 #[.slice a len cap, .int .i64 d, .func (.yield l) #[] #[]] W fun e W' =>
        (e = .returned (.bool true) ∧ J (pre ++ t.walk d) W' ∧ Kept n₀ n₁ W W') ∨ (e = .returned (.bool false) ∧ ∃ q, q <+: t.walk d ∧ Jx (pre ++ q) W') := by
  intro m
  induction m with
  | zero =>
    intro t n a len cap d pre W hm hl hJ0 hN hW hd0 hd1 hlen
    cases t with
    | cons x l e r => simp only [Il.count] at hm; omega
    | nil =>
      have h0 : len = 0 := hl.1.symm
      subst h0
      clear hm hl hN hd1
      refine callsIn_of_wp Tryz.func298 rfl trivial ?_ rfl
      simp only [Tryz.ntmps298, List.size_toArray, List.length_cons, List.length_nil, Nat.reduceAdd, Nat.reduceSub, Array.replicate_succ, Array.replicate_zero, List.push_toArray, List.append_toArray, List.nil_append, List.cons_append]
      gi_wp2
      gi_loopw [11] (fun i wr => i = .int .i64 0 ∧ J pre wr ∧ Kept n₀ n₁ W wr) (fun _ _ => 0)
      case atStart => exact ⟨rfl, hJ0, Kept.refl _ _ _⟩
      case round =>
        obtain ⟨rfl, hJs, hk⟩ := hrel
        gi_wp2
        go_ret
        exact .inl ⟨rfl, by simpa [Il.walk] using hJs, hk⟩
  | succ m ih =>
    intro t n a len cap d pre W hm hl hJ0 hN hW hd0 hd1 hlen
    have hA : ∀ s W, J s W → ∀ o, J s (W.alloc o) := fun s W h o => hJ s W _ none h (World.grownBy_alloc W o none) (fun r e => by cases e)
    obtain ⟨hl1, hl2⟩ := hl
    have HT := hid hm
    have HN := hid hN
    have HD := hid hd1
    have HL := hid hl1
    clear hm hN hd1 hl1
    rcases hl2 with rfl | ⟨b, off, rfl, hi⟩
    · have h0 : len = 0 := HL.out.symm
      subst h0
      refine callsIn_of_wp Tryz.func298 rfl trivial ?_ rfl
      simp only [Tryz.ntmps298, List.size_toArray, List.length_cons, List.length_nil, Nat.reduceAdd, Nat.reduceSub, Array.replicate_succ, Array.replicate_zero, List.push_toArray, List.append_toArray, List.nil_append, List.cons_append]
      gi_wp2
      gi_loopw [11] (fun i wr => i = .int .i64 0 ∧ J pre wr ∧ Kept n₀ n₁ W wr) (fun _ _ => 0)
      case atStart => exact ⟨rfl, hJ0, Kept.refl _ _ _⟩
      case round =>
        obtain ⟨rfl, hJs, hk⟩ := hrel
        gi_wp2
        go_ret
        exact .inl ⟨rfl, by simpa [Il.walk] using hJs, hk⟩
    · refine callsIn_of_wp Tryz.func298 rfl trivial ?_ rfl
      simp only [Tryz.ntmps298, List.size_toArray, List.length_cons, List.length_nil, Nat.reduceAdd, Nat.reduceSub, Array.replicate_succ, Array.replicate_zero, List.push_toArray, List.append_toArray, List.nil_append, List.cons_append]
      gi_wp2
      gi_loopw [11] (fun i wr => ∃ (k : Nat) (done : List (Int × Ix)) (rest : Il), i = .int .i64 k ∧ k ≤ len ∧ Hid (k + rest.len = len ∧ done ++ rest.walk d = t.walk d ∧ rest.count ≤ t.count ∧ rest.deep ≤ t.deep) ∧ Items n₀ wr b (off + k * 8) rest ∧ J (pre ++ done) wr ∧ Kept n₀ n₁ W wr)
        (fun i _ => len - (intOf i).toNat)
      case atStart => exact ⟨0, [], t, rfl, Nat.zero_le _, ⟨by have := HL.out; omega, rfl, Nat.le_refl _, Nat.le_refl _⟩, by simpa using hi, by simpa using hJ0, Kept.refl _ _ _⟩
      case round =>
        obtain ⟨k, done, rest, rfl, hk, HR, hir, hJs, hkw⟩ := hrel
        cases rest with
        | nil =>
          obtain ⟨r1, r2, _, _⟩ := HR.out
          have hkl : k = len := by simpa [Il.len] using r1
          subst hkl
          gi_wp2
          go_ret
          exact .inl ⟨rfl, by rw [← r2]; simpa [Il.walk] using hJs, hkw⟩
        | cons x tl te r =>
          obtain ⟨hbn, hx, ⟨c0, c1, c2, c3, c4, c5, c6, c7⟩, ht, hLl, hLe, hir'⟩ := hir
          have hlt : k < len := by have := HR.out.1; simp only [Il.len] at this; omega
          obtain ⟨fn, tmps, assign, body, hy, hR⟩ := hY (n - 1) (pre ++ done) (d, x) (wr.alloc (.cells x.vals 92)) (hA _ _ hJs _) (by
            have h1 := congrArg List.length HR.out.2.1
            have h2 := walk_length t d
            have h3 := HN.out
            simp only [List.length_append, Il.walk, List.length_cons] at h1 ⊢
            omega) (by have := hkw.below.size; simp; omega)
          simp only [encs, Ix.vals] at hy hR
          have hbx := At.made x wr
          have hg : n₁ ≤ wr.heap.size := Nat.le_trans hW hkw.below.size
          have hw1 : IntKind.i64.wrap (d + 1) = d + 1 := by have := HD.out; rw [IntKind.wrap_i64]; omega
          have hB1 : Kept n₀ n₁ W (wr.alloc (.cells x.vals 92)) := hkw.alloc _ (Nat.le_trans hn hg)
          have hcounts : tl.count + te.count + r.count + 1 ≤ m + 1 ∧ tl.deep + 1 ≤ t.deep ∧ te.deep + 1 ≤ t.deep := by
            have h1 := HR.out.2.2
            have h2 := HT.out
            simp only [Il.count, Il.deep] at h1
            omega
          have HC := hid hcounts
          clear hcounts
          have hlens : (pre ++ done).length + 1 + tl.count + te.count + r.count ≤ N := by
            have h1 := congrArg List.length HR.out.2.1
            have h2 := HN.out
            simp only [List.length_append, Il.walk, List.length_cons, walk_length] at h1 ⊢
            omega
          have HLN := hid hlens
          clear hlens
          gi_wp2_with fail
          refine ⟨fun h => (by cases h), ?_⟩
          refine hR.mono ?_
          clear hR hy
          rintro e W2 (⟨rfl, hJ2, hk2⟩ | ⟨rfl, hx2⟩)
          · have hb2 := hbx.kept hk2 hg
            obtain ⟨d0, d1, d2, d3, d4, d5, d6, d7⟩ := hb2
            gi_wp2_with fail
            refine ⟨trivial, fun h => (by cases h), ?_⟩
            have hL2 : ListAt n₀ W2 x.la x.ln tl := ListAt.below (((Below.refl _ wr).alloc (Nat.le_trans hn hg) _).trans hk2.below) hLl
            refine (ih tl (n - 1) x.la x.ln x.lc (d + 1) (pre ++ done ++ [(d, x)]) W2 (by have := HC.out; omega) hL2 hJ2 (by have := HLN.out; simp only [List.length_append, List.length_cons, List.length_nil] at this ⊢; omega)
              (by have := hk2.below.size; simp at this; omega) (by omega) (by have := HC.out; have := HD.out; omega) hx.ln).mono ?_
            rintro e W3 (⟨rfl, hJ3, hk3⟩ | ⟨rfl, q, hq, hx3⟩)
            · have hb3 := hbx.kept (hk2.trans hk3) hg
              clear d0 d1 d2 d3 d4 d5 d6 d7
              obtain ⟨d0, d1, d2, d3, d4, d5, d6, d7⟩ := hb3
              gi_wp2_with fail
              refine ⟨trivial, fun h => (by cases h), ?_⟩
              have hL3 : ListAt n₀ W3 x.ea x.en te := ListAt.below ((((Below.refl _ wr).alloc (Nat.le_trans hn hg) _).trans hk2.below).trans hk3.below) hLe
              refine (ih te (n - 1) x.ea x.en x.ec (d + 1) (pre ++ done ++ [(d, x)] ++ tl.walk (d + 1)) W3 (by have := HC.out; omega) hL3 hJ3 (by have := HLN.out; simp only [List.length_append, List.length_cons, List.length_nil, walk_length] at this ⊢; omega)
                (by have := (hk2.trans hk3).below.size; simp at this; omega) (by omega) (by have := HC.out; have := HD.out; omega) hx.en).mono ?_
              rintro e W4 (⟨rfl, hJ4, hk4⟩ | ⟨rfl, q, hq, hx4⟩)
              · clear d0 d1 d2 d3 d4 d5 d6 d7
                gi_wp2
                have hkz : Kept n₀ n₁ W W4 := hB1.trans ((hk2.trans hk3).trans hk4)
                go_roundw
                case rel =>
                  refine ⟨k + 1, done ++ [(d, x)] ++ tl.walk (d + 1) ++ te.walk (d + 1), r, by simp, by omega, ?_, ?_, ?_, hkz⟩
                  · have h1 := HR.out
                    refine ⟨by simp only [Il.len] at h1; omega, ?_, by simp only [Il.count] at h1; omega, by simp only [Il.deep] at h1; omega⟩
                    rw [← h1.2.1]; simp [Il.walk, List.append_assoc]
                  · have := Items.below ((((((Below.refl _ wr).alloc (Nat.le_trans hn hg) (.cells x.vals 92)).trans hk2.below).trans hk3.below)).trans hk4.below) hir'
                    rw [show off + (k + 1) * 8 = off + k * 8 + 8 by omega]
                    exact this
                  · simpa [List.append_assoc] using hJ4
                case measure => simp [intOf]; omega
              · gi_wp2
                go_ret
                refine .inr ⟨rfl, done ++ [(d, x)] ++ tl.walk (d + 1) ++ q, ?_, by simpa [List.append_assoc] using hx4⟩
                rw [← HR.out.2.1]
                obtain ⟨z, hz⟩ := hq
                exact ⟨z ++ r.walk d, by rw [Il.walk, ← hz]; simp [List.append_assoc]⟩
            · gi_wp2
              refine ⟨trivial, ?_⟩
              gi_wp2
              go_ret
              refine .inr ⟨rfl, done ++ [(d, x)] ++ q, ?_, by simpa [List.append_assoc] using hx3⟩
              rw [← HR.out.2.1]
              obtain ⟨z, hz⟩ := hq
              exact ⟨z ++ (te.walk (d + 1) ++ r.walk d), by rw [Il.walk, ← hz]; simp [List.append_assoc]⟩
          · gi_wp2
            refine ⟨trivial, ?_⟩
            gi_wp2
            refine ⟨trivial, ?_⟩
            gi_wp2
            go_ret
            refine .inr ⟨rfl, done ++ [(d, x)], ?_, by simpa [List.append_assoc] using hx2⟩
            rw [← HR.out.2.1]
            exact ⟨tl.walk (d + 1) ++ (te.walk (d + 1) ++ r.walk d), by simp [Il.walk, List.append_assoc]⟩

set_option maxHeartbeats 1000000 in
/-- The function that within hands back. -/
theorem within_stops (n n₀ n₁ Bs : Nat) (a : Option Addr) (len cap : Nat) (t : Il) (w : World) (hBs : Bs < w.heap.size) (hn : n₀ ≤ n₁) (hw : n₁ ≤ w.heap.size)
    (hc : w.cell? ⟨Bs, 0, none⟩ = some (.slice a len cap)) (hl : ListAt n₀ w a len t) (hd : t.deep ≤ 4611686018427387900) (hlen : len ≤ 140737488351232) :
    SeqStopsK Fence.wide n Tryz.prog 297 #[.pointer (some ⟨Bs, 0, none⟩)] encs (Kept n₀ n₁) (fun ys => ys = t.walk 1) (fun pre => pre <+: t.walk 1) t.count w := fun l J Jx W hW hJ _ hY h0 => by
  have hc' := (hW.cell (p := ⟨Bs, 0, none⟩) hBs).trans hc
  have hp := descend_in l n₀ n₁ t.count J Jx W.heap.size hJ hn (fun m pre x W1 hj hl1 _ => YieldAt.anyD (hY pre x W1 hj hl1)) t.count t (n - 1) a len cap 1 [] W (Nat.le_refl _) (hl.below (hW.mono (Nat.le_trans hn hw))) h0 (by simp) (Nat.le_trans hw hW.size) (by omega) (by omega) hlen
  have C := hid hp
  clear hp hl hd hc hY
  refine callsIn_of_wp Tryz.func297 rfl trivial ?_ rfl
  simp only [Tryz.ntmps297, List.size_toArray, List.length_cons, List.length_nil, Nat.reduceAdd, Nat.reduceSub, Array.replicate_succ, Array.replicate_zero, List.push_toArray, List.append_toArray, List.nil_append, List.cons_append]
  gi_wp2_with fail
  refine ⟨trivial, fun h => (by cases h), ?_⟩
  refine C.out.mono ?_
  clear C
  rintro e W1 (⟨rfl, hJ1, _⟩ | ⟨rfl, q, hq, hx⟩)
  · gi_wp2
    go_end0
    exact ⟨⟨_, rfl⟩, .inl ⟨_, rfl, by simpa using hJ1⟩⟩
  · gi_wp2
    go_end0
    exact ⟨⟨_, rfl⟩, .inr ⟨q, hq, by simpa using hx⟩⟩
theorem within_in (n : Nat) (a : Option Addr) (len cap : Nat) (w : World) :
    CallsIn Fence.wide n Tryz.prog 258 #[.slice a len cap] w fun e w' => e = .returned (.func (.func 297) #[] #[.pointer (some ⟨w.heap.size, 0, none⟩)]) ∧ w' = w.alloc (.cells #[.slice a len cap] 22) := by
  refine callsIn_of_wp Tryz.func258 rfl trivial ?_ rfl
  simp only [Tryz.ntmps258, List.size_toArray, List.length_cons, List.length_nil, Nat.reduceAdd, Nat.reduceSub, Array.replicate_succ, Array.replicate_zero, List.push_toArray, List.append_toArray, List.nil_append, List.cons_append]
  gi_wp2
  go_ret
  exact ⟨rfl, rfl⟩
end Go.Proofs.YtdljneclfgneoaaGreatDoor.Instr

namespace Go.Proofs.YtdljneclfgneoaaGreatDoor.Instr
open Go.RowKit Go.Shelf

theorem cell_new (W : World) (v : Value) (t : TypeId) : (W.alloc (.cells #[v] t)).cell? ⟨W.heap.size, 0, none⟩ = some v ∧ (W.alloc (.cells #[v] t)).frozen? ⟨W.heap.size, 0, none⟩ = false := by
  constructor <;> go_simp
theorem cell_alloc' {W : World} {a : Addr} {v : Value} (o : Obj) (h : W.cell? a = some v) : (W.alloc o).cell? a = some v := cell_kept h (World.grownBy_alloc W o none) (fun r e => by cases e)
end Go.Proofs.YtdljneclfgneoaaGreatDoor.Instr

namespace Go.Proofs.YtdljneclfgneoaaGreatDoor.Instr
open Go.RowKit Go.Shelf

attribute [local go_sem] Oper.semAt_some

theorem lawful_any (x : Ix) (w : World) (hT : Nams w) : Calls Tryz.prog 259 #[.agg x.vals] w fun e w' => e = .returned (.bool (lawfulP x)) ∧ Below w.heap.size w w' := by
  by_cases h : nameL x.op = []
  · have : lawfulP x = false := by simp [lawfulP, h]
    rw [this]
    exact lawful_noname x w hT h
  · have : lawfulP x = (decide (overP x = 0) && (decide (x.res = 0) || decide (x.res = 1))) := by simp [lawfulP, h]
    rw [this]
    exact lawful_name x w hT h
def manyP (l : List (Int × Ix)) : Bool := decide (262144 < l.length) || (l.any fun p => decide (16384 < p.2.tags.length)) || decide (900 < deepest l)
theorem manyP_snoc (l : List (Int × Ix)) (p : Int × Ix) : manyP (l ++ [p]) = (manyP l || (decide (262144 < l.length + 1) || (decide (16384 < p.2.tags.length) || decide (900 < p.1)))) := by
  unfold manyP
  rw [deepest_snoc]
  simp only [List.length_append, List.length_cons, List.length_nil, List.any_append, List.any_cons, List.any_nil, Bool.or_false]
  rw [Bool.eq_iff_iff]
  simp only [Bool.or_eq_true, decide_eq_true_eq]
  constructor
  · rintro ((h | h | h) | h)
    · right; left; omega
    · left; left; right; exact h
    · right; right; left; exact h
    · rcases Int.le_total (deepest l) p.1 with h1 | h1
      · right; right; right; omega
      · left; right; omega
  · rintro (((h | h) | h) | h | h | h)
    · left; left; omega
    · left; right; left; exact h
    · right; omega
    · left; left; omega
    · left; right; right; exact h
    · right; omega
theorem manyP_walk (t : Il) : manyP (t.walk 1) = decide (262144 < t.count ∨ 900 < t.deep ∨ t.tags = true) := by
  unfold manyP
  rw [walk_length, walk_tags, deepest_walk, Bool.eq_iff_iff]
  simp only [Bool.or_eq_true, decide_eq_true_eq]
  constructor
  · rintro ((h | h) | h)
    · exact .inl h
    · exact .inr (.inr h)
    · exact .inr (.inl (by omega))
  · rintro (h | h | h)
    · exact .inl (.inl h)
    · exact .inr (by omega)
    · exact .inl (.inr h)

def allP (l : List (Int × Ix)) : Bool := l.all fun p => lawfulP p.2
theorem allP_snoc (l : List (Int × Ix)) (p : Int × Ix) : allP (l ++ [p]) = (allP l && lawfulP p.2) := by simp [allP, List.all_append]
theorem allP_walk (t : Il) (d : Int) : allP (t.walk d) = t.all := walk_all t d
theorem keepsFrom_below {B : Nat} {w w' : World} (h : Below w.heap.size w w') : KeepsFrom B w w' := ⟨h.size, fun k _ _ hk _ => (h.block k (Array.getElem?_eq_some_iff.1 hk).1).trans hk⟩
theorem At.own {x : Ix} {g : Nat} {A B : World} {row : Option Nat} (h : At x g A) (hg : A.grownBy B row) (hr : ∀ r, row = some r → ∃ o : Obj, A.heap[r]? = some o ∧ o.isCells = false) : At x g B :=
  ⟨cell_kept h.c0 hg hr, cell_kept h.c1 hg hr, cell_kept h.c2 hg hr, cell_kept h.c3 hg hr, cell_kept h.c4 hg hr, cell_kept h.c5 hg hr, cell_kept h.c6 hg hr, cell_kept h.c7 hg hr⟩

/-- What the loop of Check holds in its own cells: result, count, many. -/
structure Chk (g : Nat) (r : Int) (n : Int) (m : Bool) (W : World) : Prop where
  res : W.cell? ⟨g, 0, none⟩ = some (.int .i64 r)
  num : W.cell? ⟨g + 1, 0, none⟩ = some (.int .i64 n)
  many : W.cell? ⟨g + 2, 0, none⟩ = some (.bool m)
  fres : W.frozen? ⟨g, 0, none⟩ = false
  fnum : W.frozen? ⟨g + 1, 0, none⟩ = false
  fmany : W.frozen? ⟨g + 2, 0, none⟩ = false
theorem Chk.own {g : Nat} {r n : Int} {m : Bool} {A B : World} {row : Option Nat} (h : Chk g r n m A) (hg : A.grownBy B row) (hr : ∀ r, row = some r → ∃ o : Obj, A.heap[r]? = some o ∧ o.isCells = false) : Chk g r n m B :=
  ⟨cell_kept h.res hg hr, cell_kept h.num hg hr, cell_kept h.many hg hr, (frozen_kept h.res hg hr).trans h.fres, (frozen_kept h.num hg hr).trans h.fnum, (frozen_kept h.many hg hr).trans h.fmany⟩
theorem Chk.below {g : Nat} {r n : Int} {m : Bool} {A B : World} (h : Chk g r n m A) (hb : Below A.heap.size A B) : Chk g r n m B :=
  have f : ∀ p v, A.cell? p = some v → A.frozen? p = false → B.frozen? p = false := fun p _ hc hf => (hb.frozen (World.block_lt_of_cell? A p hc)).trans hf
  ⟨keep hb h.res, keep hb h.num, keep hb h.many, f _ _ h.res h.fres, f _ _ h.num h.fnum, f _ _ h.many h.fmany⟩

theorem Chk.next {g : Nat} {r n n' n2 : Int} {m m' m2 : Bool} {A : World} (h : Chk g r n m A) (hn : n' = n2) (hm : m' = m2) : Chk g r n' m' ((A.setCell ⟨g + 1, 0, none⟩ (.int .i64 n2)).setCell ⟨g + 1 + 1, 0, none⟩ (.bool m2)) := by
  obtain ⟨r1, r2, r3, f1, f2, f3⟩ := h
  subst hn hm
  constructor <;> simp [go_sem, *]

set_option maxRecDepth 100000 in
set_option maxHeartbeats 4000000 in
theorem Check_any (a : Option Addr) (len cap : Nat) (t : Il) (w : World) (hT : Nams w) (hl : ListAt w.heap.size w a len t) (hc : t.count ≤ 4611686018427387900) (hlen : len ≤ 140737488351232) :
    Calls Tryz.prog 207 #[.slice a len cap] w fun e w' => e = .returned (.int .i64 (checkP t)) ∧ Below w.heap.size w w' := by
  have HC := hid hc
  clear hc
  refine (callsIn_wide (n := 3)).1 ?_
  refine callsIn_of_wp_marks Tryz.func207 rfl trivial ?_ rfl
  simp only [Tryz.ntmps207, List.size_toArray, List.length_cons, List.length_nil, Nat.reduceAdd, Nat.reduceSub, Array.replicate_succ, Array.replicate_zero, List.push_toArray, List.append_toArray, List.nil_append, List.cons_append]
  gi_wp2_with (refine ⟨trivial, ?_⟩; refine (within_in _ _ _ _ _).mono ?_; rintro e w' ⟨rfl, rfl⟩)
  have hS0 : Chk w.heap.size 0 0 false (((w.alloc (.cells #[.int .i64 0] 47)).alloc (.cells #[.int .i64 0] 3)).alloc (.cells #[.bool false] 4)) := by constructor <;> go_simp
  have hb := cell_new (((w.alloc (.cells #[.int .i64 0] 47)).alloc (.cells #[.int .i64 0] 3)).alloc (.cells #[.bool false] 4)) (.slice a len cap) 22
  have hS1 := hS0.below ((Below.refl _ _).alloc (Nat.le_refl _) (.cells #[.slice a len cap] 22))
  have hB0 : Below w.heap.size w ((((w.alloc (.cells #[.int .i64 0] 47)).alloc (.cells #[.int .i64 0] 3)).alloc (.cells #[.bool false] 4)).alloc (.cells #[.slice a len cap] 22)) := thenA (thenA (thenA (thenA (Below.refl _ _) _) _) _) _
  have hsz : ((((w.alloc (.cells #[.int .i64 0] 47)).alloc (.cells #[.int .i64 0] 3)).alloc (.cells #[.bool false] 4)).alloc (.cells #[.slice a len cap] 22)).heap.size = w.heap.size + 4 := by simp
  have hsz3 : (((w.alloc (.cells #[.int .i64 0] 47)).alloc (.cells #[.int .i64 0] 3)).alloc (.cells #[.bool false] 4)).heap.size = w.heap.size + 1 + 1 + 1 := by simp
  rw [hsz3] at hb
  clear hS0 hsz3
  obtain ⟨W0, hW0⟩ : ∃ W0, (((w.alloc (.cells #[.int .i64 0] 47)).alloc (.cells #[.int .i64 0] 3)).alloc (.cells #[.bool false] 4)).alloc (.cells #[.slice a len cap] 22) = W0 := ⟨_, rfl⟩
  rw [hW0] at hb hS1 hB0 hsz ⊢
  clear hW0
  refine wpIn_rangeFunc_ownH rfl (by omega) (gf := 297) (lb := #[.pointer (some ⟨w.heap.size + 1 + 1 + 1, 0, none⟩)]) rfl trivial (enters_of Tryz.func297 (by kernel_rfl) rfl)
    (within_stops _ w.heap.size (w.heap.size + 4) (w.heap.size + 1 + 1 + 1) a len cap t W0 (by omega) (by omega) (by omega) hb.1 (hl.below hB0) (by have := HC.out; have := deep_le_count t; omega) hlen) (fun h k => h.trans k) (kept_b (by omega)) (Below.refl _ _) (fun _ => rfl)
    (fun pre W => (allP pre = true ∧ Chk w.heap.size 0 pre.length (manyP pre) W ∧ w.heap.size + 4 ≤ W.heap.size) ∧ Below w.heap.size w W)
    (fun c pre W => (c = .ret ∧ allP pre = false ∧ W.cell? ⟨w.heap.size, 0, none⟩ = some (.int .i64 2)) ∧ Below w.heap.size w W)
    (OwnFrom.and (Own.from (fun s A B row hs hg hr => ⟨hs.1, hs.2.1.own hg hr, Nat.le_trans hs.2.2 hg.size⟩) _) (ownFrom_below (Nat.le_refl _) (by omega)))
    (fun c => OwnFrom.and (Own.from (fun s A B row hs hg hr => ⟨hs.1, hs.2.1, cell_kept hs.2.2 hg hr⟩) _) (ownFrom_below (Nat.le_refl _) (by omega)))
    ⟨⟨rfl, by simpa [manyP, deepest] using hS1, by omega⟩, hB0⟩
    (fun x a' W => ∃ Bx, w.heap.size + 4 ≤ Bx ∧ At x.2 Bx W ∧ a' = { tmps := #[.slice a len cap, undef, .pointer (some ⟨w.heap.size, 0, none⟩), .pointer (some ⟨w.heap.size + 1, 0, none⟩), .pointer (some ⟨w.heap.size + 1 + 1, 0, none⟩), .int .i64 x.1, .pointer (some ⟨Bx, 0, none⟩), .slice a len cap, .func (.func 297) #[] #[.pointer (some ⟨w.heap.size + 1 + 1 + 1, 0, none⟩)], .int .i64 x.1, .agg x.2.vals, undef, undef, undef, undef, undef, undef, undef, undef, undef, undef, undef, undef, undef, undef, undef, undef, undef, undef, undef, undef, undef], defers := [] })
    (fun x a' _ X Y row hs hg hr => by obtain ⟨Bx, h1, h2, h3⟩ := hs; exact ⟨Bx, h1, h2.own hg (fun r e => (hr r e).2), h3⟩)
    ?assign ?body ?done ?stop
  case assign =>
    rintro l pre ⟨d, x⟩ W K ⟨⟨hla, hch, hz⟩, hB1⟩ hK
    simp only [encs, Ix.vals] at hK ⊢
    gi_wp2
    exact hK _ _ ((KeepsOthers.alloc _ _).from _) ((Kept.refl _ _ W).alloc _ (by omega)) ⟨⟨hla, hch.below ((Below.refl _ _).alloc (Nat.le_refl _) _), by simp; omega⟩, thenA hB1 _⟩ ⟨W.heap.size, hz, At.made x W, rfl⟩
  case body =>
    rintro l pre ⟨d, x⟩ a' W hl' ⟨r, hr⟩ ⟨⟨hla, hch, hz⟩, hB1⟩ ⟨Bx, hBx, bX, rfl⟩ hlt
    clear hsz hl'
    have CL := callsIn_wide (n := 3 - 1 - 1 - 1) |>.2 (lawful_any x W (hT.below hB1))
    obtain ⟨q, hq⟩ : ∃ q, lawfulP x = q := ⟨_, rfl⟩
    rw [hq] at CL
    obtain ⟨cnt, hcnt⟩ : ∃ cnt : Int, (pre.length : Int) = cnt := ⟨_, rfl⟩
    have hcb : 0 ≤ cnt ∧ cnt + 1 ≤ 4611686018427387900 := by have := HC.out; omega
    obtain ⟨m, hm⟩ : ∃ m, manyP pre = m := ⟨_, rfl⟩
    have hsn := manyP_snoc pre (d, x)
    have HSN := hid hsn
    have HQ := hid hq
    have HM := hid hm
    have HCN := hid hcnt
    have HLA := hid hla
    rw [hcnt, hm] at hch
    clear hsn hq hm hcnt hla hlt
    unfold Ix.vals at CL
    simp only [Ix.vals]
    obtain ⟨hc0, hc1⟩ := hcb
    have hch' := hch
    have bX' := bX
    obtain ⟨b0, b1, b2, b3, b4, b5, b6, b7⟩ := bX
    obtain ⟨r1, r2, r3, f1, f2, f3⟩ := hch
    gi_wp2_with fail
    refine ⟨trivial, ?_⟩
    refine (CallsIn.inRound l CL).mono ?_
    rintro e W3 ⟨rfl, hb3⟩
    clear CL b0 b1 b2 b3 b4 b5 b6 b7 r1 r2 r3 f1 f2 f3
    have hch3 := hch'.below hb3
    obtain ⟨r1, r2, r3, f1, f2, f3⟩ := hch3
    have bX3 := bX'.below hb3
    obtain ⟨b0, b1, b2, b3, b4, b5, b6, b7⟩ := bX3
    have hkf : KeepsFrom W0.heap.size W W3 := keepsFrom_below hb3
    have hkp : Kept w.heap.size (w.heap.size + 4) W W3 := Kept.of_below hb3 (by omega)
    cases q
    · gi_wp2
      exact ⟨hkf.trans ((KeepsOthers.setCell _ _ _).from _), ⟨rfl, by rw [allP_snoc, HQ.out, Bool.and_false], World.cell?_setCell_same' _ _ _ (by rw [r1]; rfl)⟩, (thenB hB1 hb3).setCell (p := ⟨w.heap.size, 0, none⟩) (Nat.le_refl _) _⟩
    · have hch3 : Chk w.heap.size 0 cnt m W3 := hch'.below hb3
      have hln : (((pre ++ [(d, x)]).length : Nat) : Int) = cnt + 1 := by rw [← HCN.out]; simp
      have HLN := hid hln
      clear hln
      gi_wp2
      all_goals
        refine ⟨hkf.trans (((KeepsOthers.setCell _ _ _).trans (KeepsOthers.setCell _ _ _)).from _), (hkp.setCell (p := ⟨w.heap.size + 1, 0, none⟩) (by simp) (by simp) _).setCell (p := ⟨w.heap.size + 1 + 1, 0, none⟩) (by simp; omega) (by simp) _,
          ⟨by rw [allP_snoc, HLA.out, HQ.out]; rfl, hch3.next HLN.out ?_, by have := hb3.size; simp [World.setCell]; omega⟩, ((thenB hB1 hb3).setCell (p := ⟨w.heap.size + 1, 0, none⟩) (by simp) _).setCell (p := ⟨w.heap.size + 1 + 1, 0, none⟩) (by simp; omega) _⟩
        rw [HSN.out, HM.out]
        have hcn := HCN.out
        cases m
        · simp only [Bool.false_or]
          rw [Bool.eq_iff_iff]
          simp only [Bool.or_eq_true, decide_eq_true_eq]
          constructor <;> intro hh <;> first | rfl | trivial | contradiction | omega | trace_state
        · simp_all
  case done =>
    rintro D ys W hD rfl ⟨⟨hla, hch, hz⟩, hB⟩ hK
    rw [allP_walk] at hla
    rw [manyP_walk] at hch
    obtain ⟨m, hm⟩ : ∃ m, decide (262144 < t.count ∨ 900 < t.deep ∨ t.tags = true) = m := ⟨_, rfl⟩
    rw [hm] at hch
    have HR : Hid (checkP t = if m then 141 else 0) := by show _ = _; unfold checkP; rw [if_pos hla, ← hm]; simp
    clear hm hla
    obtain ⟨r1, r2, r3, f1, f2, f3⟩ := hch
    cases m
    · gi_wp2
      have hK' := (KeepsOthers.setCell W ⟨w.heap.size, 0, none⟩ (.int .i64 0)).same D _ hK rfl
      refine ⟨by simp, .inl ⟨_, _, rfl, run_takeDeferred hK', ?_⟩⟩
      have hc5 := cell_kept (World.cell?_setCell_same' W ⟨w.heap.size, 0, none⟩ (.int .i64 0) (by rw [r1]; rfl)) (grownBy_putObj' _ D (.deferred none)) (fun r e => by cases e; exact ⟨_, hK', rfl⟩)
      refine ⟨.int .i64 0, ?_, by rw [HR.out]; rfl, (hB.setCell (p := ⟨w.heap.size, 0, none⟩) (Nat.le_refl _) _).trans (belowK_b (w := w) (Nat.le_refl _) _ D _ _ (by omega) hK' rfl rfl)⟩
      simp [results, Tryz.f207, go_sem, hc5]
    · gi_wp2
      have hK' := (KeepsOthers.setCell W ⟨w.heap.size, 0, none⟩ (.int .i64 141)).same D _ hK rfl
      refine ⟨by simp, .inl ⟨_, _, rfl, run_takeDeferred hK', ?_⟩⟩
      have hc5 := cell_kept (World.cell?_setCell_same' W ⟨w.heap.size, 0, none⟩ (.int .i64 141) (by rw [r1]; rfl)) (grownBy_putObj' _ D (.deferred none)) (fun r e => by cases e; exact ⟨_, hK', rfl⟩)
      refine ⟨.int .i64 141, ?_, by rw [HR.out]; rfl, (hB.setCell (p := ⟨w.heap.size, 0, none⟩) (Nat.le_refl _) _).trans (belowK_b (w := w) (Nat.le_refl _) _ D _ _ (by omega) hK' rfl rfl)⟩
      simp [results, Tryz.f207, go_sem, hc5]
  case stop =>
    rintro D c pre W hD hpre ⟨⟨rfl, hla, hc2⟩, hB⟩ hK
    have hall : t.all = false := by
      rw [← allP_walk t 1]
      obtain ⟨z, hz⟩ := hpre
      unfold allP at hla ⊢
      rw [← hz, List.all_append, hla]
      rfl
    have HR : Hid (checkP t = 2) := by show _ = _; unfold checkP; rw [hall]; rfl
    clear hall hla hpre
    gi_wp2
    refine ⟨by simp, .inl ⟨_, _, rfl, run_takeDeferred hK, ?_⟩⟩
    have hc5 := cell_kept hc2 (grownBy_putObj' _ D (.deferred none)) (fun r e => by cases e; exact ⟨_, hK, rfl⟩)
    refine ⟨.int .i64 2, ?_, by rw [HR.out], hB.trans (belowK_b (w := w) (Nat.le_refl _) W D _ _ (by omega) hK rfl rfl)⟩
    simp [results, Tryz.f207, go_sem, hc5]
end Go.Proofs.YtdljneclfgneoaaGreatDoor.Instr

namespace Go.Proofs.YtdljneclfgneoaaGreatDoor.Val
open Go.RowKit Go.Proofs.YtdljneclfgneoaaGreatDoor.Instr Go.Proofs.YtdljneclfgneoaaGreatDoor.Mod
open Go.Proofs.YtdljneclfgneoaaGreatDoor.Stk (Fr R pushR popR deadR enterR leaveR labelR newR StAt MadeP OwnF valid lastF)
set_option linter.unusedVariables false

theorem tagsS_step {k : Int} {z : List Int} {j : Nat} (hj : j < z.length) (b : Bool) (s : St) : tagsS k (z.drop j) b s = tagsS k (z.drop (j + 1)) (decide ((labelS z[j] s).1 = k) && b) (labelS z[j] s).2 := by
  rw [List.drop_eq_getElem_cons hj, tagsS]
set_option maxRecDepth 100000 in
set_option maxHeartbeats 4000000 in
theorem labels_m (g n₀ : Nat) (m : Md) (lo re : Int) (s : St) (ta : Option Addr) (tc : Nat) (tags : List Int) (last : Int) (w : World) (h : Ck g n₀ m lo re s w) (ht : TagsAt n₀ w ta tags) (hz : ∀ z ∈ tags, 0 ≤ z ∧ z < 4294967296) (hl : 0 ≤ last ∧ last < 4294967296) (hlen : tags.length ≤ 140737488351232) :
    Calls Tryz.prog 281 #[.pointer (some ⟨g, 0, none⟩), .slice ta tags.length tc, .int .u32 last] w (Done g n₀ m lo re w (tableS tags last s)) := by
  have HC := hid h
  have HZ := hid hz
  have HT := hid ht
  have C1 := hid (label_m g n₀ m lo re s last w h hl)
  obtain ⟨p, hp⟩ : ∃ p, labelS last s = p := ⟨_, rfl⟩
  have HE : Hid (tableS tags last s = if (tagsS p.1 tags true p.2).1 then (tagsS p.1 tags true p.2).2 else failS 214 (tagsS p.1 tags true p.2).2) := by show _ = _; rw [← hp]; rfl
  rw [hp] at C1
  obtain ⟨k0, s1⟩ := p
  simp only at C1 HE
  obtain ⟨len, hle⟩ : ∃ n, tags.length = n := ⟨_, rfl⟩
  have HLE := hid hle
  rw [hle] at hlen ⊢
  clear h hz ht hp hle hl
  go_enter Tryz.func281, Tryz.ntmps281
  go_wp2_with fail
  refine C1.out.mono ?_
  rintro e1 w1 ⟨rfl, hc1, hs1⟩
  have HC1 := hid hc1
  have HS1 := hid hs1
  clear C1 hc1 hs1
  go_wp2
  go_loopw [7, 15] (fun vb vi wr => ∃ (k : Nat) (b : Bool) (s' : St), vi = .int .i64 k ∧ k ≤ len ∧ vb = .bool b ∧ Hid (tagsS k0 tags true s1 = tagsS k0 (tags.drop k) b s') ∧ Hid (Ck g n₀ m lo re s' wr) ∧ Hid (Save g w wr)) (fun _ vi _ => len - (intOf vi).toNat)
  case atStart => exact ⟨0, true, s1, rfl, Nat.zero_le _, rfl, rfl, HC1, HS1⟩
  case round =>
    clear HC1 HS1
    obtain ⟨k, b, s', rfl, hk, rfl, HR, HK, HS⟩ := hrel
    by_cases hlt : k < len
    · have hkl : k < tags.length := by rw [HLE.out]; exact hlt
      have hki : (k : Int) < (len : Int) := by omega
      obtain ⟨z, hzz⟩ : ∃ z, tags[k] = z := ⟨_, rfl⟩
      have hb := HC.out.below HS.out
      have hta := HT.out.below hb
      have hzr := HZ.out tags[k] (List.getElem_mem hkl)
      have hstep := tagsS_step (k := k0) hkl b s'
      rw [hzz] at hzr hstep
      have hcell : ∃ bb off, ta = some ⟨bb, off, none⟩ ∧ wr.cell? ⟨bb, off + k, none⟩ = some (.int .u32 z) := by
        rcases hta with h0 | ⟨bb, off, ha, _, hc⟩
        · rw [h0] at hkl; simp at hkl
        · refine ⟨bb, off, ha, ?_⟩
          have := hc k hkl
          rw [show tags.getD k 0 = tags[k] by simp [hkl], hzz] at this
          exact this
      obtain ⟨bb, off, rfl, cz⟩ := hcell
      have C2 := hid (label_m g n₀ m lo re s' z wr HK.out hzr)
      obtain ⟨q, hq⟩ : ∃ q, labelS z s' = q := ⟨_, rfl⟩
      rw [hq] at C2 hstep
      obtain ⟨kz, s2⟩ := q
      simp only at C2 hstep
      have HST := hid (HR.out.trans hstep)
      clear hzz hb hta hzr hstep hq hkl
      by_cases hkk : kz = k0
      · subst hkk
        have e2 : Hid (∀ c : Bool, (decide (kz = kz) && c) = c) := fun c => by simp
        go_wp2_with fail
        refine C2.out.mono ?_
        rintro e2 w2 ⟨rfl, hc2, hs2⟩
        have HC2 := hid hc2
        have HS2 := hid (HS.out.trans hs2)
        clear C2 hc2 hs2 cz
        go_wp2
        go_roundw
        case rel => exact ⟨k + 1, b, s2, by go_num, by omega, rfl, hid (by rw [HST.out, e2.out]), HC2, HS2⟩
        case measure => simp [intOf]; omega
      · have e2 : Hid (∀ c : Bool, (decide (kz = k0) && c) = false) := fun c => by simp [hkk]
        have hkb : (kz == k0) = false := by simpa using hkk
        go_wp2_with fail
        refine C2.out.mono ?_
        rintro e2 w2 ⟨rfl, hc2, hs2⟩
        have HC2 := hid hc2
        have HS2 := hid (HS.out.trans hs2)
        clear C2 hc2 hs2 cz
        go_wp2
        go_roundw
        case rel => exact ⟨k + 1, false, s2, by go_num, by omega, rfl, hid (by rw [HST.out, e2.out]), HC2, HS2⟩
        case measure => simp [intOf]; omega
    · obtain rfl : len = k := by omega
      have hdr : tags.drop len = [] := by rw [← HLE.out]; simp
      have HF := hid (show tagsS k0 tags true s1 = (b, s') by rw [HR.out, hdr]; rfl)
      have HG1 := hid (show b = true → tableS tags last s = s' from fun hb => by rw [HE.out, HF.out, hb]; rfl)
      have HG0 := hid (show b = false → tableS tags last s = failS 214 s' from fun hb => by rw [HE.out, HF.out, hb]; rfl)
      clear hdr HR hk hlt HE HF
      cases b with
      | true =>
        have HG := hid (HG1.out rfl)
        clear HG1 HG0
        go_wp2
        go_end0
        refine ⟨rfl, ?_, HS.out⟩
        rw [HG.out]; exact HK.out
      | false =>
        have HG := hid (HG0.out rfl)
        clear HG1 HG0
        have C3 := hid (fail_m g n₀ m lo re s' 214 wr HK.out)
        go_wp2_with fail
        refine C3.out.mono ?_
        rintro e3 w3 ⟨rfl, hc3, hs3⟩
        have HC3 := hid hc3
        have HS3 := hid (HS.out.trans hs3)
        clear C3 hc3 hs3
        go_wp2
        go_end0
        refine ⟨rfl, ?_, HS3.out⟩
        rw [HG.out]; exact HC3.out
end Go.Proofs.YtdljneclfgneoaaGreatDoor.Val

namespace Go.Proofs.YtdljneclfgneoaaGreatDoor.Instr
open Go.RowKit

def Il.weight : Il → Nat
  | .nil => 0
  | .cons x l e r => 1 + x.tags.length + l.weight + e.weight + r.weight
def tagsMin (x : Ix) (most : Int) : Int := min (x.tags.length : Int) most
/-- Counted on from n, no further than beyond 'most'. -/
def Il.go : Il → Int → Int → Int
  | .nil, n, _ => n
  | .cons x l e r, n, most =>
    if n ≤ most then
      r.go (if (if n + 1 + tagsMin x most ≤ most then n + 1 + tagsMin x most + l.go 0 (most - (n + 1 + tagsMin x most)) else n + 1 + tagsMin x most) ≤ most
        then (if n + 1 + tagsMin x most ≤ most then n + 1 + tagsMin x most + l.go 0 (most - (n + 1 + tagsMin x most)) else n + 1 + tagsMin x most) + e.go 0 (most - (if n + 1 + tagsMin x most ≤ most then n + 1 + tagsMin x most + l.go 0 (most - (n + 1 + tagsMin x most)) else n + 1 + tagsMin x most))
        else (if n + 1 + tagsMin x most ≤ most then n + 1 + tagsMin x most + l.go 0 (most - (n + 1 + tagsMin x most)) else n + 1 + tagsMin x most)) most
    else n
/-- Behind one of them. -/
def next1 (n m : Int) (most : Int) : Int := if n ≤ most then n + m else n
theorem next1_pos {n m most : Int} (h : n ≤ most) : next1 n m most = n + m := if_pos h
theorem next1_neg {n m most : Int} (h : ¬ n ≤ most) : next1 n m most = n := if_neg h
theorem go_cons (x : Ix) (l e r : Il) (n most : Int) (h : n ≤ most) : (Il.cons x l e r).go n most =
    r.go (next1 (next1 (n + 1 + tagsMin x most) (l.go 0 (most - (n + 1 + tagsMin x most))) most) (e.go 0 (most - next1 (n + 1 + tagsMin x most) (l.go 0 (most - (n + 1 + tagsMin x most))) most)) most) most := by
  rw [Il.go, if_pos h]; rfl
theorem go_over (t : Il) (n most : Int) (h : most < n) : t.go n most = n := by
  cases t with
  | nil => rfl
  | cons x l e r => rw [Il.go, if_neg (by omega)]
theorem tagsMin_bounds (x : Ix) (most : Int) (h : 0 ≤ most) : 0 ≤ tagsMin x most ∧ tagsMin x most ≤ most ∧ tagsMin x most ≤ x.tags.length := by unfold tagsMin; omega
theorem go_bounds : ∀ (t : Il) (n most : Int), 0 ≤ n → 0 ≤ most → n ≤ 2 * most + 1 → n ≤ t.go n most ∧ t.go n most ≤ 2 * most + 1 ∧ (t.go n most ≤ most → n + t.weight ≤ t.go n most)
  | .nil, n, most, h0, h1, h2 => by simp [Il.go, Il.weight, h2]
  | .cons x l e r, n, most, h0, h1, h2 => by
    by_cases h : n ≤ most
    · rw [go_cons x l e r n most h]
      have hT := tagsMin_bounds x most h1
      obtain ⟨T, hTT⟩ : ∃ T, tagsMin x most = T := ⟨_, rfl⟩
      have hx : T = most ∨ T = x.tags.length := by rw [← hTT]; unfold tagsMin; omega
      rw [hTT] at hT ⊢
      have A : ∀ (N2 : Int), next1 (n + 1 + T) (l.go 0 (most - (n + 1 + T))) most = N2 → n + 1 + T ≤ N2 ∧ N2 ≤ 2 * most + 1 ∧ (N2 ≤ most → n + 1 + T + l.weight ≤ N2 ∧ n + 1 + T ≤ most) := by
        intro N2 h
        subst h
        unfold next1
        split
        · have := go_bounds l 0 (most - (n + 1 + T)) (by omega) (by omega) (by omega)
          refine ⟨by omega, by omega, fun hh => ⟨?_, by omega⟩⟩
          have := this.2.2 (by omega)
          omega
        · exact ⟨by omega, by omega, fun hh => by omega⟩
      obtain ⟨N2, h2'⟩ : ∃ N2, next1 (n + 1 + T) (l.go 0 (most - (n + 1 + T))) most = N2 := ⟨_, rfl⟩
      have a := A N2 h2'
      rw [h2']
      have B : ∀ (N3 : Int), next1 N2 (e.go 0 (most - N2)) most = N3 → N2 ≤ N3 ∧ N3 ≤ 2 * most + 1 ∧ (N3 ≤ most → N2 + e.weight ≤ N3 ∧ N2 ≤ most) := by
        intro N3 h
        subst h
        unfold next1
        split
        · have := go_bounds e 0 (most - N2) (by omega) (by omega) (by omega)
          refine ⟨by omega, by omega, fun hh => ⟨?_, by omega⟩⟩
          have := this.2.2 (by omega)
          omega
        · exact ⟨by omega, by omega, fun hh => by omega⟩
      obtain ⟨N3, h3'⟩ : ∃ N3, next1 N2 (e.go 0 (most - N2)) most = N3 := ⟨_, rfl⟩
      have b := B N3 h3'
      rw [h3']
      have c := go_bounds r N3 most (by omega) h1 (by omega)
      refine ⟨by omega, c.2.1, fun hh => ?_⟩
      have c3 := c.2.2 hh
      have b3 := b.2.2 (by omega)
      have a3 := a.2.2 (by omega)
      simp only [Il.weight]
      omega
    · rw [go_over _ _ _ (by omega)]
      exact ⟨by omega, by omega, fun hh => by omega⟩
set_option maxRecDepth 100000 in
set_option maxHeartbeats 1600000 in
theorem Instrs_any : ∀ (m : Nat) (t : Il) (a : Option Addr) (len c : Nat) (most : Int) (w : World), t.count ≤ m → ListAt w.heap.size w a len t → len ≤ 140737488351232 → 0 ≤ most → most ≤ 5000 →
    Calls Tryz.prog 12 #[.slice a len c, .int .i64 most] w fun e w' => e = .returned (.int .i64 (t.go 0 most)) ∧ w = w' := by
  intro m
  induction m with
  | zero =>
    intro t a len c most w hm hL hlen hm0 hm1
    cases t with
    | cons x l e r => simp only [Il.count] at hm; omega
    | nil =>
      have h0 : len = 0 := hL.1.symm
      subst h0
      clear hm hL
      go_enter Tryz.func12, Tryz.ntmps12
      go_wp2
      go_loopw [5, 6] (fun sn si wr => si = .int .i64 0 ∧ sn = .int .i64 0 ∧ wr = w) (fun _ _ _ => 0)
      case atStart => exact ⟨rfl, rfl, rfl⟩
      case round =>
        obtain ⟨rfl, rfl, rfl⟩ := hrel
        go_wp2
        go_ret
        exact ⟨rfl, rfl⟩
  | succ m ih =>
    intro t a len c most w hm hL hlen hm0 hm1
    obtain ⟨hL1, hL2⟩ := hL
    have HM := hid hm
    have HL1 := hid hL1
    have HG : Hid (t.go 0 most = t.go 0 most) := hid rfl
    clear hm hL1
    rcases hL2 with rfl | ⟨b, off, rfl, hi⟩
    · have h0 : len = 0 := HL1.out.symm
      subst h0
      clear ih
      go_enter Tryz.func12, Tryz.ntmps12
      go_wp2
      go_loopw [5, 6] (fun sn si wr => si = .int .i64 0 ∧ sn = .int .i64 0 ∧ wr = w) (fun _ _ _ => 0)
      case atStart => exact ⟨rfl, rfl, rfl⟩
      case round =>
        obtain ⟨rfl, rfl, rfl⟩ := hrel
        go_wp2
        go_ret
        exact ⟨rfl, rfl⟩
    · go_enter Tryz.func12, Tryz.ntmps12
      go_wp2
      go_loopw [5, 6] (fun sn si wr => ∃ (k : Nat) (n : Int) (rest : Il), si = .int .i64 k ∧ sn = .int .i64 n ∧ k ≤ len ∧ 0 ≤ n ∧ n ≤ 2 * most + 1 ∧ Hid (k + rest.len = len ∧ rest.go n most = t.go 0 most ∧ rest.count ≤ t.count) ∧ Items w.heap.size w b (off + k * 8) rest ∧ wr = w)
        (fun _ si _ => len - (intOf si).toNat)
      case atStart => exact ⟨0, 0, t, rfl, rfl, Nat.zero_le _, by omega, by omega, ⟨by have := HL1.out; omega, rfl, Nat.le_refl _⟩, by simpa using hi, rfl⟩
      case round =>
        obtain ⟨k, n, rest, rfl, rfl, hk, hn0, hn1, HR, hir, rfl⟩ := hrel
        cases rest with
        | nil =>
          obtain ⟨r1, r2, _⟩ := HR.out
          have hkl : k = len := by simpa [Il.len] using r1
          subst hkl
          have R2 : Hid (n = t.go 0 most) := by show _ = _; rw [← r2]; rfl
          clear r2
          go_wp2
          go_ret
          exact ⟨ret_int R2.out, rfl⟩
        | cons x tl te r =>
          obtain ⟨hbn, hx, ⟨c0, c1, c2, c3, c4, c5, c6, c7⟩, ht, hLl, hLe, hir'⟩ := hir
          have hlt : k < len := by have := HR.out.1; simp only [Il.len] at this; omega
          by_cases hnm : n ≤ most
          · have hcnt : tl.count + te.count + 1 ≤ m + 1 := by have h1 := HR.out.2.2; have h2 := HM.out; simp only [Il.count] at h1; omega
            have htn := hx.tn
            have hLn := hx.ln
            have hEn := hx.en
            have hTb := tagsMin_bounds x most hm0
            rcases (Int.lt_or_le most (x.tags.length : Int)).symm with hle | hle
            · have hT : min (x.tags.length : Int) most = (x.tags.length : Int) := by omega
              have HT : Hid (tagsMin x most = (x.tags.length : Int)) := hid (show tagsMin x most = _ from hT)
              rw [HT.out] at hTb
              obtain ⟨tb0, tb1, _⟩ := hTb
              by_cases c1 : n + 1 + (x.tags.length : Int) ≤ most
              · have ih1 := ih tl x.la x.ln x.lc (most - (n + 1 + (x.tags.length : Int))) wr (by omega) hLl hLn (by omega) (by omega)
                have b1 := go_bounds tl 0 (most - (n + 1 + (x.tags.length : Int))) (by omega) (by omega) (by omega)
                obtain ⟨g1, hg1⟩ : ∃ g1, tl.go 0 (most - (n + 1 + (x.tags.length : Int))) = g1 := ⟨_, rfl⟩
                rw [hg1] at ih1 b1
                obtain ⟨b10, b11, _⟩ := b1
                have G1 := hid hg1
                have I1 := hid ih1
                clear hg1 ih1
                by_cases c2 : n + 1 + (x.tags.length : Int) + g1 ≤ most
                · have ih2 := ih te x.ea x.en x.ec (most - (n + 1 + (x.tags.length : Int) + g1)) wr (by omega) hLe hEn (by omega) (by omega)
                  have b2 := go_bounds te 0 (most - (n + 1 + (x.tags.length : Int) + g1)) (by omega) (by omega) (by omega)
                  obtain ⟨g2, hg2⟩ : ∃ g2, te.go 0 (most - (n + 1 + (x.tags.length : Int) + g1)) = g2 := ⟨_, rfl⟩
                  rw [hg2] at ih2 b2
                  obtain ⟨b20, b21, _⟩ := b2
                  have G2 := hid hg2
                  have I2 := hid ih2
                  clear hg2 ih2
                  go_wp2_with fail
                  refine I1.out.mono ?_
                  clear I1
                  rintro e1 w1 ⟨rfl, rfl⟩
                  go_wp2_with fail
                  refine I2.out.mono ?_
                  clear I2
                  rintro e1 w1 ⟨rfl, rfl⟩
                  go_wp2
                  go_roundw
                  case rel =>
                    refine ⟨k + 1, n + 1 + (x.tags.length : Int) + g1 + g2, r, by simp, by first | rfl | simp, by omega, by omega, by omega, ⟨by have := HR.out.1; simp only [Il.len] at this; omega, ?_, by have := HR.out.2.2; simp only [Il.count] at this; omega⟩, by rw [show off + (k + 1) * 8 = off + k * 8 + 8 by omega]; exact hir', by first | rfl | trivial⟩
                    rw [← HR.out.2.1, go_cons x tl te r n most hnm]
                    rw [HT.out, G1.out, next1_pos c1, G2.out, next1_pos c2]
                  case measure => simp [intOf]; omega

                · have c2' : most < n + 1 + (x.tags.length : Int) + g1 := by omega
                  clear ih
                  go_wp2_with fail
                  refine I1.out.mono ?_
                  clear I1
                  rintro e1 w1 ⟨rfl, rfl⟩
                  go_wp2
                  go_roundw
                  case rel =>
                    refine ⟨k + 1, n + 1 + (x.tags.length : Int) + g1, r, by simp, by first | rfl | simp, by omega, by omega, by omega, ⟨by have := HR.out.1; simp only [Il.len] at this; omega, ?_, by have := HR.out.2.2; simp only [Il.count] at this; omega⟩, by rw [show off + (k + 1) * 8 = off + k * 8 + 8 by omega]; exact hir', by first | rfl | trivial⟩
                    rw [← HR.out.2.1, go_cons x tl te r n most hnm]
                    rw [HT.out, G1.out, next1_pos c1, next1_neg (n := n + 1 + (x.tags.length : Int) + g1) (by omega)]
                  case measure => simp [intOf]; omega

              · have c1' : most < n + 1 + (x.tags.length : Int) := by omega
                clear ih
                go_wp2
                go_roundw
                case rel =>
                  refine ⟨k + 1, n + 1 + (x.tags.length : Int), r, by simp, by first | rfl | simp, by omega, by omega, by omega, ⟨by have := HR.out.1; simp only [Il.len] at this; omega, ?_, by have := HR.out.2.2; simp only [Il.count] at this; omega⟩, by rw [show off + (k + 1) * 8 = off + k * 8 + 8 by omega]; exact hir', by first | rfl | trivial⟩
                  rw [← HR.out.2.1, go_cons x tl te r n most hnm]
                  rw [HT.out, next1_neg (n := n + 1 + (x.tags.length : Int)) (by omega), next1_neg (n := n + 1 + (x.tags.length : Int)) (by omega)]
                case measure => simp [intOf]; omega
            · have hT : min (x.tags.length : Int) most = most := by omega
              have HT : Hid (tagsMin x most = most) := hid (show tagsMin x most = _ from hT)
              rw [HT.out] at hTb
              obtain ⟨tb0, tb1, _⟩ := hTb
              have c1 : ¬ n + 1 + most ≤ most := by omega
              have c1' : most < n + 1 + most := by omega
              clear ih
              go_wp2
              go_roundw
              case rel =>
                refine ⟨k + 1, n + 1 + most, r, by simp, by first | rfl | simp, by omega, by omega, by omega, ⟨by have := HR.out.1; simp only [Il.len] at this; omega, ?_, by have := HR.out.2.2; simp only [Il.count] at this; omega⟩, by rw [show off + (k + 1) * 8 = off + k * 8 + 8 by omega]; exact hir', by first | rfl | trivial⟩
                rw [← HR.out.2.1, go_cons x tl te r n most hnm]
                rw [HT.out, next1_neg (n := n + 1 + most) (by omega), next1_neg (n := n + 1 + most) (by omega)]
              case measure => simp [intOf]; omega
          · have R2 : Hid (n = t.go 0 most) := by show _ = _; rw [← HR.out.2.1, go_over _ _ _ (by omega)]
            have hnm' : most < n := by omega
            go_wp2
            go_ret
            exact ⟨ret_int R2.out, rfl⟩
end Go.Proofs.YtdljneclfgneoaaGreatDoor.Instr

namespace Go.Proofs.YtdljneclfgneoaaGreatDoor.Kind
open Go.RowKit

theorem refCheck_any (p r : Int) (w : World) : Calls Tryz.prog 246 #[.agg #[.int .i64 p, .int .i64 r]] w
    fun e w' => e = .returned (.int .i64 (codeType p r)) ∧ Below w.heap.size w w' := by
  by_cases h1 : p < 0
  · have HC : Hid (codeType p r = 2) := by show _ = _; unfold codeType okType; rw [if_neg]; simp; omega
    have d1 : decide (p < 0) = true := decide_eq_true h1
    go_enter Tryz.func246, Tryz.ntmps246
    go_wp2
    go_ret
    exact ⟨ret_int HC.out.symm, (Below.refl _ _).alloc (Nat.le_refl _) _⟩
  · by_cases h2 : 255 < p
    · have HC : Hid (codeType p r = 2) := by show _ = _; unfold codeType okType; rw [if_neg]; simp; omega
      go_enter Tryz.func246, Tryz.ntmps246
      go_wp2
      go_ret
      exact ⟨ret_int HC.out.symm, (Below.refl _ _).alloc (Nat.le_refl _) _⟩
    · by_cases h3 : r < 0
      · have HC : Hid (codeType p r = 2) := by show _ = _; unfold codeType okType; rw [if_neg]; simp; omega
        go_enter Tryz.func246, Tryz.ntmps246
        go_wp2
        go_ret
        exact ⟨ret_int HC.out.symm, (Below.refl _ _).alloc (Nat.le_refl _) _⟩
      · by_cases h4 : 1 < r
        · have HC : Hid (codeType p r = 2) := by show _ = _; unfold codeType okType; rw [if_neg]; simp; omega
          go_enter Tryz.func246, Tryz.ntmps246
          go_wp2
          go_ret
          exact ⟨ret_int HC.out.symm, (Below.refl _ _).alloc (Nat.le_refl _) _⟩
        · have HC : Hid (codeType p r = 0) := by show _ = _; unfold codeType okType; rw [if_pos]; simp; omega
          go_enter Tryz.func246, Tryz.ntmps246
          go_wp2
          go_ret
          exact ⟨ret_int HC.out.symm, (Below.refl _ _).alloc (Nat.le_refl _) _⟩

set_option maxHeartbeats 800000 in
theorem refCheckLimits_any (n x : Int) (c : Bool) (most : Int) (w : World) : Calls Tryz.prog 121 #[.agg #[.int .u32 n, .int .u32 x, .bool c], .int .u32 most] w
    fun e w' => e = .returned (.int .i64 (codeLim n x c most)) ∧ Below w.heap.size w w' := by
  by_cases h1 : most < n
  · have HC : Hid (codeLim n x c most = 2) := by show _ = _; unfold codeLim okLim; rw [if_neg]; simp; omega
    go_enter Tryz.func121, Tryz.ntmps121
    go_wp2
    go_ret
    exact ⟨ret_int HC.out.symm, (Below.refl _ _).alloc (Nat.le_refl _) _⟩
  · cases c
    · by_cases h2 : x = 0
      · subst h2
        have HC : Hid (codeLim n 0 false most = 0) := by show _ = _; unfold codeLim okLim; rw [if_pos]; simp; omega
        go_enter Tryz.func121, Tryz.ntmps121
        go_wp2
        go_ret
        exact ⟨ret_int HC.out.symm, (Below.refl _ _).alloc (Nat.le_refl _) _⟩
      · have HC : Hid (codeLim n x false most = 2) := by show _ = _; unfold codeLim okLim; rw [if_neg]; simp; omega
        have h3 : (x != 0) = true := by simp [h2]
        go_enter Tryz.func121, Tryz.ntmps121
        go_wp2
        go_ret
        exact ⟨ret_int HC.out.symm, (Below.refl _ _).alloc (Nat.le_refl _) _⟩
    · by_cases h2 : x < n
      · have HC : Hid (codeLim n x true most = 2) := by show _ = _; unfold codeLim okLim; rw [if_neg]; simp; omega
        go_enter Tryz.func121, Tryz.ntmps121
        go_wp2
        go_ret
        exact ⟨ret_int HC.out.symm, (Below.refl _ _).alloc (Nat.le_refl _) _⟩
      · by_cases h3 : most < x
        · have HC : Hid (codeLim n x true most = 2) := by show _ = _; unfold codeLim okLim; rw [if_neg]; simp; omega
          go_enter Tryz.func121, Tryz.ntmps121
          go_wp2
          go_ret
          exact ⟨ret_int HC.out.symm, (Below.refl _ _).alloc (Nat.le_refl _) _⟩
        · have HC : Hid (codeLim n x true most = 0) := by show _ = _; unfold codeLim okLim; rw [if_pos]; simp; omega
          go_enter Tryz.func121, Tryz.ntmps121
          go_wp2
          go_ret
          exact ⟨ret_int HC.out.symm, (Below.refl _ _).alloc (Nat.le_refl _) _⟩

end Go.Proofs.YtdljneclfgneoaaGreatDoor.Kind
