import Derived.Test.YtaibfefmehhldaaGreatDoorSa12
import Derived.Test.YtaibfefmehhldaaGreatDoorSa03
import Derived.Test.YtaibfefmehhldaaGreatDoorSa13
import Derived.Test.YtaibfefmehhldaaGreatDoorSa14
import Derived.Test.YtaibfefmehhldaaGreatDoorSa06
import Derived.Deep.QuietTactic
import Derived.BigQuiet
import Derived.Laws.EntriesVeiled
import Derived.KernelRfl
namespace Go.Proofs.YtaibfefmehhldaaGreatDoor.Instr
end Go.Proofs.YtaibfefmehhldaaGreatDoor.Instr
namespace Go.Proofs.YtaibfefmehhldaaGreatDoor.Instr
open Go.RowKit Go.Shelf

attribute [local go_sem] Oper.semAt_some

theorem lawful_any (x : Ix) (w : World) (hT : Nams w) : Calls Tryz.prog 113 #[.agg x.vals] w fun e w' => e = .returned (.bool (lawfulP x)) ∧ Below w.heap.size w w' := by
  by_cases h : nameL x.op = []
  · have : lawfulP x = false := by simp [lawfulP, h]
    rw [this]
    exact lawful_noname x w hT h
  · have : lawfulP x = (decide (overP x = 0) && (decide (x.res = 0) || decide (x.res = 1))) := by simp [lawfulP, h]
    rw [this]
    exact lawful_name x w hT h
def manyP (l : List (Int × Ix)) : Bool := decide (262144 < l.length) || (l.any fun p => decide (16384 < p.2.tags.length)) || decide (900 < deepest l)
theorem manyP_snoc (l : List (Int × Ix)) (p : Int × Ix) : manyP (l ++ [p]) = (manyP l || (decide (262144 < l.length + 1) || (decide (16384 < p.2.tags.length) || decide (900 < p.1)))) := by
  unfold manyP
  rw [deepest_snoc]
  simp only [List.length_append, List.length_cons, List.length_nil, List.any_append, List.any_cons, List.any_nil, Bool.or_false]
  rw [Bool.eq_iff_iff]
  simp only [Bool.or_eq_true, decide_eq_true_eq]
  constructor
  · rintro ((h | h | h) | h)
    · right; left; omega
    · left; left; right; exact h
    · right; right; left; exact h
    · rcases Int.le_total (deepest l) p.1 with h1 | h1
      · right; right; right; omega
      · left; right; omega
  · rintro (((h | h) | h) | h | h | h)
    · left; left; omega
    · left; right; left; exact h
    · right; omega
    · left; left; omega
    · left; right; right; exact h
    · right; omega
theorem manyP_walk (t : Il) : manyP (t.walk 1) = decide (262144 < t.count ∨ 900 < t.deep ∨ t.tags = true) := by
  unfold manyP
  rw [walk_length, walk_tags, deepest_walk, Bool.eq_iff_iff]
  simp only [Bool.or_eq_true, decide_eq_true_eq]
  constructor
  · rintro ((h | h) | h)
    · exact .inl h
    · exact .inr (.inr h)
    · exact .inr (.inl (by omega))
  · rintro (h | h | h)
    · exact .inl (.inl h)
    · exact .inr (by omega)
    · exact .inl (.inr h)

def allP (l : List (Int × Ix)) : Bool := l.all fun p => lawfulP p.2
theorem allP_snoc (l : List (Int × Ix)) (p : Int × Ix) : allP (l ++ [p]) = (allP l && lawfulP p.2) := by simp [allP, List.all_append]
theorem allP_walk (t : Il) (d : Int) : allP (t.walk d) = t.all := walk_all t d
theorem keepsFrom_below {B : Nat} {w w' : World} (h : Below w.heap.size w w') : KeepsFrom B w w' := ⟨h.size, fun k _ _ hk _ => (h.block k (Array.getElem?_eq_some_iff.1 hk).1).trans hk⟩
theorem At.own {x : Ix} {g : Nat} {A B : World} {row : Option Nat} (h : At x g A) (hg : A.grownBy B row) (hr : ∀ r, row = some r → ∃ o : Obj, A.heap[r]? = some o ∧ o.isCells = false) : At x g B :=
  ⟨cell_kept h.c0 hg hr, cell_kept h.c1 hg hr, cell_kept h.c2 hg hr, cell_kept h.c3 hg hr, cell_kept h.c4 hg hr, cell_kept h.c5 hg hr, cell_kept h.c6 hg hr, cell_kept h.c7 hg hr⟩

/-- What the loop of Check holds in its own cells: result, count, many. -/
structure Chk (g : Nat) (r : Int) (n : Int) (m : Bool) (W : World) : Prop where
  res : W.cell? ⟨g, 0, none⟩ = some (.int .i64 r)
  num : W.cell? ⟨g + 1, 0, none⟩ = some (.int .i64 n)
  many : W.cell? ⟨g + 2, 0, none⟩ = some (.bool m)
  fres : W.frozen? ⟨g, 0, none⟩ = false
  fnum : W.frozen? ⟨g + 1, 0, none⟩ = false
  fmany : W.frozen? ⟨g + 2, 0, none⟩ = false
theorem Chk.own {g : Nat} {r n : Int} {m : Bool} {A B : World} {row : Option Nat} (h : Chk g r n m A) (hg : A.grownBy B row) (hr : ∀ r, row = some r → ∃ o : Obj, A.heap[r]? = some o ∧ o.isCells = false) : Chk g r n m B :=
  ⟨cell_kept h.res hg hr, cell_kept h.num hg hr, cell_kept h.many hg hr, (frozen_kept h.res hg hr).trans h.fres, (frozen_kept h.num hg hr).trans h.fnum, (frozen_kept h.many hg hr).trans h.fmany⟩
theorem Chk.below {g : Nat} {r n : Int} {m : Bool} {A B : World} (h : Chk g r n m A) (hb : Below A.heap.size A B) : Chk g r n m B :=
  have f : ∀ p v, A.cell? p = some v → A.frozen? p = false → B.frozen? p = false := fun p _ hc hf => (hb.frozen (World.block_lt_of_cell? A p hc)).trans hf
  ⟨keep hb h.res, keep hb h.num, keep hb h.many, f _ _ h.res h.fres, f _ _ h.num h.fnum, f _ _ h.many h.fmany⟩

theorem Chk.next {g : Nat} {r n n' n2 : Int} {m m' m2 : Bool} {A : World} (h : Chk g r n m A) (hn : n' = n2) (hm : m' = m2) : Chk g r n' m' ((A.setCell ⟨g + 1, 0, none⟩ (.int .i64 n2)).setCell ⟨g + 1 + 1, 0, none⟩ (.bool m2)) := by
  obtain ⟨r1, r2, r3, f1, f2, f3⟩ := h
  subst hn hm
  constructor <;> simp [go_sem, *]

set_option maxRecDepth 100000 in
set_option maxHeartbeats 4000000 in
theorem Check_any (a : Option Addr) (len cap : Nat) (t : Il) (w : World) (hT : Nams w) (hl : ListAt w.heap.size w a len t) (hc : t.count ≤ 4611686018427387900) (hlen : len ≤ 140737488351232) :
    Calls Tryz.prog 96 #[.slice a len cap] w fun e w' => e = .returned (.int .i64 (checkP t)) ∧ Below w.heap.size w w' := by
  have HC := hid hc
  clear hc
  refine (callsIn_wide (n := 3)).1 ?_
  refine callsIn_of_wp_marks Tryz.func96 rfl trivial ?_ rfl
  simp only [Tryz.ntmps96, List.size_toArray, List.length_cons, List.length_nil, Nat.reduceAdd, Nat.reduceSub, Array.replicate_succ, Array.replicate_zero, List.push_toArray, List.append_toArray, List.nil_append, List.cons_append]
  gi_wp2_with (refine ⟨trivial, ?_⟩; refine (within_in _ _ _ _ _).mono ?_; rintro e w' ⟨rfl, rfl⟩)
  have hS0 : Chk w.heap.size 0 0 false (((w.alloc (.cells #[.int .i64 0] 83)).alloc (.cells #[.int .i64 0] 3)).alloc (.cells #[.bool false] 4)) := by constructor <;> go_simp
  have hb := cell_new (((w.alloc (.cells #[.int .i64 0] 83)).alloc (.cells #[.int .i64 0] 3)).alloc (.cells #[.bool false] 4)) (.slice a len cap) 39
  have hS1 := hS0.below ((Below.refl _ _).alloc (Nat.le_refl _) (.cells #[.slice a len cap] 39))
  have hB0 : Below w.heap.size w ((((w.alloc (.cells #[.int .i64 0] 83)).alloc (.cells #[.int .i64 0] 3)).alloc (.cells #[.bool false] 4)).alloc (.cells #[.slice a len cap] 39)) := thenA (thenA (thenA (thenA (Below.refl _ _) _) _) _) _
  have hsz : ((((w.alloc (.cells #[.int .i64 0] 83)).alloc (.cells #[.int .i64 0] 3)).alloc (.cells #[.bool false] 4)).alloc (.cells #[.slice a len cap] 39)).heap.size = w.heap.size + 4 := by simp
  have hsz3 : (((w.alloc (.cells #[.int .i64 0] 83)).alloc (.cells #[.int .i64 0] 3)).alloc (.cells #[.bool false] 4)).heap.size = w.heap.size + 1 + 1 + 1 := by simp
  rw [hsz3] at hb
  clear hS0 hsz3
  obtain ⟨W0, hW0⟩ : ∃ W0, (((w.alloc (.cells #[.int .i64 0] 83)).alloc (.cells #[.int .i64 0] 3)).alloc (.cells #[.bool false] 4)).alloc (.cells #[.slice a len cap] 39) = W0 := ⟨_, rfl⟩
  rw [hW0] at hb hS1 hB0 hsz ⊢
  clear hW0
  refine wpIn_rangeFunc_ownH rfl (by omega) (gf := 118) (lb := #[.pointer (some ⟨w.heap.size + 1 + 1 + 1, 0, none⟩)]) rfl trivial (enters_of Tryz.func118 (by kernel_rfl) rfl)
    (within_stops _ w.heap.size (w.heap.size + 4) (w.heap.size + 1 + 1 + 1) a len cap t W0 (by omega) (by omega) (by omega) hb.1 (hl.below hB0) (by have := HC.out; have := deep_le_count t; omega) hlen) (fun h k => h.trans k) (kept_b (by omega)) (Below.refl _ _) (fun _ => rfl)
    (fun pre W => (allP pre = true ∧ Chk w.heap.size 0 pre.length (manyP pre) W ∧ w.heap.size + 4 ≤ W.heap.size) ∧ Below w.heap.size w W)
    (fun c pre W => (c = .ret ∧ allP pre = false ∧ W.cell? ⟨w.heap.size, 0, none⟩ = some (.int .i64 2)) ∧ Below w.heap.size w W)
    (OwnFrom.and (Own.from (fun s A B row hs hg hr => ⟨hs.1, hs.2.1.own hg hr, Nat.le_trans hs.2.2 hg.size⟩) _) (ownFrom_below (Nat.le_refl _) (by omega)))
    (fun c => OwnFrom.and (Own.from (fun s A B row hs hg hr => ⟨hs.1, hs.2.1, cell_kept hs.2.2 hg hr⟩) _) (ownFrom_below (Nat.le_refl _) (by omega)))
    ⟨⟨rfl, by simpa [manyP, deepest] using hS1, by omega⟩, hB0⟩
    (fun x a' W => ∃ Bx, w.heap.size + 4 ≤ Bx ∧ At x.2 Bx W ∧ a' = { tmps := #[.slice a len cap, undef, .pointer (some ⟨w.heap.size, 0, none⟩), .pointer (some ⟨w.heap.size + 1, 0, none⟩), .pointer (some ⟨w.heap.size + 1 + 1, 0, none⟩), .int .i64 x.1, .pointer (some ⟨Bx, 0, none⟩), .slice a len cap, .func (.func 118) #[] #[.pointer (some ⟨w.heap.size + 1 + 1 + 1, 0, none⟩)], .int .i64 x.1, .agg x.2.vals, undef, undef, undef, undef, undef, undef, undef, undef, undef, undef, undef, undef, undef, undef, undef, undef, undef, undef, undef, undef, undef], defers := [] })
    (fun x a' _ X Y row hs hg hr => by obtain ⟨Bx, h1, h2, h3⟩ := hs; exact ⟨Bx, h1, h2.own hg (fun r e => (hr r e).2), h3⟩)
    ?assign ?body ?done ?stop
  case assign =>
    rintro l pre ⟨d, x⟩ W K ⟨⟨hla, hch, hz⟩, hB1⟩ hK
    simp only [encs, Ix.vals] at hK ⊢
    gi_wp2
    exact hK _ _ ((KeepsOthers.alloc _ _).from _) ((Kept.refl _ _ W).alloc _ (by omega)) ⟨⟨hla, hch.below ((Below.refl _ _).alloc (Nat.le_refl _) _), by simp; omega⟩, thenA hB1 _⟩ ⟨W.heap.size, hz, At.made x W, rfl⟩
  case body =>
    rintro l pre ⟨d, x⟩ a' W hl' ⟨r, hr⟩ ⟨⟨hla, hch, hz⟩, hB1⟩ ⟨Bx, hBx, bX, rfl⟩ hlt
    clear hsz hl'
    have CL := callsIn_wide (n := 3 - 1 - 1 - 1) |>.2 (lawful_any x W (hT.below hB1))
    obtain ⟨q, hq⟩ : ∃ q, lawfulP x = q := ⟨_, rfl⟩
    rw [hq] at CL
    obtain ⟨cnt, hcnt⟩ : ∃ cnt : Int, (pre.length : Int) = cnt := ⟨_, rfl⟩
    have hcb : 0 ≤ cnt ∧ cnt + 1 ≤ 4611686018427387900 := by have := HC.out; omega
    obtain ⟨m, hm⟩ : ∃ m, manyP pre = m := ⟨_, rfl⟩
    have hsn := manyP_snoc pre (d, x)
    have HSN := hid hsn
    have HQ := hid hq
    have HM := hid hm
    have HCN := hid hcnt
    have HLA := hid hla
    rw [hcnt, hm] at hch
    clear hsn hq hm hcnt hla hlt
    unfold Ix.vals at CL
    simp only [Ix.vals]
    obtain ⟨hc0, hc1⟩ := hcb
    have hch' := hch
    have bX' := bX
    obtain ⟨b0, b1, b2, b3, b4, b5, b6, b7⟩ := bX
    obtain ⟨r1, r2, r3, f1, f2, f3⟩ := hch
    gi_wp2_with fail
    refine ⟨trivial, ?_⟩
    refine (CallsIn.inRound l CL).mono ?_
    rintro e W3 ⟨rfl, hb3⟩
    clear CL b0 b1 b2 b3 b4 b5 b6 b7 r1 r2 r3 f1 f2 f3
    have hch3 := hch'.below hb3
    obtain ⟨r1, r2, r3, f1, f2, f3⟩ := hch3
    have bX3 := bX'.below hb3
    obtain ⟨b0, b1, b2, b3, b4, b5, b6, b7⟩ := bX3
    have hkf : KeepsFrom W0.heap.size W W3 := keepsFrom_below hb3
    have hkp : Kept w.heap.size (w.heap.size + 4) W W3 := Kept.of_below hb3 (by omega)
    cases q
    · gi_wp2
      exact ⟨hkf.trans ((KeepsOthers.setCell _ _ _).from _), ⟨rfl, by rw [allP_snoc, HQ.out, Bool.and_false], World.cell?_setCell_same' _ _ _ (by rw [r1]; rfl)⟩, (thenB hB1 hb3).setCell (p := ⟨w.heap.size, 0, none⟩) (Nat.le_refl _) _⟩
    · have hch3 : Chk w.heap.size 0 cnt m W3 := hch'.below hb3
      have hln : (((pre ++ [(d, x)]).length : Nat) : Int) = cnt + 1 := by rw [← HCN.out]; simp
      have HLN := hid hln
      clear hln
      gi_wp2
      all_goals
        refine ⟨hkf.trans (((KeepsOthers.setCell _ _ _).trans (KeepsOthers.setCell _ _ _)).from _), (hkp.setCell (p := ⟨w.heap.size + 1, 0, none⟩) (by simp) (by simp) _).setCell (p := ⟨w.heap.size + 1 + 1, 0, none⟩) (by simp; omega) (by simp) _,
          ⟨by rw [allP_snoc, HLA.out, HQ.out]; rfl, hch3.next HLN.out ?_, by have := hb3.size; simp [World.setCell]; omega⟩, ((thenB hB1 hb3).setCell (p := ⟨w.heap.size + 1, 0, none⟩) (by simp) _).setCell (p := ⟨w.heap.size + 1 + 1, 0, none⟩) (by simp; omega) _⟩
        rw [HSN.out, HM.out]
        have hcn := HCN.out
        cases m
        · simp only [Bool.false_or]
          rw [Bool.eq_iff_iff]
          simp only [Bool.or_eq_true, decide_eq_true_eq]
          constructor <;> intro hh <;> first | rfl | trivial | contradiction | omega | trace_state
        · simp_all
  case done =>
    rintro D ys W hD rfl ⟨⟨hla, hch, hz⟩, hB⟩ hK
    rw [allP_walk] at hla
    rw [manyP_walk] at hch
    obtain ⟨m, hm⟩ : ∃ m, decide (262144 < t.count ∨ 900 < t.deep ∨ t.tags = true) = m := ⟨_, rfl⟩
    rw [hm] at hch
    have HR : Hid (checkP t = if m then 141 else 0) := by show _ = _; unfold checkP; rw [if_pos hla, ← hm]; simp
    clear hm hla
    obtain ⟨r1, r2, r3, f1, f2, f3⟩ := hch
    cases m
    · gi_wp2
      have hK' := (KeepsOthers.setCell W ⟨w.heap.size, 0, none⟩ (.int .i64 0)).same D _ hK rfl
      refine ⟨by simp, .inl ⟨_, _, rfl, run_takeDeferred hK', ?_⟩⟩
      have hc5 := cell_kept (World.cell?_setCell_same' W ⟨w.heap.size, 0, none⟩ (.int .i64 0) (by rw [r1]; rfl)) (grownBy_putObj' _ D (.deferred none)) (fun r e => by cases e; exact ⟨_, hK', rfl⟩)
      refine ⟨.int .i64 0, ?_, by rw [HR.out]; rfl, (hB.setCell (p := ⟨w.heap.size, 0, none⟩) (Nat.le_refl _) _).trans (belowK_b (w := w) (Nat.le_refl _) _ D _ _ (by omega) hK' rfl rfl)⟩
      simp [results, Tryz.f96, go_sem, hc5]
    · gi_wp2
      have hK' := (KeepsOthers.setCell W ⟨w.heap.size, 0, none⟩ (.int .i64 141)).same D _ hK rfl
      refine ⟨by simp, .inl ⟨_, _, rfl, run_takeDeferred hK', ?_⟩⟩
      have hc5 := cell_kept (World.cell?_setCell_same' W ⟨w.heap.size, 0, none⟩ (.int .i64 141) (by rw [r1]; rfl)) (grownBy_putObj' _ D (.deferred none)) (fun r e => by cases e; exact ⟨_, hK', rfl⟩)
      refine ⟨.int .i64 141, ?_, by rw [HR.out]; rfl, (hB.setCell (p := ⟨w.heap.size, 0, none⟩) (Nat.le_refl _) _).trans (belowK_b (w := w) (Nat.le_refl _) _ D _ _ (by omega) hK' rfl rfl)⟩
      simp [results, Tryz.f96, go_sem, hc5]
  case stop =>
    rintro D c pre W hD hpre ⟨⟨rfl, hla, hc2⟩, hB⟩ hK
    have hall : t.all = false := by
      rw [← allP_walk t 1]
      obtain ⟨z, hz⟩ := hpre
      unfold allP at hla ⊢
      rw [← hz, List.all_append, hla]
      rfl
    have HR : Hid (checkP t = 2) := by show _ = _; unfold checkP; rw [hall]; rfl
    clear hall hla hpre
    gi_wp2
    refine ⟨by simp, .inl ⟨_, _, rfl, run_takeDeferred hK, ?_⟩⟩
    have hc5 := cell_kept hc2 (grownBy_putObj' _ D (.deferred none)) (fun r e => by cases e; exact ⟨_, hK, rfl⟩)
    refine ⟨.int .i64 2, ?_, by rw [HR.out], hB.trans (belowK_b (w := w) (Nat.le_refl _) W D _ _ (by omega) hK rfl rfl)⟩
    simp [results, Tryz.f96, go_sem, hc5]
end Go.Proofs.YtaibfefmehhldaaGreatDoor.Instr

namespace Go.Proofs.YtaibfefmehhldaaGreatDoor.Mod
open Go.RowKit Go.Shelf Go.Proofs.YtaibfefmehhldaaGreatDoor.Instr

attribute [local go_sem] Oper.semAt_some

/-- What is known of each list. -/
def Fair (w : World) (l : Lst) : Prop := ListAt w.heap.size w l.a l.t.len l.t ∧ l.t.len ≤ 140737488351232 ∧ l.t.count ≤ 1000000
theorem fair_all {m : Md} {w : World} (hm : ModAt w.heap.size w m) (hf : m.few) : ∀ l ∈ m.codes, Fair w l := fun l hl => ⟨hm.ls l hl, hf.fit.ls l hl, hf.cs l hl⟩
theorem Fair.at {w W : World} {l : Lst} (h : Fair w l) (hb : Below w.heap.size w W) : ListAt W.heap.size W l.a l.t.len l.t := h.1.on hb
def valsP {P : Lst → Prop} (pre : List {l : Lst // P l}) : List Lst := pre.map (·.1)
theorem valsP_with (m : Md) (P : Lst → Prop) (hP : ∀ l ∈ m.codes, P l) : valsP (m.codes.attachWith P hP) = m.codes := by simp [valsP]
theorem countL_append : ∀ l r : List Lst, countL (l ++ r) = countL l + countL r
  | [], r => by simp [countL]
  | d :: l, r => by simp only [List.cons_append, countL, countL_append l r]; omega
theorem countL_le {P : Lst → Prop} (h : ∀ l, P l → l.t.count ≤ 1000000) : ∀ pre : List {l : Lst // P l}, countL (valsP pre) ≤ 1000000 * pre.length
  | [] => by simp [valsP, countL]
  | x :: pre => by
    have := countL_le h pre
    have := h x.1 x.2
    simp only [valsP, List.map_cons, countL, List.length_cons] at *
    omega
theorem keepsOthers_below {w w' : World} (h : Below w.heap.size w w') : KeepsOthers w w' := ⟨h.size, fun k _ hk _ => (h.block k (Array.getElem?_eq_some_iff.1 hk).1).trans hk⟩
theorem codes_length (m : Md) (hf : m.few) : m.codes.length ≤ 4000000 := by
  have := hf.lens
  simp [Md.codes]; omega

set_option maxRecDepth 100000 in
set_option maxHeartbeats 2000000 in
theorem Size_any (m : Md) (w : World) (hm : ModAt w.heap.size w m) (hf : m.few) :
    Calls Tryz.prog 34 #[.agg m.v] w fun e w' => e = .returned (.int .i64 m.size) ∧ Below w.heap.size w w' := by
  have HM := hid hm
  have HF := hid hf
  have HCL := hid (codes_length m hf)
  have hbx := BoxAt.made (((w.alloc (.cells m.v 32)).alloc (.cells #[.int .i64 0] 3))) m.v 32
  have hs := cell_new (w.alloc (.cells m.v 32)) (.int .i64 0) 3
  have hB0 : Below w.heap.size w (((w.alloc (.cells m.v 32)).alloc (.cells #[.int .i64 0] 3)).alloc (.cells m.v 32)) := thenA (thenA (thenA (Below.refl _ _) _) _) _
  have hsz : (((w.alloc (.cells m.v 32)).alloc (.cells #[.int .i64 0] 3)).alloc (.cells m.v 32)).heap.size = w.heap.size + 3 := by simp
  have hc0 := cell_alloc' (.cells m.v 32) hs.1
  have hf0 := frozen_alloc' (.cells m.v 32) hs.1 hs.2
  simp only [World.size_alloc] at hc0 hf0 hbx
  clear hm hf hs
  unfold Md.v at hbx hB0 hsz hc0 hf0 ⊢
  refine (callsIn_wide (n := 3)).1 ?_
  refine callsIn_of_wp_marks Tryz.func34 rfl trivial ?_ rfl
  simp only [Tryz.ntmps34, List.size_toArray, List.length_cons, List.length_nil, Nat.reduceAdd, Nat.reduceSub, Array.replicate_succ, Array.replicate_zero, List.push_toArray, List.append_toArray, List.nil_append, List.cons_append]
  gi_wp2_with fail
  refine ⟨trivial, ?_⟩
  refine (codes_in _ m _).mono ?_
  unfold Md.v
  rintro e w' ⟨rfl, rfl⟩
  gi_wp2
  generalize (((w.alloc (.cells #[.slice m.ty'.a m.ty.length m.ty'.c, .slice m.im'.a m.im.length m.im'.c, .slice m.fu'.a m.fu.length m.fu'.c, .slice m.tb'.a m.tb.length m.tb'.c, .slice m.me'.a m.me.length m.me'.c, .slice m.gl'.a m.gl.length m.gl'.c, .slice m.ex'.a m.ex.length m.ex'.c, .bool m.st, .int .u32 m.sn, .slice m.el'.a m.el.length m.el'.c, .slice m.da'.a m.da.length m.da'.c] 32)).alloc (.cells #[.int .i64 0] 3)).alloc (.cells #[.slice m.ty'.a m.ty.length m.ty'.c, .slice m.im'.a m.im.length m.im'.c, .slice m.fu'.a m.fu.length m.fu'.c, .slice m.tb'.a m.tb.length m.tb'.c, .slice m.me'.a m.me.length m.me'.c, .slice m.gl'.a m.gl.length m.gl'.c, .slice m.ex'.a m.ex.length m.ex'.c, .bool m.st, .int .u32 m.sn, .slice m.el'.a m.el.length m.el'.c, .slice m.da'.a m.da.length m.da'.c] 32)) = W0 at hbx hB0 hsz hc0 hf0 ⊢
  have HB0 := hid hB0
  refine wpIn_rangeFunc_ownF rfl (by omega) (gf := 108) (lb := #[.pointer (some ⟨w.heap.size + 1 + 1, 0, none⟩)]) rfl trivial (enters_of Tryz.func108 (by kernel_rfl) rfl)
    (codes_stops _ w.heap.size (w.heap.size + 1 + 1) m W0 (by omega) (by omega) hbx (HM.out.below hB0) HF.out.fit (Fair w) (fair_all HM.out HF.out)) (fun h k => h.trans k) (keptB_b (by omega)) (Below.refl _ _) (fun _ => rfl)
    (fun pre W => (W.cell? ⟨w.heap.size + 1, 0, none⟩ = some (.int .i64 (countL (valsP pre))) ∧ W.frozen? ⟨w.heap.size + 1, 0, none⟩ = false) ∧ Below w.heap.size w W)
    (fun _ _ _ => False)
    (OwnFrom.and (Own.from (fun s A B row hs hg hr => ⟨cell_kept hs.1 hg hr, (frozen_kept hs.1 hg hr).trans hs.2⟩) _) (ownFrom_below (Nat.le_refl _) (by omega)))
    (fun _ _ _ _ _ hs _ _ => hs)
    ⟨⟨hc0, hf0⟩, hB0⟩
    (fun x => { tmps := #[.agg #[.slice m.ty'.a m.ty.length m.ty'.c, .slice m.im'.a m.im.length m.im'.c, .slice m.fu'.a m.fu.length m.fu'.c, .slice m.tb'.a m.tb.length m.tb'.c, .slice m.me'.a m.me.length m.me'.c, .slice m.gl'.a m.gl.length m.gl'.c, .slice m.ex'.a m.ex.length m.ex'.c, .bool m.st, .int .u32 m.sn, .slice m.el'.a m.el.length m.el'.c, .slice m.da'.a m.da.length m.da'.c], .pointer (some ⟨w.heap.size, 0, none⟩), .int .i64 0, .pointer (some ⟨w.heap.size + 1, 0, none⟩), x.1.val, .agg #[.slice m.ty'.a m.ty.length m.ty'.c, .slice m.im'.a m.im.length m.im'.c, .slice m.fu'.a m.fu.length m.fu'.c, .slice m.tb'.a m.tb.length m.tb'.c, .slice m.me'.a m.me.length m.me'.c, .slice m.gl'.a m.gl.length m.gl'.c, .slice m.ex'.a m.ex.length m.ex'.c, .bool m.st, .int .u32 m.sn, .slice m.el'.a m.el.length m.el'.c, .slice m.da'.a m.da.length m.da'.c], .func (.func 108) #[] #[.pointer (some ⟨w.heap.size + 1 + 1, 0, none⟩)], x.1.val, undef, undef, undef, undef, undef], defers := [] }) ?assign ?body ?done ?stop
  case assign =>
    intro l x W K hK
    gi_wp2
    simpa [encP] using hK
  case body =>
    rintro l pre x W ⟨⟨hc, hf⟩, hB⟩ hlt
    have hBd : Below W.heap.size W W.drew := (Below.refl _ _).drew
    have CL := callsIn_wide (n := 0) |>.2 (Count_any x.1.a x.1.t.len x.1.c x.1.t W.drew (x.2.at (hB.trans (hBd.mono hB.size))) (by have := x.2.2.2; omega) x.2.2.1)
    have hle := countL_le (fun l (h : Fair w l) => h.2.2) pre
    have hcn := x.2.2.2
    obtain ⟨N, hN⟩ : ∃ N : Nat, countL (valsP pre) = N := ⟨_, rfl⟩
    obtain ⟨C, hC⟩ : ∃ C : Nat, x.1.t.count = C := ⟨_, rfl⟩
    have HS := hid (show countL (valsP (pre ++ [x])) = N + C by rw [← hN, ← hC]; simp [valsP, countL_append, countL])
    rw [hN] at hc hle
    rw [hC] at CL hcn
    have hln := HCL.out
    have h1 : (0 : Int) ≤ N := by omega
    have h2 : (N : Int) ≤ 4611686018427387904 := by omega
    have h3 : (C : Int) ≤ 1000000 := by omega
    have HWR : Hid (IntKind.i64.wrap ((N : Int) + C) = ((N + C : Nat) : Int)) := by show _ = _; rw [IntKind.wrap_i64]; omega
    have CL2 := hid (CallsIn.mono (R' := fun e w' => e = .returned (.int .i64 C) ∧ w'.cell? ⟨w.heap.size + 1, 0, none⟩ = some (.int .i64 N) ∧ w'.frozen? ⟨w.heap.size + 1, 0, none⟩ = false ∧ Hid (Below W.heap.size W w')) CL (by
      rintro e w' ⟨rfl, hb⟩
      have hb' : Below W.heap.size W w' := hBd.trans (hb.mono hBd.size)
      exact ⟨rfl, Go.Proofs.YtaibfefmehhldaaGreatDoor.keep hb' hc, (hb'.frozen (p := ⟨w.heap.size + 1, 0, none⟩) (World.block_lt_of_cell? W _ hc)).trans hf, hb'⟩))
    have hmix : Tryz.prog.follows .mixedOrders = true := by kernel_rfl
    clear hN hC hle hcn hln hsz hbx hc0 hf0 HM HF hB0 CL
    have HB := hid hB
    unfold Lst.val
    clear hB hBd
    gi_wp2_with fail
    gi_region_with_o (refine ⟨trivial, ?_⟩; refine (CallsIn.inRound l CL2.out).mono ?_; rintro e W3 ⟨rfl, hc3, hf3, hb3⟩)
    all_goals
      gi_wp2
      exact ⟨(keepsOthers_below hb3.out).trans (KeepsOthers.setCell _ _ _), (KeptB.of_below hb3.out HB.out.size).setCell (p := ⟨w.heap.size + 1, 0, none⟩) (by simp) (by simp) _,
        ⟨by rw [HS.out, ← HWR.out]; exact World.cell?_setCell_same' _ _ _ (by rw [hc3]; rfl), by rw [World.frozen?_setCell]; exact hf3⟩, (HB.out.trans (hb3.out.mono HB.out.size)).setCell (p := ⟨w.heap.size + 1, 0, none⟩) (by simp) _⟩
  case done =>
    rintro D ys W hD rfl ⟨⟨hc, _⟩, hB⟩ hK
    rw [valsP_with] at hc
    have HE : Hid (m.size = countL m.codes) := rfl
    gi_wp2
    refine ⟨by simp, .inl ⟨_, _, rfl, run_takeDeferred hK, ?_⟩⟩
    exact ⟨_, results_tmp rfl _ _ _, by rw [HE.out]; rfl, hB.trans (belowK_b (w := w) (Nat.le_refl _) W D _ _ (by omega) hK rfl rfl)⟩
  case stop =>
    rintro D c pre W _ _ h _
    exact h.elim
theorem worstP_snoc (pre : List Lst) (x : Lst) (a : Int) : worstP (pre ++ [x]) a = if checkP x.t = 0 then worstP pre a else checkP x.t := by rw [worstP_append]; rfl
/-- What the loop of codeError holds in its own cells: result, worst. -/
structure Cod (g : Nat) (r : Int) (n : Int) (W : World) : Prop where
  res : W.cell? ⟨g + 1, 0, none⟩ = some (.int .i64 r)
  num : W.cell? ⟨g + 1 + 1, 0, none⟩ = some (.int .i64 n)
  fres : W.frozen? ⟨g + 1, 0, none⟩ = false
  fnum : W.frozen? ⟨g + 1 + 1, 0, none⟩ = false
theorem Cod.own {g : Nat} {r n : Int} {A B : World} {row : Option Nat} (h : Cod g r n A) (hg : A.grownBy B row) (hr : ∀ r, row = some r → ∃ o : Obj, A.heap[r]? = some o ∧ o.isCells = false) : Cod g r n B :=
  ⟨cell_kept h.res hg hr, cell_kept h.num hg hr, (frozen_kept h.res hg hr).trans h.fres, (frozen_kept h.num hg hr).trans h.fnum⟩
theorem Cod.below {g : Nat} {r n : Int} {A B : World} (h : Cod g r n A) (hb : Below A.heap.size A B) : Cod g r n B :=
  have f : ∀ p v, A.cell? p = some v → A.frozen? p = false → B.frozen? p = false := fun p _ hc hf => (hb.frozen (World.block_lt_of_cell? A p hc)).trans hf
  ⟨Go.Proofs.YtaibfefmehhldaaGreatDoor.keep hb h.res, Go.Proofs.YtaibfefmehhldaaGreatDoor.keep hb h.num, f _ _ h.res h.fres, f _ _ h.num h.fnum⟩
theorem Cod.set {g : Nat} {r n n' : Int} {A : World} (h : Cod g r n A) : Cod g r n' (A.setCell ⟨g + 1 + 1, 0, none⟩ (.int .i64 n')) := by
  obtain ⟨r1, r2, f1, f2⟩ := h
  constructor <;> simp [go_sem, *]
set_option maxRecDepth 100000 in
set_option maxHeartbeats 4000000 in
theorem codeError_any (m : Md) (w : World) (hT : Nams w) (hm : ModAt w.heap.size w m) (hf : m.few) :
    Calls Tryz.prog 64 #[.agg m.v] w fun e w' => e = .returned (.int .i64 (codeP m.codes)) ∧ Below w.heap.size w w' := by
  have HM := hid hm
  have HF := hid hf
  have hbx := BoxAt.made (((w.alloc (.cells m.v 32)).alloc (.cells #[.int .i64 0] 83)).alloc (.cells #[.int .i64 0] 83)) m.v 32
  have hS0 : Cod w.heap.size 0 0 (((w.alloc (.cells m.v 32)).alloc (.cells #[.int .i64 0] 83)).alloc (.cells #[.int .i64 0] 83)) := by constructor <;> go_simp
  have hS1 := hS0.below ((Below.refl _ _).alloc (Nat.le_refl _) (.cells m.v 32))
  have hB0 : Below w.heap.size w ((((w.alloc (.cells m.v 32)).alloc (.cells #[.int .i64 0] 83)).alloc (.cells #[.int .i64 0] 83)).alloc (.cells m.v 32)) := thenA (thenA (thenA (thenA (Below.refl _ _) _) _) _) _
  have hsz : ((((w.alloc (.cells m.v 32)).alloc (.cells #[.int .i64 0] 83)).alloc (.cells #[.int .i64 0] 83)).alloc (.cells m.v 32)).heap.size = w.heap.size + 4 := by simp
  simp only [World.size_alloc] at hbx
  clear hm hf hS0
  unfold Md.v at hbx hB0 hsz hS1 ⊢
  refine (callsIn_wide (n := 3)).1 ?_
  refine callsIn_of_wp_marks Tryz.func64 rfl trivial ?_ rfl
  simp only [Tryz.ntmps64, List.size_toArray, List.length_cons, List.length_nil, Nat.reduceAdd, Nat.reduceSub, Array.replicate_succ, Array.replicate_zero, List.push_toArray, List.append_toArray, List.nil_append, List.cons_append]
  gi_wp2_with fail
  refine ⟨trivial, ?_⟩
  refine (codes_in _ m _).mono ?_
  unfold Md.v
  rintro e w' ⟨rfl, rfl⟩
  gi_wp2
  generalize ((((w.alloc (.cells #[.slice m.ty'.a m.ty.length m.ty'.c, .slice m.im'.a m.im.length m.im'.c, .slice m.fu'.a m.fu.length m.fu'.c, .slice m.tb'.a m.tb.length m.tb'.c, .slice m.me'.a m.me.length m.me'.c, .slice m.gl'.a m.gl.length m.gl'.c, .slice m.ex'.a m.ex.length m.ex'.c, .bool m.st, .int .u32 m.sn, .slice m.el'.a m.el.length m.el'.c, .slice m.da'.a m.da.length m.da'.c] 32)).alloc (.cells #[.int .i64 0] 83)).alloc (.cells #[.int .i64 0] 83)).alloc (.cells #[.slice m.ty'.a m.ty.length m.ty'.c, .slice m.im'.a m.im.length m.im'.c, .slice m.fu'.a m.fu.length m.fu'.c, .slice m.tb'.a m.tb.length m.tb'.c, .slice m.me'.a m.me.length m.me'.c, .slice m.gl'.a m.gl.length m.gl'.c, .slice m.ex'.a m.ex.length m.ex'.c, .bool m.st, .int .u32 m.sn, .slice m.el'.a m.el.length m.el'.c, .slice m.da'.a m.da.length m.da'.c] 32)) = W0 at hbx hB0 hsz hS1 ⊢
  have HB0 := hid hB0
  refine wpIn_rangeFunc_ownF rfl (by omega) (gf := 108) (lb := #[.pointer (some ⟨w.heap.size + 1 + 1 + 1, 0, none⟩)]) rfl trivial (enters_of Tryz.func108 (by kernel_rfl) rfl)
    (codes_stops _ w.heap.size (w.heap.size + 1 + 1 + 1) m W0 (by omega) (by omega) hbx (HM.out.below hB0) HF.out.fit (Fair w) (fair_all HM.out HF.out)) (fun h k => h.trans k) (keptB_b (by omega)) (Below.refl _ _) (fun _ => rfl)
    (fun pre W => ((∀ y ∈ valsP pre, checkP y.t ≠ 141) ∧ Cod w.heap.size 0 (worstP (valsP pre) 0) W) ∧ Below w.heap.size w W)
    (fun c pre W => (c = .ret ∧ (∃ y ∈ valsP pre, checkP y.t = 141) ∧ W.cell? ⟨w.heap.size + 1, 0, none⟩ = some (.int .i64 141)) ∧ Below w.heap.size w W)
    (OwnFrom.and (Own.from (fun s A B row hs hg hr => ⟨hs.1, hs.2.own hg hr⟩) _) (ownFrom_below (Nat.le_refl _) (by omega)))
    (fun c => OwnFrom.and (Own.from (fun s A B row hs hg hr => ⟨hs.1, hs.2.1, cell_kept hs.2.2 hg hr⟩) _) (ownFrom_below (Nat.le_refl _) (by omega)))
    ⟨⟨by simp [valsP], hS1⟩, hB0⟩
    (fun x => { tmps := #[.agg #[.slice m.ty'.a m.ty.length m.ty'.c, .slice m.im'.a m.im.length m.im'.c, .slice m.fu'.a m.fu.length m.fu'.c, .slice m.tb'.a m.tb.length m.tb'.c, .slice m.me'.a m.me.length m.me'.c, .slice m.gl'.a m.gl.length m.gl'.c, .slice m.ex'.a m.ex.length m.ex'.c, .bool m.st, .int .u32 m.sn, .slice m.el'.a m.el.length m.el'.c, .slice m.da'.a m.da.length m.da'.c], .pointer (some ⟨w.heap.size, 0, none⟩), .pointer (some ⟨w.heap.size + 1, 0, none⟩), .pointer (some ⟨w.heap.size + 1 + 1, 0, none⟩), x.1.val, undef, .agg #[.slice m.ty'.a m.ty.length m.ty'.c, .slice m.im'.a m.im.length m.im'.c, .slice m.fu'.a m.fu.length m.fu'.c, .slice m.tb'.a m.tb.length m.tb'.c, .slice m.me'.a m.me.length m.me'.c, .slice m.gl'.a m.gl.length m.gl'.c, .slice m.ex'.a m.ex.length m.ex'.c, .bool m.st, .int .u32 m.sn, .slice m.el'.a m.el.length m.el'.c, .slice m.da'.a m.da.length m.da'.c], .func (.func 108) #[] #[.pointer (some ⟨w.heap.size + 1 + 1 + 1, 0, none⟩)], x.1.val, undef, undef, undef, undef, undef, undef, undef, undef, undef, undef], defers := [] }) ?assign ?body ?done ?stop
  case assign =>
    intro l x W K hK
    gi_wp2
    simpa [encP] using hK
  case body =>
    rintro l pre x W ⟨⟨hla, hch⟩, hB⟩ hlt
    have CL := callsIn_wide (n := 0) |>.2 (Check_any x.1.a x.1.t.len x.1.c x.1.t W (hT.below hB) (x.2.at hB) (by have := x.2.2.2; omega) x.2.2.1)
    obtain ⟨N, hN⟩ : ∃ N : Int, worstP (valsP pre) 0 = N := ⟨_, rfl⟩
    obtain ⟨C, hC⟩ : ∃ C : Int, checkP x.1.t = C := ⟨_, rfl⟩
    have HV := hid (show valsP (pre ++ [x]) = valsP pre ++ [x.1] by simp [valsP])
    have HS := hid (show worstP (valsP pre ++ [x.1]) 0 = if C = 0 then N else C by rw [worstP_snoc, hN, hC])
    have HCC := hid (show C = 0 ∨ C = 141 ∨ C = 2 from hC ▸ checkP_cases x.1.t)
    have HC := hid hC
    rw [hN] at hch
    rw [hC] at CL
    have CL2 := hid (CallsIn.mono (R' := fun e w' => e = .returned (.int .i64 C) ∧ Cod w.heap.size 0 N w' ∧ Hid (Below W.heap.size W w')) CL (by
      rintro e w' ⟨rfl, hb⟩
      exact ⟨rfl, hch.below hb, hb⟩))
    have HLA := hid hla
    have HB := hid hB
    clear hN hC hsz hbx hS1 HM HF hB0 CL hla hB hch
    unfold Lst.val
    rcases HCC.out with h | h | h
    · have HS0 := hid (show worstP (valsP (pre ++ [x])) 0 = N by rw [HV.out, HS.out, if_pos h])
      subst h
      gi_wp2_with (refine ⟨trivial, ?_⟩; refine (CallsIn.inRound l CL2.out).mono ?_; rintro e W3 ⟨rfl, hk3, hb3⟩)
      exact ⟨keepsOthers_below hb3.out, KeptB.of_below hb3.out HB.out.size, ⟨by rw [HV.out]; intro y hy; rcases List.mem_append.1 hy with hy | hy; exact HLA.out y hy; rw [List.mem_singleton.1 hy, HC.out]; omega, by rw [HS0.out]; exact hk3⟩, HB.out.trans (hb3.out.mono HB.out.size)⟩
    · have HY := hid (show ∃ y ∈ valsP (pre ++ [x]), checkP y.t = 141 from ⟨x.1, by rw [HV.out]; simp, by rw [HC.out, h]⟩)
      subst h
      gi_wp2_with (refine ⟨trivial, ?_⟩; refine (CallsIn.inRound l CL2.out).mono ?_; rintro e W3 ⟨rfl, ⟨k1, k2, k3, k4⟩, hb3⟩)
      exact ⟨(keepsOthers_below hb3.out).trans (KeepsOthers.setCell _ _ _), ⟨rfl, HY.out, World.cell?_setCell_same' _ _ _ (by rw [k1]; rfl)⟩, (HB.out.trans (hb3.out.mono HB.out.size)).setCell (p := ⟨w.heap.size + 1, 0, none⟩) (by simp) _⟩
    · have HS0 := hid (show worstP (valsP (pre ++ [x])) 0 = 2 by rw [HV.out, HS.out, if_neg (by omega), h])
      subst h
      gi_wp2_with (refine ⟨trivial, ?_⟩; refine (CallsIn.inRound l CL2.out).mono ?_; rintro e W3 ⟨rfl, hk3, hb3⟩; have hk3' := hid hk3; obtain ⟨k1, k2, k3, k4⟩ := hk3)
      exact ⟨(keepsOthers_below hb3.out).trans (KeepsOthers.setCell _ _ _), (KeptB.of_below hb3.out HB.out.size).setCell (p := ⟨w.heap.size + 1 + 1, 0, none⟩) (by simp; omega) (by simp) _,
        ⟨by rw [HV.out]; intro y hy; rcases List.mem_append.1 hy with hy | hy; exact HLA.out y hy; rw [List.mem_singleton.1 hy, HC.out]; omega, by rw [HS0.out]; exact hk3'.out.set⟩, (HB.out.trans (hb3.out.mono HB.out.size)).setCell (p := ⟨w.heap.size + 1 + 1, 0, none⟩) (by simp; omega) _⟩
  case done =>
    rintro D ys W hD rfl ⟨⟨hla, hch⟩, hB⟩ hK
    rw [valsP_with] at hla hch
    obtain ⟨h1, _⟩ := codeP_none m.codes 0 hla (.inl rfl)
    rw [if_neg (by omega)] at h1
    rw [h1] at hch
    obtain ⟨q, hq⟩ : ∃ q, codeP m.codes = q := ⟨_, rfl⟩
    rw [hq] at hch
    have HQ := hid hq
    clear hq h1 hla
    obtain ⟨r1, r2, f1, f2⟩ := hch
    gi_wp2
    have hK' := (KeepsOthers.setCell W ⟨w.heap.size + 1, 0, none⟩ (.int .i64 q)).same D _ hK rfl
    refine ⟨by simp, .inl ⟨_, _, rfl, run_takeDeferred hK', ?_⟩⟩
    have hc5 := cell_kept (World.cell?_setCell_same' W ⟨w.heap.size + 1, 0, none⟩ (.int .i64 q) (by rw [r1]; rfl)) (grownBy_putObj' _ D (.deferred none)) (fun r e => by cases e; exact ⟨_, hK', rfl⟩)
    refine ⟨.int .i64 q, ?_, by rw [HQ.out], (hB.setCell (p := ⟨w.heap.size + 1, 0, none⟩) (by simp) _).trans (belowK_b (w := w) (Nat.le_refl _) _ D _ _ (by omega) hK' rfl rfl)⟩
    simp [results, Tryz.f64, go_sem, hc5]
  case stop =>
    rintro D c pre W hD hpre ⟨⟨rfl, ⟨y, hy, hy1⟩, hc2⟩, hB⟩ hK
    have HR : Hid (codeP m.codes = 141) := by
      show _ = _
      refine codeP_many _ y ?_ hy1
      rw [← valsP_with m (Fair w) (fair_all HM.out HF.out)]
      unfold valsP at hy ⊢
      obtain ⟨z, hz⟩ := hpre
      rw [← hz, List.map_append]
      exact List.mem_append_left _ hy
    clear hy hy1 hpre
    gi_wp2
    refine ⟨by simp, .inl ⟨_, _, rfl, run_takeDeferred hK, ?_⟩⟩
    have hc5 := cell_kept hc2 (grownBy_putObj' _ D (.deferred none)) (fun r e => by cases e; exact ⟨_, hK, rfl⟩)
    refine ⟨.int .i64 141, ?_, by rw [HR.out], hB.trans (belowK_b (w := w) (Nat.le_refl _) W D _ _ (by omega) hK rfl rfl)⟩
    simp [results, Tryz.f64, go_sem, hc5]
end Go.Proofs.YtaibfefmehhldaaGreatDoor.Mod

namespace Go.Proofs.YtaibfefmehhldaaGreatDoor.Mod
open Go.RowKit Go.Shelf Go.Proofs.YtaibfefmehhldaaGreatDoor.Instr

theorem BoxAt.all {W : World} {g : Nat} {m : Md} (h : BoxAt W g m.v) : W.cell? ⟨g, 0, none⟩ = some (.slice m.ty'.a m.ty.length m.ty'.c) ∧ W.cell? ⟨g, 1, none⟩ = some (.slice m.im'.a m.im.length m.im'.c) ∧ W.cell? ⟨g, 2, none⟩ = some (.slice m.fu'.a m.fu.length m.fu'.c) ∧
    W.cell? ⟨g, 3, none⟩ = some (.slice m.tb'.a m.tb.length m.tb'.c) ∧ W.cell? ⟨g, 4, none⟩ = some (.slice m.me'.a m.me.length m.me'.c) ∧ W.cell? ⟨g, 5, none⟩ = some (.slice m.gl'.a m.gl.length m.gl'.c) ∧ W.cell? ⟨g, 6, none⟩ = some (.slice m.ex'.a m.ex.length m.ex'.c) ∧
    W.cell? ⟨g, 7, none⟩ = some (.bool m.st) ∧ W.cell? ⟨g, 8, none⟩ = some (.int .u32 m.sn) ∧ W.cell? ⟨g, 9, none⟩ = some (.slice m.el'.a m.el.length m.el'.c) ∧ W.cell? ⟨g, 10, none⟩ = some (.slice m.da'.a m.da.length m.da'.c) :=
  ⟨h 0 _ rfl, h 1 _ rfl, h 2 _ rfl, h 3 _ rfl, h 4 _ rfl, h 5 _ rfl, h 6 _ rfl, h 7 _ rfl, h 8 _ rfl, h 9 _ rfl, h 10 _ rfl⟩

set_option maxHeartbeats 1000000 in
theorem chk1 (m : Md) (g : Nat) (W : World) (hx : BoxAt W g m.v) (hm : ModAt W.heap.size W m) (hf : m.few) : Calls Tryz.prog 60 #[.pointer (some ⟨g, 0, none⟩)] W fun e w' => e = .returned (.int .i64 (errI (m.crowded) 141)) ∧ Below W.heap.size W w' := by
  have C := hid (crowded_any m W hm hf.fit)
  obtain ⟨q, hq⟩ : ∃ q, m.crowded = q := ⟨_, rfl⟩
  rw [hq] at C ⊢
  have E := hid (fun w => errIf_any q 141 w)
  unfold Md.v at C
  obtain ⟨c0,c1,c2,c3,c4,c5,c6,c7,c8,c9,c10⟩ := hx.all
  clear hx hm hf hq
  go_enter Tryz.func60, Tryz.ntmps60
  go_wp2_with fail
  refine C.out.mono ?_
  rintro e w1 ⟨rfl, hb1⟩
  clear C c0 c1 c2 c3 c4 c5 c6 c7 c8 c9 c10
  go_wp2_with fail
  refine (E.out _).mono ?_
  rintro e w2 ⟨rfl, rfl⟩
  go_wp2
  go_ret
  exact ⟨rfl, hb1⟩

set_option maxHeartbeats 1000000 in
theorem chk3 (m : Md) (g : Nat) (W : World) (hx : BoxAt W g m.v) (hm : ModAt W.heap.size W m) (hf : m.few) : Calls Tryz.prog 65 #[.pointer (some ⟨g, 0, none⟩)] W fun e w' => e = .returned (.int .i64 (errI (m.anyName longS) 3)) ∧ Below W.heap.size W w' := by
  have C := hid (anyName_any m 67 longS W hm hf.fit (asks_long W))
  obtain ⟨q, hq⟩ : ∃ q, m.anyName longS = q := ⟨_, rfl⟩
  rw [hq] at C ⊢
  have E := hid (fun w => errIf_any q 3 w)
  unfold Md.v at C
  obtain ⟨c0,c1,c2,c3,c4,c5,c6,c7,c8,c9,c10⟩ := hx.all
  clear hx hm hf hq
  go_enter Tryz.func65, Tryz.ntmps65
  go_wp2_with fail
  refine C.out.mono ?_
  rintro e w1 ⟨rfl, hb1⟩
  clear C c0 c1 c2 c3 c4 c5 c6 c7 c8 c9 c10
  go_wp2_with fail
  refine (E.out _).mono ?_
  rintro e w2 ⟨rfl, rfl⟩
  go_wp2
  go_ret
  exact ⟨rfl, hb1⟩

set_option maxHeartbeats 1000000 in
theorem chk4 (m : Md) (g : Nat) (W : World) (hx : BoxAt W g m.v) (hm : ModAt W.heap.size W m) (hf : m.few) : Calls Tryz.prog 68 #[.pointer (some ⟨g, 0, none⟩)] W fun e w' => e = .returned (.int .i64 (errI (m.heavy) 3)) ∧ Below W.heap.size W w' := by
  have C := hid (heavy_any m.da m.da'.a m.da.length m.da'.c W rfl hm.da hf.fit.da)
  unfold Md.heavy
  obtain ⟨q, hq⟩ : ∃ q, decide (1048576 < sumB m.da) = q := ⟨_, rfl⟩
  rw [hq] at C ⊢
  have E := hid (fun w => errIf_any q 3 w)
  obtain ⟨c0,c1,c2,c3,c4,c5,c6,c7,c8,c9,c10⟩ := hx.all
  clear hx hm hf hq
  go_enter Tryz.func68, Tryz.ntmps68
  go_wp2_with fail
  refine C.out.mono ?_
  rintro e w1 ⟨rfl, hb1⟩
  clear C c0 c1 c2 c3 c4 c5 c6 c7 c8 c9 c10
  go_wp2_with fail
  refine (E.out _).mono ?_
  rintro e w2 ⟨rfl, rfl⟩
  go_wp2
  go_ret
  exact ⟨rfl, hb1⟩

set_option maxHeartbeats 1000000 in
theorem chk6 (m : Md) (g : Nat) (W : World) (hx : BoxAt W g m.v) (hm : ModAt W.heap.size W m) (hf : m.few) (hU : Utf.Tabs W) : Calls Tryz.prog 71 #[.pointer (some ⟨g, 0, none⟩)] W fun e w' => e = .returned (.int .i64 (errI (m.anyName noText) 2)) ∧ Below W.heap.size W w' := by
  have C := hid (anyName_any m 72 noText W hm hf.fit (asks_text W hU))
  obtain ⟨q, hq⟩ : ∃ q, m.anyName noText = q := ⟨_, rfl⟩
  rw [hq] at C ⊢
  have E := hid (fun w => errIf_any q 2 w)
  unfold Md.v at C
  obtain ⟨c0,c1,c2,c3,c4,c5,c6,c7,c8,c9,c10⟩ := hx.all
  clear hx hm hf hq
  go_enter Tryz.func71, Tryz.ntmps71
  go_wp2_with fail
  refine C.out.mono ?_
  rintro e w1 ⟨rfl, hb1⟩
  clear C c0 c1 c2 c3 c4 c5 c6 c7 c8 c9 c10
  go_wp2_with fail
  refine (E.out _).mono ?_
  rintro e w2 ⟨rfl, rfl⟩
  go_wp2
  go_ret
  exact ⟨rfl, hb1⟩

set_option maxHeartbeats 1000000 in
theorem chk7 (m : Md) (g : Nat) (W : World) (hx : BoxAt W g m.v) (hm : ModAt W.heap.size W m) (hf : m.few) : Calls Tryz.prog 73 #[.pointer (some ⟨g, 0, none⟩)] W fun e w' => e = .returned (.int .i64 (errI (m.ty.any wrongT) 2)) ∧ Below W.heap.size W w' := by
  have C := hid (any_ty m.ty m.ty'.a m.ty.length m.ty'.c W rfl hm.ty hf.fit.ty 75 #[] (enters_of Tryz.func75 (by kernel_rfl) rfl) wrongT (fun W' x _ _ => by simp only [Array.append_empty]; exact wrongT_any x W'))
  obtain ⟨q, hq⟩ : ∃ q, m.ty.any wrongT = q := ⟨_, rfl⟩
  rw [hq] at C ⊢
  have E := hid (fun w => errIf_any q 2 w)
  obtain ⟨c0,c1,c2,c3,c4,c5,c6,c7,c8,c9,c10⟩ := hx.all
  clear hx hm hf hq
  go_enter Tryz.func73, Tryz.ntmps73
  go_wp2_with fail
  refine C.out.mono ?_
  rintro e w1 ⟨rfl, hb1⟩
  clear C c0 c1 c2 c3 c4 c5 c6 c7 c8 c9 c10
  go_wp2_with fail
  refine (E.out _).mono ?_
  rintro e w2 ⟨rfl, rfl⟩
  go_wp2
  go_ret
  exact ⟨rfl, hb1⟩

set_option maxHeartbeats 1000000 in
theorem chk8 (m : Md) (g : Nat) (W : World) (hx : BoxAt W g m.v) (hm : ModAt W.heap.size W m) (hf : m.few) : Calls Tryz.prog 76 #[.pointer (some ⟨g, 0, none⟩)] W fun e w' => e = .returned (.int .i64 (errI (m.im.any wrongI) 2)) ∧ Below W.heap.size W w' := by
  have C := hid (any_im m.im m.im'.a m.im.length m.im'.c W rfl hm.im hf.fit.im 78 #[] (enters_of Tryz.func78 (by kernel_rfl) rfl) wrongI (fun W' x _ _ => by simp only [Array.append_empty]; exact wrongI_any x W'))
  obtain ⟨q, hq⟩ : ∃ q, m.im.any wrongI = q := ⟨_, rfl⟩
  rw [hq] at C ⊢
  have E := hid (fun w => errIf_any q 2 w)
  obtain ⟨c0,c1,c2,c3,c4,c5,c6,c7,c8,c9,c10⟩ := hx.all
  clear hx hm hf hq
  go_enter Tryz.func76, Tryz.ntmps76
  go_wp2_with fail
  refine C.out.mono ?_
  rintro e w1 ⟨rfl, hb1⟩
  clear C c0 c1 c2 c3 c4 c5 c6 c7 c8 c9 c10
  go_wp2_with fail
  refine (E.out _).mono ?_
  rintro e w2 ⟨rfl, rfl⟩
  go_wp2
  go_ret
  exact ⟨rfl, hb1⟩

set_option maxHeartbeats 1000000 in
theorem chk9 (m : Md) (g : Nat) (W : World) (hx : BoxAt W g m.v) (hm : ModAt W.heap.size W m) (hf : m.few) : Calls Tryz.prog 79 #[.pointer (some ⟨g, 0, none⟩)] W fun e w' => e = .returned (.int .i64 (errI (m.fu.any wrongF) 2)) ∧ Below W.heap.size W w' := by
  have C := hid (any_fu m.fu m.fu'.a m.fu.length m.fu'.c W rfl hm.fu hf.fit.fu 81 #[] (enters_of Tryz.func81 (by kernel_rfl) rfl) wrongF (fun W' x _ _ => by simp only [Array.append_empty]; exact wrongF_any x W'))
  obtain ⟨q, hq⟩ : ∃ q, m.fu.any wrongF = q := ⟨_, rfl⟩
  rw [hq] at C ⊢
  have E := hid (fun w => errIf_any q 2 w)
  obtain ⟨c0,c1,c2,c3,c4,c5,c6,c7,c8,c9,c10⟩ := hx.all
  clear hx hm hf hq
  go_enter Tryz.func79, Tryz.ntmps79
  go_wp2_with fail
  refine C.out.mono ?_
  rintro e w1 ⟨rfl, hb1⟩
  clear C c0 c1 c2 c3 c4 c5 c6 c7 c8 c9 c10
  go_wp2_with fail
  refine (E.out _).mono ?_
  rintro e w2 ⟨rfl, rfl⟩
  go_wp2
  go_ret
  exact ⟨rfl, hb1⟩

set_option maxHeartbeats 1000000 in
theorem chk10 (m : Md) (g : Nat) (W : World) (hx : BoxAt W g m.v) (hm : ModAt W.heap.size W m) (hf : m.few) : Calls Tryz.prog 82 #[.pointer (some ⟨g, 0, none⟩)] W fun e w' => e = .returned (.int .i64 (errI (m.ex.any wrongE) 2)) ∧ Below W.heap.size W w' := by
  have C := hid (any_ex m.ex m.ex'.a m.ex.length m.ex'.c W rfl hm.ex hf.fit.ex 84 #[] (enters_of Tryz.func84 (by kernel_rfl) rfl) wrongE (fun W' x _ _ => by simp only [Array.append_empty]; exact wrongE_any x W'))
  obtain ⟨q, hq⟩ : ∃ q, m.ex.any wrongE = q := ⟨_, rfl⟩
  rw [hq] at C ⊢
  have E := hid (fun w => errIf_any q 2 w)
  obtain ⟨c0,c1,c2,c3,c4,c5,c6,c7,c8,c9,c10⟩ := hx.all
  clear hx hm hf hq
  go_enter Tryz.func82, Tryz.ntmps82
  go_wp2_with fail
  refine C.out.mono ?_
  rintro e w1 ⟨rfl, hb1⟩
  clear C c0 c1 c2 c3 c4 c5 c6 c7 c8 c9 c10
  go_wp2_with fail
  refine (E.out _).mono ?_
  rintro e w2 ⟨rfl, rfl⟩
  go_wp2
  go_ret
  exact ⟨rfl, hb1⟩

set_option maxHeartbeats 1000000 in
theorem chk11 (m : Md) (g : Nat) (W : World) (hx : BoxAt W g m.v) (hm : ModAt W.heap.size W m) (hf : m.few) : Calls Tryz.prog 85 #[.pointer (some ⟨g, 0, none⟩)] W fun e w' => e = .returned (.int .i64 (errI (m.tb.any (beyond 1048576)) 2)) ∧ Below W.heap.size W w' := by
  have C := hid (anyBeyond_any m.tb m.tb'.a m.tb.length m.tb'.c 1048576 W rfl hm.tb hf.fit.tb)
  obtain ⟨q, hq⟩ : ∃ q, m.tb.any (beyond 1048576) = q := ⟨_, rfl⟩
  rw [hq] at C ⊢
  have E := hid (fun w => errIf_any q 2 w)
  obtain ⟨c0,c1,c2,c3,c4,c5,c6,c7,c8,c9,c10⟩ := hx.all
  clear hx hm hf hq
  go_enter Tryz.func85, Tryz.ntmps85
  go_wp2_with fail
  refine C.out.mono ?_
  rintro e w1 ⟨rfl, hb1⟩
  clear C c0 c1 c2 c3 c4 c5 c6 c7 c8 c9 c10
  go_wp2_with fail
  refine (E.out _).mono ?_
  rintro e w2 ⟨rfl, rfl⟩
  go_wp2
  go_ret
  exact ⟨rfl, hb1⟩

set_option maxHeartbeats 1000000 in
theorem chk12 (m : Md) (g : Nat) (W : World) (hx : BoxAt W g m.v) (hm : ModAt W.heap.size W m) (hf : m.few) : Calls Tryz.prog 87 #[.pointer (some ⟨g, 0, none⟩)] W fun e w' => e = .returned (.int .i64 (errI (m.me.any (beyond 65536)) 2)) ∧ Below W.heap.size W w' := by
  have C := hid (anyBeyond_any m.me m.me'.a m.me.length m.me'.c 65536 W rfl hm.me hf.fit.me)
  obtain ⟨q, hq⟩ : ∃ q, m.me.any (beyond 65536) = q := ⟨_, rfl⟩
  rw [hq] at C ⊢
  have E := hid (fun w => errIf_any q 2 w)
  obtain ⟨c0,c1,c2,c3,c4,c5,c6,c7,c8,c9,c10⟩ := hx.all
  clear hx hm hf hq
  go_enter Tryz.func87, Tryz.ntmps87
  go_wp2_with fail
  refine C.out.mono ?_
  rintro e w1 ⟨rfl, hb1⟩
  clear C c0 c1 c2 c3 c4 c5 c6 c7 c8 c9 c10
  go_wp2_with fail
  refine (E.out _).mono ?_
  rintro e w2 ⟨rfl, rfl⟩
  go_wp2
  go_ret
  exact ⟨rfl, hb1⟩

set_option maxHeartbeats 1000000 in
theorem chk2 (m : Md) (g : Nat) (q0 : Int) (W : World) (hx : BoxAt W g m.v) (hm : ModAt W.heap.size W m) (hf : m.few) (hT : Nams W) (hc : W.cell? ⟨g + 1, 0, none⟩ = some (.int .i64 q0)) (hfr : W.frozen? ⟨g + 1, 0, none⟩ = false) :
    Calls Tryz.prog 63 #[.pointer (some ⟨g, 0, none⟩), .pointer (some ⟨g + 1, 0, none⟩)] W fun e w' => e = .returned (.int .i64 (errI (codeP m.codes == 141) 141)) ∧ ∃ w1, Below W.heap.size W w1 ∧ w' = w1.setCell ⟨g + 1, 0, none⟩ (.int .i64 (codeP m.codes)) := by
  have C := hid (codeError_any m W hT hm hf)
  obtain ⟨q, hq⟩ : ∃ q, codeP m.codes = q := ⟨_, rfl⟩
  rw [hq] at C ⊢
  have E := hid (fun w => errIf_any (q == 141) 141 w)
  have HK := hid (show ∀ w1, Below W.heap.size W w1 → w1.cell? ⟨g + 1, 0, none⟩ = some (.int .i64 q0) ∧ w1.frozen? ⟨g + 1, 0, none⟩ = false from fun w1 hb => ⟨Go.Proofs.YtaibfefmehhldaaGreatDoor.keep hb hc, (hb.frozen (p := ⟨g + 1, 0, none⟩) (World.block_lt_of_cell? W _ hc)).trans hfr⟩)
  unfold Md.v at C
  obtain ⟨c0,c1,c2,c3,c4,c5,c6,c7,c8,c9,c10⟩ := hx.all
  clear hx hm hf hq hT hc hfr
  go_enter Tryz.func63, Tryz.ntmps63
  go_wp2_with fail
  refine C.out.mono ?_
  rintro e w1 ⟨rfl, hb1⟩
  obtain ⟨k1, k2⟩ := HK.out w1 hb1
  clear C c0 c1 c2 c3 c4 c5 c6 c7 c8 c9 c10
  go_wp2_with fail
  refine (E.out _).mono ?_
  rintro e w2 ⟨rfl, rfl⟩
  go_wp2
  go_ret
  exact ⟨rfl, w1, hb1, rfl⟩
theorem chk5 (g : Nat) (q : Int) (W : World) (hc : W.cell? ⟨g + 1, 0, none⟩ = some (.int .i64 q)) : Calls Tryz.prog 70 #[.pointer (some ⟨g + 1, 0, none⟩)] W fun e w' => e = .returned (.int .i64 q) ∧ Below W.heap.size W w' := by
  go_enter Tryz.func70, Tryz.ntmps70
  go_wp2
  go_ret
  exact ⟨rfl, Below.refl _ _⟩
set_option maxHeartbeats 1000000 in
theorem chk13 (m : Md) (g : Nat) (W : World) (hx : BoxAt W g m.v) : Calls Tryz.prog 88 #[.pointer (some ⟨g, 0, none⟩)] W fun e w' => e = .returned (.int .i64 (errI (!m.st && decide (m.sn ≠ 0)) 2)) ∧ Below W.heap.size W w' := by
  obtain ⟨c0,c1,c2,c3,c4,c5,c6,c7,c8,c9,c10⟩ := hx.all
  obtain ⟨sn, hsn⟩ : ∃ sn, m.sn = sn := ⟨_, rfl⟩
  obtain ⟨st, hst⟩ : ∃ st, m.st = st := ⟨_, rfl⟩
  rw [hsn] at c8 ⊢
  rw [hst] at c7 ⊢
  clear hx hsn hst
  have E := hid (fun b w => errIf_any b 2 w)
  cases st
  · by_cases h : sn = 0
    · subst h
      go_enter Tryz.func88, Tryz.ntmps88
      go_wp2_with fail
      refine (E.out _ _).mono ?_
      rintro e w2 ⟨rfl, rfl⟩
      go_wp2
      go_ret
      exact ⟨by simp, Below.refl _ _⟩
    · have hn1 : (sn == 0) = false := by simpa using h
      have hn2 : (sn != 0) = true := by simpa using h
      have HH := hid h
      clear h
      go_enter Tryz.func88, Tryz.ntmps88
      go_wp2_with fail
      refine (E.out _ _).mono ?_
      rintro e w2 ⟨rfl, rfl⟩
      go_wp2
      go_ret
      exact ⟨by simp [HH.out], Below.refl _ _⟩
  · go_enter Tryz.func88, Tryz.ntmps88
    go_wp2_with fail
    refine (E.out _ _).mono ?_
    rintro e w2 ⟨rfl, rfl⟩
    go_wp2
    go_ret
    exact ⟨by simp, Below.refl _ _⟩
end Go.Proofs.YtaibfefmehhldaaGreatDoor.Mod

namespace Go.Proofs.YtaibfefmehhldaaGreatDoor.Mod
open Go.RowKit Go.Shelf Go.Proofs.YtaibfefmehhldaaGreatDoor.Instr

theorem drewM {B : Nat} {w w' : World} (h : Below B w w') (n : Nat) : Below B w (w'.drewN n) := ⟨h.os, h.tape, h.output, h.size, h.block⟩
theorem u64_in (x : Int) (h0 : 0 ≤ x) (h1 : x ≤ 1000000000000000) : IntKind.u64.wrap x = x := by rw [IntKind.wrap_u64]; omega
set_option maxHeartbeats 1000000 in
theorem typeN_any (m : Md) (n : Nat) (w : World) (hm : ModAt w.heap.size w m) (hf : m.fits) (hn : n < 4294967296) :
    Calls Tryz.prog 57 #[.agg m.v, .int .u32 (n : Int)] w fun e w' => e = .returned (.int .i64 (m.typeN n)) ∧ Below w.heap.size w w' := by
  have hb0 := (Below.refl w.heap.size w).alloc (Nat.le_refl _) (.cells m.v 32)
  have HI := hid (hm.on hb0).im
  have HF := hid (hm.on hb0).fu
  have HB := hid hb0
  have HX := hid (BoxAt.made w m.v 32)
  have HE : Hid (m.typeN n = if n < m.im.length then ((m.im.map (·.ty)).getD n 0) else if n < m.im.length + m.fu.length then ((m.fu.map (·.ty)).getD (n - m.im.length) 0) else -1) := rfl
  have li := hf.im
  have lf := hf.fu
  have HG := hid (show ∀ k (hk : k < m.im.length), (m.im.map (·.ty)).getD k 0 = m.im[k].ty from fun k hk => by simp [hk])
  have HH := hid (show ∀ k (hk : k < m.fu.length), (m.fu.map (·.ty)).getD k 0 = m.fu[k].ty from fun k hk => by simp [hk])
  have HV := hid (BoxAt.all (m := m) (BoxAt.made w m.v 32))
  unfold Md.v at HI HF HB HV ⊢
  clear hm hf hb0 HX
  have uz := u64_in (n : Int) (by omega) (by omega)
  have ui := u64_in (m.im.length : Int) (by omega) (by omega)
  have uf := u64_in (m.fu.length : Int) (by omega) (by omega)
  by_cases h1 : n < m.im.length
  · have HR := hid (show m.typeN n = m.im[n].ty by rw [HE.out, if_pos h1, HG.out n h1])
    obtain ⟨b, off, ha, hb, hc⟩ := Rows.get HI.out h1
    obtain ⟨x, hx⟩ : ∃ x, m.im[n] = x := ⟨_, rfl⟩
    rw [hx] at hc HR
    generalize m.im'.a = ai at ha HB HI HF HV hc ⊢
    subst ha
    have c2 := hc 2 (by omega) (.int .i64 x.ty) rfl
    obtain ⟨d0, d1, d2, _⟩ := HV.out
    have h1i : (n : Int) < (m.im.length : Int) := by omega
    clear hx hc HE HG HH HI HF HV hb
    go_enter Tryz.func57, Tryz.ntmps57
    go_wp2
    go_quiet (fail)
    go_wp2
    go_ret
    exact ⟨ret_int HR.out.symm, drewM HB.out _⟩
  · have h1i : ¬ (n : Int) < (m.im.length : Int) := by omega
    have us := u64_in ((m.im.length : Int) + (m.fu.length : Int)) (by omega) (by omega)
    by_cases h2 : n < m.im.length + m.fu.length
    · obtain ⟨k, rfl⟩ : ∃ k, n = m.im.length + k := ⟨n - m.im.length, by omega⟩
      have hk : k < m.fu.length := by omega
      have HR := hid (show m.typeN (m.im.length + k) = m.fu[k].ty by rw [HE.out, if_neg h1, if_pos h2, Nat.add_sub_cancel_left, HH.out k hk])
      obtain ⟨b, off, ha, hb, hc⟩ := Rows.get HF.out hk
      obtain ⟨x, hx⟩ : ∃ x, m.fu[k] = x := ⟨_, rfl⟩
      rw [hx] at hc HR
      generalize m.fu'.a = ai at ha HB HI HF HV hc ⊢
      subst ha
      have c0 : (w.alloc (.cells #[.slice m.ty'.a m.ty.length m.ty'.c, .slice m.im'.a m.im.length m.im'.c, .slice (some ⟨b, off, none⟩) m.fu.length m.fu'.c, .slice m.tb'.a m.tb.length m.tb'.c, .slice m.me'.a m.me.length m.me'.c, .slice m.gl'.a m.gl.length m.gl'.c, .slice m.ex'.a m.ex.length m.ex'.c, .bool m.st, .int .u32 m.sn, .slice m.el'.a m.el.length m.el'.c, .slice m.da'.a m.da.length m.da'.c] 32)).cell? ⟨b, off + k * 3, none⟩ = some (.int .i64 x.ty) := hc 0 (by omega) (.int .i64 x.ty) rfl
      obtain ⟨d0, d1, d2, _⟩ := HV.out
      clear hx hc HE HG HH HI HF HV hb h1 h2
      generalize m.im.length = A at *
      generalize m.fu.length = F at *
      have e1 : ((A + k : Nat) : Int) = (A : Int) + (k : Int) := by omega
      rw [e1] at uz h1i ⊢
      have ud : IntKind.u64.wrap ((A : Int) + (k : Int) - (A : Int)) = (k : Int) := by rw [u64_in _ (by omega) (by omega)]; omega
      have ud2 : (A : Int) + (k : Int) - (A : Int) = (k : Int) := by omega
      have h2i : (A : Int) + (k : Int) < (A : Int) + (F : Int) := by omega
      have hki : (k : Int) < (F : Int) := by omega
      clear e1
      go_enter Tryz.func57, Tryz.ntmps57
      go_wp2
      go_quiet (fail)
      go_wp2
      go_ret
      exact ⟨ret_int HR.out.symm, drewM HB.out _⟩
    · have HR := hid (show m.typeN n = -1 by rw [HE.out, if_neg h1, if_neg h2])
      have h2i : ¬ (n : Int) < (m.im.length : Int) + (m.fu.length : Int) := by omega
      obtain ⟨d0, d1, d2, _⟩ := HV.out
      clear HE HG HH HI HF HV
      go_enter Tryz.func57, Tryz.ntmps57
      go_wp2
      go_quiet (fail)
      go_wp2
      go_ret
      exact ⟨ret_int HR.out.symm, drewM HB.out _⟩

theorem typeOf_no {m : Md} {n : Nat} (h : m.typeN n < 0 ∨ (m.ty.length : Int) ≤ m.typeN n) : m.typeOf n = ((0, 0), false) := by unfold Md.typeOf; rw [if_pos h]
theorem typeOf_yes {m : Md} {n k : Nat} (h : m.typeN n = k) (hk : k < m.ty.length) : m.typeOf n = (m.ty[k], true) := by
  unfold Md.typeOf
  rw [if_neg (by rw [h]; omega), h]
  simp [hk]
theorem ret_ty {a b a' b' : Int} {c c' : Bool} (h : ((a, b), c) = ((a', b'), c')) : Ending.returned (.tuple #[.agg #[.int .i64 a, .int .i64 b], .bool c]) = .returned (.tuple #[.agg #[.int .i64 a', .int .i64 b'], .bool c']) := by
  simp only [Prod.mk.injEq] at h
  obtain ⟨⟨rfl, rfl⟩, rfl⟩ := h
  rfl
set_option maxHeartbeats 1000000 in
theorem TypeOf_any (m : Md) (n : Nat) (w : World) (hm : ModAt w.heap.size w m) (hf : m.fits) (hn : n < 4294967296) :
    Calls Tryz.prog 30 #[.agg m.v, .int .u32 (n : Int)] w fun e w' => e = .returned (.tuple #[.agg #[.int .i64 (m.typeOf n).1.1, .int .i64 (m.typeOf n).1.2], .bool (m.typeOf n).2]) ∧ Below w.heap.size w w' := by
  have hb1 : Below w.heap.size w ((w.alloc (.cells m.v 32)).alloc (.cells #[.int .i64 0, .int .i64 0] 59)) := thenA (thenA (Below.refl _ _) _) _
  have HB := hid hb1
  have hm1 := hm.on hb1
  have C := hid (typeN_any m n _ hm1 hf hn)
  have hx := (BoxAt.made w m.v 32).keep ((Below.refl _ _).alloc (Nat.le_refl _) (.cells #[.int .i64 0, .int .i64 0] 59))
  have hr0 : ((w.alloc (.cells m.v 32)).alloc (.cells #[.int .i64 0, .int .i64 0] 59)).cell? ⟨w.heap.size + 1, 0, none⟩ = some (.int .i64 0) := by go_simp
  have hr1 : ((w.alloc (.cells m.v 32)).alloc (.cells #[.int .i64 0, .int .i64 0] 59)).cell? ⟨w.heap.size + 1, 1, none⟩ = some (.int .i64 0) := by go_simp
  have hf0 : ((w.alloc (.cells m.v 32)).alloc (.cells #[.int .i64 0, .int .i64 0] 59)).frozen? ⟨w.heap.size + 1, 0, none⟩ = false := by go_simp
  have hf1 : ((w.alloc (.cells m.v 32)).alloc (.cells #[.int .i64 0, .int .i64 0] 59)).frozen? ⟨w.heap.size + 1, 1, none⟩ = false := by go_simp
  have HK := hid (show ∀ w1, Below ((w.alloc (.cells m.v 32)).alloc (.cells #[.int .i64 0, .int .i64 0] 59)).heap.size ((w.alloc (.cells m.v 32)).alloc (.cells #[.int .i64 0, .int .i64 0] 59)) w1 →
      (w1.cell? ⟨w.heap.size, 0, none⟩ = some (.slice m.ty'.a m.ty.length m.ty'.c) ∧ w1.cell? ⟨w.heap.size + 1, 0, none⟩ = some (.int .i64 0) ∧ w1.cell? ⟨w.heap.size + 1, 1, none⟩ = some (.int .i64 0) ∧ w1.frozen? ⟨w.heap.size + 1, 0, none⟩ = false ∧ w1.frozen? ⟨w.heap.size + 1, 1, none⟩ = false) ∧ Rows w1.heap.size w1 m.ty'.a 2 (m.ty.map tyV) from fun w1 hb =>
    ⟨⟨(hx.keep hb).all.1, Go.Proofs.YtaibfefmehhldaaGreatDoor.keep hb hr0, Go.Proofs.YtaibfefmehhldaaGreatDoor.keep hb hr1, (hb.frozen (p := ⟨w.heap.size + 1, 0, none⟩) (World.block_lt_of_cell? _ _ hr0)).trans hf0, (hb.frozen (p := ⟨w.heap.size + 1, 1, none⟩) (World.block_lt_of_cell? _ _ hr1)).trans hf1⟩, (hm1.on hb).ty⟩)
  have hl := hf.ty
  have HN := hid (fun h => typeOf_no (m := m) (n := n) h)
  have HY := hid (fun k h hk => typeOf_yes (m := m) (n := n) (k := k) h hk)
  obtain ⟨t, ht⟩ : ∃ t, m.typeN n = t := ⟨_, rfl⟩
  rw [ht] at C HN
  have HT := hid ht
  unfold Md.v at C HB HK ⊢
  clear hm hf hb1 hm1 hx hr0 hr1 hf0 hf1 ht
  by_cases h1 : t < 0
  · have HR := hid (HN.out (.inl h1))
    clear HN HY
    go_enter Tryz.func30, Tryz.ntmps30
    go_wp2_with fail
    refine C.out.mono ?_
    rintro e w1 ⟨rfl, hb1⟩
    obtain ⟨⟨k0, k1, k2, k3, k4⟩, _⟩ := HK.out w1 hb1
    have HB1 := hid (HB.out.trans (hb1.mono HB.out.size))
    clear C HK hb1 HB
    go_wp2
    refine bodyPost_ret (v := .tuple #[.agg #[.int .i64 0, .int .i64 0], .bool false]) (by simp [results, Tryz.results30, go_sem, k1, k2]) rfl ⟨ret_ty (by rw [HR.out]), (HB1.out.setCell (p := ⟨w.heap.size + 1, 0, none⟩) (by simp) _).setCell (p := ⟨w.heap.size + 1, 1, none⟩) (by simp) _⟩
  · by_cases h2 : (m.ty.length : Int) ≤ t
    · have HR := hid (HN.out (.inr h2))
      clear HN HY
      go_enter Tryz.func30, Tryz.ntmps30
      go_wp2_with fail
      refine C.out.mono ?_
      rintro e w1 ⟨rfl, hb1⟩
      obtain ⟨⟨k0, k1, k2, k3, k4⟩, _⟩ := HK.out w1 hb1
      have HB1 := hid (HB.out.trans (hb1.mono HB.out.size))
      clear C HK hb1 HB
      go_wp2
      refine bodyPost_ret (v := .tuple #[.agg #[.int .i64 0, .int .i64 0], .bool false]) (by simp [results, Tryz.results30, go_sem, k1, k2]) rfl ⟨ret_ty (by rw [HR.out]), (HB1.out.setCell (p := ⟨w.heap.size + 1, 0, none⟩) (by simp) _).setCell (p := ⟨w.heap.size + 1, 1, none⟩) (by simp) _⟩
    · obtain ⟨k, rfl⟩ : ∃ k : Nat, t = k := ⟨t.toNat, by omega⟩
      have hk : k < m.ty.length := by omega
      have HR := hid (HY.out k HT.out hk)
      clear HN HY HT
      go_enter Tryz.func30, Tryz.ntmps30
      go_wp2_with fail
      refine C.out.mono ?_
      rintro e w1 ⟨rfl, hb1⟩
      obtain ⟨⟨k0, k1, k2, k3, k4⟩, hrw⟩ := HK.out w1 hb1
      obtain ⟨b, off, ha, hb, hc⟩ := Rows.get hrw hk
      rw [ha] at k0
      obtain ⟨x, hx⟩ : ∃ x, m.ty[k] = x := ⟨_, rfl⟩
      rw [hx] at hc HR
      have c0 : w1.cell? ⟨b, off + k * 2, none⟩ = some (.int .i64 x.1) := hc 0 (by omega) _ rfl
      have c1 : w1.cell? ⟨b, off + k * 2 + 1, none⟩ = some (.int .i64 x.2) := hc 1 (by omega) _ rfl
      have HB1 := hid (HB.out.trans (hb1.mono HB.out.size))
      have hki : (k : Int) < (m.ty.length : Int) := by omega
      clear C HK hb1 HB hrw hc hx hb ha h1 h2
      go_wp2
      refine bodyPost_ret (v := .tuple #[.agg #[.int .i64 x.1, .int .i64 x.2], .bool true]) (by simp [results, Tryz.results30, go_sem, k1, k2]) rfl ⟨ret_ty (by rw [HR.out]), (HB1.out.setCell (p := ⟨w.heap.size + 1, 0, none⟩) (by simp) _).setCell (p := ⟨w.heap.size + 1, 1, none⟩) (by simp) _⟩
end Go.Proofs.YtaibfefmehhldaaGreatDoor.Mod

namespace Go.Proofs.YtaibfefmehhldaaGreatDoor.Mod
open Go.RowKit Go.Shelf Go.Proofs.YtaibfefmehhldaaGreatDoor.Instr

theorem bytes_ne {a b : ByteArray} (h : a ≠ b) : (a.toList == b.toList) = false := by
  rw [beq_eq_false_iff_ne]
  intro hh
  rw [ByteArray.toList_eq, ByteArray.toList_eq] at hh
  exact h (ByteArray.ext (Array.toList_inj.1 hh))
def isEx (na : ByteArray) (k : Int) (e : Ex) : Bool := decide (e.na = na) && decide (e.k = k)
set_option maxHeartbeats 400000 in
theorem find1_any (x : Ex) (g : Nat) (na : ByteArray) (k : Int) (w : World) (h1 : w.cell? ⟨g, 0, none⟩ = some (.string na)) (h2 : w.cell? ⟨g + 1, 0, none⟩ = some (.int .i64 k)) :
    Calls Tryz.prog 59 #[.agg #[.string x.na, .int .i64 x.k, .int .u32 x.i], .pointer (some ⟨g, 0, none⟩), .pointer (some ⟨g + 1, 0, none⟩)] w fun e w' => e = .returned (.bool (isEx na k x)) ∧ Below w.heap.size w w' := by
  have HE : Hid (isEx na k x = (decide (x.na = na) && decide (x.k = k))) := rfl
  have hl1 := World.block_lt_of_cell? w _ h1
  have hl2 := World.block_lt_of_cell? w _ h2
  obtain ⟨n, hn⟩ : ∃ n, x.na = n := ⟨_, rfl⟩
  obtain ⟨j, hj⟩ : ∃ j, x.k = j := ⟨_, rfl⟩
  rw [hn, hj] at HE ⊢
  clear hn hj
  by_cases he : n = na
  · subst he
    have HC := hid (show isEx n k x = (j == k) by rw [HE.out]; simp [Bool.beq_eq_decide_eq])
    clear HE
    go_enter Tryz.func59, Tryz.ntmps59
    go_wp2
    go_ret
    exact ⟨ret_bool (by rw [HC.out]), (Below.refl _ _).alloc (Nat.le_refl _) _⟩
  · have hb := bytes_ne he
    have HC := hid (show isEx na k x = false by rw [HE.out]; simp [he])
    have HH := hid he
    clear HE he
    go_enter Tryz.func59, Tryz.ntmps59
    go_wp2
    go_ret
    exact ⟨ret_bool (by rw [HC.out]), (Below.refl _ _).alloc (Nat.le_refl _) _⟩
theorem entersF : ∀ args w, (callFunc 59 args).run Tryz.prog w = .ok (.enter 59 args) w := enters_of Tryz.func59 (by kernel_rfl) rfl
theorem find_hit {m : Md} {na : ByteArray} {k : Int} {i : Nat} (h : idxP (isEx na k) m.ex = i) (hi : i < m.ex.length) : m.find na k = ((m.ex[i]).i, true) := by
  unfold idxP at h
  cases hf : m.ex.findIdx? (isEx na k) with
  | none => rw [hf] at h; simp at h <;> omega
  | some j =>
    rw [hf] at h
    have hj : (j : Int) = i := h
    have hj : j = i := by omega
    subst hj
    obtain ⟨h0, h1, h2⟩ := List.findIdx?_eq_some_iff_getElem.1 hf
    unfold Md.find
    have : m.ex.find? (fun e => decide (e.na = na) && decide (e.k = k)) = some m.ex[j] := List.find?_eq_some_iff_getElem.2 ⟨h1, j, hi, rfl, fun p hp => by have := h2 p hp; simp only [Bool.not_eq_true] at this; unfold isEx at this; rw [this]; rfl⟩
    rw [this]
theorem find_miss {m : Md} {na : ByteArray} {k : Int} (h : idxP (isEx na k) m.ex < 0) : m.find na k = (0, false) := by
  unfold idxP at h
  cases hf : m.ex.findIdx? (isEx na k) with
  | some j => rw [hf] at h; have : (j : Int) < 0 := h; omega
  | none =>
    have h1 := List.findIdx?_eq_none_iff.1 hf
    unfold Md.find
    have : m.ex.find? (fun e => decide (e.na = na) && decide (e.k = k)) = none := List.find?_eq_none.2 fun x hx => by have := h1 x hx; unfold isEx at this; rw [this]; simp
    rw [this]
set_option maxHeartbeats 1000000 in
theorem Find_any (m : Md) (na : ByteArray) (k : Int) (w : World) (hm : ModAt w.heap.size w m) (hf : m.fits) :
    Calls Tryz.prog 32 #[.agg m.v, .string na, .int .i64 k] w fun e w' => e = .returned (.tuple #[.int .u32 (m.find na k).1, .bool (m.find na k).2]) ∧ Below w.heap.size w w' := by
  have hb1 : Below w.heap.size w (((w.alloc (.cells m.v 32)).alloc (.cells #[.string na] 9)).alloc (.cells #[.int .i64 k] 3)) := thenA (thenA (thenA (Below.refl _ _) _) _) _
  have HB := hid hb1
  have hm1 := hm.on hb1
  have hx := (BoxAt.made w m.v 32).keep (((Below.refl _ _).alloc (Nat.le_refl _) (.cells #[.string na] 9)).alloc (by simp) (.cells #[.int .i64 k] 3))
  have hc1 : (((w.alloc (.cells m.v 32)).alloc (.cells #[.string na] 9)).alloc (.cells #[.int .i64 k] 3)).cell? ⟨w.heap.size + 1, 0, none⟩ = some (.string na) := by go_simp
  have hc2 : (((w.alloc (.cells m.v 32)).alloc (.cells #[.string na] 9)).alloc (.cells #[.int .i64 k] 3)).cell? ⟨w.heap.size + 1 + 1, 0, none⟩ = some (.int .i64 k) := by go_simp
  have C := hid (idx_ex m.ex m.ex'.a m.ex.length m.ex'.c _ rfl hm1.ex hf.ex 59 #[.pointer (some ⟨w.heap.size + 1, 0, none⟩), .pointer (some ⟨w.heap.size + 1 + 1, 0, none⟩)] entersF (isEx na k)
    (fun W x _ hW => find1_any x _ na k W (Go.Proofs.YtaibfefmehhldaaGreatDoor.keep hW hc1) (Go.Proofs.YtaibfefmehhldaaGreatDoor.keep hW hc2)))
  have HK := hid (show ∀ w1, Below (((w.alloc (.cells m.v 32)).alloc (.cells #[.string na] 9)).alloc (.cells #[.int .i64 k] 3)).heap.size (((w.alloc (.cells m.v 32)).alloc (.cells #[.string na] 9)).alloc (.cells #[.int .i64 k] 3)) w1 →
      w1.cell? ⟨w.heap.size, 6, none⟩ = some (.slice m.ex'.a m.ex.length m.ex'.c) ∧ Rows w1.heap.size w1 m.ex'.a 3 (m.ex.map Ex.v) from fun w1 hb => ⟨(hx.keep hb) 6 _ rfl, (hm1.on hb).ex⟩)
  have hl := hf.ex
  have hbd := idxP_bounds (isEx na k) m.ex
  have HN := hid (fun h => find_miss (m := m) (na := na) (k := k) h)
  have HY := hid (fun i h hi => find_hit (m := m) (na := na) (k := k) (i := i) h hi)
  obtain ⟨t, ht⟩ : ∃ t, idxP (isEx na k) m.ex = t := ⟨_, rfl⟩
  rw [ht] at C HN hbd
  have HT := hid ht
  unfold Md.v at C HB HK ⊢
  clear hm hf hb1 hm1 hx hc1 hc2 ht
  by_cases h1 : t < 0
  · have HR := hid (HN.out h1)
    clear HN HY hbd
    go_enter Tryz.func32, Tryz.ntmps32
    go_wp2_with fail
    refine C.out.mono ?_
    rintro e w1 ⟨rfl, hb1⟩
    have HB1 := hid (HB.out.trans (hb1.mono HB.out.size))
    clear C HK hb1 HB
    go_wp2
    go_ret2
    exact ⟨by rw [HR.out]; rfl, HB1.out⟩
  · obtain ⟨i, rfl⟩ : ∃ i : Nat, t = i := ⟨t.toNat, by omega⟩
    have hi : i < m.ex.length := by omega
    have HR := hid (HY.out i HT.out hi)
    clear HN HY HT hbd
    go_enter Tryz.func32, Tryz.ntmps32
    go_wp2_with fail
    refine C.out.mono ?_
    rintro e w1 ⟨rfl, hb1⟩
    obtain ⟨k0, hrw⟩ := HK.out w1 hb1
    obtain ⟨b, off, ha, hb, hc⟩ := Rows.get hrw hi
    rw [ha] at k0
    obtain ⟨x, hx⟩ : ∃ x, m.ex[i] = x := ⟨_, rfl⟩
    rw [hx] at hc HR
    have c2 : w1.cell? ⟨b, off + i * 3 + 2, none⟩ = some (.int .u32 x.i) := hc 2 (by omega) _ rfl
    have HB1 := hid (HB.out.trans (hb1.mono HB.out.size))
    have hki : (i : Int) < (m.ex.length : Int) := by omega
    clear C HK hb1 HB hrw hc hx hb ha h1
    go_wp2
    go_ret2
    exact ⟨by rw [HR.out]; rfl, HB1.out⟩
end Go.Proofs.YtaibfefmehhldaaGreatDoor.Mod

namespace Go.Proofs.YtaibfefmehhldaaGreatDoor.Mod
open Go.RowKit Go.Shelf Go.Proofs.YtaibfefmehhldaaGreatDoor.Instr

/-- What the checks return, in order. -/
def Md.outs (m : Md) : List Int := [errI m.crowded 141, errI (codeP m.codes == 141) 141, errI (m.anyName longS) 3, errI m.heavy 3, codeP m.codes, errI (m.anyName noText) 2, errI (m.ty.any wrongT) 2, errI (m.im.any wrongI) 2, errI (m.fu.any wrongF) 2, errI (m.ex.any wrongE) 2,
  errI (m.tb.any (beyond 1048576)) 2, errI (m.me.any (beyond 65536)) 2, errI (!m.st && decide (m.sn ≠ 0)) 2]
/-- The first of them that is an error. -/
def firstE : List Int → Int
  | [] => 0
  | e :: r => if e = 0 then firstE r else e
theorem firstE_hit : ∀ (l : List Int) (k : Nat) (hk : k < l.length), (∀ j (hj : j < l.length), j < k → l[j] = 0) → l[k] ≠ 0 → firstE l = l[k]
  | [], k, hk, _, _ => by simp at hk
  | e :: r, 0, hk, _, h => by simp only [List.getElem_cons_zero] at h ⊢; rw [firstE, if_neg h]
  | e :: r, k + 1, hk, hb, h => by
    have h0 : e = 0 := hb 0 (by simp) (by omega)
    rw [firstE, if_pos h0]
    simp only [List.getElem_cons_succ] at h ⊢
    exact firstE_hit r k (by simpa using hk) (fun j hj hjk => by have := hb (j + 1) (by simp; omega) (by omega); simpa using this) h
theorem firstE_miss : ∀ (l : List Int), (∀ j (hj : j < l.length), l[j] = 0) → firstE l = 0
  | [], _ => rfl
  | e :: r, hb => by
    have h0 : e = 0 := hb 0 (by simp)
    rw [firstE, if_pos h0]
    exact firstE_miss r (fun j hj => by have := hb (j + 1) (by simp; omega); simpa using this)
theorem errI_two (b : Bool) (e r : Int) (he : e ≠ 0) : (if errI b e = 0 then r else errI b e) = if b then e else r := by
  cases b <;> simp [errI, he]
theorem check_outs (m : Md) : m.check = firstE m.outs := by
  unfold Md.outs Md.check
  simp only [firstE, errI_two _ _ _ (show (141 : Int) ≠ 0 by decide), errI_two _ _ _ (show (3 : Int) ≠ 0 by decide), errI_two _ _ _ (show (2 : Int) ≠ 0 by decide)]
  have hc := codeP_cases m.codes
  by_cases h1 : m.crowded = true
  · simp [h1]
  rw [if_neg h1, if_neg h1]
  by_cases h2 : codeP m.codes = 141
  · simp [h2]
  have h2' : ¬ (codeP m.codes == 141) = true := by simpa using h2
  rw [if_neg h2, if_neg h2']
  split
  · rfl
  split
  · rfl
  by_cases h3 : codeP m.codes = 0
  · rw [if_pos h3, if_neg (by omega)]
    unfold Md.wrong
    cases m.anyName noText <;> cases m.ty.any wrongT <;> cases m.im.any wrongI <;> cases m.fu.any wrongF <;> cases m.ex.any wrongE <;> cases m.tb.any (beyond 1048576) <;> cases m.me.any (beyond 65536) <;> cases (!m.st && decide (m.sn ≠ 0)) <;> rfl
  · have h4 : codeP m.codes = 2 := by omega
    rw [if_neg h3, h4]; rfl

/-- The function of the k-th check. -/
def chkF (k : Nat) : Nat := [60, 63, 65, 68, 70, 71, 73, 76, 79, 82, 85, 87, 88].getD k 0
/-- What it has captured. -/
def chkB (g k : Nat) : Array Value := [#[.pointer (some ⟨g, 0, none⟩)], #[.pointer (some ⟨g, 0, none⟩), .pointer (some ⟨g + 1, 0, none⟩)], #[.pointer (some ⟨g, 0, none⟩)], #[.pointer (some ⟨g, 0, none⟩)], #[.pointer (some ⟨g + 1, 0, none⟩)], #[.pointer (some ⟨g, 0, none⟩)], #[.pointer (some ⟨g, 0, none⟩)],
  #[.pointer (some ⟨g, 0, none⟩)], #[.pointer (some ⟨g, 0, none⟩)], #[.pointer (some ⟨g, 0, none⟩)], #[.pointer (some ⟨g, 0, none⟩)], #[.pointer (some ⟨g, 0, none⟩)], #[.pointer (some ⟨g, 0, none⟩)]].getD k #[]
theorem chk_enters (k : Nat) (hk : k < 13) : ∀ args w, (callFunc (chkF k) args).run Tryz.prog w = .ok (.enter (chkF k) args) w := by
  match k, hk with
  | 0, _ => exact enters_of Tryz.func60 (by kernel_rfl) rfl
  | 1, _ => exact enters_of Tryz.func63 (by kernel_rfl) rfl
  | 2, _ => exact enters_of Tryz.func65 (by kernel_rfl) rfl
  | 3, _ => exact enters_of Tryz.func68 (by kernel_rfl) rfl
  | 4, _ => exact enters_of Tryz.func70 (by kernel_rfl) rfl
  | 5, _ => exact enters_of Tryz.func71 (by kernel_rfl) rfl
  | 6, _ => exact enters_of Tryz.func73 (by kernel_rfl) rfl
  | 7, _ => exact enters_of Tryz.func76 (by kernel_rfl) rfl
  | 8, _ => exact enters_of Tryz.func79 (by kernel_rfl) rfl
  | 9, _ => exact enters_of Tryz.func82 (by kernel_rfl) rfl
  | 10, _ => exact enters_of Tryz.func85 (by kernel_rfl) rfl
  | 11, _ => exact enters_of Tryz.func87 (by kernel_rfl) rfl
  | 12, _ => exact enters_of Tryz.func88 (by kernel_rfl) rfl

/-- What holds between two checks. -/
structure Chks (w : World) (m : Md) (k : Nat) (W : World) : Prop where
  below : Below w.heap.size w W
  box : BoxAt W w.heap.size m.v
  code : W.cell? ⟨w.heap.size + 1, 0, none⟩ = some (.int .i64 (if k < 2 then 0 else codeP m.codes))
  fr : W.frozen? ⟨w.heap.size + 1, 0, none⟩ = false
  arr : ∀ j, j < 13 → W.cell? ⟨w.heap.size + 2, j, none⟩ = some (.func (.func (chkF j)) #[] (chkB w.heap.size j))
theorem Chks.go {w : World} {m : Md} {k k' : Nat} {W W' : World} (h : Chks w m k W) (hb : Below W.heap.size W W') (hk : k < 2 ↔ k' < 2) : Chks w m k' W' :=
  ⟨h.below.trans (hb.mono h.below.size), h.box.keep hb, by rw [show (if k' < 2 then (0 : Int) else codeP m.codes) = if k < 2 then 0 else codeP m.codes by by_cases h2 : k < 2 <;> simp [h2, ← hk]]; exact Go.Proofs.YtaibfefmehhldaaGreatDoor.keep hb h.code, (hb.frozen (p := ⟨w.heap.size + 1, 0, none⟩) (World.block_lt_of_cell? W _ h.code)).trans h.fr, fun j hj => Go.Proofs.YtaibfefmehhldaaGreatDoor.keep hb (h.arr j hj)⟩
theorem Chks.set {w : World} {m : Md} {W W' : World} (h : Chks w m 1 W) (hb : Below W.heap.size W W') : Chks w m 2 (W'.setCell ⟨w.heap.size + 1, 0, none⟩ (.int .i64 (codeP m.codes))) := by
  have h' := h.go (k' := 1) hb Iff.rfl
  refine ⟨h'.below.setCell (p := ⟨w.heap.size + 1, 0, none⟩) (by simp) _, fun j x hj => ?_, ?_, ?_, fun j hj => ?_⟩
  · exact (World.cell?_of_block (w := W') (Below.heap_setCell _ _ _ _ (by simp))).trans (h'.box j x hj)
  · rw [if_neg (by omega)]; exact World.cell?_setCell_same' _ _ _ (by rw [h'.code]; rfl)
  · rw [World.frozen?_setCell]; exact h'.fr
  · exact (World.cell?_of_block (w := W') (Below.heap_setCell _ _ _ _ (by simp))).trans (h'.arr j hj)
/-- One check. -/
theorem chk_step (m : Md) (w : World) (hT : Nams w) (hU : Utf.Tabs w) (hm : ModAt w.heap.size w m) (hf : m.few) (k : Nat) (hk : k < 13) (W : World) (h : Chks w m k W) :
    Calls Tryz.prog (chkF k) (chkB w.heap.size k) W fun e w' => e = .returned (.int .i64 (m.outs.getD k 0)) ∧ Chks w m (k + 1) w' := by
  have hm' := hm.on h.below
  have hT' := hT.below h.below
  have hU' := hU.below h.below
  match k, hk, h with
  | 0, _, h => exact (chk1 m _ W h.box hm' hf).mono fun e w' ⟨he, hb⟩ => ⟨he, h.go hb (by simp)⟩
  | 1, _, h => exact (chk2 m _ _ W h.box hm' hf hT' h.code h.fr).mono fun e w' ⟨he, w1, hb, hw⟩ => ⟨he, by subst hw; exact h.set hb⟩
  | 2, _, h => exact (chk3 m _ W h.box hm' hf).mono fun e w' ⟨he, hb⟩ => ⟨he, h.go hb (by simp)⟩
  | 3, _, h => exact (chk4 m _ W h.box hm' hf).mono fun e w' ⟨he, hb⟩ => ⟨he, h.go hb (by simp)⟩
  | 4, _, h => exact (chk5 _ _ W (by have := h.code; rw [if_neg (by omega)] at this; exact this)).mono fun e w' ⟨he, hb⟩ => ⟨he, h.go hb (by simp)⟩
  | 5, _, h => exact (chk6 m _ W h.box hm' hf hU').mono fun e w' ⟨he, hb⟩ => ⟨he, h.go hb (by simp)⟩
  | 6, _, h => exact (chk7 m _ W h.box hm' hf).mono fun e w' ⟨he, hb⟩ => ⟨he, h.go hb (by simp)⟩
  | 7, _, h => exact (chk8 m _ W h.box hm' hf).mono fun e w' ⟨he, hb⟩ => ⟨he, h.go hb (by simp)⟩
  | 8, _, h => exact (chk9 m _ W h.box hm' hf).mono fun e w' ⟨he, hb⟩ => ⟨he, h.go hb (by simp)⟩
  | 9, _, h => exact (chk10 m _ W h.box hm' hf).mono fun e w' ⟨he, hb⟩ => ⟨he, h.go hb (by simp)⟩
  | 10, _, h => exact (chk11 m _ W h.box hm' hf).mono fun e w' ⟨he, hb⟩ => ⟨he, h.go hb (by simp)⟩
  | 11, _, h => exact (chk12 m _ W h.box hm' hf).mono fun e w' ⟨he, hb⟩ => ⟨he, h.go hb (by simp)⟩
  | 12, _, h => exact (chk13 m _ W h.box).mono fun e w' ⟨he, hb⟩ => ⟨he, h.go hb (by simp)⟩

set_option maxRecDepth 100000 in
set_option maxHeartbeats 2000000 in
theorem ModCheck_any (m : Md) (w : World) (hT : Nams w) (hU : Utf.Tabs w) (hm : ModAt w.heap.size w m) (hf : m.few) :
    Calls Tryz.prog 33 #[.agg m.v] w fun e w' => e = .returned (.int .i64 m.check) ∧ Below w.heap.size w w' := by
  have HS := hid (chk_step m w hT hU hm hf)
  have HE := hid (check_outs m)
  have HL := hid (show m.outs.length = 13 from rfl)
  have h0 : Chks w m 0 (((w.alloc (.cells m.v 32)).alloc (.cells #[.int .i64 0] 83)).alloc (.cells #[.func (.func 60) #[] #[.pointer (some ⟨w.heap.size, 0, none⟩)], .func (.func 63) #[] #[.pointer (some ⟨w.heap.size, 0, none⟩), .pointer (some ⟨w.heap.size + 1, 0, none⟩)], .func (.func 65) #[] #[.pointer (some ⟨w.heap.size, 0, none⟩)], .func (.func 68) #[] #[.pointer (some ⟨w.heap.size, 0, none⟩)], .func (.func 70) #[] #[.pointer (some ⟨w.heap.size + 1, 0, none⟩)], .func (.func 71) #[] #[.pointer (some ⟨w.heap.size, 0, none⟩)], .func (.func 73) #[] #[.pointer (some ⟨w.heap.size, 0, none⟩)], .func (.func 76) #[] #[.pointer (some ⟨w.heap.size, 0, none⟩)], .func (.func 79) #[] #[.pointer (some ⟨w.heap.size, 0, none⟩)], .func (.func 82) #[] #[.pointer (some ⟨w.heap.size, 0, none⟩)], .func (.func 85) #[] #[.pointer (some ⟨w.heap.size, 0, none⟩)], .func (.func 87) #[] #[.pointer (some ⟨w.heap.size, 0, none⟩)], .func (.func 88) #[] #[.pointer (some ⟨w.heap.size, 0, none⟩)]] 114)) := by
    refine ⟨thenA (thenA (thenA (Below.refl _ _) _) _) _, ?_, by simp [go_sem], by simp [go_sem], fun j hj => ?_⟩
    · exact (BoxAt.made w m.v _).keep (((Below.refl _ _).alloc (Nat.le_refl _) _).alloc (by simp) _)
    · match j, hj with
      | 0, _ | 1, _ | 2, _ | 3, _ | 4, _ | 5, _ | 6, _ | 7, _ | 8, _ | 9, _ | 10, _ | 11, _ | 12, _ => simp [go_sem, chkF, chkB]
  clear hT hU hm hf
  unfold Md.v at h0 ⊢
  go_enter Tryz.func33, Tryz.ntmps33
  go_wp2
  generalize (((w.alloc (.cells #[.slice m.ty'.a m.ty.length m.ty'.c, .slice m.im'.a m.im.length m.im'.c, .slice m.fu'.a m.fu.length m.fu'.c, .slice m.tb'.a m.tb.length m.tb'.c, .slice m.me'.a m.me.length m.me'.c, .slice m.gl'.a m.gl.length m.gl'.c, .slice m.ex'.a m.ex.length m.ex'.c, .bool m.st, .int .u32 m.sn, .slice m.el'.a m.el.length m.el'.c, .slice m.da'.a m.da.length m.da'.c] 32)).alloc (.cells #[.int .i64 0] 83)).alloc (.cells #[.func (.func 60) #[] #[.pointer (some ⟨w.heap.size, 0, none⟩)], .func (.func 63) #[] #[.pointer (some ⟨w.heap.size, 0, none⟩), .pointer (some ⟨w.heap.size + 1, 0, none⟩)], .func (.func 65) #[] #[.pointer (some ⟨w.heap.size, 0, none⟩)], .func (.func 68) #[] #[.pointer (some ⟨w.heap.size, 0, none⟩)], .func (.func 70) #[] #[.pointer (some ⟨w.heap.size + 1, 0, none⟩)], .func (.func 71) #[] #[.pointer (some ⟨w.heap.size, 0, none⟩)], .func (.func 73) #[] #[.pointer (some ⟨w.heap.size, 0, none⟩)], .func (.func 76) #[] #[.pointer (some ⟨w.heap.size, 0, none⟩)], .func (.func 79) #[] #[.pointer (some ⟨w.heap.size, 0, none⟩)], .func (.func 82) #[] #[.pointer (some ⟨w.heap.size, 0, none⟩)], .func (.func 85) #[] #[.pointer (some ⟨w.heap.size, 0, none⟩)], .func (.func 87) #[] #[.pointer (some ⟨w.heap.size, 0, none⟩)], .func (.func 88) #[] #[.pointer (some ⟨w.heap.size, 0, none⟩)]] 114)) = W0 at h0 ⊢
  have H0 := hid h0
  clear h0
  go_loopw [22] (fun vi wr => ∃ k : Nat, vi = .int .i64 k ∧ k ≤ 13 ∧ Hid (Chks w m k wr) ∧ Hid (∀ j (hj : j < m.outs.length), j < k → m.outs[j] = 0)) (fun vi _ => 13 - (intOf vi).toNat)
  case atStart => exact ⟨0, rfl, Nat.zero_le _, H0, fun j _ h => absurd h (Nat.not_lt_zero _)⟩
  case round =>
    obtain ⟨k, rfl, hk, HC, HA⟩ := hrel
    clear H0
    by_cases hlt : k < 13
    · have hkl : k < m.outs.length := by rw [HL.out]; exact hlt
      have eg := chk_enters k hlt
      have C := hid (HS.out k hlt wr HC.out)
      have hc : wr.cell? ⟨w.heap.size + 1 + 1, k, none⟩ = some (.func (.func (chkF k)) #[] (chkB w.heap.size k)) := HC.out.arr k hlt
      have HG := hid (show m.outs.getD k 0 = m.outs[k] by simp [hkl])
      obtain ⟨G, hG⟩ : ∃ G, chkF k = G := ⟨_, rfl⟩
      obtain ⟨L, hL⟩ : ∃ L, chkB w.heap.size k = L := ⟨_, rfl⟩
      obtain ⟨q, hq⟩ : ∃ q, m.outs.getD k 0 = q := ⟨_, rfl⟩
      rw [hG] at eg C hc
      rw [hL] at C hc
      rw [hq] at C HG
      clear hG hL hq
      have hki : (k : Int) < 13 := by omega
      by_cases h0 : q = 0
      · subst h0
        go_wp2_with (go_at_fn G; refine C.out.mono ?_; rintro e w1 ⟨rfl, hC1⟩)
        go_roundw
        case rel =>
          refine ⟨k + 1, by go_num, by omega, hC1, hid fun j hj hjk => ?_⟩
          by_cases e : j = k
          · subst e; exact HG.out.symm
          · exact HA.out j hj (by omega)
        case measure => simp [intOf]; omega
      · have HF := hid (show m.check = q by
          rw [HE.out, firstE_hit _ k hkl HA.out (by rw [← HG.out]; exact h0), ← HG.out])
        have hq1 : (q == 0) = false := by simpa using h0
        have hq2 : (q != 0) = true := by simpa using h0
        go_wp2_with (go_at_fn G; refine C.out.mono ?_; rintro e w1 ⟨rfl, hC1⟩)
        go_ret
        exact ⟨ret_int HF.out.symm, hC1.below⟩
    · obtain rfl : k = 13 := by omega
      have HF := hid (show m.check = 0 by
        rw [HE.out]; exact firstE_miss _ (fun j hj => HA.out j hj (by rw [HL.out] at hj; exact hj)))
      go_wp2
      go_ret
      exact ⟨ret_int HF.out.symm, HC.out.below⟩
end Go.Proofs.YtaibfefmehhldaaGreatDoor.Mod

namespace Go.Proofs.YtaibfefmehhldaaGreatDoor.Mod
open Go.RowKit Go.Shelf Go.Proofs.YtaibfefmehhldaaGreatDoor.Instr

theorem small_check (g : Nat) : (smallM g).check = 0 := by kernel_rfl
theorem small_size (g : Nat) : (smallM g).size = 1 := rfl
theorem small_find (g : Nat) : (smallM g).find sRun 0 = (1, true) := by simp [Md.find, smallM]
theorem small_t0 (g : Nat) : (smallM g).typeOf 0 = ((2, 0), true) := by kernel_rfl
theorem small_t1 (g : Nat) : (smallM g).typeOf 1 = ((0, 1), true) := by kernel_rfl
theorem small_t2 (g : Nat) : (smallM g).typeOf 2 = ((0, 0), false) := by kernel_rfl

theorem type0 (g : Nat) (w : World) (hm : ModAt w.heap.size w (smallM g)) : Calls Tryz.prog 30 #[.agg (smallM g).v, .int .u32 0] w fun e w' => e = .returned (.tuple #[.agg #[.int .i64 2, .int .i64 0], .bool true]) ∧ Below w.heap.size w w' := by
  have := TypeOf_any (smallM g) 0 w hm (small_few g).fit (by omega)
  rw [small_t0] at this
  exact this
theorem type1 (g : Nat) (w : World) (hm : ModAt w.heap.size w (smallM g)) : Calls Tryz.prog 30 #[.agg (smallM g).v, .int .u32 1] w fun e w' => e = .returned (.tuple #[.agg #[.int .i64 0, .int .i64 1], .bool true]) ∧ Below w.heap.size w w' := by
  have := TypeOf_any (smallM g) 1 w hm (small_few g).fit (by omega)
  rw [small_t1] at this
  exact this
theorem type2 (g : Nat) (w : World) (hm : ModAt w.heap.size w (smallM g)) : Calls Tryz.prog 30 #[.agg (smallM g).v, .int .u32 2] w fun e w' => e = .returned (.tuple #[.agg #[.int .i64 0, .int .i64 0], .bool false]) ∧ Below w.heap.size w w' := by
  have := TypeOf_any (smallM g) 2 w hm (small_few g).fit (by omega)
  rw [small_t2] at this
  exact this
theorem findS (g : Nat) (w : World) (hm : ModAt w.heap.size w (smallM g)) : Calls Tryz.prog 32 #[.agg (smallM g).v, .string ⟨#[114, 117, 110]⟩, .int .i64 0] w fun e w' => e = .returned (.tuple #[.int .u32 1, .bool true]) ∧ Below w.heap.size w w' := by
  have := Find_any (smallM g) sRun 0 w hm (small_few g).fit
  rw [small_find] at this
  exact this
theorem checkS (g : Nat) (w : World) (hT : Nams w) (hU : Utf.Tabs w) (hm : ModAt w.heap.size w (smallM g)) : Calls Tryz.prog 33 #[.agg (smallM g).v] w fun e w' => e = .returned (.int .i64 0) ∧ Below w.heap.size w w' := by
  have := ModCheck_any (smallM g) w hT hU hm (small_few g)
  rw [small_check] at this
  exact this
theorem sizeS (g : Nat) (w : World) (hm : ModAt w.heap.size w (smallM g)) : Calls Tryz.prog 34 #[.agg (smallM g).v] w fun e w' => e = .returned (.int .i64 1) ∧ Below w.heap.size w w' := by
  have := Size_any (smallM g) w hm (small_few g)
  rw [small_size] at this
  exact this
/-- A box of two numbers. -/
def Two (W : World) (b : Nat) (x y : Int) : Prop := W.cell? ⟨b, 0, none⟩ = some (.int .i64 x) ∧ W.cell? ⟨b, 1, none⟩ = some (.int .i64 y)
theorem Two.made (w : World) (x y : Int) : Two (w.alloc (.cells #[.int .i64 x, .int .i64 y] 59)) w.heap.size x y := by constructor <;> go_simp
theorem Two.on {W W' : World} {b : Nat} {x y : Int} (h : Two W b x y) (hb : Below W.heap.size W W') : Two W' b x y := ⟨Go.Proofs.YtaibfefmehhldaaGreatDoor.keep hb h.1, Go.Proofs.YtaibfefmehhldaaGreatDoor.keep hb h.2⟩
theorem belowA (w : World) (o : Obj) : Below w.heap.size w (w.alloc o) := (Below.refl _ _).alloc (Nat.le_refl _) o
set_option maxHeartbeats 2000000 in
set_option maxRecDepth 100000 in
theorem awake_any (w : World) (hT : Nams w) (hU : Utf.Tabs w) : Calls Tryz.prog 10 #[] w fun e w' => e = .returned (.bool true) ∧ Below w.heap.size w w' := by
  have HT := hid hT
  have HU := hid hU
  clear hT hU
  go_enter Tryz.func10, Tryz.ntmps10
  go_wp2_with fail
  refine (small_any _).mono ?_
  rintro e w1 ⟨rfl, hm, hb1⟩
  have C := hid (type0 _ w1 hm)
  have B := hid hb1
  clear hm hb1
  go_wp2_with fail
  refine C.out.mono ?_
  rintro e w2 ⟨rfl, hb⟩
  have B2 := hid (thenB B.out hb)
  clear C hb B
  go_wp2_with fail
  refine (small_any _).mono ?_
  rintro e w3 ⟨rfl, hm, hb⟩
  rw [World.size_alloc] at hm
  have A3 := hid ((Two.made w2 2 0).on hb)
  have B3 := hid (thenB B2.out (thenB (belowA w2 _) hb))
  have C := hid (type1 _ w3 hm)
  clear hm hb B2
  go_wp2_with fail
  refine C.out.mono ?_
  rintro e w4 ⟨rfl, hb⟩
  have A4 := hid (A3.out.on hb)
  have B4 := hid (thenB B3.out hb)
  clear C hb B3 A3
  go_wp2_with fail
  refine (small_any _).mono ?_
  rintro e w5 ⟨rfl, hm, hb⟩
  rw [World.size_alloc] at hm
  have A5 := hid ((A4.out.on (belowA w4 _)).on hb)
  have D5 := hid ((Two.made w4 0 1).on hb)
  have B5 := hid (thenB B4.out (thenB (belowA w4 _) hb))
  have C := hid (type2 _ w5 hm)
  clear hm hb B4 A4
  go_wp2_with fail
  refine C.out.mono ?_
  rintro e w6 ⟨rfl, hb⟩
  have A6 := hid (A5.out.on hb)
  have D6 := hid (D5.out.on hb)
  have B6 := hid (thenB B5.out hb)
  clear C hb B5 A5 D5
  go_wp2_with fail
  refine (small_any _).mono ?_
  rintro e w7 ⟨rfl, hm, hb⟩
  rw [World.size_alloc] at hm
  have A7 := hid ((A6.out.on (belowA w6 _)).on hb)
  have D7 := hid ((D6.out.on (belowA w6 _)).on hb)
  have B7 := hid (thenB B6.out (thenB (belowA w6 _) hb))
  have C := hid (findS _ w7 hm)
  clear hm hb B6 A6 D6
  go_wp2_with fail
  refine C.out.mono ?_
  rintro e w8 ⟨rfl, hb⟩
  have A8 := hid (A7.out.on hb)
  have D8 := hid (D7.out.on hb)
  have B8 := hid (thenB B7.out hb)
  clear C hb B7 A7 D7
  go_wp2_with fail
  refine (small_any _).mono ?_
  rintro e w9 ⟨rfl, hm, hb⟩
  have A9 := hid (A8.out.on hb)
  have D9 := hid (D8.out.on hb)
  have B9 := hid (thenB B8.out hb)
  have C := hid (checkS _ w9 (HT.out.below B9.out) (HU.out.below B9.out) hm)
  clear hm hb B8 A8 D8
  go_wp2_with fail
  refine C.out.mono ?_
  rintro e w10 ⟨rfl, hb⟩
  obtain ⟨a0, a1⟩ := A9.out.on hb
  obtain ⟨d0, d1⟩ := D9.out.on hb
  have B10 := hid (thenB B9.out hb)
  have q1 := Kind.eqType
  have q2 := Kind.guardType
  clear C hb B9 A9 D9
  go_wp2_with fail
  refine (small_any _).mono ?_
  rintro e w11 ⟨rfl, hm, hb⟩
  have C := hid (sizeS _ w11 hm)
  have B11 := hid (thenB B10.out hb)
  clear hm hb B10 a0 a1 d0 d1 q1 q2
  go_wp2_with fail
  refine C.out.mono ?_
  rintro e w12 ⟨rfl, hb⟩
  have B12 := hid (thenB B11.out hb)
  clear C hb B11
  go_wp2
  go_ret
  exact ⟨rfl, B12.out⟩
end Go.Proofs.YtaibfefmehhldaaGreatDoor.Mod
