import Derived.Test.YtepbjkkakfpjgaaGreatDoorEt06
import Derived.Test.YtepbjkkakfpjgaaGreatDoorEt02
import Derived.Test.YtepbjkkakfpjgaaGreatDoorEt05
import Derived.Test.YtepbjkkakfpjgaaGreatDoorEt01
import Derived.Deep.RegionHeld3
import Derived.Lib.SlBuf
import Derived.Lib.MakeNoZero
import Derived.Deep.RegionLaw
import Derived.Laws.Externs
import Derived.IntWalk
import Derived.Deep.RegionHeldLaw
import Derived.Laws.BytesArg
namespace Go.Proofs.YtepbjkkakfpjgaaGreatDoor.Instr
open Go.RowKit Go.Shelf
attribute [local go_sem] Oper.semAt_some
theorem lawful_any (x : Ix) (w : World) (hT : Nams w) : Calls Tryz.prog 179 #[.agg x.vals] w fun e w' => e = .returned (.bool (lawfulP x)) ∧ Below w.heap.size w w' := by
 by_cases h : nameL x.op = []
 ·have : lawfulP x = false := by simp [lawfulP, h]
  rw [this]
  exact lawful_noname x w hT h
 ·have : lawfulP x = (decide (overP x = 0) && (decide (x.res = 0) || decide (x.res = 1))) := by simp [lawfulP, h]
  rw [this]
  exact lawful_name x w hT h
def manyP (l : List (Int × Ix)) : Bool := decide (262144 < l.length) || (l.any fun p => decide (16384 < p.2.tags.length)) || decide (900 < deepest l)
theorem manyP_snoc (l : List (Int × Ix)) (p : Int × Ix) : manyP (l ++ [p]) = (manyP l || (decide (262144 < l.length + 1) || (decide (16384 < p.2.tags.length) || decide (900 < p.1)))) := by
 unfold manyP
 rw [deepest_snoc]
 simp only [List.length_append, List.length_cons, List.length_nil, List.any_append, List.any_cons, List.any_nil, Bool.or_false]
 rw [Bool.eq_iff_iff]
 simp only [Bool.or_eq_true, decide_eq_true_eq]
 constructor
 ·rintro ((h | h | h) | h)
  ·right; left; omega
  ·left; left; right; exact h
  ·right; right; left; exact h
  ·rcases Int.le_total (deepest l) p.1 with h1 | h1
   ·right; right; right; omega
   ·left; right; omega
 ·rintro (((h | h) | h) | h | h | h)
  ·left; left; omega
  ·left; right; left; exact h
  ·right; omega
  ·left; left; omega
  ·left; right; right; exact h
  ·right; omega
theorem manyP_walk (t : Il) : manyP (t.walk 1) = decide (262144 < t.count ∨ 900 < t.deep ∨ t.tags = true) := by
 unfold manyP
 rw [walk_length, walk_tags, deepest_walk, Bool.eq_iff_iff]
 simp only [Bool.or_eq_true, decide_eq_true_eq]
 constructor
 ·rintro ((h | h) | h)
  ·exact .inl h
  ·exact .inr (.inr h)
  ·exact .inr (.inl (by omega))
 ·rintro (h | h | h)
  ·exact .inl (.inl h)
  ·exact .inr (by omega)
  ·exact .inl (.inr h)
def allP (l : List (Int × Ix)) : Bool := l.all fun p => lawfulP p.2
theorem allP_snoc (l : List (Int × Ix)) (p : Int × Ix) : allP (l ++ [p]) = (allP l && lawfulP p.2) := by simp [allP, List.all_append]
theorem allP_walk (t : Il) (d : Int) : allP (t.walk d) = t.all := walk_all t d
theorem keepsFrom_below {B : Nat} {w w' : World} (h : Below w.heap.size w w') : KeepsFrom B w w' := ⟨h.size, fun k _ _ hk _ => (h.block k (Array.getElem?_eq_some_iff.1 hk).1).trans hk⟩
theorem At.own {x : Ix} {g : Nat} {A B : World} {row : Option Nat} (h : At x g A) (hg : A.grownBy B row) (hr : ∀ r, row = some r → ∃ o : Obj, A.heap[r]? = some o ∧ o.isCells = false) : At x g B :=
 ⟨cell_kept h.c0 hg hr, cell_kept h.c1 hg hr, cell_kept h.c2 hg hr, cell_kept h.c3 hg hr, cell_kept h.c4 hg hr, cell_kept h.c5 hg hr, cell_kept h.c6 hg hr, cell_kept h.c7 hg hr⟩
structure Chk (g : Nat) (r : Int) (n : Int) (m : Bool) (W : World) : Prop where
 res : W.cell? ⟨g, 0, none⟩ = some (.int .i64 r)
 num : W.cell? ⟨g + 1, 0, none⟩ = some (.int .i64 n)
 many : W.cell? ⟨g + 2, 0, none⟩ = some (.bool m)
 fres : W.frozen? ⟨g, 0, none⟩ = false
 fnum : W.frozen? ⟨g + 1, 0, none⟩ = false
 fmany : W.frozen? ⟨g + 2, 0, none⟩ = false
theorem Chk.own {g : Nat} {r n : Int} {m : Bool} {A B : World} {row : Option Nat} (h : Chk g r n m A) (hg : A.grownBy B row) (hr : ∀ r, row = some r → ∃ o : Obj, A.heap[r]? = some o ∧ o.isCells = false) : Chk g r n m B :=
 ⟨cell_kept h.res hg hr, cell_kept h.num hg hr, cell_kept h.many hg hr, (frozen_kept h.res hg hr).trans h.fres, (frozen_kept h.num hg hr).trans h.fnum, (frozen_kept h.many hg hr).trans h.fmany⟩
theorem Chk.below {g : Nat} {r n : Int} {m : Bool} {A B : World} (h : Chk g r n m A) (hb : Below A.heap.size A B) : Chk g r n m B :=
 have f : ∀ p v, A.cell? p = some v → A.frozen? p = false → B.frozen? p = false := fun p _ hc hf => (hb.frozen (World.block_lt_of_cell? A p hc)).trans hf
 ⟨keep hb h.res, keep hb h.num, keep hb h.many, f _ _ h.res h.fres, f _ _ h.num h.fnum, f _ _ h.many h.fmany⟩
theorem Chk.next {g : Nat} {r n n' n2 : Int} {m m' m2 : Bool} {A : World} (h : Chk g r n m A) (hn : n' = n2) (hm : m' = m2) : Chk g r n' m' ((A.setCell ⟨g + 1, 0, none⟩ (.int .i64 n2)).setCell ⟨g + 1 + 1, 0, none⟩ (.bool m2)) := by
 obtain ⟨r1, r2, r3, f1, f2, f3⟩ := h
 subst hn hm
 constructor <;> simp [go_sem, *]
set_option maxRecDepth 100000 in
set_option maxHeartbeats 4000000 in
theorem Check_any (a : Option Addr) (len cap : Nat) (t : Il) (w : World) (hT : Nams w) (hl : ListAt w.heap.size w a len t) (hc : t.count ≤ 4611686018427387900) (hlen : len ≤ 140737488351232) :
  Calls Tryz.prog 119 #[.slice a len cap] w fun e w' => e = .returned (.int .i64 (checkP t)) ∧ Below w.heap.size w w' := by
 have HC := hid hc
 clear hc
 refine (callsIn_wide (n := 3)).1 ?_
 refine callsIn_of_wp_marks Tryz.func119 rfl trivial ?_ rfl
 simp only [Tryz.ntmps119, List.size_toArray, List.length_cons, List.length_nil, Nat.reduceAdd, Nat.reduceSub, Array.replicate_succ, Array.replicate_zero, List.push_toArray, List.append_toArray, List.nil_append, List.cons_append]
 gi_wp2_with (refine ⟨trivial, ?_⟩; refine (within_in _ _ _ _ _).mono ?_; rintro e w' ⟨rfl, rfl⟩)
 have hS0 : Chk w.heap.size 0 0 false (((w.alloc (.cells #[.int .i64 0] 36)).alloc (.cells #[.int .i64 0] 3)).alloc (.cells #[.bool false] 4)) := by constructor <;> go_simp
 have hb := cell_new (((w.alloc (.cells #[.int .i64 0] 36)).alloc (.cells #[.int .i64 0] 3)).alloc (.cells #[.bool false] 4)) (.slice a len cap) 45
 have hS1 := hS0.below ((Below.refl _ _).alloc (Nat.le_refl _) (.cells #[.slice a len cap] 45))
 have hB0 : Below w.heap.size w ((((w.alloc (.cells #[.int .i64 0] 36)).alloc (.cells #[.int .i64 0] 3)).alloc (.cells #[.bool false] 4)).alloc (.cells #[.slice a len cap] 45)) := thenA (thenA (thenA (thenA (Below.refl _ _) _) _) _) _
 have hsz : ((((w.alloc (.cells #[.int .i64 0] 36)).alloc (.cells #[.int .i64 0] 3)).alloc (.cells #[.bool false] 4)).alloc (.cells #[.slice a len cap] 45)).heap.size = w.heap.size + 4 := by simp
 have hsz3 : (((w.alloc (.cells #[.int .i64 0] 36)).alloc (.cells #[.int .i64 0] 3)).alloc (.cells #[.bool false] 4)).heap.size = w.heap.size + 1 + 1 + 1 := by simp
 rw [hsz3] at hb
 clear hS0 hsz3
 obtain ⟨W0, hW0⟩ : ∃ W0, (((w.alloc (.cells #[.int .i64 0] 36)).alloc (.cells #[.int .i64 0] 3)).alloc (.cells #[.bool false] 4)).alloc (.cells #[.slice a len cap] 45) = W0 := ⟨_, rfl⟩
 rw [hW0] at hb hS1 hB0 hsz ⊢
 clear hW0
 refine wpIn_rangeFunc_ownH rfl (by omega) (gf := 186) (lb := #[.pointer (some ⟨w.heap.size + 1 + 1 + 1, 0, none⟩)]) rfl trivial (enters_of Tryz.func186 (by kernel_rfl) rfl)
  (within_stops _ w.heap.size (w.heap.size + 4) (w.heap.size + 1 + 1 + 1) a len cap t W0 (by omega) (by omega) (by omega) hb.1 (hl.below hB0) (by have := HC.out; have := deep_le_count t; omega) hlen) (fun h k => h.trans k) (kept_b (by omega)) (Below.refl _ _) (fun _ => rfl)
  (fun pre W => (allP pre = true ∧ Chk w.heap.size 0 pre.length (manyP pre) W ∧ w.heap.size + 4 ≤ W.heap.size) ∧ Below w.heap.size w W)
  (fun c pre W => (c = .ret ∧ allP pre = false ∧ W.cell? ⟨w.heap.size, 0, none⟩ = some (.int .i64 2)) ∧ Below w.heap.size w W)
  (OwnFrom.and (Own.from (fun s A B row hs hg hr => ⟨hs.1, hs.2.1.own hg hr, Nat.le_trans hs.2.2 hg.size⟩) _) (ownFrom_below (Nat.le_refl _) (by omega)))
  (fun c => OwnFrom.and (Own.from (fun s A B row hs hg hr => ⟨hs.1, hs.2.1, cell_kept hs.2.2 hg hr⟩) _) (ownFrom_below (Nat.le_refl _) (by omega)))
  ⟨⟨rfl, by simpa [manyP, deepest] using hS1, by omega⟩, hB0⟩
  (fun x a' W => ∃ Bx, w.heap.size + 4 ≤ Bx ∧ At x.2 Bx W ∧ a' = { tmps := #[.slice a len cap, undef, .pointer (some ⟨w.heap.size, 0, none⟩), .pointer (some ⟨w.heap.size + 1, 0, none⟩), .pointer (some ⟨w.heap.size + 1 + 1, 0, none⟩), .int .i64 x.1, .pointer (some ⟨Bx, 0, none⟩), .slice a len cap, .func (.func 186) #[] #[.pointer (some ⟨w.heap.size + 1 + 1 + 1, 0, none⟩)], .int .i64 x.1, .agg x.2.vals, undef, undef, undef, undef, undef, undef, undef, undef, undef, undef, undef, undef, undef, undef, undef, undef, undef, undef, undef, undef, undef], defers := [] })
  (fun x a' _ X Y row hs hg hr => by obtain ⟨Bx, h1, h2, h3⟩ := hs; exact ⟨Bx, h1, h2.own hg (fun r e => (hr r e).2), h3⟩)
  ?assign ?body ?done ?stop
 case assign =>
  rintro l pre ⟨d, x⟩ W K ⟨⟨hla, hch, hz⟩, hB1⟩ hK
  simp only [encs, Ix.vals] at hK ⊢
  gi_wp2
  exact hK _ _ ((KeepsOthers.alloc _ _).from _) ((Kept.refl _ _ W).alloc _ (by omega)) ⟨⟨hla, hch.below ((Below.refl _ _).alloc (Nat.le_refl _) _), by simp; omega⟩, thenA hB1 _⟩ ⟨W.heap.size, hz, At.made x W, rfl⟩
 case body =>
  rintro l pre ⟨d, x⟩ a' W hl' ⟨r, hr⟩ ⟨⟨hla, hch, hz⟩, hB1⟩ ⟨Bx, hBx, bX, rfl⟩ hlt
  clear hsz hl'
  have CL := callsIn_wide (n := 3 - 1 - 1 - 1) |>.2 (lawful_any x W (hT.below hB1))
  obtain ⟨q, hq⟩ : ∃ q, lawfulP x = q := ⟨_, rfl⟩
  rw [hq] at CL
  obtain ⟨cnt, hcnt⟩ : ∃ cnt : Int, (pre.length : Int) = cnt := ⟨_, rfl⟩
  have hcb : 0 ≤ cnt ∧ cnt + 1 ≤ 4611686018427387900 := by have := HC.out; omega
  obtain ⟨m, hm⟩ : ∃ m, manyP pre = m := ⟨_, rfl⟩
  have hsn := manyP_snoc pre (d, x)
  have HSN := hid hsn
  have HQ := hid hq
  have HM := hid hm
  have HCN := hid hcnt
  have HLA := hid hla
  rw [hcnt, hm] at hch
  clear hsn hq hm hcnt hla hlt
  unfold Ix.vals at CL
  simp only [Ix.vals]
  obtain ⟨hc0, hc1⟩ := hcb
  have hch' := hch
  have bX' := bX
  obtain ⟨b0, b1, b2, b3, b4, b5, b6, b7⟩ := bX
  obtain ⟨r1, r2, r3, f1, f2, f3⟩ := hch
  gi_wp2_with fail
  refine ⟨trivial, ?_⟩
  refine (CallsIn.inRound l CL).mono ?_
  rintro e W3 ⟨rfl, hb3⟩
  clear CL b0 b1 b2 b3 b4 b5 b6 b7 r1 r2 r3 f1 f2 f3
  have hch3 := hch'.below hb3
  obtain ⟨r1, r2, r3, f1, f2, f3⟩ := hch3
  have bX3 := bX'.below hb3
  obtain ⟨b0, b1, b2, b3, b4, b5, b6, b7⟩ := bX3
  have hkf : KeepsFrom W0.heap.size W W3 := keepsFrom_below hb3
  have hkp : Kept w.heap.size (w.heap.size + 4) W W3 := Kept.of_below hb3 (by omega)
  cases q
  ·gi_wp2
   exact ⟨hkf.trans ((KeepsOthers.setCell _ _ _).from _), ⟨rfl, by rw [allP_snoc, HQ.out, Bool.and_false], World.cell?_setCell_same' _ _ _ (by rw [r1]; rfl)⟩, (thenB hB1 hb3).setCell (p := ⟨w.heap.size, 0, none⟩) (Nat.le_refl _) _⟩
  ·have hch3 : Chk w.heap.size 0 cnt m W3 := hch'.below hb3
   have hln : (((pre ++ [(d, x)]).length : Nat) : Int) = cnt + 1 := by rw [← HCN.out]; simp
   have HLN := hid hln
   clear hln
   gi_wp2
   all_goals
    refine ⟨hkf.trans (((KeepsOthers.setCell _ _ _).trans (KeepsOthers.setCell _ _ _)).from _), (hkp.setCell (p := ⟨w.heap.size + 1, 0, none⟩) (by simp) (by simp) _).setCell (p := ⟨w.heap.size + 1 + 1, 0, none⟩) (by simp; omega) (by simp) _,
      ⟨by rw [allP_snoc, HLA.out, HQ.out]; rfl, hch3.next HLN.out ?_, by have := hb3.size; simp [World.setCell]; omega⟩, ((thenB hB1 hb3).setCell (p := ⟨w.heap.size + 1, 0, none⟩) (by simp) _).setCell (p := ⟨w.heap.size + 1 + 1, 0, none⟩) (by simp; omega) _⟩
    rw [HSN.out, HM.out]
    have hcn := HCN.out
    cases m
    ·simp only [Bool.false_or]
     rw [Bool.eq_iff_iff]
     simp only [Bool.or_eq_true, decide_eq_true_eq]
     constructor <;> intro hh <;> first | rfl | trivial | contradiction | omega | trace_state
    ·simp_all
 case done =>
  rintro D ys W hD rfl ⟨⟨hla, hch, hz⟩, hB⟩ hK
  rw [allP_walk] at hla
  rw [manyP_walk] at hch
  obtain ⟨m, hm⟩ : ∃ m, decide (262144 < t.count ∨ 900 < t.deep ∨ t.tags = true) = m := ⟨_, rfl⟩
  rw [hm] at hch
  have HR : Hid (checkP t = if m then 141 else 0) := by show _ = _; unfold checkP; rw [if_pos hla, ← hm]; simp
  clear hm hla
  obtain ⟨r1, r2, r3, f1, f2, f3⟩ := hch
  cases m
  ·gi_wp2
   have hK' := (KeepsOthers.setCell W ⟨w.heap.size, 0, none⟩ (.int .i64 0)).same D _ hK rfl
   refine ⟨by simp, .inl ⟨_, _, rfl, run_takeDeferred hK', ?_⟩⟩
   have hc5 := cell_kept (World.cell?_setCell_same' W ⟨w.heap.size, 0, none⟩ (.int .i64 0) (by rw [r1]; rfl)) (grownBy_putObj' _ D (.deferred none)) (fun r e => by cases e; exact ⟨_, hK', rfl⟩)
   refine ⟨.int .i64 0, ?_, by rw [HR.out]; rfl, (hB.setCell (p := ⟨w.heap.size, 0, none⟩) (Nat.le_refl _) _).trans (belowK_b (w := w) (Nat.le_refl _) _ D _ _ (by omega) hK' rfl rfl)⟩
   simp [results, Tryz.f119, go_sem, hc5]
  ·gi_wp2
   have hK' := (KeepsOthers.setCell W ⟨w.heap.size, 0, none⟩ (.int .i64 141)).same D _ hK rfl
   refine ⟨by simp, .inl ⟨_, _, rfl, run_takeDeferred hK', ?_⟩⟩
   have hc5 := cell_kept (World.cell?_setCell_same' W ⟨w.heap.size, 0, none⟩ (.int .i64 141) (by rw [r1]; rfl)) (grownBy_putObj' _ D (.deferred none)) (fun r e => by cases e; exact ⟨_, hK', rfl⟩)
   refine ⟨.int .i64 141, ?_, by rw [HR.out]; rfl, (hB.setCell (p := ⟨w.heap.size, 0, none⟩) (Nat.le_refl _) _).trans (belowK_b (w := w) (Nat.le_refl _) _ D _ _ (by omega) hK' rfl rfl)⟩
   simp [results, Tryz.f119, go_sem, hc5]
 case stop =>
  rintro D c pre W hD hpre ⟨⟨rfl, hla, hc2⟩, hB⟩ hK
  have hall : t.all = false := by
   rw [← allP_walk t 1]
   obtain ⟨z, hz⟩ := hpre
   unfold allP at hla ⊢
   rw [← hz, List.all_append, hla]
   rfl
  have HR : Hid (checkP t = 2) := by show _ = _; unfold checkP; rw [hall]; rfl
  clear hall hla hpre
  gi_wp2
  refine ⟨by simp, .inl ⟨_, _, rfl, run_takeDeferred hK, ?_⟩⟩
  have hc5 := cell_kept hc2 (grownBy_putObj' _ D (.deferred none)) (fun r e => by cases e; exact ⟨_, hK, rfl⟩)
  refine ⟨.int .i64 2, ?_, by rw [HR.out], hB.trans (belowK_b (w := w) (Nat.le_refl _) W D _ _ (by omega) hK rfl rfl)⟩
  simp [results, Tryz.f119, go_sem, hc5]
end Go.Proofs.YtepbjkkakfpjgaaGreatDoor.Instr
namespace Go.Proofs.YtepbjkkakfpjgaaGreatDoor.Body
open Go.RowKit Go.Proofs.YtepbjkkakfpjgaaGreatDoor.Instr Leb
open Kind (Rd numR refuseR)
set_option maxRecDepth 100000 in
set_option maxHeartbeats 3200000 in
theorem put1 (B : Nat) (v : Value) (xs : List Int) (x : Ix) (l e : Il) (w : World) (hv : Own B w v xs) (hB : B ≤ w.heap.size) (hx : May x) (hl : ListAt B w x.la x.ln l) (he : ListAt B w x.ea x.en e) (hln : x.ln ≤ 140737488351232) (hen : x.en ≤ 140737488351232) (il : ALok l) (ie : ALok e)
  (hlx : xs.length + (encL l).length + (encL e).length + 3 ≤ 70368744177664) (hk : kindP x.op = 1) (hp : partsP x.op = 65) :
  Calls Tryz.prog 229 #[v, .agg x.vals] w (PutsTo B v w (xs ++ (x.op :: (encRest x ++ (encL l ++ ((if x.en = 0 then [] else 5 :: encL e) ++ [11])))))) := by
 have hop := name_range ((lawful_iff x).1 hx.law).1
 obtain ⟨o0, o1, _, _⟩ := hop
 have F := hid (fun w' => follows_any x.op w')
 rw [hp] at F
 have b1 : bits .and .u8 65 1 = 1 := by decide
 have b2 : bits .and .u8 65 2 = 0 := by decide
 have b4 : bits .and .u8 65 4 = 0 := by decide
 have b8 : bits .and .u8 65 8 = 0 := by decide
 have b16 : bits .and .u8 65 16 = 0 := by decide
 have b32 : bits .and .u8 65 32 = 0 := by decide
 have b64 : bits .and .u8 65 64 = 64 := by decide
 have hXv : v.ownBlock ≠ some w.heap.size := fun h => by have := (World.ownsRow.lt hv _ h).2; omega
 have HXV := hid hXv
 have HW1 : Hid (Below w.heap.size w (w.alloc (.cells x.vals 126))) := hid ((Below.refl w.heap.size w).alloc (Nat.le_refl _) _)
 have X0 := hid (At.made x w)
 have GW : Hid (Grew B v (w.alloc (.cells x.vals 126)) v xs (w.alloc (.cells x.vals 126))) := hid (Grew.refl (hv.alloc _))
 have HB2 : Hid (B ≤ (w.alloc (.cells x.vals 126)).heap.size) := by refine hid ?_; simp; omega
 have LL := hid (hl.below (HW1.out.mono hB))
 have LE := hid (he.below (HW1.out.mono hB))
 have PI := hid (fun (v' : Value) (zs : List Int) (w' : World) (h1 : Own B w' v' zs) (h2 : B ≤ w'.heap.size) (h3 : ListAt B w' x.la x.ln l) (h4 : ListAt B w' x.ea x.en e) (h5 : zs.length + (encL l).length + (encL e).length + 1 ≤ 70368744177664) => inner_any B v' zs x l e w' h1 h2 h3 h4 hln hen il ie h5)
 rw [encRest1 hk]
 obtain ⟨ei, hei⟩ : ∃ r, encL l ++ ((if x.en = 0 then [] else 5 :: encL e) ++ [11]) = r := ⟨_, rfl⟩
 rw [hei] at PI ⊢
 have HL := hid hlx
 obtain ⟨z, hz⟩ : ∃ z : Int, (if x.res = 0 then 64 else 127) = z := ⟨_, rfl⟩
 have PR := hid (fun w' => putResults_any x.res w')
 rw [hz] at PR ⊢
 clear hv hB hl he hln hen il ie hlx hXv hei hk hp hx hz
 unfold Ix.vals at GW X0 HB2 HW1 LL LE PI ⊢
 obtain ⟨c0, c1, c2, c3, c4, c5, c6, c7⟩ := X0.out
 have T0 := hid (show xs.length ≤ 140737488351232 by have := HL.out; omega)
 have T1 := hid (show (xs ++ [x.op]).length ≤ 140737488351232 by have := HL.out; simp only [List.length_append, List.length_cons, List.length_nil]; omega)
 have T2 := hid (show (xs ++ [x.op] ++ [z]).length + (encL l).length + (encL e).length + 1 ≤ 70368744177664 by have := HL.out; simp only [List.length_append, List.length_cons, List.length_nil]; omega)
 go_enter Tryz.func229, Tryz.ntmps229
 go_wp2_with fail
 refine (F.out _).mono ?_
 rintro e w' ⟨rfl, rfl⟩
 generalize hW1 : (w.alloc (.cells #[.int .i64 x.op, .int .i64 x.res, .int .u32 x.a, .int .u32 x.b, .int .i32 x.n, .slice x.ta x.tags.length x.tc, .slice x.la x.ln x.lc, .slice x.ea x.en x.ec] 126)) = W1 at *
 go_wp2_with (first
   | (at_builtin; refine put_byte rfl (.tmp 9) (.tmp 13) rfl x.op rfl GW.out HB2.out rfl T0.out ?_; intro v1 w1 hg1; refine Hid.out ?_))
 refine hid ?_
 have A1 := hg1.at_ X0.out HXV.out
 have GH1 := hid hg1
 clear c0 c1 c2 c3 c4 c5 c6 c7 hg1
 obtain ⟨c0, c1, c2, c3, c4, c5, c6, c7⟩ := A1
 go_wp2_with fail
 refine (PR.out _).mono ?_
 rintro e w' ⟨rfl, rfl⟩
 go_wp2_with (first
   | (at_builtin; refine put_byte rfl (.tmp 18) (.tmp 22) rfl z rfl GH1.out HB2.out rfl T1.out ?_; intro v2 w2 hg2; refine Hid.out ?_))
 refine hid ?_
 have A2 := hg2.at_ X0.out HXV.out
 have hBW := hg2.below GW.out.own HB2.out
 have LL2 := hid (LL.out.below hBW)
 have LE2 := hid (LE.out.below hBW)
 have GH2 := hid hg2
 clear c0 c1 c2 c3 c4 c5 c6 c7 hg2 hBW
 obtain ⟨c0, c1, c2, c3, c4, c5, c6, c7⟩ := A2
 go_wp2_with fail
 refine (PI.out _ _ _ GH2.out.own (Nat.le_trans HB2.out GH2.out.touch.size) LL2.out LE2.out T2.out).mono ?_
 rintro e3 w3 ⟨v3, rfl, hg3⟩
 have HG3 := GH2.out.trans hg3
 clear hg3
 go_wp2
 go_ret
 refine ⟨_, rfl, Grew.pre HW1.out ?_⟩
 simpa [List.append_assoc] using HG3
def encOne (x : Ix) (l e : Il) : List Int := x.op :: (encRest x ++ (if kindP x.op = 1 then encL l ++ ((if x.en = 0 then [] else 5 :: encL e) ++ [11]) else []))
theorem encL_cons (x : Ix) (l e r : Il) : encL (.cons x l e r) = encOne x l e ++ encL r := by simp [encL, encOne]
theorem encOne_len {x : Ix} {l e : Il} (hk : kindP x.op = 1) (he0 : x.en = 0 → e = .nil) : (encL l).length + (encL e).length + 3 ≤ (encOne x l e).length := by
 unfold encOne
 rw [if_pos hk, encRest1 hk]
 by_cases h : x.en = 0
 ·rw [he0 h, if_pos h]; simp [encL]
 ·rw [if_neg h]; simp; omega
theorem appendOne_any (B : Nat) (v : Value) (xs : List Int) (x : Ix) (l e : Il) (w : World) (hv : Own B w v xs) (hB : B ≤ w.heap.size) (hx : May x) (ht : TagsAt B w x.ta x.tags) (hl : ListAt B w x.la x.ln l) (he : ListAt B w x.ea x.en e) (hln : x.ln ≤ 140737488351232) (hen : x.en ≤ 140737488351232) (il : ALok l) (ie : ALok e)
  (hlx : xs.length + (encOne x l e).length ≤ 70368744177664) (he0 : x.en = 0 → e = .nil) : Calls Tryz.prog 229 #[v, .agg x.vals] w (PutsTo B v w (xs ++ encOne x l e)) := by
 have hlx' : xs.length ≤ 70368744177700 := by omega
 have hl3 : kindP x.op = 1 → xs.length + (encL l).length + (encL e).length + 3 ≤ 70368744177664 := fun hk => by have := encOne_len (l := l) hk he0; omega
 clear hlx
 unfold encOne
 rcases parts_kind x.op with ⟨hk, hp⟩ | ⟨hk, hp⟩ | ⟨hk, hp⟩ | ⟨hk, hp⟩ | ⟨hk, hp⟩ | ⟨hk, hp⟩ | ⟨hk, hp⟩ | ⟨hk, hp⟩
 ·rw [if_neg (by omega), List.append_nil]; exact put0 B v xs x w hv hB hx ht hlx' hk hp
 ·rw [if_pos hk]; exact put1 B v xs x l e w hv hB hx hl he hln hen il ie (hl3 hk) hk hp
 ·rw [if_neg (by omega), List.append_nil]; exact put2 B v xs x w hv hB hx ht hlx' hk hp
 ·rw [if_neg (by omega), List.append_nil]; exact put3 B v xs x w hv hB hx ht hlx' hk hp
 ·rw [if_neg (by omega), List.append_nil]; exact put4 B v xs x w hv hB hx ht hlx' hk hp
 ·rw [if_neg (by omega), List.append_nil]; exact put5 B v xs x w hv hB hx ht hlx' hk hp
 ·rw [if_neg (by omega), List.append_nil]; exact put6 B v xs x w hv hB hx ht hlx' hk hp
 ·rw [if_neg (by omega), List.append_nil]; exact put7 B v xs x w hv hB hx ht hlx' hk hp
set_option maxRecDepth 100000 in
set_option maxHeartbeats 3200000 in
theorem appendList_ok : ∀ (m : Nat) (t : Il), t.count ≤ m → MayT t → ALok t := by
 intro m
 induction m with
 | zero =>
  intro t hm _ B v xs a n c w hv hB hL hn hx
  cases t with
  | cons x l e r => simp only [Il.count] at hm; omega
  | nil =>
   have h0 : n = 0 := hL.1.symm
   subst h0
   have HV := hid hv
   clear hm hL hn hx hv
   go_enter Tryz.func213, Tryz.ntmps213
   go_wp2
   go_loopw [0, 9] (fun s0 si wr => s0 = v ∧ si = .int .i64 0 ∧ wr = w) (fun _ _ _ => 0)
   case atStart => exact ⟨rfl, rfl, rfl⟩
   case round =>
    obtain ⟨rfl, rfl, rfl⟩ := hrel
    go_wp2
    go_ret
    exact ⟨_, rfl, by simpa [encL] using Grew.refl HV.out⟩
 | succ m ih =>
  intro t hm hmay B v xs a n c w hv hB hL hn hx
  have HV := hid hv
  obtain ⟨hL1, hL2⟩ := hL
  rcases hL2 with rfl | ⟨b, off, rfl, hi⟩
  ·have h0 : n = 0 := hL1.symm
   subst h0
   clear hm hL1 hn hx hv ih hmay
   go_enter Tryz.func213, Tryz.ntmps213
   go_wp2
   go_loopw [0, 9] (fun s0 si wr => s0 = v ∧ si = .int .i64 0 ∧ wr = w) (fun _ _ _ => 0)
   case atStart => exact ⟨rfl, rfl, rfl⟩
   case round =>
    obtain ⟨rfl, rfl, rfl⟩ := hrel
    go_wp2
    go_ret
    exact ⟨_, rfl, by simpa [encL] using Grew.refl HV.out⟩
  ·have HM := hid hm
   have HX := hid hx
   have HL1 := hid hL1
   have HI := hid hi
   have HMAY := hid hmay
   have HIH := hid ih
   clear hm hx hL1 hi hmay ih hv
   go_enter Tryz.func213, Tryz.ntmps213
   go_wp2
   go_loopw [0, 9] (fun s0 si wr => ∃ (k : Nat) (rest : Il) (ys : List Int), si = .int .i64 k ∧ k ≤ n ∧ Hid (k + rest.len = n ∧ rest.count ≤ t.count ∧ MayT rest ∧ ys ++ encL rest = encL t) ∧ Hid (Items B w b (off + k * 8) rest) ∧ Hid (Grew B v w s0 (xs ++ ys) wr))
    (fun _ si _ => n - (intOf si).toNat)
   case atStart => exact ⟨0, t, [], rfl, Nat.zero_le _, ⟨by have := HL1.out; omega, Nat.le_refl _, HMAY.out, rfl⟩, by simpa using HI, hid (by simpa using Grew.refl HV.out)⟩
   case round =>
    obtain ⟨k, rest, ys, rfl, hk, HR, HIR, HG⟩ := hrel
    cases rest with
    | nil =>
     obtain ⟨r1, _, _, r4⟩ := HR.out
     have hkl : k = n := by simpa [Il.len] using r1
     have HE : Hid (ys = encL t) := by show _ = _; rw [← r4]; simp [encL]
     clear r4
     subst hkl
     rw [HE.out] at HG
     go_wp2
     go_ret
     exact ⟨_, rfl, HG.out⟩
    | cons x tl te r =>
     obtain ⟨r1, r2, r3, r4⟩ := HR.out
     obtain ⟨mx, mfl, mfe, mtl, mte, mr⟩ := r3
     have hbw := HG.out.below HV.out hB
     have hir := Items.below hbw HIR.out
     obtain ⟨hbn, hxok, ⟨c0, c1, c2, c3, c4, c5, c6, c7⟩, ht, hLl, hLe, _⟩ := hir
     have hlt : k < n := by simp only [Il.len] at r1; omega
     have hcnt : tl.count ≤ m ∧ te.count ≤ m := by have := HM.out; simp only [Il.count] at r2; omega
     rw [encL_cons] at r4
     have hlen4 : (xs ++ ys).length + (encOne x tl te).length ≤ 70368744177664 := by
      have h1 := congrArg List.length r4
      have h2 := HX.out
      simp only [List.length_append] at h1 ⊢
      omega
     have AO := appendOne_any B
     have PO := hid (fun (v' : Value) (w' : World) (h1 : Own B w' v' (xs ++ ys)) (h2 : B ≤ w'.heap.size) (hb : Below B w w') =>
       AO v' (xs ++ ys) x tl te w' h1 h2 mx ((HIR.out).2.2.2.1.below hb) (ListAt.below hb (HIR.out).2.2.2.2.1) (ListAt.below hb (HIR.out).2.2.2.2.2.1) hxok.ln hxok.en (HIH.out tl hcnt.1 mtl) (HIH.out te hcnt.2 mte) hlen4 (fun h => list_of_row.len_zero (by omega)))
     have HNX : Hid (Items B w b (off + (k + 1) * 8) r) := by
      rw [show off + (k + 1) * 8 = off + k * 8 + 8 by omega]
      exact hid (HIR.out).2.2.2.2.2.2
     have HR2 : Hid ((k + 1) + r.len = n ∧ r.count ≤ t.count ∧ MayT r ∧ (ys ++ encOne x tl te) ++ encL r = encL t) := hid ⟨by simp only [Il.len] at r1; omega, by simp only [Il.count] at r2; omega, mr, by rw [List.append_assoc]; exact r4⟩
     have G0 := hid (HG.out.post ((Below.refl wr.heap.size wr).alloc (Nat.le_refl _) (.cells x.vals 126)))
     obtain ⟨eo, heo⟩ : ∃ r, encOne x tl te = r := ⟨_, rfl⟩
     rw [heo] at PO HR2
     clear r1 r2 r4 hcnt hlen4 AO heo mx mfl mfe mtl mte mr hbw ht hLl hLe hxok hbn
     unfold Ix.vals at PO G0
     go_wp2_with fail
     refine (PO.out _ _ G0.out.own (Nat.le_trans hB G0.out.touch.size) (G0.out.below HV.out hB)).mono ?_
     clear PO
     rintro e3 w3 ⟨v3, rfl, hg3⟩
     have HG3 := hid (G0.out.trans hg3)
     clear hg3
     go_wp2
     go_roundw
     case rel => exact ⟨k + 1, r, ys ++ eo, by simp, by omega, HR2, HNX, by rw [← List.append_assoc]; exact HG3⟩
     case measure => simp [intOf]; omega
theorem appendList_any (t : Il) (h : MayT t) : ALok t := appendList_ok t.count t (Nat.le_refl _) h
end Go.Proofs.YtepbjkkakfpjgaaGreatDoor.Body
/-
  BODY: Put, by contract.
-/
namespace Go.Proofs.YtepbjkkakfpjgaaGreatDoor.Body
open Go.RowKit Go.Proofs.YtepbjkkakfpjgaaGreatDoor.Instr Leb
open Kind (Rd numR refuseR)
theorem items_fit {n₀ : Nat} {w : World} : ∀ {t : Il} {b off : Nat}, Items n₀ w b off t → t.fit ∧ t.nums
 | .nil, _, _, _ => ⟨trivial, trivial⟩
 | .cons x l e r, _, _, ⟨_, hx, _, _, ⟨l1, l2⟩, ⟨e1, e2⟩, hr⟩ => by
  have hl : l.fit ∧ l.nums := by
   rcases l2 with rfl | ⟨b', o', _, hi⟩
   ·exact ⟨trivial, trivial⟩
   ·exact items_fit hi
  have he : e.fit ∧ e.nums := by
   rcases e2 with rfl | ⟨b', o', _, hi⟩
   ·exact ⟨trivial, trivial⟩
   ·exact items_fit hi
  have hr := items_fit hr
  exact ⟨⟨l1, e1, hl.1, he.1, hr.1⟩, ⟨hx.a, hx.b, hx.n, hx.tags, hl.2, he.2, hr.2⟩⟩
theorem list_fits {n₀ : Nat} {w : World} {a : Option Addr} {n : Nat} {t : Il} (h : ListAt n₀ w a n t) : t.fit ∧ t.nums := by
 rcases h.2 with rfl | ⟨b, o, _, hi⟩
 ·exact ⟨trivial, trivial⟩
 ·exact items_fit hi
theorem check_parts {t : Il} (h : checkP t = 0) : t.all = true ∧ t.count ≤ 262144 ∧ t.deep ≤ 900 ∧ t.tags = false := by
 unfold checkP at h
 split at h
 ·rename_i ha
  split at h
  ·omega
  ·rename_i hb
   refine ⟨ha, by omega, by omega, ?_⟩
   rw [← Bool.not_eq_true]
   intro ht
   exact hb (.inr (.inr ht))
 ·omega
theorem mayT_list {n₀ : Nat} {w : World} {a : Option Addr} {n : Nat} {t : Il} (h : ListAt n₀ w a n t) (hc : checkP t = 0) : MayT t := by
 obtain ⟨h1, _, _, h4⟩ := check_parts hc
 obtain ⟨h5, h6⟩ := list_fits h
 exact mayT_of t h1 h4 h5 h6
def PutP (w : World) (zs : List Int) (er : Int) (e : Ending) (w' : World) : Prop := ∃ v, e = .returned (.tuple #[v, .int .i64 er]) ∧ Own w.heap.size w' v zs ∧ Below w.heap.size w w'
def putB (t : Il) : List Int := if checkP t = 0 then encP t else []
set_option maxRecDepth 100000 in
set_option maxHeartbeats 1600000 in
theorem Put_any (t : Il) (a : Option Addr) (n c : Nat) (w : World) (hL : ListAt w.heap.size w a n t) (hn : n ≤ 140737488351232) (hT : Nams w) (hc : t.count ≤ 4611686018427387900) (hx : (encL t).length ≤ 70368744177664) :
  Calls Tryz.prog 197 #[.slice a n c] w (PutP w (putB t) (checkP t)) := by
 have CK := hid (Check_any a n c t w hT hL hc hn)
 by_cases h0 : checkP t = 0
 ·have hm := mayT_list hL h0
  have AL := hid (fun w' (hb : Below w.heap.size w w') => appendList_any t hm w'.heap.size (.slice none 0 0) [] a n c w' ⟨rfl, .inl ⟨rfl, rfl⟩⟩ (Nat.le_refl _) (hL.on hb) hn (by simpa using hx))
  unfold putB
  rw [if_pos h0]
  rw [h0] at CK ⊢
  obtain ⟨z, hz⟩ : ∃ z, encL t = z := ⟨_, rfl⟩
  unfold encP
  rw [hz] at AL hx ⊢
  have HX := hid hx
  clear hL hn hT hc hx h0 hm hz
  go_enter Tryz.func197, Tryz.ntmps197
  go_wp2_with fail
  refine CK.out.mono ?_
  clear CK
  rintro e w1 ⟨rfl, hb1⟩
  go_wp2_with fail
  refine (AL.out w1 hb1).mono ?_
  clear AL
  rintro e w2 ⟨v2, rfl, hg2⟩
  simp only [List.nil_append] at hg2
  have HG := hid hg2
  have HB : Hid (w1.heap.size ≤ w1.heap.size) := hid (Nat.le_refl _)
  have HB1 := hid hb1
  have T1 := hid (show z.length ≤ 140737488351232 by have := HX.out; omega)
  clear hg2
  go_wp2_with (first
    | (at_builtin; refine put_byte rfl (.tmp 11) (.tmp 12) rfl 11 rfl HG.out HB.out rfl T1.out ?_; intro v3 w3 hg3; refine Hid.out ?_))
  refine hid ?_
  go_wp2
  go_ret2
  refine ⟨v3, rfl, hg3.own.mono hb1.size, HB1.out.trans ((hg3.below (show Own w1.heap.size w1 (.slice none 0 0) [] from ⟨rfl, .inl ⟨rfl, rfl⟩⟩) (Nat.le_refl _)).mono hb1.size)⟩
 ·unfold putB
  rw [if_neg h0]
  obtain ⟨q, hq⟩ : ∃ q, checkP t = q := ⟨_, rfl⟩
  rw [hq] at CK h0 ⊢
  have h1 : (q != 0) = true := by simp [h0]
  clear hL hn hT hc hx hq
  go_enter Tryz.func197, Tryz.ntmps197
  go_wp2_with fail
  refine CK.out.mono ?_
  clear CK
  rintro e w1 ⟨rfl, hb1⟩
  go_wp2
  go_ret2
  exact ⟨_, rfl, ⟨rfl, .inl ⟨rfl, rfl⟩⟩, hb1⟩
end Go.Proofs.YtepbjkkakfpjgaaGreatDoor.Body
namespace Go.Proofs.YtepbjkkakfpjgaaGreatDoor.Body
open Go.RowKit Go.Proofs.YtepbjkkakfpjgaaGreatDoor.Instr Leb
open Kind (Parts concat_any)
theorem parts3 {w : World} {g : Nat} (hg : g = w.heap.size) {a0 a1 a2 : Option Addr} {n0 n1 n2 c0 c1 c2 : Nat} {t : TypeId} {l0 l1 l2 : List Int} (h0 : Bytes w a0 l0) (h1 : Bytes w a1 l1) (h2 : Bytes w a2 l2) (k0 : l0.length = n0) (k1 : l1.length = n1) (k2 : l2.length = n2)
  (m0 : a0 = none → c0 = 0) (m1 : a1 = none → c1 = 0) (m2 : a2 = none → c2 = 0) : Parts (w.alloc (.cells #[.slice a0 n0 c0, .slice a1 n1 c1, .slice a2 n2 c2] t)) g [l0, l1, l2] := by
 subst hg
 intro j hj
 match j, hj with
 | 0, _ => exact ⟨a0, c0, by subst k0; go_simp, h0.alloc _, m0⟩
 | 1, _ => exact ⟨a1, c1, by subst k1; go_simp, h1.alloc _, m1⟩
 | 2, _ => exact ⟨a2, c2, by subst k2; go_simp, h2.alloc _, m2⟩
theorem parts2 {w : World} {g : Nat} (hg : g = w.heap.size) {a0 a1 : Option Addr} {n0 n1 c0 c1 : Nat} {t : TypeId} {l0 l1 : List Int} (h0 : Bytes w a0 l0) (h1 : Bytes w a1 l1) (k0 : l0.length = n0) (k1 : l1.length = n1)
  (m0 : a0 = none → c0 = 0) (m1 : a1 = none → c1 = 0) : Parts (w.alloc (.cells #[.slice a0 n0 c0, .slice a1 n1 c1] t)) g [l0, l1] := by
 subst hg
 intro j hj
 match j, hj with
 | 0, _ => exact ⟨a0, c0, by subst k0; go_simp, h0.alloc _, m0⟩
 | 1, _ => exact ⟨a1, c1, by subst k1; go_simp, h1.alloc _, m1⟩
theorem made_one (w : World) (e : TypeId) (g : Nat) (hg : g = w.heap.size) : Bytes (w.alloc (.cells #[.int .u8 127] e)) (some ⟨g, 0, none⟩) [127] := by
 subst hg
 refine ⟨by simp, by simp, .inr ⟨w.heap.size, 0, rfl, fun i hi => ?_⟩⟩
 obtain rfl : i = 0 := by simpa using hi
 simp [go_sem]
theorem loc_flat {n : Int} (h : n ≠ 0) : [encU 1, encU n, [127]].flatten = locL n := by unfold locL; rw [if_neg h]; simp [show encU 1 = [1] from encU_last (by omega) (by omega)]
theorem loc_len (n : Int) : (locL n).length ≤ 7 ∧ locL n ≠ [] := by
 have := (encU_lens n).1
 unfold locL
 split <;> simp; omega
theorem loc_bytes (n : Int) : ∀ z ∈ locL n, 0 ≤ z ∧ z < 256 := by
 intro z hz
 unfold locL at hz
 split at hz
 ·simp at hz; omega
 ·rcases List.mem_cons.1 hz with rfl | hz
  ·omega
  ·rcases List.mem_append.1 hz with h | h
   ·exact encU_bytes _ z h
   ·simp at h; omega
theorem rest_bytesC {x : Ix} (_hx : May x) : ∀ z ∈ encRest x, 0 ≤ z ∧ z < 256 := by
 intro z hz
 unfold encRest encTags at hz
 split at hz
 ·split at hz <;> simp at hz <;> omega
 ·exact encU_bytes _ z hz
 ·rcases List.mem_append.1 hz with h | h
  ·exact encU_bytes _ z h
  ·simp at h; omega
 ·rcases List.mem_append.1 hz with h | h
  ·rcases List.mem_append.1 h with h | h
   ·exact encU_bytes _ z h
   ·obtain ⟨n, _, hn⟩ := List.mem_flatMap.1 h
    exact encU_bytes _ z hn
  ·exact encU_bytes _ z h
 ·rcases List.mem_append.1 hz with h | h
  ·exact encU_bytes _ z h
  ·exact encU_bytes _ z h
 ·simp at hz; omega
 ·exact encS_bytes _ z hz
 ·simp at hz
theorem encL_bytesC : ∀ t : Il, MayT t → ∀ z ∈ encL t, 0 ≤ z ∧ z < 256
 | .nil, _ => by simp [encL]
 | .cons x l e r, ⟨hx, _, _, hl, he, hr⟩ => by
  have h0 := rest_bytesC hx
  have h1 := encL_bytesC l hl
  have h2 := encL_bytesC e he
  have h3 := encL_bytesC r hr
  have hop := name_range ((lawful_iff x).1 hx.law).1
  intro z hz
  simp only [encL] at hz
  rcases List.mem_cons.1 hz with rfl | hz
  ·omega
  ·rcases List.mem_append.1 hz with h | h
   ·exact h0 z h
   ·rcases List.mem_append.1 h with h | h
    ·split at h
     ·rcases List.mem_append.1 h with h | h
      ·exact h1 z h
      ·rcases List.mem_append.1 h with h | h
       ·split at h
        ·simp at h
        ·rcases List.mem_cons.1 h with rfl | h
         ·omega
         ·exact h2 z h
       ·simp at h; omega
     ·simp at h
    ·exact h3 z h
theorem encP_bytesC {t : Il} (h : MayT t) : ∀ z ∈ encP t, 0 ≤ z ∧ z < 256 := by
 intro z hz
 rcases List.mem_append.1 hz with hz | hz
 ·exact encL_bytesC t h z hz
 ·simp at hz; omega
theorem alloc_below' (w : World) (o : Obj) : Below w.heap.size w (w.alloc o) := (Below.refl _ _).alloc (Nat.le_refl _) o
set_option maxHeartbeats 1600000 in
theorem putLocals_any (n : Int) (h0 : 0 ≤ n) (h1 : n < 4294967296) (w : World) : Calls Tryz.prog 214 #[.int .u32 n] w (Gives w (locL n)) := by
 by_cases hn : n = 0
 ·subst hn
  have HE : Hid (encU 0 = locL 0) := hid (show encU 0 = locL 0 by unfold locL; rw [if_pos rfl]; exact encU_last (by omega) (by omega))
  go_enter Tryz.func214, Tryz.ntmps214
  go_wp2_with fail
  refine (putU_any 0 _ (by omega) (by omega)).mono ?_
  rw [HE.out]
  rintro e w1 ⟨v, rfl, ho, hb⟩
  go_wp2
  go_ret
  exact ⟨_, rfl, ho, hb⟩
 ·have HF := hid (loc_flat hn)
  have HL := hid (loc_len n)
  have l0 := (encU_lens 1).1
  have l1 := (encU_lens n).1
  go_enter Tryz.func214, Tryz.ntmps214
  go_wp2_with fail
  refine (putU_any 1 _ (by omega) (by omega)).mono ?_
  rintro e w1 ⟨v1, rfl, ho1, hb1⟩
  obtain ⟨m1, hm1⟩ : ∃ m, (encU 1).length = m := ⟨_, rfl⟩
  obtain ⟨a1, c1, rfl⟩ := ho1.sliceN hm1
  have y1 := ho1.bytes (encU_bytes 1) (by omega)
  have HN1 := ho1.nil
  have HB1 := hid hb1
  have HM1 := hid hm1
  have HY1 := hid y1
  clear ho1 hb1 hm1 y1
  go_wp2_with fail
  refine (putU_any n _ (by omega) (by omega)).mono ?_
  rintro e w2 ⟨v2, rfl, ho2, hb2⟩
  obtain ⟨m2, hm2⟩ : ∃ m, (encU n).length = m := ⟨_, rfl⟩
  obtain ⟨a2, c2, rfl⟩ := ho2.sliceN hm2
  have y2 := ho2.bytes (encU_bytes n) (by omega)
  have HN2 := ho2.nil
  have HB2 := hid (thenB HB1.out hb2)
  have HM2 := hid hm2
  have HY1 := hid (HY1.out.below hb2)
  have HY2 := hid y2
  clear ho2 hb2 hm2 y2 HB1
  have CC := hid (fun g (hg : g = (w2.alloc (.cells #[.int .u8 127] 5)).heap.size) => concat_any g 3 3 [encU 1, encU n, [127]] _ rfl (parts3 (t := 35) hg (HY1.out.alloc (.cells #[.int .u8 127] 5)) (HY2.out.alloc _) (made_one w2 5 w2.heap.size rfl) HM1.out HM2.out (n2 := 1) (c2 := 1) rfl HN1.out HN2.out (by simp))
    (by rw [HF.out]; exact List.length_pos_iff.2 HL.out.2) (by rw [HF.out]; have := HL.out.1; omega) (by omega))
  go_wp2_with fail
  refine (CC.out _ (by simp)).mono ?_
  rw [HF.out]
  rintro e w4 ⟨v, rfl, ho, hb⟩
  have HB3 := (thenA (thenA HB2.out _) _).trans (hb.mono (by have := HB2.out.size; simp; omega))
  go_wp2
  go_ret
  exact ⟨_, rfl, ho.mono (by have := HB2.out.size; simp; omega), HB3⟩
def checkC (n : Int) (t : Il) : Int := if n < 0 ∨ 50000 < n then 2 else checkP t
def putC (n : Int) (t : Il) : List Int := if checkC n t = 0 then codeL n t else []
theorem box_at (w : World) (n : Int) (a : Option Addr) (len c : Nat) (e : TypeId) : (w.alloc (.cells #[.int .i64 n, .slice a len c] e)).cell? ⟨w.heap.size, 0, none⟩ = some (.int .i64 n) ∧ (w.alloc (.cells #[.int .i64 n, .slice a len c] e)).cell? ⟨w.heap.size, 1, none⟩ = some (.slice a len c) := by
 constructor <;> simp [go_sem]
set_option maxRecDepth 100000 in
set_option maxHeartbeats 1600000 in
theorem PutCode_any (n : Int) (t : Il) (a : Option Addr) (len c : Nat) (w : World) (hL : ListAt w.heap.size w a len t) (hn : len ≤ 140737488351232) (hT : Nams w) (hc : t.count ≤ 4611686018427387900) (hx : (encL t).length ≤ 90000) :
  Calls Tryz.prog 198 #[.agg #[.int .i64 n, .slice a len c]] w (PutP w (putC n t) (checkC n t)) := by
 by_cases hr : n < 0 ∨ 50000 < n
 ·have hce : checkC n t = 2 := if_pos hr
  have hpe : putC n t = [] := by unfold putC; rw [hce, if_neg (by decide)]
  rw [hce, hpe]
  clear hce hpe hL hn hT hc hx
  rcases hr with hr | hr
  ·go_enter Tryz.func198, Tryz.ntmps198
   go_wp2
   go_ret2
   exact ⟨_, rfl, ⟨rfl, .inl ⟨rfl, rfl⟩⟩, thenA (Below.refl _ _) _⟩
  ·have hr0 : ¬ n < 0 := by omega
   go_enter Tryz.func198, Tryz.ntmps198
   go_wp2
   go_ret2
   exact ⟨_, rfl, ⟨rfl, .inl ⟨rfl, rfl⟩⟩, thenA (Below.refl _ _) _⟩
 ·have hr0 : 0 ≤ n := by omega
  have hr1 : n ≤ 50000 := by omega
  have hr2 : ¬ n < 0 := by omega
  have hr3 : ¬ 50000 < n := by omega
  have hce : checkC n t = checkP t := if_neg hr
  have hpe : putC n t = if checkP t = 0 then codeL n t else [] := by unfold putC; rw [hce]
  rw [hce, hpe]
  have hb0 := alloc_below' w (.cells #[.int .i64 n, .slice a len c] 64)
  have PC := hid (Put_any t a len c _ (hL.on hb0) hn (hT.below hb0) hc (by omega))
  obtain ⟨x0, x1⟩ := box_at w n a len c 64
  have X0 := hid x0
  have HB0 := hid hb0
  by_cases h0 : checkP t = 0
  ·have hm := mayT_list hL h0
   rw [if_pos h0]
   have hput : putB t = encP t := by unfold putB; rw [if_pos h0]
   rw [hput, h0] at PC
   rw [h0]
   have hlen : (encP t).length = (encL t).length + 1 := by simp [encP]
   have HBY := hid (encP_bytesC hm)
   obtain ⟨zs, hzs⟩ : ∃ zs, encP t = zs := ⟨_, rfl⟩
   have hcode : codeL n t = [locL n, zs].flatten := by unfold codeL; rw [hzs]; simp
   rw [hcode]
   rw [hzs] at PC hlen HBY
   obtain ⟨L, hLn⟩ : ∃ L, zs.length = L := ⟨_, rfl⟩
   have HL := hid hLn
   have HLEN := hid (show 1 ≤ L ∧ L ≤ 90001 by omega)
   have HLOC := hid (loc_len n)
   have PL := hid (fun w' => putLocals_any n hr0 (by omega) w')
   clear hr hce hpe hput h0 hm hlen hzs hcode hLn hx hc hT hL x0 x1 hb0
   go_enter Tryz.func198, Tryz.ntmps198
   go_wp2_with fail
   refine PC.out.mono ?_
   clear PC
   rintro e w1 ⟨v, rfl, ho, hb1⟩
   obtain ⟨a1, c1, rfl⟩ := ho.sliceN (n := L) HL.out
   have y1 := ho.bytes HBY.out (by have := HL.out; have := HLEN.out; omega)
   have HN1 := ho.nil
   have x0 := keep hb1 X0.out
   have HB1 := hid (HB0.out.trans (hb1.mono HB0.out.size))
   have HY1 := hid y1
   clear ho hb1 y1 X0 HB0 HBY
   go_wp2_with fail
   refine (PL.out w1).mono ?_
   clear PL
   rintro e w2 ⟨v2, rfl, ho2, hb2⟩
   obtain ⟨m2, hm2⟩ : ∃ m, (locL n).length = m := ⟨_, rfl⟩
   obtain ⟨a2, c2, rfl⟩ := ho2.sliceN hm2
   have y2 := ho2.bytes (loc_bytes n) (by have := HLOC.out.1; omega)
   have HN2 := ho2.nil
   have CC := hid (fun g (hg : g = w2.heap.size) => concat_any g 2 2 [locL n, zs] _ rfl (parts2 (t := 35) hg y2 (HY1.out.below hb2) hm2 HL.out HN2.out HN1.out)
     (by simp; have := HLEN.out; have := HL.out; omega) (by simp; have := HLEN.out; have := HL.out; have := HLOC.out.1; omega) (by omega))
   have HB2 := hid (HB1.out.trans (hb2.mono HB1.out.size))
   clear ho2 hb2 y2 hm2 HY1 HB1 x0
   go_wp2_with fail
   refine (CC.out _ rfl).mono ?_
   clear CC
   rintro e w3 ⟨v3, rfl, ho3, hb3⟩
   have HB3 := hid ((thenA HB2.out _).trans (hb3.mono (by have := HB2.out.size; simp; omega)))
   have HO := hid (ho3.mono (base' := w.heap.size) (by have := HB2.out.size; simp; omega))
   clear ho3 hb3 HB2
   go_wp2
   go_ret2
   exact ⟨_, rfl, HO.out, HB3.out⟩
  ·rw [if_neg h0]
   have hput : putB t = [] := by unfold putB; rw [if_neg h0]
   rw [hput] at PC
   obtain ⟨q, hq⟩ : ∃ q, checkP t = q := ⟨_, rfl⟩
   rw [hq] at PC h0 ⊢
   have h1 : (q != 0) = true := by simp [h0]
   clear hr hce hpe hput hq hx hc hT hL x0 x1 hb0 X0
   go_enter Tryz.func198, Tryz.ntmps198
   go_wp2_with fail
   refine PC.out.mono ?_
   clear PC
   rintro e w1 ⟨v, rfl, ho, hb1⟩
   have HB1 := hid (HB0.out.trans (hb1.mono HB0.out.size))
   clear ho hb1
   go_wp2
   go_ret2
   exact ⟨_, rfl, ⟨rfl, .inl ⟨rfl, rfl⟩⟩, HB1.out⟩
end Go.Proofs.YtepbjkkakfpjgaaGreatDoor.Body
namespace Go.Proofs.YtepbjkkakfpjgaaGreatDoor.Kind
open Go.RowKit
theorem nearestType_any (p r : Int) (w : World) : Calls Tryz.prog 181 #[.agg #[.int .i64 p, .int .i64 r]] w
  fun e w' => e = .returned (.agg #[.int .i64 (min (max p 0) 255), .int .i64 (min (max r 0) 1)]) ∧ Below w.heap.size w w' := by
 go_enter Tryz.func181, Tryz.ntmps181
 go_wp2
 all_goals
  refine bodyPost_ret (v := .agg #[.int .i64 (min (max p 0) 255), .int .i64 (min (max r 0) 1)]) ?_ rfl ⟨rfl, ((Below.refl _ _).alloc (Nat.le_refl _) _).alloc (by simp) _⟩
  first
   | (simp [results, Tryz.results181, go_sem]; done)
   | (simp [results, Tryz.results181, go_sem]; omega)
theorem near_ok {p r : Int} (h : okType p r = true) : min (max p 0) 255 = p ∧ min (max r 0) 1 = r := by
 unfold okType at h; simp at h; omega
theorem near_no {p r : Int} (h : okType p r = false) : ¬ (p = min (max p 0) 255 ∧ r = min (max r 0) 1) := by
 rintro ⟨h1, h2⟩
 have : okType p r = true := by unfold okType; simp; omega
 rw [h] at this; cases this
theorem box_start (w : World) (x y : Value) (t : TypeId) : Below w.heap.size w (w.alloc (.cells #[x, y] t)).drew ∧ (w.alloc (.cells #[x, y] t)).drew.cell? ⟨w.heap.size, 0, none⟩ = some x ∧ (w.alloc (.cells #[x, y] t)).drew.cell? ⟨w.heap.size, 1, none⟩ = some y :=
 ⟨((Below.refl _ _).alloc (Nat.le_refl _) _).drew, by go_simp, by go_simp⟩
theorem box_keep {w w1 w2 : World} {x y : Value} {k : Nat} (h : Below w.heap.size w w1 ∧ w1.cell? ⟨k, 0, none⟩ = some x ∧ w1.cell? ⟨k, 1, none⟩ = some y) (hb : Below w1.heap.size w1 w2) :
  Below w.heap.size w w2 ∧ w2.cell? ⟨k, 0, none⟩ = some x ∧ w2.cell? ⟨k, 1, none⟩ = some y := ⟨thenB h.1 hb, keep hb h.2.1, keep hb h.2.2⟩
theorem box_out {w w1 : World} {x y : Value} {k : Nat} (h : Below w.heap.size w w1 ∧ w1.cell? ⟨k, 0, none⟩ = some x ∧ w1.cell? ⟨k, 1, none⟩ = some y) : Below w.heap.size w w1 := h.1
def codeType (p r : Int) : Int := if okType p r then 0 else 2
set_option maxHeartbeats 800000 in
theorem check_any (p r : Int) (w : World) : Calls Tryz.prog 124 #[.agg #[.int .i64 p, .int .i64 r]] w
  fun e w' => e = .returned (.int .i64 (codeType p r)) ∧ Below w.heap.size w w' := by
 have q1 := eqType
 have q2 := guardType
 have hN := fun w => nearestType_any p r w
 by_cases h : okType p r = true
 ·obtain ⟨e1, e2⟩ := near_ok h
  have HC : Hid (codeType p r = 0) := by unfold codeType; rw [if_pos h]; rfl
  simp only [e1, e2] at hN
  clear h e1 e2
  go_enter Tryz.func124, Tryz.ntmps124
  go_wp2
  go_region_held3 (fun w' => Below w.heap.size w w' ∧ w'.cell? ⟨w.heap.size, 0, none⟩ = some (.int .i64 p) ∧ w'.cell? ⟨w.heap.size, 1, none⟩ = some (.int .i64 r)) (first | assumption | exact box_start w _ _ _ | exact box_keep (by assumption) (by assumption))
   (first
     | (go_at_call 181; refine (hN _).mono ?_; rintro e w2 ⟨rfl, hb2⟩))
  go_wp2
  go_ret
  exact ⟨ret_int HC.out.symm, box_out (x := .int .i64 p) (y := .int .i64 r) (k := w.heap.size) (by assumption)⟩
 ·have h' : okType p r = false := by simpa using h
  have hn := near_no h'
  have HC : Hid (codeType p r = 2) := by unfold codeType; rw [h']; rfl
  generalize min (max p 0) 255 = m1 at *
  generalize min (max r 0) 1 = m2 at *
  have hor : (p == m1) = false ∧ (p != m1) = true ∨ (r == m2) = false ∧ (r != m2) = true := by
   by_cases h1 : p = m1
   ·right
    have : r ≠ m2 := fun h2 => hn ⟨h1, h2⟩
    simp [this]
   ·left; simp [h1]
  clear h h' hn
  rcases hor with ⟨n1, n2⟩ | ⟨n1, n2⟩
  all_goals
   go_enter Tryz.func124, Tryz.ntmps124
   go_wp2
   go_region_held3 (fun w' => Below w.heap.size w w' ∧ w'.cell? ⟨w.heap.size, 0, none⟩ = some (.int .i64 p) ∧ w'.cell? ⟨w.heap.size, 1, none⟩ = some (.int .i64 r)) (first | assumption | exact box_start w _ _ _ | exact box_keep (by assumption) (by assumption))
    (first
      | (go_at_call 181; refine (hN _).mono ?_; rintro e w2 ⟨rfl, hb2⟩))
   go_wp2
   go_ret
   exact ⟨ret_int HC.out.symm, box_out (x := .int .i64 p) (y := .int .i64 r) (k := w.heap.size) (by assumption)⟩
theorem nearestLimits_any (n x most : Int) (c : Bool) (w : World) : Calls Tryz.prog 183 #[.agg #[.int .u32 n, .int .u32 x, .bool c], .int .u32 most] w
  fun e w' => e = .returned (.agg #[.int .u32 (min n most), .int .u32 (if c then min (max x (min n most)) most else 0), .bool c]) ∧ Below w.heap.size w w' := by
 cases c
 ·go_enter Tryz.func183, Tryz.ntmps183
  go_wp2
  all_goals
   refine bodyPost_ret (v := .agg #[.int .u32 (min n most), .int .u32 0, .bool false]) ?_ rfl ⟨rfl, ?_⟩
   ·simp [results, Tryz.results183, go_sem]
    try omega
   ·first | exact ((Below.refl _ _).alloc (Nat.le_refl _) _).alloc (by simp) _ | trace_state
 ·go_enter Tryz.func183, Tryz.ntmps183
  go_wp2
  all_goals
   refine bodyPost_ret (v := .agg #[.int .u32 (min n most), .int .u32 (min (max x (min n most)) most), .bool true]) ?_ rfl ⟨rfl, ?_⟩
   ·simp [results, Tryz.results183, go_sem]
    try omega
   ·first | exact ((Below.refl _ _).alloc (Nat.le_refl _) _).alloc (by simp) _ | trace_state
theorem nearL_ok {n x most : Int} {c : Bool} (h : okLim n x c most = true) : min n most = n ∧ (if c then min (max x (min n most)) most else 0) = x := by
 unfold okLim at h; cases c <;> simp at h ⊢ <;> omega
theorem nearL_no {n x most : Int} {c : Bool} (h : okLim n x c most = false) : ¬ (n = min n most ∧ x = (if c then min (max x (min n most)) most else 0)) := by
 rintro ⟨h1, h2⟩
 have : okLim n x c most = true := by unfold okLim; cases c <;> simp at h2 ⊢ <;> omega
 rw [h] at this; cases this
def codeLim (n x : Int) (c : Bool) (most : Int) : Int := if okLim n x c most then 0 else 2
theorem box3_start (w : World) (x y z : Value) (t : TypeId) : Below w.heap.size w (w.alloc (.cells #[x, y, z] t)).drew ∧ (w.alloc (.cells #[x, y, z] t)).drew.cell? ⟨w.heap.size, 0, none⟩ = some x ∧ (w.alloc (.cells #[x, y, z] t)).drew.cell? ⟨w.heap.size, 1, none⟩ = some y ∧ (w.alloc (.cells #[x, y, z] t)).drew.cell? ⟨w.heap.size, 2, none⟩ = some z :=
 ⟨((Below.refl _ _).alloc (Nat.le_refl _) _).drew, by go_simp, by go_simp, by go_simp⟩
theorem box3_keep {w w1 w2 : World} {x y z : Value} {k : Nat} (h : Below w.heap.size w w1 ∧ w1.cell? ⟨k, 0, none⟩ = some x ∧ w1.cell? ⟨k, 1, none⟩ = some y ∧ w1.cell? ⟨k, 2, none⟩ = some z) (hb : Below w1.heap.size w1 w2) :
  Below w.heap.size w w2 ∧ w2.cell? ⟨k, 0, none⟩ = some x ∧ w2.cell? ⟨k, 1, none⟩ = some y ∧ w2.cell? ⟨k, 2, none⟩ = some z := ⟨thenB h.1 hb, keep hb h.2.1, keep hb h.2.2.1, keep hb h.2.2.2⟩
theorem box3_out {w w1 : World} {x y z : Value} {k : Nat} (h : Below w.heap.size w w1 ∧ w1.cell? ⟨k, 0, none⟩ = some x ∧ w1.cell? ⟨k, 1, none⟩ = some y ∧ w1.cell? ⟨k, 2, none⟩ = some z) : Below w.heap.size w w1 := h.1
set_option maxHeartbeats 800000 in
theorem checkLimits_any (n x : Int) (c : Bool) (most : Int) (w : World) : Calls Tryz.prog 130 #[.agg #[.int .u32 n, .int .u32 x, .bool c], .int .u32 most] w
  fun e w' => e = .returned (.int .i64 (codeLim n x c most)) ∧ Below w.heap.size w w' := by
 have q1 := eqLim
 have q2 := guardLim
 have hN := fun w => nearestLimits_any n x most c w
 by_cases h : okLim n x c most = true
 ·obtain ⟨e1, e2⟩ := nearL_ok h
  have HC : Hid (codeLim n x c most = 0) := by unfold codeLim; rw [if_pos h]; rfl
  rw [e2] at hN
  simp only [e1] at hN
  clear h e1 e2
  go_enter Tryz.func130, Tryz.ntmps130
  go_wp2
  go_region_held3 (fun w' => Below w.heap.size w w' ∧ w'.cell? ⟨w.heap.size, 0, none⟩ = some (.int .u32 n) ∧ w'.cell? ⟨w.heap.size, 1, none⟩ = some (.int .u32 x) ∧ w'.cell? ⟨w.heap.size, 2, none⟩ = some (.bool c)) (first | assumption | exact box3_start w _ _ _ _ | exact box3_keep (by assumption) (by assumption))
   (first
     | (go_at_call 183; refine (hN _).mono ?_; rintro e w2 ⟨rfl, hb2⟩))
  go_wp2
  go_ret
  exact ⟨ret_int HC.out.symm, box3_out (x := .int .u32 n) (y := .int .u32 x) (z := .bool c) (k := w.heap.size) (by assumption)⟩
 ·have h' : okLim n x c most = false := by simpa using h
  have hn := nearL_no h'
  have HC : Hid (codeLim n x c most = 2) := by unfold codeLim; rw [h']; rfl
  generalize (if c then min (max x (min n most)) most else 0) = m2 at *
  generalize min n most = m1 at *
  have hor : (n == m1) = false ∧ (n != m1) = true ∨ (x == m2) = false ∧ (x != m2) = true := by
   by_cases h1 : n = m1
   ·right
    have : x ≠ m2 := fun h2 => hn ⟨h1, h2⟩
    simp [this]
   ·left; simp [h1]
  clear h h' hn
  rcases hor with ⟨n1, n2⟩ | ⟨n1, n2⟩
  all_goals
   go_enter Tryz.func130, Tryz.ntmps130
   go_wp2
   go_region_held3 (fun w' => Below w.heap.size w w' ∧ w'.cell? ⟨w.heap.size, 0, none⟩ = some (.int .u32 n) ∧ w'.cell? ⟨w.heap.size, 1, none⟩ = some (.int .u32 x) ∧ w'.cell? ⟨w.heap.size, 2, none⟩ = some (.bool c)) (first | assumption | exact box3_start w _ _ _ _ | exact box3_keep (by assumption) (by assumption))
    (first
      | (go_at_call 183; refine (hN _).mono ?_; rintro e w2 ⟨rfl, hb2⟩))
   go_wp2
   go_ret
   exact ⟨ret_int HC.out.symm, box3_out (x := .int .u32 n) (y := .int .u32 x) (z := .bool c) (k := w.heap.size) (by assumption)⟩
end Go.Proofs.YtepbjkkakfpjgaaGreatDoor.Kind
namespace Go.Proofs.YtepbjkkakfpjgaaGreatDoor.Kind
open Go.RowKit
theorem step_copy_run {P : Program} {ops : Array Oper} {o : Oper} {a : Act} {w : World} {K : Act → World → Prop} {Q : Exit → Act → World → Prop} {E : Prop}
  (hg : o.guard = none) (d s : Operand) (t t' : TypeId) (hop : o.op = .call { callee := .builtin .copy, args := #[d, s], argTypes := #[t, t'] })
  (v u : Value) (hd : a.eval d = v) (hs : a.eval s = u) {v' : Value} {w' : World} (hr : (Builtin.copy_ #[t, t'] o.type #[v, u]).run P w = .ok v' w') (hK : K (a.put o.dst v') w') :
  if Region.wanted o (yielded ops a.tmps) = true then Oper.wp P o a w K Q else E := by
 have hw : Region.wanted o (yielded ops a.tmps) = true := by simp [Region.wanted, hg]
 rw [if_pos hw]
 exact Lib.wp_copy_run w d s t t' hop v u hd hs hr hK
theorem copy_self {P : Program} (w0 wr : World) (h N k c : Nat) (x : UInt8) (t ty e : TypeId) (hu : P.underlying t = some (.slice e)) (hs : (P.info? e).map (·.size) = some 1)
  (hb : Lib.Buf w0 wr h N (List.replicate k x)) (hk : k < N) :
  ∃ wr', (Builtin.copy_ #[t, t] ty #[.slice (some ⟨h, k, none⟩) (N - k) (N - k), .slice (some ⟨h, 0, none⟩) k c]).run P wr = .ok (.int .i64 ((min k (N - k) : Nat) : Int)) wr' ∧ Lib.Buf w0 wr' h N (List.replicate (k + min k (N - k)) x) := by
 obtain ⟨m, hm⟩ : ∃ m, min k (N - k) = m := ⟨_, rfl⟩
 rw [hm]
 have hr := run_copy_cells (P := P) wr t t ty e h k (N - k) (N - k) ⟨h, 0, none⟩ k c (List.replicate m (Value.int .u8 (x.toNat : Int))) hu hs (by rw [List.length_replicate]; exact hm.symm)
  (fun j u hj => by
    rw [List.getElem?_replicate] at hj
    split at hj
    · simp only [Option.some.injEq] at hj
      subst hj
      have hj' : (List.replicate k x)[j]? = some x := by rw [List.getElem?_replicate, if_pos (by omega)]
      have := hb.holds j x hj'
      have hplain : (⟨h, 0, none⟩ : Addr).add j = ⟨h, 0 + j, none⟩ := by unfold Addr.add; split <;> simp_all
      rw [hplain, Nat.zero_add]; exact this
    · cases hj)
  (fun j hj => by rw [List.length_replicate] at hj; exact hb.there _ (by omega)) (fun j hj => by rw [List.length_replicate] at hj; exact hb.free _ (by omega))
  (fun u hu' => by obtain ⟨_, rfl⟩ := List.mem_replicate.1 hu'; rfl)
 rw [List.length_replicate] at hr
 refine ⟨_, hr, ?_⟩
 have hin := World.cell?_setCells_in h (List.replicate m (Value.int .u8 (x.toNat : Int))) k wr (fun j hj => by rw [List.length_replicate] at hj; exact hb.there _ (by omega))
 have hout := World.cell?_setCells_out h (List.replicate m (Value.int .u8 (x.toNat : Int))) k wr
 refine ⟨Lib.below_setCells h (Nat.le_refl _) _ _ hb.below, ?_, ?_, ?_, by rw [List.length_replicate]; omega⟩
 ·intro j hj
  by_cases h1 : k ≤ j ∧ j < k + m
  ·obtain ⟨d, rfl⟩ : ∃ d, j = k + d := ⟨j - k, by omega⟩
   rw [hin d (by rw [List.length_replicate]; omega)]
   rfl
  ·rw [hout ⟨h, j, none⟩ (fun _ _ => by rw [List.length_replicate]; show j < _ ∨ _ ≤ j; omega)]
   exact hb.there j hj
 ·intro j hj
  rw [World.frozen?_setCells]
  exact hb.free j hj
 ·intro j y hy
  rw [List.getElem?_replicate] at hy
  split at hy
  ·rename_i hjm
   simp only [Option.some.injEq] at hy
   subst hy
   by_cases h1 : j < k
   ·rw [hout ⟨h, j, none⟩ (fun _ _ => Or.inl h1)]
    exact hb.holds j x (by rw [List.getElem?_replicate, if_pos h1])
   ·obtain ⟨d, rfl⟩ : ∃ d, j = k + d := ⟨j - k, by omega⟩
    rw [hin d (by rw [List.length_replicate]; omega)]
    simp
  ·cases hy
theorem mulOne (c : Nat) (hc : c ≤ 255) (w : World) : Calls Tryz.prog 235 #[.int .u64 1, .int .u64 c] w fun e w' => e = .returned (.tuple #[.int .u64 0, .int .u64 c]) ∧ w = w' := by
 refine (Tryz.bits_Mul 1 c (by omega) (by omega) w).mono ?_
 rintro e w' ⟨rfl, rfl⟩
 refine ⟨?_, rfl⟩
 rw [Nat.one_mul, Nat.div_eq_of_lt (by omega), Nat.mod_eq_of_lt (by omega)]; rfl
def Runs (c : Nat) (w : World) (e : Ending) (w' : World) : Prop := ∃ a q, e = .returned (.slice a c q) ∧ Bytes w' a (List.replicate c 127) ∧ (a = none → q = 0) ∧ Below w.heap.size w w'
theorem runs_of {c : Nat} {w w' : World} (h : Lib.Buf w w' w.heap.size c (List.replicate c 127)) (hc : c ≤ 255) : Runs c w (.returned (.slice (some ⟨w.heap.size, 0, none⟩) c c)) w' := by
 refine ⟨_, _, rfl, ⟨fun z hz => ?_, by simp; omega, .inr ⟨_, 0, rfl, fun i hi => ?_⟩⟩, by simp, h.below⟩
 ·rw [List.eq_of_mem_replicate hz]; omega
 ·have hi' : i < c := by simpa using hi
  have := h.holds i 127 (by rw [List.getElem?_replicate, if_pos hi'])
  rw [Nat.zero_add, this]
  have e : (List.replicate c (127 : Int)).getD i 0 = 127 := by rw [getD_lt (by simpa using hi')]; simp
  rw [e]; rfl
theorem repeat_0 (b off cap : Nat) (w : World) : Calls Tryz.prog 228 #[.slice (some ⟨b, off, none⟩) 1 cap, .int .i64 0] w (Runs 0 w) := by
 go_enter Tryz.func228, Tryz.ntmps228
 go_wp2
 go_ret
 exact ⟨_, _, rfl, ⟨by simp, by simp, .inl rfl⟩, by simp, by first | exact Below.refl _ _ | exact (Below.refl _ _).alloc (Nat.le_refl _) _⟩
set_option maxHeartbeats 1600000 in
set_option maxRecDepth 100000 in
theorem repeat_any (c : Nat) (hc : c ≤ 255) (b off cap : Nat) (w : World) (hcell : w.cell? ⟨b, off, none⟩ = some (.int .u8 127)) :
  Calls Tryz.prog 228 #[.slice (some ⟨b, off, none⟩) 1 cap, .int .i64 c] w (Runs c w) := by
 by_cases h0 : c = 0
 ·subst h0; exact repeat_0 b off cap w
 have hs5 : (Tryz.prog.info? 5).map (·.size) = some 1 := by kernel_rfl
 obtain ⟨cs, hrunM, hle, _⟩ := Lib.run_makeNoZero (P := Tryz.prog) w #[3] 35 5 Tryz.underlying35 c (by omega)
 have hcall : (callFunc 236 #[.int .i64 (c : Int)]).run Tryz.prog w = .ok (.value (.slice (some ⟨w.heap.size, 0, none⟩) c cs.size)) ((w.alloc (.cells cs 5)).drewN 2) := by
  rw [run_callFunc_extern Tryz.func236 (by kernel_rfl) (by kernel_rfl) (by kernel_rfl) (e := Extern.BytealgMakeNoZero.makeNoZero #[3] #[35]) (by kernel_rfl), hrunM]
  rfl
 clear hrunM
 have B0 := Lib.Buf.start w cs 5 c 2 hle
 have hv : Lib.HoldsBytes w (.slice (some ⟨b, off, none⟩) 1 cap) [127] := ⟨some ⟨b, off, none⟩, cap, rfl, by simp, fun a ha i x hx => by
   simp only [Option.some.injEq] at ha
   subst ha
   match i, hx with
   | 0, hx => simp at hx; subst hx; simpa [Addr.add] using hcell⟩
 obtain ⟨w1, hr1, B1⟩ := Lib.copy_part (P := Tryz.prog) w _ w.heap.size c [] [127] (.slice (some ⟨b, off, none⟩) 1 cap) 35 3 5 Tryz.underlying35 hs5 (Nat.le_refl _) B0 hv (by simp; omega)
 rw [List.length_nil, Lib.tailV_zero] at hr1
 rw [List.nil_append] at B1
 rw [show ((([127] : List UInt8).length : Nat) : Int) = 1 from rfl] at hr1
 have d1 : decide ((c : Int) < 0) = false := decide_eq_false (by omega)
 have d2 : decide (9223372036854775807 < (c : Int)) = false := decide_eq_false (by omega)
 have d3 : decide (8192 < (c : Int)) = false := decide_eq_false (by omega)
 have hm := fun w => mulOne c hc w
 have hn1 : ¬ (c : Int) = 0 := by omega
 have i1 : (c : Int) ≤ (cs.size : Int) := by omega
 have HB1 := hid B1
 clear B1 B0 hv hcell
 go_enter Tryz.func228, Tryz.ntmps228
 go_wp2_with (first
   | (go_at_call 235; refine (hm _).mono ?_; rintro e w' ⟨rfl, rfl⟩)
   | (at_builtin; refine Lib.wpList_copy_run _ rfl _ _ 35 35 rfl _ _ rfl rfl hr1 ?_))
 have hsz : w.heap.size ≤ w1.heap.size := HB1.out.below.size
 go_loopw [10] (fun sb wr => ∃ k : Nat, 1 ≤ k ∧ k ≤ c ∧ sb = .int .i64 k ∧ Hid (Lib.Buf w wr w.heap.size c (List.replicate k 127))) (fun sb _ => c - (intOf sb).toNat)
 case atStart => exact ⟨1, by omega, by omega, rfl, HB1⟩
 case round =>
  obtain ⟨k, hk1, hkc, rfl, HB⟩ := hrel
  by_cases hlt : k < c
  ·obtain ⟨wr', hr2, B2⟩ := copy_self (P := Tryz.prog) w wr.drew w.heap.size c k c 127 35 3 5 Tryz.underlying35 hs5 ⟨HB.out.below.drew, HB.out.there, HB.out.free, HB.out.holds, HB.out.fits⟩ hlt
   obtain ⟨m, hm1, hm2⟩ : ∃ m, min k (c - k) = m ∧ 1 ≤ m ∧ k + m ≤ c := ⟨_, rfl, by omega, by omega⟩
   rw [hm1] at hr2 B2
   have HB2 := hid B2
   clear hm1
   clear B2 hcall hr1 HB1 hm
   have hn2 : ¬ c = k := by omega
   have hw : IntKind.i64.wrap ((k : Int) + (m : Int)) = ((k + m : Nat) : Int) := by rw [IntWalk.i64_in _ (by omega)]; rfl
   have hmn : min (k : Int) (c : Int) = (k : Int) := by omega
   go_wp2
   go_region_law (refine step_copy_run (by rfl) (.tmp 70) (.tmp 73) 35 35 (by rfl) (.slice (some ⟨w.heap.size, k, none⟩) (c - k) (c - k)) (.slice (some ⟨w.heap.size, 0, none⟩) k c) (by go_simp) (by go_simp) hr2 ?_)
   simp [Act.put]
   go_roundw
   case rel => exact ⟨_, _, _, _, _, _, _, _, _, _, _, _, _, _, _, _, _, ⟨k + m, by omega, by omega, (show Value.int .i64 ((k : Int) + (m : Int)) = .int .i64 ((k + m : Nat) : Int) from rfl), HB2⟩, rfl⟩
   case measure => simp [intOf]; omega
  ·obtain rfl : k = c := by omega
   go_wp2
   go_ret
   exact runs_of HB.out hc
end Go.Proofs.YtepbjkkakfpjgaaGreatDoor.Kind
namespace Go.Proofs.YtepbjkkakfpjgaaGreatDoor.Kind
open Go.RowKit Leb
theorem wordsL_bytes (n : Int) : ∀ z ∈ wordsL n, 0 ≤ z ∧ z < 256 := by
 intro z hz
 unfold wordsL at hz
 rcases List.mem_append.1 hz with h | h
 ·exact encU_bytes n z h
 ·rw [List.eq_of_mem_replicate h]; omega
theorem wordsL_len (n : Nat) : (wordsL n).length = sizeU n + n := by
 unfold wordsL; rw [List.length_append, encU_length, List.length_replicate, Int.toNat_natCast]
theorem words_append (n : Nat) : encU (n : Int) ++ List.replicate n 127 = wordsL n := by unfold wordsL; rw [Int.toNat_natCast]
set_option maxHeartbeats 800000 in
theorem putWords_any (n : Nat) (hn : n ≤ 255) (w : World) : Calls Tryz.prog 212 #[.int .i64 n] w (Gives w (wordsL n)) := by
 have hs := sizeU_pos n
 go_enter Tryz.func212, Tryz.ntmps212
 go_wp2_with fail
 refine (putU_any n _ (by omega) (by omega)).mono ?_
 rintro e w1 ⟨v, rfl, ho, hb⟩
 obtain ⟨a1, c1, rfl⟩ := ho.sliceN (encU_length n)
 go_wp2_with fail
 refine (repeat_any n hn w1.heap.size 0 1 _ (by go_simp)).mono ?_
 rintro e w2 ⟨a2, c2, rfl, hy2, hnil2, hb2⟩
 have hb3 : Below w1.heap.size w1 w2 := (Below.refl _ _).alloc (Nat.le_refl _) _ |>.trans (hb2.mono (by simp))
 have ho := ho.below hb3
 have hA := thenB hb hb3
 have HNIL := hid hnil2
 clear hb hb2 hb3 hnil2
 go_wp2_with (first | (at_builtin; refine append_bytes rfl (.tmp 5) (.tmp 8) rfl rfl ho hA hA.size _ _ _ rfl HNIL.out (by simp) hy2 (by rw [encU_length]; simp; omega) ?_; intro v' w5 hown5 hb5 hs5))
 go_ret
 rw [words_append] at hown5
 exact ⟨_, rfl, hown5, hb5⟩
def PutOk (w : World) (zs : List Int) (e : Ending) (w' : World) : Prop := ∃ v, e = .returned (.tuple #[v, .int .i64 0]) ∧ Own w.heap.size w' v zs ∧ Below w.heap.size w w'
def PutNo (w : World) (e : Ending) (w' : World) : Prop := e = .returned (.tuple #[.slice none 0 0, .int .i64 2]) ∧ Below w.heap.size w w'
theorem parts3 {w : World} {g : Nat} (hg : g = w.heap.size) {a0 a1 a2 : Option Addr} {n0 n1 n2 c0 c1 c2 : Nat} {t : TypeId} {l0 l1 l2 : List Int} (h0 : Bytes w a0 l0) (h1 : Bytes w a1 l1) (h2 : Bytes w a2 l2) (k0 : l0.length = n0) (k1 : l1.length = n1) (k2 : l2.length = n2)
  (m0 : a0 = none → c0 = 0) (m1 : a1 = none → c1 = 0) (m2 : a2 = none → c2 = 0) : Parts (w.alloc (.cells #[.slice a0 n0 c0, .slice a1 n1 c1, .slice a2 n2 c2] t)) g [l0, l1, l2] := by
 subst hg
 intro j hj
 match j, hj with
 | 0, _ => exact ⟨a0, c0, by subst k0; go_simp, h0.alloc _, m0⟩
 | 1, _ => exact ⟨a1, c1, by subst k1; go_simp, h1.alloc _, m1⟩
 | 2, _ => exact ⟨a2, c2, by subst k2; go_simp, h2.alloc _, m2⟩
theorem parts2 {w : World} {g : Nat} (hg : g = w.heap.size) {a0 a1 : Option Addr} {n0 n1 c0 c1 : Nat} {t : TypeId} {l0 l1 : List Int} (h0 : Bytes w a0 l0) (h1 : Bytes w a1 l1) (k0 : l0.length = n0) (k1 : l1.length = n1)
  (m0 : a0 = none → c0 = 0) (m1 : a1 = none → c1 = 0) : Parts (w.alloc (.cells #[.slice a0 n0 c0, .slice a1 n1 c1] t)) g [l0, l1] := by
 subst hg
 intro j hj
 match j, hj with
 | 0, _ => exact ⟨a0, c0, by subst k0; go_simp, h0.alloc _, m0⟩
 | 1, _ => exact ⟨a1, c1, by subst k1; go_simp, h1.alloc _, m1⟩
theorem byte_at {w : World} {k : Nat} {z : Int} (hz : 0 ≤ z ∧ z < 256) (h : w.cell? ⟨k, 0, none⟩ = some (.int .u8 z)) : Bytes w (some ⟨k, 0, none⟩) [z] :=
 ⟨by simpa using hz, by simp, .inr ⟨k, 0, rfl, fun i hi => by
   match i, hi with
   | 0, _ => exact h⟩⟩
theorem typeL_flat (p r : Int) : [[96], wordsL p, wordsL r].flatten = typeL p r := by simp [typeL]
theorem typeL_len (p r : Nat) : (typeL p r).length = 1 + (sizeU p + p) + (sizeU r + r) := by
 unfold typeL; rw [List.length_cons, List.length_append, wordsL_len, wordsL_len]; omega
set_option maxHeartbeats 1600000 in
theorem put_ok (p r : Nat) (hp : p ≤ 255) (hr : r ≤ 1) (w : World) : Calls Tryz.prog 194 #[.agg #[.int .i64 p, .int .i64 r]] w (PutOk w (typeL p r)) := by
 have hC := fun w => check_any p r w
 have hc0 : codeType p r = 0 := by
  have : okType p r = true := by unfold okType; simp; omega
  unfold codeType; rw [if_pos this]
 simp only [hc0] at hC
 have HFL := hid (typeL_flat p r)
 have HLE := hid (typeL_len p r)
 have hs := sizeU_pos p
 have hs2 := sizeU_pos r
 clear hc0
 go_enter Tryz.func194, Tryz.ntmps194
 go_wp2_with fail
 refine (hC _).mono ?_
 rintro e w1 ⟨rfl, hb1⟩
 obtain ⟨d0, d1, _, _, _⟩ := two hb1
 have hA : Below w.heap.size w w1 := ((Below.refl _ _).alloc (Nat.le_refl _) _).trans (hb1.mono (by simp))
 clear hC hb1
 go_wp2
 have hS : Below w.heap.size w w1.drew ∧ w1.drew.cell? ⟨w.heap.size, 0, none⟩ = some (.int .i64 p) ∧ w1.drew.cell? ⟨w.heap.size, 1, none⟩ = some (.int .i64 r) := ⟨hA.drew, d0, d1⟩
 go_region_held3 (fun w' => Below w.heap.size w w' ∧ w'.cell? ⟨w.heap.size, 0, none⟩ = some (.int .i64 p) ∧ w'.cell? ⟨w.heap.size, 1, none⟩ = some (.int .i64 r))
  (first | assumption | exact box_keep (by assumption) ((Below.refl _ _).alloc (Nat.le_refl _) _) | exact box_keep (by assumption) (by assumption))
  (first
    | (go_at_call 212; ((with_reducible refine (putWords_any p hp _).mono ?_); rintro e w13 ⟨v13, rfl, ho13, hb13⟩; obtain ⟨a13, c13, rfl⟩ := ho13.sliceN (wordsL_len p); have hy13 := ho13.bytes (wordsL_bytes p) (by rw [wordsL_len]; omega); have hn13 := ho13.nil; clear ho13))
    | (go_at_call 212; ((with_reducible refine (putWords_any r (by omega) _).mono ?_); rintro e w16 ⟨v16, rfl, ho16, hb16⟩; obtain ⟨a16, c16, rfl⟩ := ho16.sliceN (wordsL_len r); have hy16 := ho16.bytes (wordsL_bytes r) (by rw [wordsL_len]; omega); have hn16 := ho16.nil; clear ho16))
    | (go_at_call 211
       refine (concat_any _ 3 3 [[96], wordsL p, wordsL r] _ rfl ?_ (by rw [HFL.out, HLE.out]; omega) (by rw [HFL.out, HLE.out]; omega) (by omega)).mono ?_
       · first
          | (refine parts3 ?_ (byte_at (z := 96) (by decide) ?_) ((hy13.below hb16).alloc _) (hy16.alloc _) rfl (wordsL_len p) (wordsL_len r) (by simp) hn13.out hn16.out <;> go_simp <;> done)
          | (refine parts3 ?_ (byte_at (z := 96) (by decide) (keep hb16 ?_)) (hy13.below (thenB ((Below.refl _ _).alloc (Nat.le_refl _) _) hb16)) hy16 rfl (wordsL_len p) (wordsL_len r) (by simp) hn13.out hn16.out <;> go_simp <;> done)
          | (refine parts3 ?_ (byte_at (z := 96) (by decide) (keep (thenB hb13 hb16) ?_)) (hy13.below hb16) hy16 rfl (wordsL_len p) (wordsL_len r) (by simp) hn13.out hn16.out <;> go_simp <;> done)
       rintro e w18 ⟨v18, rfl, ho18, hb18⟩
       rw [HFL.out] at ho18
       have ho18 := ho18.mono (base' := w.heap.size) (by have s1 := hA.size; have s2 := hb13.size; have s3 := hb16.size; (try simp at s2); (try simp at s3); (try simp); omega)
       obtain ⟨a18, c18, rfl⟩ := ho18.sliceN HLE.out))
 all_goals go_wp2
 all_goals go_ret2
 all_goals exact ⟨_, rfl, ho18, box_out (x := .int .i64 p) (y := .int .i64 r) (k := w.heap.size) (by assumption)⟩
set_option maxHeartbeats 800000 in
theorem put_no (p r : Int) (h : okType p r = false) (w : World) : Calls Tryz.prog 194 #[.agg #[.int .i64 p, .int .i64 r]] w (PutNo w) := by
 have hC := fun w => check_any p r w
 have hc0 : codeType p r = 2 := by unfold codeType; rw [h]; rfl
 simp only [hc0] at hC
 clear hc0 h
 go_enter Tryz.func194, Tryz.ntmps194
 go_wp2_with fail
 refine (hC _).mono ?_
 rintro e w1 ⟨rfl, hb1⟩
 have hA : Below w.heap.size w w1 := ((Below.refl _ _).alloc (Nat.le_refl _) _).trans (hb1.mono (by simp))
 clear hC hb1
 go_wp2
 go_ret2
 exact ⟨rfl, hA⟩
theorem limL_flat (n x : Int) : [[1], encU n, encU x].flatten = limL n x true := by simp [limL]
theorem limL_flat2 (n : Int) : [[0], encU n].flatten = limL n 0 false := by simp [limL]
theorem limL_len (n x : Int) : (limL n x true).length = 1 + sizeU n + sizeU x := by
 unfold limL; simp [encU_length]; omega
theorem limL_len2 (n : Int) : (limL n 0 false).length = 1 + sizeU n := by
 unfold limL; simp [encU_length]; omega
theorem three {w w' : World} {x y z : Value} {t : TypeId} (hb : Below (w.alloc (.cells #[x, y, z] t)).heap.size (w.alloc (.cells #[x, y, z] t)) w') :
  w'.cell? ⟨w.heap.size, 0, none⟩ = some x ∧ w'.cell? ⟨w.heap.size, 1, none⟩ = some y ∧ w'.cell? ⟨w.heap.size, 2, none⟩ = some z := by
 obtain ⟨hc, _⟩ := old hb
 refine ⟨(hc _ _ (by simp)).trans ?_, (hc _ _ (by simp)).trans ?_, (hc _ _ (by simp)).trans ?_⟩ <;> go_simp
set_option maxHeartbeats 800000 in
theorem putLimits_no (n x : Int) (c : Bool) (most : Int) (h : okLim n x c most = false) (w : World) : Calls Tryz.prog 196 #[.agg #[.int .u32 n, .int .u32 x, .bool c], .int .u32 most] w (PutNo w) := by
 have hC := fun w => checkLimits_any n x c most w
 have hc0 : codeLim n x c most = 2 := by unfold codeLim; rw [h]; rfl
 simp only [hc0] at hC
 clear hc0 h
 go_enter Tryz.func196, Tryz.ntmps196
 go_wp2_with fail
 refine (hC _).mono ?_
 rintro e w1 ⟨rfl, hb1⟩
 have hA : Below w.heap.size w w1 := ((Below.refl _ _).alloc (Nat.le_refl _) _).trans (hb1.mono (by simp))
 clear hC hb1
 go_wp2
 go_ret2
 exact ⟨rfl, hA⟩
set_option maxHeartbeats 1600000 in
theorem putLimits_plain (n x most : Int) (h : okLim n x false most = true) (h0 : 0 ≤ n ∧ n ≤ 4294967295) (w : World) : Calls Tryz.prog 196 #[.agg #[.int .u32 n, .int .u32 x, .bool false], .int .u32 most] w (PutOk w (limL n x false)) := by
 have hC := fun w => checkLimits_any n x false most w
 have hc0 : codeLim n x false most = 0 := by unfold codeLim; rw [if_pos h]
 obtain rfl : x = 0 := by unfold okLim at h; simp at h; exact h.2
 simp only [hc0] at hC
 have HFL := hid (limL_flat2 n)
 have HLE := hid (limL_len2 n)
 have hs := sizeU_pos n
 clear hc0 h
 go_enter Tryz.func196, Tryz.ntmps196
 go_wp2_with fail
 refine (hC _).mono ?_
 rintro e w1 ⟨rfl, hb1⟩
 obtain ⟨d0, d1, d2⟩ := three hb1
 have hA : Below w.heap.size w w1 := ((Below.refl _ _).alloc (Nat.le_refl _) _).trans (hb1.mono (by simp))
 have d0' := keepA d0 (.cells #[.int .u8 0] 5)
 clear hC hb1
 go_wp2_with fail
 refine (putU_any n _ (by omega) (by omega)).mono ?_
 rintro e w3 ⟨v, rfl, ho, hb3⟩
 obtain ⟨a3, c3, rfl⟩ := ho.sliceN (encU_length n)
 have hy := ho.bytes (encU_bytes n) (by rw [encU_length]; omega)
 have hn3 := ho.nil
 have hz : w1.heap.size + 1 ≤ w3.heap.size := by have := hb3.size; simpa using this
 have d96 : w3.cell? ⟨w1.heap.size, 0, none⟩ = some (.int .u8 0) := keep hb3 (by go_simp)
 have hA3 : Below w.heap.size w w3 := (thenA hA (.cells #[.int .u8 0] 5)).trans (hb3.mono (by have := hA.size; simp; omega))
 clear ho hb3
 go_wp2_with fail
 refine (concat_any _ 2 2 [[0], encU n] _ rfl (parts2 rfl (byte_at (z := 0) (by decide) d96) hy rfl (encU_length n) (by simp) hn3.out) (by rw [HFL.out, HLE.out]; omega) (by rw [HFL.out, HLE.out]; omega) (by omega)).mono ?_
 rintro e w5 ⟨v, rfl, ho, hb5⟩
 rw [HFL.out] at ho
 have ho := ho.mono (base' := w.heap.size) (by have := hA3.size; simp; omega)
 have hb6 : Below w3.heap.size w3 w5 := ((Below.refl _ _).alloc (Nat.le_refl _) _).trans (hb5.mono (by simp))
 have hA5 := thenB hA3 hb6
 clear hb6
 obtain ⟨a5, c5, rfl⟩ := ho.sliceN HLE.out
 clear hb5
 go_wp2
 go_ret2
 exact ⟨_, rfl, ho, hA5⟩
set_option maxHeartbeats 1600000 in
theorem putLimits_capped (n x most : Int) (h : okLim n x true most = true) (h0 : 0 ≤ n ∧ n ≤ 4294967295) (h1 : 0 ≤ x ∧ x ≤ 4294967295) (w : World) : Calls Tryz.prog 196 #[.agg #[.int .u32 n, .int .u32 x, .bool true], .int .u32 most] w (PutOk w (limL n x true)) := by
 have hC := fun w => checkLimits_any n x true most w
 have hc0 : codeLim n x true most = 0 := by unfold codeLim; rw [if_pos h]
 simp only [hc0] at hC
 have HFL := hid (limL_flat n x)
 have HLE := hid (limL_len n x)
 have hs := sizeU_pos n
 have hs2 := sizeU_pos x
 clear hc0 h
 go_enter Tryz.func196, Tryz.ntmps196
 go_wp2_with fail
 refine (hC _).mono ?_
 rintro e w1 ⟨rfl, hb1⟩
 obtain ⟨d0, d1, d2⟩ := three hb1
 have hA : Below w.heap.size w w1 := ((Below.refl _ _).alloc (Nat.le_refl _) _).trans (hb1.mono (by simp))
 clear hC hb1
 go_wp2
 have hS : Below w.heap.size w w1.drew ∧ w1.drew.cell? ⟨w.heap.size, 0, none⟩ = some (.int .u32 n) ∧ w1.drew.cell? ⟨w.heap.size, 1, none⟩ = some (.int .u32 x) := ⟨hA.drew, d0, d1⟩
 go_region_held3 (fun w' => Below w.heap.size w w' ∧ w'.cell? ⟨w.heap.size, 0, none⟩ = some (.int .u32 n) ∧ w'.cell? ⟨w.heap.size, 1, none⟩ = some (.int .u32 x))
  (first | assumption | exact box_keep (by assumption) ((Below.refl _ _).alloc (Nat.le_refl _) _) | exact box_keep (by assumption) (by assumption))
  (first
    | (go_at_call 175; (first
        | (clear hb16; fail)
        | ((with_reducible refine (putU_any n _ (by omega) (by omega)).mono ?_); rintro e w13 ⟨v13, rfl, ho13, hb13⟩; obtain ⟨a13, c13, rfl⟩ := ho13.sliceN (encU_length n); have hy13 := ho13.bytes (encU_bytes n) (by rw [encU_length]; omega); have hn13 := ho13.nil; clear ho13)
        | ((with_reducible refine (putU_any x _ (by omega) (by omega)).mono ?_); rintro e w16 ⟨v16, rfl, ho16, hb16⟩; obtain ⟨a16, c16, rfl⟩ := ho16.sliceN (encU_length x); have hy16 := ho16.bytes (encU_bytes x) (by rw [encU_length]; omega); have hn16 := ho16.nil; clear ho16)))
    | (go_at_call 211
       refine (concat_any _ 3 3 [[1], encU n, encU x] _ rfl ?_ (by rw [HFL.out, HLE.out]; omega) (by rw [HFL.out, HLE.out]; omega) (by omega)).mono ?_
       · first
          | (refine parts3 ?_ (byte_at (z := 1) (by decide) ?_) ((hy13.below hb16).alloc _) (hy16.alloc _) rfl (encU_length n) (encU_length x) (by simp) hn13.out hn16.out <;> go_simp <;> done)
          | (refine parts3 ?_ (byte_at (z := 1) (by decide) (keep hb16 ?_)) (hy13.below (thenB ((Below.refl _ _).alloc (Nat.le_refl _) _) hb16)) hy16 rfl (encU_length n) (encU_length x) (by simp) hn13.out hn16.out <;> go_simp <;> done)
          | (refine parts3 ?_ (byte_at (z := 1) (by decide) (keep (thenB hb13 hb16) ?_)) (hy13.below hb16) hy16 rfl (encU_length n) (encU_length x) (by simp) hn13.out hn16.out <;> go_simp <;> done)
       rintro e w18 ⟨v18, rfl, ho18, hb18⟩
       rw [HFL.out] at ho18
       have ho18 := ho18.mono (base' := w.heap.size) (by have s1 := hA.size; have s2 := hb13.size; have s3 := hb16.size; (try simp at s2); (try simp at s3); (try simp); omega)
       obtain ⟨a18, c18, rfl⟩ := ho18.sliceN HLE.out))
 all_goals go_wp2
 all_goals go_ret2
 all_goals exact ⟨_, rfl, ho18, box_out (x := .int .u32 n) (y := .int .u32 x) (k := w.heap.size) (by assumption)⟩
end Go.Proofs.YtepbjkkakfpjgaaGreatDoor.Kind
namespace Go.Proofs.YtepbjkkakfpjgaaGreatDoor.Leb
open Go.RowKit
set_option maxHeartbeats 1600000 in
theorem refU_any (n : Int) (w : World) (h0 : 0 ≤ n) (h1 : n < 4294967296) :
  Calls Tryz.prog 113 #[.int .u32 n] w (Gives w (encU n)) := by
 go_enter Tryz.func113, Tryz.ntmps113
 go_wp2
 go_loopw [0, 3] (fun su out wr => ∃ (m : Int) (xs : List Int), 0 ≤ m ∧ m < 4294967296 ∧ su = .int .u32 m ∧ Own w.heap.size wr out xs ∧ xs ++ encU m = encU n ∧ xs.length ≤ 5 ∧ Below w.heap.size w wr ∧ w.heap.size ≤ wr.heap.size)
  (fun su _ _ => (intOf su).toNat)
 case atStart => exact ⟨n, [], h0, h1, rfl, World.ownsRow_nil _ _ _ _, rfl, by decide, Below.refl _ _, Nat.le_refl _⟩
 case round =>
  obtain ⟨m, xs, hm0, hm1, rfl, hown, hp, hx5, hb, hsz⟩ := hrel
  obtain ⟨a, c, rfl⟩ := hown.slice
  have HP := hid hp
  clear hp
  by_cases hl : 128 ≤ m
  ·have HF : Hid ((xs ++ [m % 128 + 128]) ++ encU (m / 128) = encU n) := by
    have := HP.out; rw [encU_step hl hm1] at this; rw [← this]; simp; exact trivial
   have H5 : Hid ((xs ++ [m % 128 + 128]).length ≤ 5) := by
    have h := congrArg List.length HF.out
    have := sizeU_pos n
    simp [encU_length] at h
    show _ ≤ _
    simp; omega
   clear HP
   go_wp2_with (first | (at_builtin; refine append_byte rfl (.tmp 6) (.tmp 11) rfl (m % 128 + 128) rfl hown hb hsz rfl (by omega) ?_; intro v' w1 hown' hb' hsz'))
   go_roundw
   case rel => exact ⟨m / 128, xs ++ [m % 128 + 128], by omega, by omega, rfl, hown', HF.out, H5.out, hb', hsz'⟩
   case measure => simp [intOf]; omega
  ·have HF : Hid (xs ++ [m] = encU n) := by
    have := HP.out; rw [encU_last hm0 (by omega)] at this; exact this
   clear HP
   go_wp2_with (first | (at_builtin; refine append_byte rfl (.tmp 15) (.tmp 18) rfl m rfl hown hb hsz rfl (by omega) ?_; intro v' w1 hown' hb' hsz'))
   go_ret
   rw [HF.out] at hown'
   exact ⟨v', rfl, hown', hb'⟩
end Go.Proofs.YtepbjkkakfpjgaaGreatDoor.Leb
namespace Go.Proofs.YtepbjkkakfpjgaaGreatDoor.Kind
open Go.RowKit Leb
theorem refCheck_any (p r : Int) (w : World) : Calls Tryz.prog 133 #[.agg #[.int .i64 p, .int .i64 r]] w
  fun e w' => e = .returned (.int .i64 (codeType p r)) ∧ Below w.heap.size w w' := by
 by_cases h1 : p < 0
 ·have HC : Hid (codeType p r = 2) := by show _ = _; unfold codeType okType; rw [if_neg]; simp; omega
  have d1 : decide (p < 0) = true := decide_eq_true h1
  go_enter Tryz.func133, Tryz.ntmps133
  go_wp2
  go_ret
  exact ⟨ret_int HC.out.symm, (Below.refl _ _).alloc (Nat.le_refl _) _⟩
 ·by_cases h2 : 255 < p
  ·have HC : Hid (codeType p r = 2) := by show _ = _; unfold codeType okType; rw [if_neg]; simp; omega
   go_enter Tryz.func133, Tryz.ntmps133
   go_wp2
   go_ret
   exact ⟨ret_int HC.out.symm, (Below.refl _ _).alloc (Nat.le_refl _) _⟩
  ·by_cases h3 : r < 0
   ·have HC : Hid (codeType p r = 2) := by show _ = _; unfold codeType okType; rw [if_neg]; simp; omega
    go_enter Tryz.func133, Tryz.ntmps133
    go_wp2
    go_ret
    exact ⟨ret_int HC.out.symm, (Below.refl _ _).alloc (Nat.le_refl _) _⟩
   ·by_cases h4 : 1 < r
    ·have HC : Hid (codeType p r = 2) := by show _ = _; unfold codeType okType; rw [if_neg]; simp; omega
     go_enter Tryz.func133, Tryz.ntmps133
     go_wp2
     go_ret
     exact ⟨ret_int HC.out.symm, (Below.refl _ _).alloc (Nat.le_refl _) _⟩
    ·have HC : Hid (codeType p r = 0) := by show _ = _; unfold codeType okType; rw [if_pos]; simp; omega
     go_enter Tryz.func133, Tryz.ntmps133
     go_wp2
     go_ret
     exact ⟨ret_int HC.out.symm, (Below.refl _ _).alloc (Nat.le_refl _) _⟩
set_option maxHeartbeats 800000 in
theorem refCheckLimits_any (n x : Int) (c : Bool) (most : Int) (w : World) : Calls Tryz.prog 135 #[.agg #[.int .u32 n, .int .u32 x, .bool c], .int .u32 most] w
  fun e w' => e = .returned (.int .i64 (codeLim n x c most)) ∧ Below w.heap.size w w' := by
 by_cases h1 : most < n
 ·have HC : Hid (codeLim n x c most = 2) := by show _ = _; unfold codeLim okLim; rw [if_neg]; simp; omega
  go_enter Tryz.func135, Tryz.ntmps135
  go_wp2
  go_ret
  exact ⟨ret_int HC.out.symm, (Below.refl _ _).alloc (Nat.le_refl _) _⟩
 ·cases c
  ·by_cases h2 : x = 0
   ·subst h2
    have HC : Hid (codeLim n 0 false most = 0) := by show _ = _; unfold codeLim okLim; rw [if_pos]; simp; omega
    go_enter Tryz.func135, Tryz.ntmps135
    go_wp2
    go_ret
    exact ⟨ret_int HC.out.symm, (Below.refl _ _).alloc (Nat.le_refl _) _⟩
   ·have HC : Hid (codeLim n x false most = 2) := by show _ = _; unfold codeLim okLim; rw [if_neg]; simp; omega
    have h3 : (x != 0) = true := by simp [h2]
    go_enter Tryz.func135, Tryz.ntmps135
    go_wp2
    go_ret
    exact ⟨ret_int HC.out.symm, (Below.refl _ _).alloc (Nat.le_refl _) _⟩
  ·by_cases h2 : x < n
   ·have HC : Hid (codeLim n x true most = 2) := by show _ = _; unfold codeLim okLim; rw [if_neg]; simp; omega
    go_enter Tryz.func135, Tryz.ntmps135
    go_wp2
    go_ret
    exact ⟨ret_int HC.out.symm, (Below.refl _ _).alloc (Nat.le_refl _) _⟩
   ·by_cases h3 : most < x
    ·have HC : Hid (codeLim n x true most = 2) := by show _ = _; unfold codeLim okLim; rw [if_neg]; simp; omega
     go_enter Tryz.func135, Tryz.ntmps135
     go_wp2
     go_ret
     exact ⟨ret_int HC.out.symm, (Below.refl _ _).alloc (Nat.le_refl _) _⟩
    ·have HC : Hid (codeLim n x true most = 0) := by show _ = _; unfold codeLim okLim; rw [if_pos]; simp; omega
     go_enter Tryz.func135, Tryz.ntmps135
     go_wp2
     go_ret
     exact ⟨ret_int HC.out.symm, (Below.refl _ _).alloc (Nat.le_refl _) _⟩
theorem rep_snoc (n : Int) (i : Nat) : encU n ++ List.replicate i 127 ++ [127] = encU n ++ List.replicate (i + 1) 127 := by
 rw [List.append_assoc, ← List.replicate_succ']
set_option maxHeartbeats 800000 in
theorem refWords_any (n : Nat) (hn : n ≤ 255) (w : World) : Calls Tryz.prog 176 #[.int .i64 n] w (Gives w (wordsL n)) := by
 have hs := sizeU_pos n
 go_enter Tryz.func176, Tryz.ntmps176
 go_wp2_with fail
 refine (refU_any n _ (by omega) (by omega)).mono ?_
 rintro e w1 ⟨v, rfl, ho, hb⟩
 go_wp2
 go_loopw [3, 4] (fun sv si wr => ∃ i : Nat, i ≤ n ∧ si = .int .i64 i ∧ Own w.heap.size wr sv (encU n ++ List.replicate i 127) ∧ Below w.heap.size w wr) (fun _ si _ => n - (intOf si).toNat)
 case atStart => exact ⟨0, by omega, rfl, by simpa using ho, hb⟩
 case round =>
  obtain ⟨i, hi, rfl, hown, hbw⟩ := hrel
  obtain ⟨m, hm⟩ : ∃ m, (encU (n : Int) ++ List.replicate i 127).length = m := ⟨_, rfl⟩
  obtain ⟨av, cv, rfl⟩ := hown.sliceN hm
  have hm2 : m ≤ 300 := by rw [← hm, List.length_append, encU_length, List.length_replicate]; omega
  have HM := hid hm
  clear hm ho hb
  by_cases hlt : i < n
  ·go_wp2_with (first | (at_builtin; refine append_byte rfl (.tmp 13) (.tmp 14) rfl 127 rfl hown hbw hbw.size rfl (by rw [HM.out]; omega) ?_; intro v' w5 hown5 hb5 hs5))
   go_roundw
   case rel => exact ⟨i + 1, by omega, by go_num, by rw [← rep_snoc]; exact hown5, hb5⟩
   case measure => simp [intOf]; omega
  ·obtain rfl : i = n := by omega
   go_wp2
   go_ret
   rw [words_append] at hown
   exact ⟨_, rfl, hown, hbw⟩
theorem own_lit (w : World) (z : Int) : Own w.heap.size (w.alloc (.cells #[.int .u8 z] 5)) (.slice (some ⟨w.heap.size, 0, none⟩) 1 1) [z] := by
 refine ⟨rfl, .inr ⟨w.heap.size, 1, #[.int .u8 z], rfl, Nat.le_refl _, ?_, Nat.le_refl _, by unfold maxLen; omega, rfl, rfl⟩⟩
 show (w.heap.push _)[w.heap.size]? = _
 simp
theorem typeL_cat (p r : Int) : [96] ++ wordsL p ++ wordsL r = typeL p r := by simp [typeL]
theorem typeL_cat1 (p : Nat) : ([96] ++ wordsL p).length = 1 + (sizeU p + p) := by simp [wordsL_len]; omega
set_option maxHeartbeats 1600000 in
theorem refPut_ok (p r : Nat) (hp : p ≤ 255) (hr : r ≤ 1) (w : World) : Calls Tryz.prog 114 #[.agg #[.int .i64 p, .int .i64 r]] w (PutOk w (typeL p r)) := by
 have hC := fun w => refCheck_any p r w
 have hc0 : codeType p r = 0 := by
  have : okType p r = true := by unfold okType; simp; omega
  unfold codeType; rw [if_pos this]
 simp only [hc0] at hC
 have HLE := hid (typeL_len p r)
 have HCAT := hid (typeL_cat p r)
 have HC1 := hid (typeL_cat1 p)
 have hs := sizeU_pos p
 have hs2 := sizeU_pos r
 clear hc0
 go_enter Tryz.func114, Tryz.ntmps114
 go_wp2_with fail
 refine (hC _).mono ?_
 rintro e w1 ⟨rfl, hb1⟩
 obtain ⟨d0, d1, _, _, _⟩ := two hb1
 have hW0 : Below w.heap.size w (w.alloc (.cells #[.int .i64 p, .int .i64 r] 50)) := (Below.refl _ _).alloc (Nat.le_refl _) _
 have hs0 : w.heap.size + 1 = (w.alloc (.cells #[.int .i64 p, .int .i64 r] 50)).heap.size := by simp
 have HS0 := hid hs0
 have d0' := keepA d0 (.cells #[.int .u8 96] 5)
 clear hC hs0
 generalize w.alloc (.cells #[.int .i64 p, .int .i64 r] 50) = W0 at *
 go_wp2_with fail
 refine (refWords_any p hp _).mono ?_
 rintro e w3 ⟨v3, rfl, ho3, hb3⟩
 obtain ⟨a3, c3, rfl⟩ := ho3.sliceN (wordsL_len p)
 have hy3 := ho3.bytes (wordsL_bytes p) (by rw [wordsL_len]; omega)
 have hn3 := ho3.nil
 have hb4 : Below w1.heap.size w1 w3 := ((Below.refl _ _).alloc (Nat.le_refl _) _).trans (hb3.mono (by simp))
 have hoL := ((own_lit w1 96).below hb3).mono hb1.size
 have hB3 := thenB hb1 hb4
 have e1 := keep hb4 d1
 have HLk : W0.heap.size > w.heap.size := by have := HS0.out; omega
 clear ho3 hb3 hb4 d0 d1 d0' hb1
 go_wp2_with (first | (at_builtin; refine append_bytes rfl (.tmp 11) (.tmp 14) rfl rfl hoL hB3 hB3.size _ _ _ rfl hn3.out (wordsL_len p) hy3 (by rw [wordsL_len]; simp; omega) ?_; intro v5 w5 ho5 hB5 hs5; have e5 := (hB5.cell (p := ⟨w.heap.size, 1, none⟩) HLk).trans ((hB3.cell (p := ⟨w.heap.size, 1, none⟩) HLk).symm.trans e1); obtain ⟨a5, c5, rfl⟩ := ho5.sliceN HC1.out))
 refine (refWords_any r (by omega) _).mono ?_
 rintro e w7 ⟨v7, rfl, ho7, hb7⟩
 obtain ⟨a7, c7, rfl⟩ := ho7.sliceN (wordsL_len r)
 have hy7 := ho7.bytes (wordsL_bytes r) (by rw [wordsL_len]; omega)
 have hn7 := ho7.nil
 have ho6 := ho5.below hb7
 have hB7 := thenB hB5 hb7
 clear ho7 hb7 ho5 hB5
 go_wp2_with (first | (at_builtin; refine append_bytes rfl (.tmp 16) (.tmp 19) rfl rfl ho6 hB7 hB7.size _ _ _ rfl hn7.out (wordsL_len r) hy7 (by rw [HC1.out, wordsL_len]; omega) ?_; intro v9 w9 ho9 hB9 hs9; rw [HCAT.out] at ho9; obtain ⟨a9, c9, rfl⟩ := ho9.sliceN HLE.out))
 go_ret2
 exact ⟨_, rfl, ho9.mono (by have := HS0.out; omega), hW0.trans (hB9.mono (by have := HS0.out; omega))⟩
set_option maxHeartbeats 800000 in
theorem refPut_no (p r : Int) (h : okType p r = false) (w : World) : Calls Tryz.prog 114 #[.agg #[.int .i64 p, .int .i64 r]] w (PutNo w) := by
 have hC := fun w => refCheck_any p r w
 have hc0 : codeType p r = 2 := by unfold codeType; rw [h]; rfl
 simp only [hc0] at hC
 clear hc0 h
 go_enter Tryz.func114, Tryz.ntmps114
 go_wp2_with fail
 refine (hC _).mono ?_
 rintro e w1 ⟨rfl, hb1⟩
 have hA : Below w.heap.size w w1 := ((Below.refl _ _).alloc (Nat.le_refl _) _).trans (hb1.mono (by simp))
 clear hC hb1
 go_wp2
 go_ret2
 exact ⟨rfl, hA⟩
set_option maxHeartbeats 800000 in
theorem refPutLimits_no (n x : Int) (c : Bool) (most : Int) (h : okLim n x c most = false) (w : World) : Calls Tryz.prog 116 #[.agg #[.int .u32 n, .int .u32 x, .bool c], .int .u32 most] w (PutNo w) := by
 have hC := fun w => refCheckLimits_any n x c most w
 have hc0 : codeLim n x c most = 2 := by unfold codeLim; rw [h]; rfl
 simp only [hc0] at hC
 clear hc0 h
 go_enter Tryz.func116, Tryz.ntmps116
 go_wp2_with fail
 refine (hC _).mono ?_
 rintro e w1 ⟨rfl, hb1⟩
 have hA : Below w.heap.size w w1 := ((Below.refl _ _).alloc (Nat.le_refl _) _).trans (hb1.mono (by simp))
 clear hC hb1
 go_wp2
 go_ret2
 exact ⟨rfl, hA⟩
theorem limL_cat2 (n : Int) : [0] ++ encU n = limL n 0 false := by simp [limL]
theorem limL_cat (n x : Int) : [1] ++ encU n ++ encU x = limL n x true := by simp [limL]
set_option maxHeartbeats 1600000 in
theorem refPutLimits_plain (n x most : Int) (h : okLim n x false most = true) (h0 : 0 ≤ n ∧ n ≤ 4294967295) (w : World) : Calls Tryz.prog 116 #[.agg #[.int .u32 n, .int .u32 x, .bool false], .int .u32 most] w (PutOk w (limL n x false)) := by
 have hC := fun w => refCheckLimits_any n x false most w
 have hc0 : codeLim n x false most = 0 := by unfold codeLim; rw [if_pos h]
 obtain rfl : x = 0 := by unfold okLim at h; simp at h; exact h.2
 simp only [hc0] at hC
 have HCAT := hid (limL_cat2 n)
 have HLE := hid (limL_len2 n)
 have hs := sizeU_pos n
 clear hc0 h
 go_enter Tryz.func116, Tryz.ntmps116
 go_wp2_with fail
 refine (hC _).mono ?_
 rintro e w1 ⟨rfl, hb1⟩
 obtain ⟨d0, d1, d2⟩ := three hb1
 have hA : Below w.heap.size w w1 := ((Below.refl _ _).alloc (Nat.le_refl _) _).trans (hb1.mono (by simp))
 have d0' := keepA d0 (.cells #[.int .u8 0] 5)
 clear hC hb1
 go_wp2_with fail
 refine (refU_any n _ (by omega) (by omega)).mono ?_
 rintro e w3 ⟨v, rfl, ho, hb3⟩
 obtain ⟨a3, c3, rfl⟩ := ho.sliceN (encU_length n)
 have hy := ho.bytes (encU_bytes n) (by rw [encU_length]; omega)
 have hn3 := ho.nil
 have hb4 : Below w1.heap.size w1 w3 := ((Below.refl _ _).alloc (Nat.le_refl _) _).trans (hb3.mono (by simp))
 have hoL := ((own_lit w1 0).below hb3).mono hA.size
 have hA3 := thenB hA hb4
 clear ho hb3 hb4
 go_wp2_with (first | (at_builtin; refine append_bytes rfl (.tmp 16) (.tmp 19) rfl rfl hoL hA3 hA3.size _ _ _ rfl hn3.out (encU_length n) hy (by rw [encU_length]; simp; omega) ?_; intro v5 w5 ho5 hA5 hs5; rw [HCAT.out] at ho5; obtain ⟨a5, c5, rfl⟩ := ho5.sliceN HLE.out))
 go_ret2
 exact ⟨_, rfl, ho5, hA5⟩
end Go.Proofs.YtepbjkkakfpjgaaGreatDoor.Kind
namespace Go.Proofs.YtepbjkkakfpjgaaGreatDoor.Kind
open Go.RowKit Leb
theorem keepN {w w' : World} {x y : Value} {k : Nat} (c0 : w.cell? ⟨k, 0, none⟩ = some x) (c1 : w.cell? ⟨k, 1, none⟩ = some y) (hb : Below w.heap.size w w') :
  Below w.heap.size w w' ∧ w'.cell? ⟨k, 0, none⟩ = some x ∧ w'.cell? ⟨k, 1, none⟩ = some y := ⟨hb, keep hb c0, keep hb c1⟩
end Go.Proofs.YtepbjkkakfpjgaaGreatDoor.Kind
namespace Go.Proofs.YtepbjkkakfpjgaaGreatDoor
open Go.RowKit
theorem strOf_inj {xs ys : List Int} (hx : ∀ z ∈ xs, 0 ≤ z ∧ z < 256) (hy : ∀ z ∈ ys, 0 ≤ z ∧ z < 256) (h : xs.map (fun n => UInt8.ofNat n.toNat) = ys.map (fun n => UInt8.ofNat n.toNat)) : xs = ys := by
 induction xs generalizing ys with
 | nil => cases ys <;> simp_all
 | cons x xs ih =>
  cases ys with
  | nil => simp at h
  | cons y ys =>
   simp only [List.map_cons, List.cons.injEq] at h
   have h1 := hx x (by simp)
   have h2 := hy y (by simp)
   have h3 := congrArg UInt8.toNat h.1
   simp only [UInt8.toNat_ofNat'] at h3
   have : x = y := by omega
   rw [this, ih (fun z hz => hx z (by simp [hz])) (fun z hz => hy z (by simp [hz])) h.2]
theorem SameBytes_any (a1 a2 : Option Addr) (l1 c1 l2 c2 : Nat) (xs ys : List Int) (w : World) (hl1 : xs.length = l1) (hl2 : ys.length = l2) (hx : Bytes w a1 xs) (hy : Bytes w a2 ys) :
  Calls Tryz.prog 11 #[.slice a1 l1 c1, .slice a2 l2 c2] w fun e w' => e = .returned (.bool (decide (xs = ys))) ∧ w = w' := by
 have e1 := str_of hx l1 c1 hl1
 have e2 := str_of hy l2 c2 hl2
 have HE : Hid (((strOfNums xs).toList == (strOfNums ys).toList) = decide (xs = ys)) := by
  show (_ == _) = decide _
  by_cases h : xs = ys
  ·subst h; simp
  ·have : ¬ (strOfNums xs).toList = (strOfNums ys).toList := fun hh => h (strOf_inj hx.byte hy.byte (by rw [ByteArray.toList_eq, ByteArray.toList_eq, strOfNums_data, strOfNums_data] at hh; exact hh))
   simp [h, this]
 clear hl1 hl2
 go_enter Tryz.func11, Tryz.ntmps11
 go_wp2
 go_ret
 exact ⟨ret_bool HE.out, rfl⟩
end Go.Proofs.YtepbjkkakfpjgaaGreatDoor
