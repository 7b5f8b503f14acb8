import Derived.Test.YtiadgkdkjinnjaaGreatDoorBun04
import Derived.Test.YtiadgkdkjinnjaaGreatDoorBun05
import Derived.Test.YtiadgkdkjinnjaaGreatDoorProg
import Derived.Test.YtiadgkdkjinnjaaGreatDoorBun01
import Derived.Test.YtiadgkdkjinnjaaGreatDoorBun03
import Derived.Laws.BytesArg
import Derived.Lib.TrimUEq
import Derived.Lib.MapLaws
import Derived.Lib.OthersKept
import Derived.PinnedBridge
import Derived.Lib.LaidU8
import Derived.Lay
/-
  INSTR: Check by contract: a loop over the range function that may return from within.
-/
namespace Go.Proofs.YtiadgkdkjinnjaaGreatDoor.Instr
open Go.RowKit Go.Shelf

attribute [local go_sem] Oper.semAt_some

theorem lawful_any (x : Ix) (w : World) (hT : Nams w) : Calls Tryz.prog 180 #[.agg x.vals] w fun e w' => e = .returned (.bool (lawfulP x)) ∧ Below w.heap.size w w' := by
  by_cases h : nameL x.op = []
  · have : lawfulP x = false := by simp [lawfulP, h]
    rw [this]
    exact lawful_noname x w hT h
  · have : lawfulP x = (decide (overP x = 0) && (decide (x.res = 0) || decide (x.res = 1))) := by simp [lawfulP, h]
    rw [this]
    exact lawful_name x w hT h
def manyP (l : List (Int × Ix)) : Bool := decide (262144 < l.length) || (l.any fun p => decide (16384 < p.2.tags.length)) || decide (900 < deepest l)
theorem manyP_snoc (l : List (Int × Ix)) (p : Int × Ix) : manyP (l ++ [p]) = (manyP l || (decide (262144 < l.length + 1) || (decide (16384 < p.2.tags.length) || decide (900 < p.1)))) := by
  unfold manyP
  rw [deepest_snoc]
  simp only [List.length_append, List.length_cons, List.length_nil, List.any_append, List.any_cons, List.any_nil, Bool.or_false]
  rw [Bool.eq_iff_iff]
  simp only [Bool.or_eq_true, decide_eq_true_eq]
  constructor
  · rintro ((h | h | h) | h)
    · right; left; omega
    · left; left; right; exact h
    · right; right; left; exact h
    · rcases Int.le_total (deepest l) p.1 with h1 | h1
      · right; right; right; omega
      · left; right; omega
  · rintro (((h | h) | h) | h | h | h)
    · left; left; omega
    · left; right; left; exact h
    · right; omega
    · left; left; omega
    · left; right; right; exact h
    · right; omega
theorem manyP_walk (t : Il) : manyP (t.walk 1) = decide (262144 < t.count ∨ 900 < t.deep ∨ t.tags = true) := by
  unfold manyP
  rw [walk_length, walk_tags, deepest_walk, Bool.eq_iff_iff]
  simp only [Bool.or_eq_true, decide_eq_true_eq]
  constructor
  · rintro ((h | h) | h)
    · exact .inl h
    · exact .inr (.inr h)
    · exact .inr (.inl (by omega))
  · rintro (h | h | h)
    · exact .inl (.inl h)
    · exact .inr (by omega)
    · exact .inl (.inr h)

def allP (l : List (Int × Ix)) : Bool := l.all fun p => lawfulP p.2
theorem allP_snoc (l : List (Int × Ix)) (p : Int × Ix) : allP (l ++ [p]) = (allP l && lawfulP p.2) := by simp [allP, List.all_append]
theorem allP_walk (t : Il) (d : Int) : allP (t.walk d) = t.all := walk_all t d
theorem keepsFrom_below {B : Nat} {w w' : World} (h : Below w.heap.size w w') : KeepsFrom B w w' := ⟨h.size, fun k _ _ hk _ => (h.block k (Array.getElem?_eq_some_iff.1 hk).1).trans hk⟩
theorem At.own {x : Ix} {g : Nat} {A B : World} {row : Option Nat} (h : At x g A) (hg : A.grownBy B row) (hr : ∀ r, row = some r → ∃ o : Obj, A.heap[r]? = some o ∧ o.isCells = false) : At x g B :=
  ⟨cell_kept h.c0 hg hr, cell_kept h.c1 hg hr, cell_kept h.c2 hg hr, cell_kept h.c3 hg hr, cell_kept h.c4 hg hr, cell_kept h.c5 hg hr, cell_kept h.c6 hg hr, cell_kept h.c7 hg hr⟩

/-- What the loop of Check holds in its own cells: result, count, many. -/
structure Chk (g : Nat) (r : Int) (n : Int) (m : Bool) (W : World) : Prop where
  res : W.cell? ⟨g, 0, none⟩ = some (.int .i64 r)
  num : W.cell? ⟨g + 1, 0, none⟩ = some (.int .i64 n)
  many : W.cell? ⟨g + 2, 0, none⟩ = some (.bool m)
  fres : W.frozen? ⟨g, 0, none⟩ = false
  fnum : W.frozen? ⟨g + 1, 0, none⟩ = false
  fmany : W.frozen? ⟨g + 2, 0, none⟩ = false
theorem Chk.own {g : Nat} {r n : Int} {m : Bool} {A B : World} {row : Option Nat} (h : Chk g r n m A) (hg : A.grownBy B row) (hr : ∀ r, row = some r → ∃ o : Obj, A.heap[r]? = some o ∧ o.isCells = false) : Chk g r n m B :=
  ⟨cell_kept h.res hg hr, cell_kept h.num hg hr, cell_kept h.many hg hr, (frozen_kept h.res hg hr).trans h.fres, (frozen_kept h.num hg hr).trans h.fnum, (frozen_kept h.many hg hr).trans h.fmany⟩
theorem Chk.below {g : Nat} {r n : Int} {m : Bool} {A B : World} (h : Chk g r n m A) (hb : Below A.heap.size A B) : Chk g r n m B :=
  have f : ∀ p v, A.cell? p = some v → A.frozen? p = false → B.frozen? p = false := fun p _ hc hf => (hb.frozen (World.block_lt_of_cell? A p hc)).trans hf
  ⟨keep hb h.res, keep hb h.num, keep hb h.many, f _ _ h.res h.fres, f _ _ h.num h.fnum, f _ _ h.many h.fmany⟩

theorem Chk.next {g : Nat} {r n n' n2 : Int} {m m' m2 : Bool} {A : World} (h : Chk g r n m A) (hn : n' = n2) (hm : m' = m2) : Chk g r n' m' ((A.setCell ⟨g + 1, 0, none⟩ (.int .i64 n2)).setCell ⟨g + 1 + 1, 0, none⟩ (.bool m2)) := by
  obtain ⟨r1, r2, r3, f1, f2, f3⟩ := h
  subst hn hm
  constructor <;> simp [go_sem, *]

set_option maxRecDepth 100000 in
set_option maxHeartbeats 4000000 in
theorem Check_any (a : Option Addr) (len cap : Nat) (t : Il) (w : World) (hT : Nams w) (hl : ListAt w.heap.size w a len t) (hc : t.count ≤ 4611686018427387900) (hlen : len ≤ 140737488351232) :
    Calls Tryz.prog 120 #[.slice a len cap] w fun e w' => e = .returned (.int .i64 (checkP t)) ∧ Below w.heap.size w w' := by
  have HC := hid hc
  clear hc
  refine (callsIn_wide (n := 3)).1 ?_
  refine callsIn_of_wp_marks Tryz.func120 rfl trivial ?_ rfl
  simp only [Tryz.ntmps120, List.size_toArray, List.length_cons, List.length_nil, Nat.reduceAdd, Nat.reduceSub, Array.replicate_succ, Array.replicate_zero, List.push_toArray, List.append_toArray, List.nil_append, List.cons_append]
  gi_wp2_with (refine ⟨trivial, ?_⟩; refine (within_in _ _ _ _ _).mono ?_; rintro e w' ⟨rfl, rfl⟩)
  have hS0 : Chk w.heap.size 0 0 false (((w.alloc (.cells #[.int .i64 0] 36)).alloc (.cells #[.int .i64 0] 3)).alloc (.cells #[.bool false] 4)) := by constructor <;> go_simp
  have hb := cell_new (((w.alloc (.cells #[.int .i64 0] 36)).alloc (.cells #[.int .i64 0] 3)).alloc (.cells #[.bool false] 4)) (.slice a len cap) 45
  have hS1 := hS0.below ((Below.refl _ _).alloc (Nat.le_refl _) (.cells #[.slice a len cap] 45))
  have hB0 : Below w.heap.size w ((((w.alloc (.cells #[.int .i64 0] 36)).alloc (.cells #[.int .i64 0] 3)).alloc (.cells #[.bool false] 4)).alloc (.cells #[.slice a len cap] 45)) := thenA (thenA (thenA (thenA (Below.refl _ _) _) _) _) _
  have hsz : ((((w.alloc (.cells #[.int .i64 0] 36)).alloc (.cells #[.int .i64 0] 3)).alloc (.cells #[.bool false] 4)).alloc (.cells #[.slice a len cap] 45)).heap.size = w.heap.size + 4 := by simp
  have hsz3 : (((w.alloc (.cells #[.int .i64 0] 36)).alloc (.cells #[.int .i64 0] 3)).alloc (.cells #[.bool false] 4)).heap.size = w.heap.size + 1 + 1 + 1 := by simp
  rw [hsz3] at hb
  clear hS0 hsz3
  obtain ⟨W0, hW0⟩ : ∃ W0, (((w.alloc (.cells #[.int .i64 0] 36)).alloc (.cells #[.int .i64 0] 3)).alloc (.cells #[.bool false] 4)).alloc (.cells #[.slice a len cap] 45) = W0 := ⟨_, rfl⟩
  rw [hW0] at hb hS1 hB0 hsz ⊢
  clear hW0
  refine wpIn_rangeFunc_ownH rfl (by omega) (gf := 187) (lb := #[.pointer (some ⟨w.heap.size + 1 + 1 + 1, 0, none⟩)]) rfl trivial (enters_of Tryz.func187 (by kernel_rfl) rfl)
    (within_stops _ w.heap.size (w.heap.size + 4) (w.heap.size + 1 + 1 + 1) a len cap t W0 (by omega) (by omega) (by omega) hb.1 (hl.below hB0) (by have := HC.out; have := deep_le_count t; omega) hlen) (fun h k => h.trans k) (kept_b (by omega)) (Below.refl _ _) (fun _ => rfl)
    (fun pre W => (allP pre = true ∧ Chk w.heap.size 0 pre.length (manyP pre) W ∧ w.heap.size + 4 ≤ W.heap.size) ∧ Below w.heap.size w W)
    (fun c pre W => (c = .ret ∧ allP pre = false ∧ W.cell? ⟨w.heap.size, 0, none⟩ = some (.int .i64 2)) ∧ Below w.heap.size w W)
    (OwnFrom.and (Own.from (fun s A B row hs hg hr => ⟨hs.1, hs.2.1.own hg hr, Nat.le_trans hs.2.2 hg.size⟩) _) (ownFrom_below (Nat.le_refl _) (by omega)))
    (fun c => OwnFrom.and (Own.from (fun s A B row hs hg hr => ⟨hs.1, hs.2.1, cell_kept hs.2.2 hg hr⟩) _) (ownFrom_below (Nat.le_refl _) (by omega)))
    ⟨⟨rfl, by simpa [manyP, deepest] using hS1, by omega⟩, hB0⟩
    (fun x a' W => ∃ Bx, w.heap.size + 4 ≤ Bx ∧ At x.2 Bx W ∧ a' = { tmps := #[.slice a len cap, undef, .pointer (some ⟨w.heap.size, 0, none⟩), .pointer (some ⟨w.heap.size + 1, 0, none⟩), .pointer (some ⟨w.heap.size + 1 + 1, 0, none⟩), .int .i64 x.1, .pointer (some ⟨Bx, 0, none⟩), .slice a len cap, .func (.func 187) #[] #[.pointer (some ⟨w.heap.size + 1 + 1 + 1, 0, none⟩)], .int .i64 x.1, .agg x.2.vals, undef, undef, undef, undef, undef, undef, undef, undef, undef, undef, undef, undef, undef, undef, undef, undef, undef, undef, undef, undef, undef], defers := [] })
    (fun x a' _ X Y row hs hg hr => by obtain ⟨Bx, h1, h2, h3⟩ := hs; exact ⟨Bx, h1, h2.own hg (fun r e => (hr r e).2), h3⟩)
    ?assign ?body ?done ?stop
  case assign =>
    rintro l pre ⟨d, x⟩ W K ⟨⟨hla, hch, hz⟩, hB1⟩ hK
    simp only [encs, Ix.vals] at hK ⊢
    gi_wp2
    exact hK _ _ ((KeepsOthers.alloc _ _).from _) ((Kept.refl _ _ W).alloc _ (by omega)) ⟨⟨hla, hch.below ((Below.refl _ _).alloc (Nat.le_refl _) _), by simp; omega⟩, thenA hB1 _⟩ ⟨W.heap.size, hz, At.made x W, rfl⟩
  case body =>
    rintro l pre ⟨d, x⟩ a' W hl' ⟨r, hr⟩ ⟨⟨hla, hch, hz⟩, hB1⟩ ⟨Bx, hBx, bX, rfl⟩ hlt
    clear hsz hl'
    have CL := callsIn_wide (n := 3 - 1 - 1 - 1) |>.2 (lawful_any x W (hT.below hB1))
    obtain ⟨q, hq⟩ : ∃ q, lawfulP x = q := ⟨_, rfl⟩
    rw [hq] at CL
    obtain ⟨cnt, hcnt⟩ : ∃ cnt : Int, (pre.length : Int) = cnt := ⟨_, rfl⟩
    have hcb : 0 ≤ cnt ∧ cnt + 1 ≤ 4611686018427387900 := by have := HC.out; omega
    obtain ⟨m, hm⟩ : ∃ m, manyP pre = m := ⟨_, rfl⟩
    have hsn := manyP_snoc pre (d, x)
    have HSN := hid hsn
    have HQ := hid hq
    have HM := hid hm
    have HCN := hid hcnt
    have HLA := hid hla
    rw [hcnt, hm] at hch
    clear hsn hq hm hcnt hla hlt
    unfold Ix.vals at CL
    simp only [Ix.vals]
    obtain ⟨hc0, hc1⟩ := hcb
    have hch' := hch
    have bX' := bX
    obtain ⟨b0, b1, b2, b3, b4, b5, b6, b7⟩ := bX
    obtain ⟨r1, r2, r3, f1, f2, f3⟩ := hch
    gi_wp2_with fail
    refine ⟨trivial, ?_⟩
    refine (CallsIn.inRound l CL).mono ?_
    rintro e W3 ⟨rfl, hb3⟩
    clear CL b0 b1 b2 b3 b4 b5 b6 b7 r1 r2 r3 f1 f2 f3
    have hch3 := hch'.below hb3
    obtain ⟨r1, r2, r3, f1, f2, f3⟩ := hch3
    have bX3 := bX'.below hb3
    obtain ⟨b0, b1, b2, b3, b4, b5, b6, b7⟩ := bX3
    have hkf : KeepsFrom W0.heap.size W W3 := keepsFrom_below hb3
    have hkp : Kept w.heap.size (w.heap.size + 4) W W3 := Kept.of_below hb3 (by omega)
    cases q
    · gi_wp2
      exact ⟨hkf.trans ((KeepsOthers.setCell _ _ _).from _), ⟨rfl, by rw [allP_snoc, HQ.out, Bool.and_false], World.cell?_setCell_same' _ _ _ (by rw [r1]; rfl)⟩, (thenB hB1 hb3).setCell (p := ⟨w.heap.size, 0, none⟩) (Nat.le_refl _) _⟩
    · have hch3 : Chk w.heap.size 0 cnt m W3 := hch'.below hb3
      have hln : (((pre ++ [(d, x)]).length : Nat) : Int) = cnt + 1 := by rw [← HCN.out]; simp
      have HLN := hid hln
      clear hln
      gi_wp2
      all_goals
        refine ⟨hkf.trans (((KeepsOthers.setCell _ _ _).trans (KeepsOthers.setCell _ _ _)).from _), (hkp.setCell (p := ⟨w.heap.size + 1, 0, none⟩) (by simp) (by simp) _).setCell (p := ⟨w.heap.size + 1 + 1, 0, none⟩) (by simp; omega) (by simp) _,
          ⟨by rw [allP_snoc, HLA.out, HQ.out]; rfl, hch3.next HLN.out ?_, by have := hb3.size; simp [World.setCell]; omega⟩, ((thenB hB1 hb3).setCell (p := ⟨w.heap.size + 1, 0, none⟩) (by simp) _).setCell (p := ⟨w.heap.size + 1 + 1, 0, none⟩) (by simp; omega) _⟩
        rw [HSN.out, HM.out]
        have hcn := HCN.out
        cases m
        · simp only [Bool.false_or]
          rw [Bool.eq_iff_iff]
          simp only [Bool.or_eq_true, decide_eq_true_eq]
          constructor <;> intro hh <;> first | rfl | trivial | contradiction | omega | trace_state
        · simp_all
  case done =>
    rintro D ys W hD rfl ⟨⟨hla, hch, hz⟩, hB⟩ hK
    rw [allP_walk] at hla
    rw [manyP_walk] at hch
    obtain ⟨m, hm⟩ : ∃ m, decide (262144 < t.count ∨ 900 < t.deep ∨ t.tags = true) = m := ⟨_, rfl⟩
    rw [hm] at hch
    have HR : Hid (checkP t = if m then 141 else 0) := by show _ = _; unfold checkP; rw [if_pos hla, ← hm]; simp
    clear hm hla
    obtain ⟨r1, r2, r3, f1, f2, f3⟩ := hch
    cases m
    · gi_wp2
      have hK' := (KeepsOthers.setCell W ⟨w.heap.size, 0, none⟩ (.int .i64 0)).same D _ hK rfl
      refine ⟨by simp, .inl ⟨_, _, rfl, run_takeDeferred hK', ?_⟩⟩
      have hc5 := cell_kept (World.cell?_setCell_same' W ⟨w.heap.size, 0, none⟩ (.int .i64 0) (by rw [r1]; rfl)) (grownBy_putObj' _ D (.deferred none)) (fun r e => by cases e; exact ⟨_, hK', rfl⟩)
      refine ⟨.int .i64 0, ?_, by rw [HR.out]; rfl, (hB.setCell (p := ⟨w.heap.size, 0, none⟩) (Nat.le_refl _) _).trans (belowK_b (w := w) (Nat.le_refl _) _ D _ _ (by omega) hK' rfl rfl)⟩
      simp [results, Tryz.f120, go_sem, hc5]
    · gi_wp2
      have hK' := (KeepsOthers.setCell W ⟨w.heap.size, 0, none⟩ (.int .i64 141)).same D _ hK rfl
      refine ⟨by simp, .inl ⟨_, _, rfl, run_takeDeferred hK', ?_⟩⟩
      have hc5 := cell_kept (World.cell?_setCell_same' W ⟨w.heap.size, 0, none⟩ (.int .i64 141) (by rw [r1]; rfl)) (grownBy_putObj' _ D (.deferred none)) (fun r e => by cases e; exact ⟨_, hK', rfl⟩)
      refine ⟨.int .i64 141, ?_, by rw [HR.out]; rfl, (hB.setCell (p := ⟨w.heap.size, 0, none⟩) (Nat.le_refl _) _).trans (belowK_b (w := w) (Nat.le_refl _) _ D _ _ (by omega) hK' rfl rfl)⟩
      simp [results, Tryz.f120, go_sem, hc5]
  case stop =>
    rintro D c pre W hD hpre ⟨⟨rfl, hla, hc2⟩, hB⟩ hK
    have hall : t.all = false := by
      rw [← allP_walk t 1]
      obtain ⟨z, hz⟩ := hpre
      unfold allP at hla ⊢
      rw [← hz, List.all_append, hla]
      rfl
    have HR : Hid (checkP t = 2) := by show _ = _; unfold checkP; rw [hall]; rfl
    clear hall hla hpre
    gi_wp2
    refine ⟨by simp, .inl ⟨_, _, rfl, run_takeDeferred hK, ?_⟩⟩
    have hc5 := cell_kept hc2 (grownBy_putObj' _ D (.deferred none)) (fun r e => by cases e; exact ⟨_, hK, rfl⟩)
    refine ⟨.int .i64 2, ?_, by rw [HR.out], hB.trans (belowK_b (w := w) (Nat.le_refl _) W D _ _ (by omega) hK rfl rfl)⟩
    simp [results, Tryz.f120, go_sem, hc5]
end Go.Proofs.YtiadgkdkjinnjaaGreatDoor.Instr

/-
  Runes and their bytes: plain functions. A rune's bytes; which rune a list of bytes begins with; the runes of a list, and how many bytes they take; that these lead to one another; that the model's own decoding says the same.
-/
namespace Go.Proofs.YtiadgkdkjinnjaaGreatDoor.Utf

/-- May a number be a rune? -/
def Rune (n : Int) : Prop := 0 ≤ n ∧ n ≤ 1114111 ∧ (n < 55296 ∨ 57343 < n)
instance (n : Int) : Decidable (Rune n) := by unfold Rune; infer_instance
/-- A rune's bytes. -/
def oneL (n : Int) : List Int :=
  if n < 128 then [n] else if n < 2048 then [192 + n / 64, 128 + n % 64] else if n < 65536 then [224 + n / 4096, 128 + n / 64 % 64, 128 + n % 64]
  else [240 + n / 262144, 128 + n / 4096 % 64, 128 + n / 64 % 64, 128 + n % 64]
/-- The part of a first byte, and how many go on. -/
def firstL (c : Int) : Option (Int × Nat) :=
  if c < 128 then some (c, 0) else if 192 ≤ c ∧ c < 224 then some (c - 192, 1) else if 224 ≤ c ∧ c < 240 then some (c - 224, 2) else if 240 ≤ c ∧ c < 248 then some (c - 240, 3) else none
/-- What so many bytes that go on make of a number. -/
def tailsL : Nat → Int → List Int → Option Int
  | 0, n, _ => some n
  | _ + 1, _, [] => none
  | m + 1, n, c :: t => if 128 ≤ c ∧ c < 192 then tailsL m (64 * n + (c - 128)) t else none
/-- The rune that a list begins with, and how many bytes it has. -/
def atL : List Int → Option (Int × Nat)
  | [] => none
  | c :: t => match firstL c with
    | none => none
    | some (n0, more) => match tailsL more n0 t with
      | none => none
      | some n => if Rune n ∧ (oneL n).length = more + 1 then some (n, more + 1) else none

theorem oneL_length (n : Int) : 1 ≤ (oneL n).length ∧ (oneL n).length ≤ 4 := by
  unfold oneL
  repeat' split
  all_goals simp
theorem oneL_bytes {n : Int} (h : Rune n) : ∀ z ∈ oneL n, 0 ≤ z ∧ z < 256 := by
  obtain ⟨h0, h1, _⟩ := h
  unfold oneL
  repeat' split
  all_goals (intro z hz; simp only [List.mem_cons, List.not_mem_nil, or_false] at hz)
  · omega
  · rcases hz with rfl | rfl <;> omega
  · rcases hz with rfl | rfl | rfl <;> omega
  · rcases hz with rfl | rfl | rfl | rfl <;> omega

theorem tailsL_some : ∀ (m : Nat) (n : Int) (t : List Int) (r : Int), tailsL m n t = some r → m ≤ t.length
  | 0, _, _, _, _ => Nat.zero_le _
  | _ + 1, _, [], _, h => by simp [tailsL] at h
  | m + 1, n, c :: t, r, h => by
    simp only [tailsL] at h
    split at h
    · have := tailsL_some m _ t r h
      simp; omega
    · cases h
/-- What a list begins with is a rune, and just its bytes. -/
theorem atL_some {l : List Int} {n : Int} {k : Nat} (h : atL l = some (n, k)) : Rune n ∧ l.take k = oneL n ∧ k = (oneL n).length ∧ 1 ≤ k ∧ k ≤ 4 ∧ k ≤ l.length := by
  cases l with
  | nil => simp [atL] at h
  | cons c t =>
    simp only [atL, firstL] at h
    by_cases h1 : c < 128
    · simp only [if_pos h1, tailsL] at h
      split at h
      · rename_i hr
        simp only [Option.some.injEq, Prod.mk.injEq] at h
        obtain ⟨rfl, rfl⟩ := h
        refine ⟨hr.1, ?_, hr.2.symm, by omega, by omega, by simp⟩
        simp [oneL, h1]
      · cases h
    rw [if_neg h1] at h
    by_cases h2 : 192 ≤ c ∧ c < 224
    · simp only [if_pos h2] at h
      match t, h with
      | [], h => simp [tailsL] at h
      | c1 :: t, h =>
        simp only [tailsL] at h
        by_cases k1 : 128 ≤ c1 ∧ c1 < 192
        · simp only [if_pos k1] at h
          split at h
          · rename_i hr
            simp only [Option.some.injEq, Prod.mk.injEq] at h
            obtain ⟨rfl, rfl⟩ := h
            refine ⟨hr.1, ?_, hr.2.symm, by omega, by omega, by simp⟩
            have hl := hr.2
            unfold oneL at hl ⊢
            split at hl
            · simp at hl
            · split at hl
              · rename_i a b
                rw [if_neg a, if_pos b]
                simp only [List.take_succ_cons, List.take_zero, List.cons.injEq, and_true]
                omega
              · split at hl <;> simp at hl
          · cases h
        · simp [if_neg k1] at h
    rw [if_neg h2] at h
    by_cases h3 : 224 ≤ c ∧ c < 240
    · simp only [if_pos h3] at h
      match t, h with
      | [], h => simp [tailsL] at h
      | [c1], h => simp [tailsL] at h
      | c1 :: c2 :: t, h =>
        simp only [tailsL] at h
        by_cases k1 : 128 ≤ c1 ∧ c1 < 192
        · simp only [if_pos k1] at h
          by_cases k2 : 128 ≤ c2 ∧ c2 < 192
          · simp only [if_pos k2] at h
            split at h
            · rename_i hr
              simp only [Option.some.injEq, Prod.mk.injEq] at h
              obtain ⟨rfl, rfl⟩ := h
              refine ⟨hr.1, ?_, hr.2.symm, by omega, by omega, by simp⟩
              have hl := hr.2
              unfold oneL at hl ⊢
              split at hl
              · simp at hl
              · split at hl
                · simp at hl
                · split at hl
                  · rename_i a b d
                    rw [if_neg a, if_neg b, if_pos d]
                    simp only [List.take_succ_cons, List.take_zero, List.cons.injEq, and_true]
                    omega
                  · simp at hl
            · cases h
          · simp [if_neg k2] at h
        · simp [if_neg k1] at h
    rw [if_neg h3] at h
    by_cases h4 : 240 ≤ c ∧ c < 248
    · simp only [if_pos h4] at h
      match t, h with
      | [], h => simp [tailsL] at h
      | [c1], h => simp [tailsL] at h
      | [c1, c2], h => simp [tailsL] at h
      | c1 :: c2 :: c3 :: t, h =>
        simp only [tailsL] at h
        by_cases k1 : 128 ≤ c1 ∧ c1 < 192
        · simp only [if_pos k1] at h
          by_cases k2 : 128 ≤ c2 ∧ c2 < 192
          · simp only [if_pos k2] at h
            by_cases k3 : 128 ≤ c3 ∧ c3 < 192
            · simp only [if_pos k3] at h
              split at h
              · rename_i hr
                simp only [Option.some.injEq, Prod.mk.injEq] at h
                obtain ⟨rfl, rfl⟩ := h
                refine ⟨hr.1, ?_, hr.2.symm, by omega, by omega, by simp⟩
                have hl := hr.2
                unfold oneL at hl ⊢
                split at hl
                · simp at hl
                · split at hl
                  · simp at hl
                  · split at hl
                    · simp at hl
                    · rename_i a b d
                      rw [if_neg a, if_neg b, if_neg d]
                      simp only [List.take_succ_cons, List.take_zero, List.cons.injEq, and_true]
                      omega
              · cases h
            · simp [if_neg k3] at h
          · simp [if_neg k2] at h
        · simp [if_neg k1] at h
    · simp [if_neg h4] at h

/-- A rune's bytes begin with it. -/
theorem atL_one {n : Int} (h : Rune n) (rest : List Int) : atL (oneL n ++ rest) = some (n, (oneL n).length) := by
  have hr := h
  obtain ⟨h0, h1, h2⟩ := h
  by_cases a : n < 128
  · have e : oneL n = [n] := by simp [oneL, a]
    simp [atL, firstL, tailsL, e, a, hr]
  by_cases b : n < 2048
  · have e : oneL n = [192 + n / 64, 128 + n % 64] := by simp [oneL, a, b]
    have c1 : ¬ (192 + n / 64 < 128) := by omega
    have c2 : 192 ≤ 192 + n / 64 ∧ 192 + n / 64 < 224 := by omega
    have c3 : 128 ≤ 128 + n % 64 ∧ 128 + n % 64 < 192 := by omega
    have c4 : 64 * (192 + n / 64 - 192) + (128 + n % 64 - 128) = n := by omega
    rw [e]
    simp only [List.cons_append, List.nil_append, atL, firstL, if_neg c1, if_pos c2, tailsL, if_pos c3, c4, e]
    simp [hr]
  by_cases d : n < 65536
  · have e : oneL n = [224 + n / 4096, 128 + n / 64 % 64, 128 + n % 64] := by simp [oneL, a, b, d]
    have c1 : ¬ (224 + n / 4096 < 128) := by omega
    have c2 : ¬ (192 ≤ 224 + n / 4096 ∧ 224 + n / 4096 < 224) := by omega
    have c3 : 224 ≤ 224 + n / 4096 ∧ 224 + n / 4096 < 240 := by omega
    have c4 : 128 ≤ 128 + n / 64 % 64 ∧ 128 + n / 64 % 64 < 192 := by omega
    have c5 : 128 ≤ 128 + n % 64 ∧ 128 + n % 64 < 192 := by omega
    have c6 : 64 * (64 * (224 + n / 4096 - 224) + (128 + n / 64 % 64 - 128)) + (128 + n % 64 - 128) = n := by omega
    rw [e]
    simp only [List.cons_append, List.nil_append, atL, firstL, if_neg c1, if_neg c2, if_pos c3, tailsL, if_pos c4, if_pos c5, c6, e]
    simp [hr]
  · have e : oneL n = [240 + n / 262144, 128 + n / 4096 % 64, 128 + n / 64 % 64, 128 + n % 64] := by simp [oneL, a, b, d]
    have c1 : ¬ (240 + n / 262144 < 128) := by omega
    have c2 : ¬ (192 ≤ 240 + n / 262144 ∧ 240 + n / 262144 < 224) := by omega
    have c3 : ¬ (224 ≤ 240 + n / 262144 ∧ 240 + n / 262144 < 240) := by omega
    have c4 : 240 ≤ 240 + n / 262144 ∧ 240 + n / 262144 < 248 := by omega
    have c5 : 128 ≤ 128 + n / 4096 % 64 ∧ 128 + n / 4096 % 64 < 192 := by omega
    have c6 : 128 ≤ 128 + n / 64 % 64 ∧ 128 + n / 64 % 64 < 192 := by omega
    have c7 : 128 ≤ 128 + n % 64 ∧ 128 + n % 64 < 192 := by omega
    have c8 : 64 * (64 * (64 * (240 + n / 262144 - 240) + (128 + n / 4096 % 64 - 128)) + (128 + n / 64 % 64 - 128)) + (128 + n % 64 - 128) = n := by omega
    rw [e]
    simp only [List.cons_append, List.nil_append, atL, firstL, if_neg c1, if_neg c2, if_neg c3, if_pos c4, tailsL, if_pos c5, if_pos c6, if_pos c7, c8, e]
    simp [hr]

/-- The runes that a list begins with, up to the first place where none begins; and how many bytes they take. -/
def scanGo : Nat → List Int → List Int × Nat
  | 0, _ => ([], 0)
  | f + 1, l => match atL l with
    | none => ([], 0)
    | some (n, k) => (n :: (scanGo f (l.drop k)).1, k + (scanGo f (l.drop k)).2)
def scan (l : List Int) : List Int × Nat := scanGo l.length l
theorem scanGo_fuel : ∀ (f g : Nat) (l : List Int), l.length ≤ f → l.length ≤ g → scanGo f l = scanGo g l
  | 0, 0, _, _, _ => rfl
  | 0, g + 1, l, hf, _ => by
    have : l = [] := List.eq_nil_of_length_eq_zero (by omega)
    subst this; simp [scanGo, atL]
  | f + 1, 0, l, _, hg => by
    have : l = [] := List.eq_nil_of_length_eq_zero (by omega)
    subst this; simp [scanGo, atL]
  | f + 1, g + 1, l, hf, hg => by
    simp only [scanGo]
    cases h : atL l with
    | none => rfl
    | some p =>
      obtain ⟨n, k⟩ := p
      obtain ⟨_, _, _, hk, _, hl⟩ := atL_some h
      simp only
      rw [scanGo_fuel f g (l.drop k) (by simp; omega) (by simp; omega)]
theorem scan_none {l : List Int} (h : atL l = none) : scan l = ([], 0) := by
  unfold scan
  cases l with
  | nil => rfl
  | cons c t => simp [scanGo, h]
theorem scan_some {l : List Int} {n : Int} {k : Nat} (h : atL l = some (n, k)) : scan l = (n :: (scan (l.drop k)).1, k + (scan (l.drop k)).2) := by
  obtain ⟨_, _, _, hk, _, hl⟩ := atL_some h
  unfold scan
  obtain ⟨m, hm⟩ : ∃ m, l.length = m + 1 := ⟨l.length - 1, by omega⟩
  rw [hm]
  simp only [scanGo, h]
  rw [scanGo_fuel m (l.drop k).length (l.drop k) (by simp; omega) (Nat.le_refl _)]
theorem scan_nil : scan [] = ([], 0) := rfl

/-- Induction along a list, a rune at a time. -/
theorem along {p : List Int → Prop} (h0 : ∀ l, atL l = none → p l) (h1 : ∀ l n k, atL l = some (n, k) → p (l.drop k) → p l) (l : List Int) : p l := by
  suffices h : ∀ m (l : List Int), l.length ≤ m → p l from h _ l (Nat.le_refl _)
  intro m
  induction m with
  | zero =>
    intro l hl
    have : l = [] := List.eq_nil_of_length_eq_zero (by omega)
    subst this
    exact h0 _ rfl
  | succ m ih =>
    intro l hl
    cases h : atL l with
    | none => exact h0 _ h
    | some q =>
      obtain ⟨n, k⟩ := q
      obtain ⟨_, _, _, hk, _, hkl⟩ := atL_some h
      exact h1 l n k h (ih _ (by simp; omega))

theorem scan_le (l : List Int) : (scan l).2 ≤ l.length := by
  refine along (p := fun l => (scan l).2 ≤ l.length) ?_ ?_ l
  · intro l h; rw [scan_none h]; exact Nat.zero_le _
  · intro l n k h ih
    obtain ⟨_, _, _, _, _, hkl⟩ := atL_some h
    rw [scan_some h]
    simp only [List.length_drop] at ih
    simp only
    omega
theorem scan_count (l : List Int) : (scan l).1.length ≤ (scan l).2 := by
  refine along (p := fun l => (scan l).1.length ≤ (scan l).2) ?_ ?_ l
  · intro l h; rw [scan_none h]; exact Nat.zero_le _
  · intro l n k h ih
    obtain ⟨_, _, _, hk, _, _⟩ := atL_some h
    rw [scan_some h]
    simp only [List.length_cons]
    omega
theorem scan_runes (l : List Int) : ∀ n ∈ (scan l).1, Rune n := by
  refine along (p := fun l => ∀ n ∈ (scan l).1, Rune n) ?_ ?_ l
  · intro l h; rw [scan_none h]; simp
  · intro l n k h ih
    rw [scan_some h]
    intro m hm
    rcases List.mem_cons.1 hm with rfl | hm
    · exact (atL_some h).1
    · exact ih m hm

/-- The text of runes. -/
def textL : List Int → List Int
  | [] => []
  | n :: t => oneL n ++ textL t
theorem textL_append : ∀ a b : List Int, textL (a ++ b) = textL a ++ textL b
  | [], _ => rfl
  | n :: a, b => by simp [textL, textL_append a b]
theorem textL_length : ∀ l : List Int, (textL l).length ≤ 4 * l.length
  | [] => by simp [textL]
  | n :: t => by
    have := textL_length t
    have := oneL_length n
    simp [textL]; omega
theorem textL_count : ∀ l : List Int, l.length ≤ (textL l).length
  | [] => by simp [textL]
  | n :: t => by
    have := textL_count t
    have := oneL_length n
    simp [textL]; omega
theorem textL_bytes : ∀ l : List Int, (∀ n ∈ l, Rune n) → ∀ z ∈ textL l, 0 ≤ z ∧ z < 256
  | [], _ => by simp [textL]
  | n :: t, h => by
    intro z hz
    rcases List.mem_append.1 hz with hz | hz
    · exact oneL_bytes (h n (by simp)) z hz
    · exact textL_bytes t (fun m hm => h m (by simp [hm])) z hz
/-- The runes of a text are those that it was made of. -/
theorem scan_text : ∀ l : List Int, (∀ n ∈ l, Rune n) → scan (textL l) = (l, (textL l).length)
  | [], _ => rfl
  | n :: t, h => by
    have e := atL_one (h n (by simp)) (textL t)
    rw [textL, scan_some e]
    simp only [List.drop_left]
    rw [scan_text t fun m hm => h m (by simp [hm])]
    simp
/-- The text of the runes of a list is the bytes that they take. -/
theorem text_scan (l : List Int) : textL (scan l).1 = l.take (scan l).2 := by
  refine along (p := fun l => textL (scan l).1 = l.take (scan l).2) ?_ ?_ l
  · intro l h; rw [scan_none h]; simp [textL]
  · intro l n k h ih
    obtain ⟨_, ht, _, _, _, hkl⟩ := atL_some h
    rw [scan_some h]
    simp only [textL]
    rw [ih, ← ht, List.take_add]
theorem text_scan_all {l : List Int} (h : (scan l).2 = l.length) : textL (scan l).1 = l := by rw [text_scan, h, List.take_length]
/-- Where a list is no text of runes; -1: it is one. -/
def badL (l : List Int) : Int := if (scan l).2 = l.length then -1 else (scan l).2
theorem badL_none {l : List Int} (h : (scan l).2 = l.length) : badL l = -1 := if_pos h
theorem badL_some {l : List Int} (h : (scan l).2 ≠ l.length) : badL l = (scan l).2 := if_neg h
theorem badL_neg (l : List Int) : badL l < 0 ↔ (scan l).2 = l.length := by
  unfold badL
  split <;> simp_all <;> omega
theorem badL_text {l : List Int} (h : ∀ n ∈ l, Rune n) : badL (textL l) = -1 := badL_none (by rw [scan_text l h])

end Go.Proofs.YtiadgkdkjinnjaaGreatDoor.Utf

/-
  MODULE: modules as plain data: what their lists hold and where these lie; whether they may be; their functions' types, exports, sizes. It imports nothing of any translation.
-/
namespace Go.Proofs.YtiadgkdkjinnjaaGreatDoor.Mod
open Go.RowKit Go.Proofs.YtiadgkdkjinnjaaGreatDoor.Instr

/-- A list of instructions: where it lies, how far it reaches, what it is. -/
structure Lst where
  a : Option Addr
  c : Nat
  t : Il
structure Imp where
  mo : ByteArray
  na : ByteArray
  ty : Int
structure Fn where
  ty : Int
  lo : Int
  l : Lst
structure Li where
  n : Int
  x : Int
  c : Bool
structure Gl where
  mu : Bool
  l : Lst
structure Ex where
  na : ByteArray
  k : Int
  i : Int
structure El where
  l : Lst
  fa : Option Addr
  fc : Nat
  fs : List Int
structure Da where
  l : Lst
  ba : Option Addr
  bc : Nat
  bs : List Int
/-- Where a slice lies, and how far it reaches. -/
structure Sl where
  a : Option Addr
  c : Nat
structure Md where
  ty : List (Int × Int)
  im : List Imp
  fu : List Fn
  tb : List Li
  me : List Li
  gl : List Gl
  ex : List Ex
  st : Bool
  sn : Int
  el : List El
  da : List Da
  ty' : Sl
  im' : Sl
  fu' : Sl
  tb' : Sl
  me' : Sl
  gl' : Sl
  ex' : Sl
  el' : Sl
  da' : Sl

def Lst.val (l : Lst) : Value := .slice l.a l.t.len l.c
def tyV (x : Int × Int) : List Value := [.int .i64 x.1, .int .i64 x.2]
def Imp.v (x : Imp) : List Value := [.string x.mo, .string x.na, .int .i64 x.ty]
def Fn.v (x : Fn) : List Value := [.int .i64 x.ty, .int .i64 x.lo, x.l.val]
def Li.v (x : Li) : List Value := [.int .u32 x.n, .int .u32 x.x, .bool x.c]
def Gl.v (x : Gl) : List Value := [.bool x.mu, x.l.val]
def Ex.v (x : Ex) : List Value := [.string x.na, .int .i64 x.k, .int .u32 x.i]
def El.v (x : El) : List Value := [x.l.val, .slice x.fa x.fs.length x.fc]
def Da.v (x : Da) : List Value := [x.l.val, .slice x.ba x.bs.length x.bc]
/-- A module's cells. -/
def Md.v (m : Md) : Array Value := #[.slice m.ty'.a m.ty.length m.ty'.c, .slice m.im'.a m.im.length m.im'.c, .slice m.fu'.a m.fu.length m.fu'.c, .slice m.tb'.a m.tb.length m.tb'.c, .slice m.me'.a m.me.length m.me'.c,
  .slice m.gl'.a m.gl.length m.gl'.c, .slice m.ex'.a m.ex.length m.ex'.c, .bool m.st, .int .u32 m.sn, .slice m.el'.a m.el.length m.el'.c, .slice m.da'.a m.da.length m.da'.c]

/-- All lists of instructions, in order. -/
def Md.codes (m : Md) : List Lst := m.fu.map (·.l) ++ (m.gl.map (·.l) ++ (m.el.map (·.l) ++ m.da.map (·.l)))
/-- What is told of them all: too many ahead of wrong. -/
def codeP : List Lst → Int
  | [] => 0
  | l :: r => if checkP l.t = 141 then 141 else if codeP r = 141 then 141 else if checkP l.t = 0 then codeP r else 2
theorem checkP_cases (t : Il) : checkP t = 0 ∨ checkP t = 141 ∨ checkP t = 2 := by
  unfold checkP; split
  · split <;> simp
  · simp
theorem codeP_cons (l : Lst) (r : List Lst) : codeP (l :: r) = if checkP l.t = 141 then 141 else if codeP r = 141 then 141 else if checkP l.t = 0 then codeP r else 2 := rfl
theorem codeP_cases : ∀ l : List Lst, codeP l = 0 ∨ codeP l = 141 ∨ codeP l = 2
  | [] => .inl rfl
  | l :: r => by
    rw [codeP_cons]
    have := codeP_cases r
    split
    · simp
    · split
      · simp
      · split
        · exact this
        · simp
def worstP : List Lst → Int → Int
  | [], x => x
  | l :: r, x => worstP r (if checkP l.t = 0 then x else checkP l.t)
theorem worstP_append : ∀ (l r : List Lst) (x : Int), worstP (l ++ r) x = worstP r (worstP l x)
  | [], _, _ => rfl
  | a :: l, r, x => by simp only [List.cons_append, worstP]; exact worstP_append l r _
/-- As the program goes: no list has too many, and what the last wrong one told. -/
theorem codeP_none : ∀ (l : List Lst) (x : Int), (∀ y ∈ l, checkP y.t ≠ 141) → (x = 0 ∨ x = 2) → worstP l x = (if x = 2 then 2 else codeP l) ∧ codeP l ≠ 141
  | [], x, _, hx => by
    simp only [worstP, codeP]
    split <;> omega
  | l :: r, x, h, hx => by
    have h0 := h l (by simp)
    have hr : ∀ y ∈ r, checkP y.t ≠ 141 := fun y hy => h y (by simp [hy])
    have hc := checkP_cases l.t
    simp only [worstP]
    by_cases h1 : checkP l.t = 0
    · obtain ⟨i1, i2⟩ := codeP_none r x hr hx
      have e : codeP (l :: r) = codeP r := by rw [codeP_cons, if_neg h0, if_neg i2, if_pos h1]
      rw [if_pos h1, i1, e]
      exact ⟨rfl, i2⟩
    · have h2 : checkP l.t = 2 := by omega
      obtain ⟨i1, i2⟩ := codeP_none r 2 hr (.inr rfl)
      have e : codeP (l :: r) = 2 := by rw [codeP_cons, if_neg h0, if_neg i2, if_neg h1]
      rw [if_neg h1, h2, i1, if_pos rfl, e]
      exact ⟨by split <;> rfl, by omega⟩
theorem codeP_many : ∀ (l : List Lst) (y : Lst), y ∈ l → checkP y.t = 141 → codeP l = 141
  | [], y, h, _ => by simp at h
  | l :: r, y, h, h1 => by
    rw [codeP_cons]
    rcases List.mem_cons.1 h with rfl | h
    · rw [if_pos h1]
    · split
      · rfl
      · rw [if_pos (codeP_many r y h h1)]
theorem codeP_of_many : ∀ (l : List Lst), codeP l = 141 → ∃ y ∈ l, checkP y.t = 141
  | [], h => by simp [codeP] at h
  | l :: r, h => by
    rw [codeP_cons] at h
    split at h
    · exact ⟨l, by simp, by assumption⟩
    · split at h
      · obtain ⟨y, hy, h1⟩ := codeP_of_many r (by assumption)
        exact ⟨y, by simp [hy], h1⟩
      · split at h
        · contradiction
        · omega
theorem codeP_zero : ∀ (l : List Lst), codeP l = 0 ↔ ∀ y ∈ l, checkP y.t = 0
  | [] => by simp [codeP]
  | l :: r => by
    rw [codeP_cons, List.forall_mem_cons, ← codeP_zero r]
    have := checkP_cases l.t
    have := codeP_cases r
    (repeat' split) <;> omega

/-- The place of the first item of which p holds; -1 if there is none. -/
def idxP {α : Type} (p : α → Bool) (l : List α) : Int := match l.findIdx? p with
  | some i => (i : Int)
  | none => -1
theorem idxP_hit {α : Type} {p : α → Bool} {l : List α} {k : Nat} (hk : k < l.length) (h : p l[k] = true) (hb : ∀ j (hj : j < l.length), j < k → p l[j] = false) : idxP p l = k := by
  have : l.findIdx? p = some k := List.findIdx?_eq_some_iff_getElem.2 ⟨hk, h, fun j hj => by rw [hb j (by omega) hj]; simp⟩
  unfold idxP; rw [this]
theorem idxP_miss {α : Type} {p : α → Bool} {l : List α} (hb : ∀ j (hj : j < l.length), p l[j] = false) : idxP p l = -1 := by
  have : l.findIdx? p = none := List.findIdx?_eq_none_iff.2 fun x hx => by
    obtain ⟨j, hj, rfl⟩ := List.mem_iff_getElem.1 hx
    exact hb j hj
  unfold idxP; rw [this]
theorem idxP_any {α : Type} (p : α → Bool) (l : List α) : decide (0 ≤ idxP p l) = l.any p := by
  cases h : l.findIdx? p with
  | none =>
    have h1 := List.findIdx?_eq_none_iff.1 h
    have : l.any p = false := by rw [List.any_eq_false]; intro x hx; rw [h1 x hx]; simp
    rw [this]; unfold idxP; rw [h]; simp
  | some i =>
    obtain ⟨hi, h1, _⟩ := List.findIdx?_eq_some_iff_getElem.1 h
    have : l.any p = true := List.any_eq_true.2 ⟨l[i], List.getElem_mem hi, h1⟩
    rw [this]; unfold idxP; rw [h]; simp
theorem idxP_bounds {α : Type} (p : α → Bool) (l : List α) : -1 ≤ idxP p l ∧ idxP p l < l.length := by
  unfold idxP
  cases h : l.findIdx? p with
  | none => simp; omega
  | some i =>
    obtain ⟨hi, _, _⟩ := List.findIdx?_eq_some_iff_getElem.1 h
    simp; omega

/-- Has a list too many items? -/
def Md.crowded (m : Md) : Bool :=
  decide (16384 < m.ty.length) || decide (16384 < m.im.length) || decide (16384 < m.fu.length) || decide (16384 < m.gl.length) || decide (16384 < m.ex.length) || decide (16384 < m.el.length) || decide (16384 < m.da.length) ||
    (m.el.any fun e => decide (16384 < e.fs.length)) || decide (1 < m.tb.length) || decide (1 < m.me.length)
/-- The longest of these lists of functions, and of what is longest besides. -/
def longP (l : List El) (x : Int) : Int := l.foldl (fun x e => max x (e.fs.length : Int)) x
theorem longP_snoc (l : List El) (e : El) (x : Int) : longP (l ++ [e]) x = max (longP l x) (e.fs.length : Int) := by simp [longP, List.foldl_append]
theorem longP_gt : ∀ (l : List El) (x : Int), decide (16384 < longP l x) = (decide (16384 < x) || l.any fun e => decide (16384 < e.fs.length))
  | [], x => (Bool.or_false _).symm
  | e :: l, x => by
    have := longP_gt l (max x (e.fs.length : Int))
    unfold longP at this ⊢
    rw [List.foldl_cons, this, List.any_cons, ← Bool.or_assoc]
    congr 1
    rw [Bool.eq_iff_iff]
    simp only [Bool.or_eq_true, decide_eq_true_eq]
    omega
def Md.max7 (m : Md) : Int := max (max (max (max (max (max (m.ty.length : Int) m.im.length) m.fu.length) m.gl.length) m.ex.length) m.el.length) m.da.length
theorem crowded_eq (m : Md) : m.crowded = (decide (16384 < longP m.el m.max7) || (decide (1 < m.tb.length) || decide (1 < m.me.length))) := by
  rw [longP_gt]
  have : decide (16384 < m.max7) = (decide (16384 < m.ty.length) || decide (16384 < m.im.length) || decide (16384 < m.fu.length) || decide (16384 < m.gl.length) || decide (16384 < m.ex.length) || decide (16384 < m.el.length) || decide (16384 < m.da.length)) := by
    unfold Md.max7
    rw [Bool.eq_iff_iff]
    simp only [Bool.or_eq_true, decide_eq_true_eq]
    omega
  rw [this]
  unfold Md.crowded
  simp only [Bool.or_assoc]
def longS (s : ByteArray) : Bool := decide (1000 < s.size)
def noText (s : ByteArray) : Bool := decide (0 ≤ Utf.badL (numsOf s))
def Md.anyName (m : Md) (p : ByteArray → Bool) : Bool := (m.im.any fun i => p i.mo || p i.na) || (m.ex.any fun e => p e.na)
def sumB : List Da → Nat
  | [] => 0
  | d :: r => d.bs.length + sumB r
theorem sumB_append : ∀ (l r : List Da), sumB (l ++ r) = sumB l + sumB r
  | [], r => by simp [sumB]
  | d :: l, r => by simp only [List.cons_append, sumB, sumB_append l r]; omega
theorem sumB_take (l : List Da) (k : Nat) : sumB (l.take k) ≤ sumB l := by
  have := sumB_append (l.take k) (l.drop k)
  rw [List.take_append_drop] at this
  omega
theorem sumB_step {l : List Da} {k : Nat} (hk : k < l.length) : sumB (l.take (k + 1)) = sumB (l.take k) + l[k].bs.length := by
  rw [List.take_succ_eq_append_getElem hk, sumB_append]; rfl
def Md.heavy (m : Md) : Bool := decide (1048576 < sumB m.da)
def wrongN (n : Int) : Bool := decide (n < 0) || decide (2147483647 < n)
def wrongT (t : Int × Int) : Bool := !Kind.okType t.1 t.2
def wrongI (i : Imp) : Bool := wrongN i.ty
def wrongF (f : Fn) : Bool := wrongN f.ty || (decide (f.lo < 0) || decide (50000 < f.lo))
def wrongE (e : Ex) : Bool := decide (e.k < 0) || decide (3 < e.k)
def beyond (most : Int) (l : Li) : Bool := !Kind.okLim l.n l.x l.c most
/-- What else is wrong. -/
def Md.wrong (m : Md) : Bool :=
  m.anyName noText || m.ty.any wrongT || m.im.any wrongI || m.fu.any wrongF || m.ex.any wrongE || m.tb.any (beyond 1048576) || m.me.any (beyond 65536) || (!m.st && decide (m.sn ≠ 0))
/-- P7.1. -/
def Md.check (m : Md) : Int :=
  if m.crowded then 141 else if codeP m.codes = 141 then 141 else if m.anyName longS then 3 else if m.heavy then 3 else if codeP m.codes = 2 then 2 else if m.wrong then 2 else 0

/-- The number of a function's type; -1 if there is no such function. -/
def Md.typeN (m : Md) (n : Nat) : Int :=
  if n < m.im.length then ((m.im.map (·.ty)).getD n 0) else if n < m.im.length + m.fu.length then ((m.fu.map (·.ty)).getD (n - m.im.length) 0) else -1
/-- P7.2: a function's type, and whether it is there. -/
def Md.typeOf (m : Md) (n : Nat) : (Int × Int) × Bool :=
  if m.typeN n < 0 ∨ (m.ty.length : Int) ≤ m.typeN n then ((0, 0), false) else (m.ty.getD (m.typeN n).toNat (0, 0), true)
def Md.find (m : Md) (na : ByteArray) (k : Int) : Int × Bool :=
  match m.ex.find? (fun e => decide (e.na = na) && decide (e.k = k)) with
  | some e => (e.i, true)
  | none => (0, false)
def countL : List Lst → Nat
  | [] => 0
  | l :: r => l.t.count + countL r
def Md.size (m : Md) : Nat := countL m.codes
end Go.Proofs.YtiadgkdkjinnjaaGreatDoor.Mod

/-
  MODULE: modules in memory: the rows of their lists, the lists of instructions in them, labels and bytes.
-/
namespace Go.Proofs.YtiadgkdkjinnjaaGreatDoor.Mod
open Go.RowKit Go.Proofs.YtiadgkdkjinnjaaGreatDoor.Instr

/-- From address a on lie these rows, each of sz cells; below block n₀. -/
def Rows (n₀ : Nat) (w : World) (a : Option Addr) (sz : Nat) (rs : List (List Value)) : Prop :=
  rs = [] ∨ ∃ b off, a = some ⟨b, off, none⟩ ∧ b < n₀ ∧ ∀ i, i < rs.length → ∀ j, j < sz → ∀ v, (rs.getD i [])[j]? = some v → w.cell? ⟨b, off + i * sz + j, none⟩ = some v
theorem Rows.below {n₀ sz : Nat} {w w' : World} {a : Option Addr} {rs : List (List Value)} (hb : Below n₀ w w') (h : Rows n₀ w a sz rs) : Rows n₀ w' a sz rs := by
  rcases h with h | ⟨b, off, ha, hl, hc⟩
  · exact .inl h
  · exact .inr ⟨b, off, ha, hl, fun i hi j hj v hv => (hb.cell (p := ⟨b, off + i * sz + j, none⟩) hl).trans (hc i hi j hj v hv)⟩
theorem Rows.more {n₀ n₁ sz : Nat} {w : World} {a : Option Addr} {rs : List (List Value)} (hn : n₀ ≤ n₁) (h : Rows n₀ w a sz rs) : Rows n₁ w a sz rs := by
  rcases h with h | ⟨b, off, ha, hl, hc⟩
  · exact .inl h
  · exact .inr ⟨b, off, ha, by omega, hc⟩
/-- Where the k-th of them lies. -/
theorem Rows.get {α : Type} {f : α → List Value} {l : List α} {n₀ sz : Nat} {w : World} {a : Option Addr} (h : Rows n₀ w a sz (l.map f)) {k : Nat} (hk : k < l.length) :
    ∃ b off, a = some ⟨b, off, none⟩ ∧ b < n₀ ∧ ∀ j, j < sz → ∀ v, (f l[k])[j]? = some v → w.cell? ⟨b, off + k * sz + j, none⟩ = some v := by
  rcases h with h | ⟨b, off, ha, hl, hc⟩
  · rw [List.map_eq_nil_iff] at h; subst h; simp at hk
  · refine ⟨b, off, ha, hl, fun j hj v hv => hc k (by simpa using hk) j hj v ?_⟩
    rw [List.getD_eq_getElem?_getD, List.getElem?_map, List.getElem?_eq_getElem hk]
    exact hv
/-- Bytes in memory below block n₀. -/
def BytesAt (n₀ : Nat) (w : World) (a : Option Addr) (zs : List Int) : Prop :=
  zs = [] ∨ ∃ b off, a = some ⟨b, off, none⟩ ∧ b < n₀ ∧ ∀ i, i < zs.length → w.cell? ⟨b, off + i, none⟩ = some (.int .u8 (zs.getD i 0))
theorem BytesAt.below {n₀ : Nat} {w w' : World} {a : Option Addr} {zs : List Int} (hb : Below n₀ w w') (h : BytesAt n₀ w a zs) : BytesAt n₀ w' a zs := by
  rcases h with h | ⟨b, off, ha, hl, hc⟩
  · exact .inl h
  · exact .inr ⟨b, off, ha, hl, fun i hi => (hb.cell (p := ⟨b, off + i, none⟩) hl).trans (hc i hi)⟩
theorem BytesAt.more {n₀ n₁ : Nat} {w : World} {a : Option Addr} {zs : List Int} (hn : n₀ ≤ n₁) (h : BytesAt n₀ w a zs) : BytesAt n₁ w a zs := by
  rcases h with h | ⟨b, off, ha, hl, hc⟩
  · exact .inl h
  · exact .inr ⟨b, off, ha, by omega, hc⟩

/-- A module in memory, below block n₀. -/
structure ModAt (n₀ : Nat) (w : World) (m : Md) : Prop where
  ty : Rows n₀ w m.ty'.a 2 (m.ty.map tyV)
  im : Rows n₀ w m.im'.a 3 (m.im.map Imp.v)
  fu : Rows n₀ w m.fu'.a 3 (m.fu.map Fn.v)
  tb : Rows n₀ w m.tb'.a 3 (m.tb.map Li.v)
  me : Rows n₀ w m.me'.a 3 (m.me.map Li.v)
  gl : Rows n₀ w m.gl'.a 2 (m.gl.map Gl.v)
  ex : Rows n₀ w m.ex'.a 3 (m.ex.map Ex.v)
  el : Rows n₀ w m.el'.a 2 (m.el.map El.v)
  da : Rows n₀ w m.da'.a 2 (m.da.map Da.v)
  ls : ∀ l ∈ m.codes, ListAt n₀ w l.a l.t.len l.t
  fs : ∀ e ∈ m.el, TagsAt n₀ w e.fa e.fs
  bs : ∀ d ∈ m.da, BytesAt n₀ w d.ba d.bs
theorem ModAt.below {n₀ : Nat} {w w' : World} {m : Md} (hb : Below n₀ w w') (h : ModAt n₀ w m) : ModAt n₀ w' m :=
  ⟨h.ty.below hb, h.im.below hb, h.fu.below hb, h.tb.below hb, h.me.below hb, h.gl.below hb, h.ex.below hb, h.el.below hb, h.da.below hb, fun l hl => (h.ls l hl).below hb, fun e he => (h.fs e he).below hb, fun d hd => (h.bs d hd).below hb⟩
theorem ModAt.more {n₀ n₁ : Nat} {w : World} {m : Md} (hn : n₀ ≤ n₁) (h : ModAt n₀ w m) : ModAt n₁ w m :=
  ⟨h.ty.more hn, h.im.more hn, h.fu.more hn, h.tb.more hn, h.me.more hn, h.gl.more hn, h.ex.more hn, h.el.more hn, h.da.more hn, fun l hl => (h.ls l hl).more hn, fun e he => (h.fs e he).more hn, fun d hd => (h.bs d hd).more hn⟩
theorem ModAt.on {w w' : World} {m : Md} (h : ModAt w.heap.size w m) (hb : Below w.heap.size w w') : ModAt w'.heap.size w' m := (h.below hb).more hb.size

/-- Sizes that any machine has. -/
structure Md.fits (m : Md) : Prop where
  ty : m.ty.length ≤ 140737488351232
  im : m.im.length ≤ 140737488351232
  fu : m.fu.length ≤ 140737488351232
  tb : m.tb.length ≤ 140737488351232
  me : m.me.length ≤ 140737488351232
  gl : m.gl.length ≤ 140737488351232
  ex : m.ex.length ≤ 140737488351232
  el : m.el.length ≤ 140737488351232
  da : m.da.length ≤ 140737488351232
  ls : ∀ l ∈ m.codes, l.t.len ≤ 140737488351232
  fs : ∀ e ∈ m.el, e.fs.length ≤ 140737488351232
  bs : ∀ d ∈ m.da, d.bs.length ≤ 140737488351232
  iS : ∀ i ∈ m.im, i.mo.size ≤ 140737488351232 ∧ i.na.size ≤ 140737488351232
  eS : ∀ e ∈ m.ex, e.na.size ≤ 140737488351232
/-- Of which all parts together are few. -/
structure Md.few (m : Md) : Prop where
  fit : m.fits
  cs : ∀ l ∈ m.codes, l.t.count ≤ 1000000
  lens : m.ty.length ≤ 1000000 ∧ m.im.length ≤ 1000000 ∧ m.fu.length ≤ 1000000 ∧ m.tb.length ≤ 1000000 ∧ m.me.length ≤ 1000000 ∧ m.gl.length ≤ 1000000 ∧ m.ex.length ≤ 1000000 ∧ m.el.length ≤ 1000000 ∧ m.da.length ≤ 1000000

/-- The box that a module lies in: cell by cell. -/
def BoxAt (w : World) (g : Nat) (v : Array Value) : Prop := ∀ j x, v[j]? = some x → w.cell? ⟨g, j, none⟩ = some x
theorem BoxAt.made (w : World) (v : Array Value) (t : TypeId) : BoxAt (w.alloc (.cells v t)) w.heap.size v := by
  intro j x h
  simp [go_sem, h]
theorem BoxAt.keep {w w' : World} {g : Nat} {v : Array Value} (hb : Below w.heap.size w w') (h : BoxAt w g v) : BoxAt w' g v := fun j x hj => Go.Proofs.YtiadgkdkjinnjaaGreatDoor.keep hb (h j x hj)
end Go.Proofs.YtiadgkdkjinnjaaGreatDoor.Mod

/-
  MODULE: errIf, crowded, heavy, by contract.
-/
namespace Go.Proofs.YtiadgkdkjinnjaaGreatDoor.Mod
open Go.RowKit Go.Proofs.YtiadgkdkjinnjaaGreatDoor.Instr

def errI (b : Bool) (e : Int) : Int := if b then e else 0
theorem errIf_any (b : Bool) (e : Int) (w : World) : Calls Tryz.prog 50 #[.bool b, .int .i64 e] w fun x w' => x = .returned (.int .i64 (errI b e)) ∧ w = w' := by
  cases b
  all_goals
    go_enter Tryz.func50, Tryz.ntmps50
    go_wp2
    go_ret
    exact ⟨rfl, rfl⟩
theorem max_two (x y : Int) : max x y = if y > x then y else x := by split <;> omega
set_option maxHeartbeats 1000000 in
theorem crowded_any (m : Md) (w : World) (hm : ModAt w.heap.size w m) (hf : m.fits) :
    Calls Tryz.prog 51 #[.agg m.v] w fun e w' => e = .returned (.bool m.crowded) ∧ Below w.heap.size w w' := by
  have hb0 := (Below.refl w.heap.size w).alloc (Nat.le_refl _) (.cells m.v 32)
  have HE := hid (crowded_eq m)
  have HR := hid (hm.on hb0).el
  have HB := hid hb0
  have HX := hid (BoxAt.made w m.v 32)
  have hl := hf.el
  have hmx : ∀ (ts : Array TypeId) (t : TypeId) (w : World), Sem.run Tryz.prog (Builtin.max_ ts t #[.int .i64 (m.ty.length : Int), .int .i64 (m.im.length : Int), .int .i64 (m.fu.length : Int), .int .i64 (m.gl.length : Int), .int .i64 (m.ex.length : Int), .int .i64 (m.el.length : Int), .int .i64 (m.da.length : Int)]) w = .ok (.int .i64 m.max7) w := by
    intro ts t w
    unfold Md.max7
    simp only [max_two]
    simp [Builtin.max_, Builtin.max2]
  obtain ⟨L0, hL0⟩ : ∃ L0, m.max7 = L0 := ⟨_, rfl⟩
  rw [hL0] at HE hmx
  unfold Md.v at HR HB HX ⊢
  clear hm hf hb0 hL0
  generalize m.el'.a = a at HR HB HX ⊢
  go_enter Tryz.func51, Tryz.ntmps51
  go_wp2
  clear hmx
  obtain ⟨n, hn⟩ : ∃ n, m.el.length = n := ⟨_, rfl⟩
  have HN := hid hn
  rw [hn] at HX HB HR hl ⊢
  clear hn
  generalize w.alloc (.cells #[.slice m.ty'.a m.ty.length m.ty'.c, .slice m.im'.a m.im.length m.im'.c, .slice m.fu'.a m.fu.length m.fu'.c, .slice m.tb'.a m.tb.length m.tb'.c, .slice m.me'.a m.me.length m.me'.c, .slice m.gl'.a m.gl.length m.gl'.c, .slice m.ex'.a m.ex.length m.ex'.c, .bool m.st, .int .u32 m.sn, .slice a n m.el'.c, .slice m.da'.a m.da.length m.da'.c] 32) = W0 at HX HB HR ⊢
  go_loopw [3, 31] (fun vl vi wr => ∃ (k : Nat) (L : Int), vl = .int .i64 L ∧ vi = .int .i64 k ∧ k ≤ n ∧ Hid (L = longP (m.el.take k) L0) ∧ Hid (Below W0.heap.size W0 wr)) (fun _ vi _ => n - (intOf vi).toNat)
  case atStart => exact ⟨0, L0, rfl, rfl, Nat.zero_le _, rfl, Below.refl _ _⟩
  case round =>
    obtain ⟨k, L, rfl, rfl, hk, HL, HW⟩ := hrel
    by_cases hlt : k < n
    · have hkl : k < m.el.length := by rw [HN.out]; exact hlt
      obtain ⟨b, off, rfl, hb, hc⟩ := Rows.get HR.out hkl
      have HS := hid (show longP (m.el.take (k + 1)) L0 = max L (m.el[k].fs.length : Int) by rw [List.take_succ_eq_append_getElem hkl, longP_snoc, ← HL.out])
      obtain ⟨x, hxe⟩ : ∃ x, m.el[k] = x := ⟨_, rfl⟩
      rw [hxe] at hc HS
      have cc : ∀ j, j < 2 → ∀ v, x.v[j]? = some v → wr.cell? ⟨b, off + k * 2 + j, none⟩ = some v := fun j hj v hv => (HW.out.cell (p := ⟨b, off + k * 2 + j, none⟩) hb).trans (hc j hj v hv)
      have c0 : wr.cell? ⟨b, off + k * 2, none⟩ = some x.l.val := cc 0 (by omega) _ rfl
      have c1 : wr.cell? ⟨b, off + k * 2 + 1, none⟩ = some (.slice x.fa x.fs.length x.fc) := cc 1 (by omega) _ rfl
      have hki : (k : Int) < (n : Int) := by omega
      unfold Lst.val at c0
      have HW' := hid (show Below W0.heap.size W0 (wr.alloc (.cells #[.slice x.l.a x.l.t.len x.l.c, .slice x.fa x.fs.length x.fc] 68)) from HW.out.alloc HW.out.size _)
      clear hxe hc cc hb
      by_cases hgt : (x.fs.length : Int) > L
      · have HS' := hid (show (x.fs.length : Int) = longP (m.el.take (k + 1)) L0 by rw [HS.out]; omega)
        go_wp2
        go_roundw
        case rel => first | exact ⟨k + 1, _, rfl, by go_num, by omega, HS', HW'⟩ | exact ⟨k + 1, _, rfl, by go_num, by omega, hid HS.out.symm, HW'⟩
        case measure => simp [intOf]; omega
      · have HS' := hid (show L = longP (m.el.take (k + 1)) L0 by rw [HS.out]; omega)
        go_wp2
        go_roundw
        case rel => first | exact ⟨k + 1, _, rfl, by go_num, by omega, HS', HW'⟩ | exact ⟨k + 1, _, rfl, by go_num, by omega, hid HS.out.symm, HW'⟩
        case measure => simp [intOf]; omega
    · obtain rfl : k = n := by omega
      have HE' := hid (show m.crowded = (decide (16384 < L) || (decide (1 < m.tb.length) || decide (1 < m.me.length))) by rw [HE.out, HL.out, ← HN.out, List.take_length])
      have x3 := Go.Proofs.YtiadgkdkjinnjaaGreatDoor.keep HW.out (HX.out 3 _ rfl)
      have x4 := Go.Proofs.YtiadgkdkjinnjaaGreatDoor.keep HW.out (HX.out 4 _ rfl)
      have HF := hid (HB.out.trans (HW.out.mono HB.out.size))
      clear HR HL HX HE HW HB
      by_cases h1 : 16384 < L
      · have HC := hid (show m.crowded = true by rw [HE'.out, decide_eq_true h1, Bool.true_or])
        clear HE'
        go_wp2
        go_ret
        exact ⟨ret_bool HC.out.symm, HF.out⟩
      · by_cases h2 : (1 : Int) < (m.tb.length : Int)
        · have HC := hid (show m.crowded = true by rw [HE'.out, decide_eq_true (show 1 < m.tb.length by omega), Bool.true_or, Bool.or_true])
          clear HE'
          go_wp2
          go_ret
          exact ⟨ret_bool HC.out.symm, HF.out⟩
        · have HC := hid (show m.crowded = decide (1 < m.me.length) by rw [HE'.out, decide_eq_false h1, decide_eq_false (show ¬ 1 < m.tb.length by omega), Bool.false_or, Bool.false_or])
          clear HE'
          go_wp2
          go_ret
          exact ⟨ret_bool (by rw [HC.out]; simp; omega), HF.out⟩

set_option maxHeartbeats 1000000 in
theorem heavy_any (l : List Da) (a : Option Addr) (n c : Nat) (w : World) (hn : l.length = n) (hr : Rows w.heap.size w a 2 (l.map Da.v)) (hl : n ≤ 140737488351232) :
    Calls Tryz.prog 58 #[.slice a n c] w fun e w' => e = .returned (.bool (decide (1048576 < sumB l))) ∧ Below w.heap.size w w' := by
  have HR := hid hr
  have HN := hid hn
  clear hr hn
  go_enter Tryz.func58, Tryz.ntmps58
  go_wp2
  go_loopw [3, 8] (fun vl vi wr => ∃ (k : Nat) (L : Int), vl = .int .i64 L ∧ vi = .int .i64 k ∧ k ≤ n ∧ 0 ≤ L ∧ L ≤ 1048576 ∧ Hid (L = 1048576 - (sumB (l.take k) : Int)) ∧ Hid (Below w.heap.size w wr)) (fun _ vi _ => n - (intOf vi).toNat)
  case atStart => exact ⟨0, 1048576, rfl, rfl, Nat.zero_le _, by omega, by omega, rfl, Below.refl _ _⟩
  case round =>
    obtain ⟨k, L, rfl, rfl, hk, h0, h1, HL, HW⟩ := hrel
    by_cases hlt : k < n
    · have hkl : k < l.length := by rw [HN.out]; exact hlt
      obtain ⟨b, off, rfl, hb, hc⟩ := Rows.get HR.out hkl
      have HS := hid (sumB_step hkl)
      have HT := hid (sumB_take l (k + 1))
      obtain ⟨x, hxe⟩ : ∃ x, l[k] = x := ⟨_, rfl⟩
      rw [hxe] at hc HS
      have cc : ∀ j, j < 2 → ∀ v, x.v[j]? = some v → wr.cell? ⟨b, off + k * 2 + j, none⟩ = some v := fun j hj v hv => (HW.out.cell (p := ⟨b, off + k * 2 + j, none⟩) hb).trans (hc j hj v hv)
      have c0 : wr.cell? ⟨b, off + k * 2, none⟩ = some x.l.val := cc 0 (by omega) _ rfl
      have c1 : wr.cell? ⟨b, off + k * 2 + 1, none⟩ = some (.slice x.ba x.bs.length x.bc) := cc 1 (by omega) _ rfl
      have hki : (k : Int) < (n : Int) := by omega
      unfold Lst.val at c0
      have HW' := hid (show Below w.heap.size w (wr.alloc (.cells #[.slice x.l.a x.l.t.len x.l.c, .slice x.ba x.bs.length x.bc] 47)) from HW.out.alloc HW.out.size _)
      clear hxe hc cc hb
      by_cases hgt : L < (x.bs.length : Int)
      · have HC := hid (show decide (1048576 < sumB l) = true by rw [decide_eq_true_eq]; have := HS.out; have := HT.out; have := HL.out; omega)
        go_wp2
        go_ret
        exact ⟨ret_bool HC.out.symm, HW'.out⟩
      · have HL' := hid (show L - (x.bs.length : Int) = 1048576 - (sumB (l.take (k + 1)) : Int) by rw [HS.out]; have := HL.out; omega)
        go_wp2
        go_roundw
        case rel => exact ⟨k + 1, _, rfl, by go_num, by omega, by omega, by omega, HL', HW'⟩
        case measure => simp [intOf]; omega
    · obtain rfl : k = n := by omega
      have HC := hid (show decide (1048576 < sumB l) = false by rw [decide_eq_false_iff_not]; have := HL.out; rw [← HN.out, List.take_length] at this; omega)
      go_wp2
      go_ret
      exact ⟨ret_bool HC.out.symm, HW.out⟩
end Go.Proofs.YtiadgkdkjinnjaaGreatDoor.Mod

/-
  MODULE: what the document's own answers are told with: loops over lists, plain.
-/
namespace Go.Proofs.YtiadgkdkjinnjaaGreatDoor.Mod
open Go.RowKit Go.Proofs.YtiadgkdkjinnjaaGreatDoor.Instr

theorem any_take {α : Type} {l : List α} {p : α → Bool} {k : Nat} (hk : k < l.length) (h : ∀ j (hj : j < l.length), j < k → p l[j] = false) (hx : p l[k] = false) : ∀ j (hj : j < l.length), j < k + 1 → p l[j] = false := by
  intro j hj hjk
  by_cases e : j = k
  · subst e; exact hx
  · exact h j hj (by omega)
theorem any_none {α : Type} {l : List α} {p : α → Bool} (h : ∀ j (hj : j < l.length), p l[j] = false) : l.any p = false := by
  rw [List.any_eq_false]
  intro x hx
  obtain ⟨j, hj, rfl⟩ := List.mem_iff_getElem.1 hx
  rw [h j hj]; simp
theorem any_some {α : Type} {l : List α} {p : α → Bool} {k : Nat} (hk : k < l.length) (h : p l[k] = true) : l.any p = true := List.any_eq_true.2 ⟨_, List.getElem_mem hk, h⟩
theorem none_upto {α : Type} (l : List α) (p : α → Bool) : ∀ j (hj : j < l.length), j < 0 → p l[j] = false := fun _ _ h => absurd h (Nat.not_lt_zero _)
/-- Types, types' numbers and locals are as they may be. -/
def Md.numbers (m : Md) : Bool := !(m.ty.any wrongT || (m.im.any wrongI || m.fu.any wrongF))
end Go.Proofs.YtiadgkdkjinnjaaGreatDoor.Mod

/-
  MODULE: modules but for where they lie: what is told of them does not hang on that.
-/
namespace Go.Proofs.YtiadgkdkjinnjaaGreatDoor.Mod
open Go.RowKit Go.Proofs.YtiadgkdkjinnjaaGreatDoor.Instr

def Lst.bare (l : Lst) : Lst := ⟨none, 0, l.t.bare⟩
def Fn.bare (f : Fn) : Fn := ⟨f.ty, f.lo, f.l.bare⟩
def Gl.bare (g : Gl) : Gl := ⟨g.mu, g.l.bare⟩
def El.bare (e : El) : El := ⟨e.l.bare, none, 0, e.fs⟩
def Da.bare (d : Da) : Da := ⟨d.l.bare, none, 0, d.bs⟩
/-- A module, but for where its parts lie. -/
def Md.bare (m : Md) : Md :=
  ⟨m.ty, m.im, m.fu.map Fn.bare, m.tb, m.me, m.gl.map Gl.bare, m.ex, m.st, m.sn, m.el.map El.bare, m.da.map Da.bare, ⟨none, 0⟩, ⟨none, 0⟩, ⟨none, 0⟩, ⟨none, 0⟩, ⟨none, 0⟩, ⟨none, 0⟩, ⟨none, 0⟩, ⟨none, 0⟩, ⟨none, 0⟩⟩
theorem bare_codes (m : Md) : m.bare.codes = m.codes.map Lst.bare := by
  unfold Md.codes Md.bare
  simp only [List.map_append, List.map_map]
  rfl
theorem codeP_bare : ∀ l : List Lst, codeP (l.map Lst.bare) = codeP l
  | [] => rfl
  | x :: r => by
    rw [List.map_cons, codeP_cons, codeP_cons, codeP_bare r]
    have : checkP x.bare.t = checkP x.t := bare_check x.t
    rw [this]
theorem sumB_bare : ∀ l : List Da, sumB (l.map Da.bare) = sumB l
  | [] => rfl
  | x :: r => by rw [List.map_cons, sumB, sumB, sumB_bare r]; rfl
theorem crowded_bare (m : Md) : m.bare.crowded = m.crowded := by
  unfold Md.crowded Md.bare
  simp only [List.length_map, List.any_map]
  rfl
theorem heavy_bare (m : Md) : m.bare.heavy = m.heavy := by
  unfold Md.heavy Md.bare
  simp only [sumB_bare]
theorem wrong_bare (m : Md) : m.bare.wrong = m.wrong := by
  unfold Md.wrong Md.anyName Md.bare
  simp only [List.any_map]
  rfl
theorem check_bareM (m : Md) : m.bare.check = m.check := by
  unfold Md.check
  rw [crowded_bare, bare_codes, codeP_bare, heavy_bare, wrong_bare]
  rfl
theorem countL_bare : ∀ l : List Lst, countL (l.map Lst.bare) = countL l
  | [] => rfl
  | x :: r => by
    rw [List.map_cons, countL, countL, countL_bare r]
    have : x.bare.t.count = x.t.count := bare_count x.t
    rw [this]
theorem size_bareM (m : Md) : m.bare.size = m.size := by unfold Md.size; rw [bare_codes, countL_bare]
theorem typeOf_bareM (m : Md) (n : Nat) : m.bare.typeOf n = m.typeOf n := by
  have e : m.bare.typeN n = m.typeN n := by
    unfold Md.typeN Md.bare
    simp only [List.length_map, List.map_map]
    rfl
  unfold Md.typeOf
  rw [e]
  rfl
theorem find_bareM (m : Md) (na : ByteArray) (k : Int) : m.bare.find na k = m.find na k := rfl
theorem check_core {a b : Md} (h : a.bare = b.bare) : a.check = b.check := by rw [← check_bareM a, h, check_bareM]
theorem size_core {a b : Md} (h : a.bare = b.bare) : a.size = b.size := by rw [← size_bareM a, h, size_bareM]
theorem typeOf_core {a b : Md} (h : a.bare = b.bare) (n : Nat) : a.typeOf n = b.typeOf n := by rw [← typeOf_bareM a, h, typeOf_bareM]
theorem find_core {a b : Md} (h : a.bare = b.bare) (na : ByteArray) (k : Int) : a.find na k = b.find na k := by rw [← find_bareM a, h, find_bareM]
/-- Whether a statement holds, as a bool. -/
noncomputable def is (p : Prop) : Bool := @decide p (Classical.propDecidable p)
theorem is_yes {p : Prop} (h : p) : is p = true := by unfold is; exact @decide_eq_true p (Classical.propDecidable p) h
theorem is_no {p : Prop} (h : ¬ p) : is p = false := by unfold is; exact @decide_eq_false p (Classical.propDecidable p) h
/-- The parts that make two modules the same. -/
structure Same (a b : Md) : Prop where
  ty : a.ty = b.ty
  im : a.im = b.im
  fu : a.fu.map Fn.bare = b.fu.map Fn.bare
  tb : a.tb = b.tb
  me : a.me = b.me
  gl : a.gl.map Gl.bare = b.gl.map Gl.bare
  ex : a.ex = b.ex
  st : a.st = b.st
  sn : a.sn = b.sn
  el : a.el.map El.bare = b.el.map El.bare
  da : a.da.map Da.bare = b.da.map Da.bare
theorem same_iff {a b : Md} : a.bare = b.bare ↔ Same a b := by
  constructor
  · intro h
    unfold Md.bare at h
    simp only [Md.mk.injEq] at h
    obtain ⟨h1, h2, h3, h4, h5, h6, h7, h8, h9, h10, h11, _⟩ := h
    exact ⟨h1, h2, h3, h4, h5, h6, h7, h8, h9, h10, h11⟩
  · rintro ⟨h1, h2, h3, h4, h5, h6, h7, h8, h9, h10, h11⟩
    unfold Md.bare
    rw [h1, h2, h3, h4, h5, h6, h7, h8, h9, h10, h11]
/-- Two lists are the same item by item. -/
theorem list_same {α : Type} {l r : List α} {n : Nat} (hl : l.length = n) (hr : r.length = n) (h : ∀ j (h1 : j < l.length) (h2 : j < r.length), j < n → l[j] = r[j]) : l = r := by
  refine List.ext_getElem (by omega) fun j h1 h2 => h j h1 h2 (by omega)
theorem same_step {α : Type} {l r : List α} {k : Nat} (h1 : k < l.length) (h2 : k < r.length) (h : ∀ j (h1 : j < l.length) (h2 : j < r.length), j < k → l[j] = r[j]) (hx : l[k] = r[k]) : ∀ j (h1 : j < l.length) (h2 : j < r.length), j < k + 1 → l[j] = r[j] := by
  intro j g1 g2 hj
  by_cases e : j = k
  · subst e; exact hx
  · exact h j g1 g2 (by omega)
theorem same_zero {α : Type} (l r : List α) : ∀ j (h1 : j < l.length) (h2 : j < r.length), j < 0 → l[j] = r[j] := fun _ _ _ h => absurd h (Nat.not_lt_zero _)
end Go.Proofs.YtiadgkdkjinnjaaGreatDoor.Mod

/-
  MODULE: the small predicates: what is wrong with a number, an import, a function, an export, a type, limits; how long a name is.
-/
namespace Go.Proofs.YtiadgkdkjinnjaaGreatDoor.Mod
open Go.RowKit Go.Proofs.YtiadgkdkjinnjaaGreatDoor.Instr

theorem wrongN_any (n : Int) (w : World) : Calls Tryz.prog 127 #[.int .i64 n] w fun e w' => e = .returned (.bool (wrongN n)) ∧ w = w' := by
  have H : Hid (wrongN n = (decide (n < 0) || decide (2147483647 < n))) := rfl
  by_cases h : n < 0
  · have HE : Hid (wrongN n = true) := by show _ = _; rw [H.out]; simp [h]
    go_enter Tryz.func127, Tryz.ntmps127
    go_wp2
    go_ret
    exact ⟨ret_bool HE.out.symm, rfl⟩
  · have h' : decide (n < 0) = false := by simpa using h
    have HE : Hid (wrongN n = decide (2147483647 < n)) := by show _ = _; rw [H.out, h', Bool.false_or]
    clear H
    go_enter Tryz.func127, Tryz.ntmps127
    go_wp2
    go_ret
    exact ⟨ret_bool HE.out.symm, rfl⟩
theorem wrongI_any (x : Imp) (w : World) : Calls Tryz.prog 67 #[.agg #[.string x.mo, .string x.na, .int .i64 x.ty]] w fun e w' => e = .returned (.bool (wrongI x)) ∧ Below w.heap.size w w' := by
  unfold wrongI
  obtain ⟨q, hq⟩ : ∃ q, wrongN x.ty = q := ⟨_, rfl⟩
  have C := hid (fun w => wrongN_any x.ty w)
  rw [hq] at C ⊢
  clear hq
  go_enter Tryz.func67, Tryz.ntmps67
  go_wp2_with fail
  refine (C.out _).mono ?_
  rintro e w1 ⟨rfl, rfl⟩
  go_wp2
  go_ret
  exact ⟨rfl, (Below.refl _ _).alloc (Nat.le_refl _) _⟩
set_option maxHeartbeats 800000 in
theorem wrongF_any (x : Fn) (w : World) : Calls Tryz.prog 70 #[.agg #[.int .i64 x.ty, .int .i64 x.lo, .slice x.l.a x.l.t.len x.l.c]] w fun e w' => e = .returned (.bool (wrongF x)) ∧ Below w.heap.size w w' := by
  have H : Hid (wrongF x = (wrongN x.ty || (decide (x.lo < 0) || decide (50000 < x.lo)))) := rfl
  obtain ⟨q, hq⟩ : ∃ q, wrongN x.ty = q := ⟨_, rfl⟩
  have C := hid (fun w => wrongN_any x.ty w)
  rw [hq] at C H
  clear hq
  obtain ⟨lo, hlo⟩ : ∃ lo, x.lo = lo := ⟨_, rfl⟩
  rw [hlo] at H ⊢
  clear hlo
  cases q with
  | true =>
    have HE : Hid (wrongF x = true) := by show _ = _; rw [H.out]; rfl
    go_enter Tryz.func70, Tryz.ntmps70
    go_wp2_with fail
    refine (C.out _).mono ?_
    rintro e w1 ⟨rfl, rfl⟩
    go_wp2
    go_ret
    exact ⟨ret_bool HE.out.symm, (Below.refl _ _).alloc (Nat.le_refl _) _⟩
  | false =>
    by_cases h : lo < 0
    · have HE : Hid (wrongF x = true) := by show _ = _; rw [H.out]; simp [h]
      go_enter Tryz.func70, Tryz.ntmps70
      go_wp2_with fail
      refine (C.out _).mono ?_
      rintro e w1 ⟨rfl, rfl⟩
      go_wp2
      go_ret
      exact ⟨ret_bool HE.out.symm, (Below.refl _ _).alloc (Nat.le_refl _) _⟩
    · have h' : decide (lo < 0) = false := by simpa using h
      have HE : Hid (wrongF x = decide (50000 < lo)) := by show _ = _; rw [H.out, h', Bool.false_or, Bool.false_or]
      go_enter Tryz.func70, Tryz.ntmps70
      go_wp2_with fail
      refine (C.out _).mono ?_
      rintro e w1 ⟨rfl, rfl⟩
      go_wp2
      go_ret
      exact ⟨ret_bool HE.out.symm, (Below.refl _ _).alloc (Nat.le_refl _) _⟩
theorem wrongE_any (x : Ex) (w : World) : Calls Tryz.prog 73 #[.agg #[.string x.na, .int .i64 x.k, .int .u32 x.i]] w fun e w' => e = .returned (.bool (wrongE x)) ∧ Below w.heap.size w w' := by
  have H : Hid (wrongE x = (decide (x.k < 0) || decide (3 < x.k))) := rfl
  obtain ⟨lo, hlo⟩ : ∃ lo, x.k = lo := ⟨_, rfl⟩
  rw [hlo] at H ⊢
  clear hlo
  by_cases h : lo < 0
  · have HE : Hid (wrongE x = true) := by show _ = _; rw [H.out]; simp [h]
    go_enter Tryz.func73, Tryz.ntmps73
    go_wp2
    go_ret
    exact ⟨ret_bool HE.out.symm, (Below.refl _ _).alloc (Nat.le_refl _) _⟩
  · have h' : decide (lo < 0) = false := by simpa using h
    have HE : Hid (wrongE x = decide (3 < lo)) := by show _ = _; rw [H.out, h', Bool.false_or]
    go_enter Tryz.func73, Tryz.ntmps73
    go_wp2
    go_ret
    exact ⟨ret_bool HE.out.symm, (Below.refl _ _).alloc (Nat.le_refl _) _⟩
theorem isLong_any (s : ByteArray) (w : World) : Calls Tryz.prog 56 #[.string s] w fun e w' => e = .returned (.bool (longS s)) ∧ Below w.heap.size w w' := by
  have HE : Hid (longS s = decide (1000 < s.size)) := rfl
  go_enter Tryz.func56, Tryz.ntmps56
  go_wp2
  go_ret
  exact ⟨ret_bool (by rw [HE.out]; simp; omega), Below.refl _ _⟩
theorem wrongT_any (x : Int × Int) (w : World) : Calls Tryz.prog 64 #[.agg #[.int .i64 x.1, .int .i64 x.2]] w fun e w' => e = .returned (.bool (wrongT x)) ∧ Below w.heap.size w w' := by
  have C := hid (fun w => Kind.check_any x.1 x.2 w)
  unfold Kind.codeType at C
  unfold wrongT
  obtain ⟨q, hq⟩ : ∃ q, Kind.okType x.1 x.2 = q := ⟨_, rfl⟩
  rw [hq] at C ⊢
  clear hq
  cases q
  all_goals
    simp only [Bool.false_eq_true, if_true, if_false] at C
    go_enter Tryz.func64, Tryz.ntmps64
    go_wp2_with fail
    refine (C.out _).mono ?_
    rintro e w1 ⟨rfl, hb1⟩
    go_wp2
    go_ret
    exact ⟨rfl, thenB ((Below.refl _ _).alloc (Nat.le_refl _) _) hb1⟩
theorem beyond_any (x : Li) (g : Nat) (most : Int) (w : World) (hc : w.cell? ⟨g, 0, none⟩ = some (.int .u32 most)) :
    Calls Tryz.prog 130 #[.agg #[.int .u32 x.n, .int .u32 x.x, .bool x.c], .pointer (some ⟨g, 0, none⟩)] w fun e w' => e = .returned (.bool (beyond most x)) ∧ Below w.heap.size w w' := by
  have C := hid (fun w => Kind.checkLimits_any x.n x.x x.c most w)
  unfold Kind.codeLim at C
  unfold beyond
  obtain ⟨q, hq⟩ : ∃ q, Kind.okLim x.n x.x x.c most = q := ⟨_, rfl⟩
  rw [hq] at C ⊢
  clear hq
  have hg := World.block_lt_of_cell? w _ hc
  cases q
  all_goals
    simp only [Bool.false_eq_true, if_true, if_false] at C
    go_enter Tryz.func130, Tryz.ntmps130
    go_wp2_with fail
    refine (C.out _).mono ?_
    rintro e w1 ⟨rfl, hb1⟩
    go_wp2
    go_ret
    exact ⟨rfl, thenB ((Below.refl _ _).alloc (Nat.le_refl _) _) hb1⟩
end Go.Proofs.YtiadgkdkjinnjaaGreatDoor.Mod

/-
  The model's own decoding of a string, and the plain functions on runes, say the same.
-/
namespace Go.Proofs.YtiadgkdkjinnjaaGreatDoor.Utf
open Go.Lib (decodeN decodeN_shape decode_N)

theorem decodeN_some {l : List Int} (hb : ∀ z ∈ l, 0 ≤ z ∧ z < 256) {n : Int} {k : Nat} (h : atL l = some (n, k)) :
    decodeN l.length (l.getD 0 0).toNat (l.getD 1 0).toNat (l.getD 2 0).toNat (l.getD 3 0).toNat = (n.toNat, k) := by
  obtain ⟨⟨r0, r1, r2⟩, ht, hk, _, _, hkl⟩ := atL_some h
  have hl : l = oneL n ++ l.drop k := by rw [← ht, List.take_append_drop]
  generalize l.drop k = r at hl
  subst hl
  subst hk
  clear ht hkl h
  obtain ⟨m, rfl⟩ := Int.eq_ofNat_of_zero_le r0
  unfold oneL
  by_cases a : (m : Int) < 128
  · rw [if_pos a]
    have c0 : m < 128 := by omega
    simp [decodeN, c0]
  by_cases b : (m : Int) < 2048
  · rw [if_neg a, if_pos b]
    have e0 : (192 + (m : Int) / 64).toNat = 192 + m / 64 := by omega
    have e1 : (128 + (m : Int) % 64).toNat = 128 + m % 64 := by omega
    simp only [List.cons_append, List.nil_append, List.length_cons, List.getD_cons_zero, List.getD_cons_succ, e0, e1, Int.toNat_natCast]
    unfold decodeN
    rw [if_neg (by omega), if_pos (by omega), if_pos (by omega)]
    simp only [Prod.mk.injEq, List.length_nil]
    exact ⟨by omega, trivial⟩
  by_cases d : (m : Int) < 65536
  · rw [if_neg a, if_neg b, if_pos d]
    have e0 : (224 + (m : Int) / 4096).toNat = 224 + m / 4096 := by omega
    have e1 : (128 + (m : Int) / 64 % 64).toNat = 128 + m / 64 % 64 := by omega
    have e2 : (128 + (m : Int) % 64).toNat = 128 + m % 64 := by omega
    simp only [List.cons_append, List.nil_append, List.length_cons, List.getD_cons_zero, List.getD_cons_succ, e0, e1, e2, Int.toNat_natCast]
    unfold decodeN
    rw [if_neg (by omega), if_neg (by omega), if_pos (by omega), if_pos (by omega)]
    simp only [Prod.mk.injEq, List.length_nil]
    exact ⟨by omega, trivial⟩
  · rw [if_neg a, if_neg b, if_neg d]
    have e0 : (240 + (m : Int) / 262144).toNat = 240 + m / 262144 := by omega
    have e1 : (128 + (m : Int) / 4096 % 64).toNat = 128 + m / 4096 % 64 := by omega
    have e2 : (128 + (m : Int) / 64 % 64).toNat = 128 + m / 64 % 64 := by omega
    have e3 : (128 + (m : Int) % 64).toNat = 128 + m % 64 := by omega
    simp only [List.cons_append, List.nil_append, List.length_cons, List.getD_cons_zero, List.getD_cons_succ, e0, e1, e2, e3, Int.toNat_natCast]
    unfold decodeN
    rw [if_neg (by omega), if_neg (by omega), if_neg (by omega), if_pos (by omega), if_pos (by omega)]
    simp only [Prod.mk.injEq, List.length_nil]
    exact ⟨by omega, trivial⟩

theorem decodeN_none {l : List Int} (hb : ∀ z ∈ l, 0 ≤ z ∧ z < 256) (h0 : l ≠ []) (h : atL l = none) :
    decodeN l.length (l.getD 0 0).toNat (l.getD 1 0).toNat (l.getD 2 0).toNat (l.getD 3 0).toNat = (65533, 1) := by
  have no : ∀ (n : Int) (r : List Int), Rune n → l = oneL n ++ r → False := fun n r hr hl => by
    rw [hl, atL_one hr] at h; cases h
  have hne : 0 < l.length := List.length_pos_iff.2 h0
  have g : ∀ j, j < l.length → 0 ≤ l.getD j 0 ∧ l.getD j 0 < 256 := fun j hj => by
    have : l.getD j 0 = l[j] := by simp [hj]
    rw [this]; exact hb _ (List.getElem_mem hj)
  have d : ∀ j, j < l.length → l.drop j = l.getD j 0 :: l.drop (j + 1) := fun j hj => by
    rw [List.drop_eq_getElem_cons hj]; simp [hj]
  obtain ⟨g0, g0'⟩ := g 0 hne
  have d0 := d 0 hne
  rw [List.drop_zero] at d0
  rcases decodeN_shape l.length (l.getD 0 0).toNat (l.getD 1 0).toNat (l.getD 2 0).toNat (l.getD 3 0).toNat with ⟨c, e⟩ | ⟨c1, c2, c3, cv, e⟩ | ⟨c1, c2, c3, c4, cv, cs, e⟩ | ⟨c1, c2, c3, c4, c5, cv, cw, e⟩ | e
  · refine (no (l.getD 0 0) (l.drop 1) ⟨by omega, by omega, by omega⟩ (d0.trans ?_)).elim
    generalize l.getD 0 0 = x at *
    unfold oneL
    rw [if_pos (by omega)]
    rfl
  · obtain ⟨g1, g1'⟩ := g 1 c2
    have hl := d0.trans (congrArg (l.getD 0 0 :: ·) (d 1 c2))
    refine (no ((l.getD 0 0) % 32 * 64 + (l.getD 1 0) % 64) (l.drop 2) ⟨by omega, by omega, by omega⟩ (hl.trans ?_)).elim
    generalize l.getD 0 0 = x at *
    generalize l.getD 1 0 = y at *
    unfold oneL
    rw [if_neg (by omega), if_pos (by omega)]
    simp only [List.cons_append, List.nil_append, List.cons.injEq]
    exact ⟨by omega, by omega, trivial⟩
  · obtain ⟨g1, g1'⟩ := g 1 (by omega)
    obtain ⟨g2, g2'⟩ := g 2 c2
    have hl := d0.trans (congrArg (l.getD 0 0 :: ·) ((d 1 (by omega)).trans (congrArg (l.getD 1 0 :: ·) (d 2 c2))))
    refine (no ((l.getD 0 0) % 16 * 4096 + (l.getD 1 0) % 64 * 64 + (l.getD 2 0) % 64) (l.drop 3) ⟨by omega, by omega, by omega⟩ (hl.trans ?_)).elim
    generalize l.getD 0 0 = x at *
    generalize l.getD 1 0 = y at *
    generalize l.getD 2 0 = z at *
    unfold oneL
    rw [if_neg (by omega), if_neg (by omega), if_pos (by omega)]
    simp only [List.cons_append, List.nil_append, List.cons.injEq]
    exact ⟨by omega, by omega, by omega, trivial⟩
  · obtain ⟨g1, g1'⟩ := g 1 (by omega)
    obtain ⟨g2, g2'⟩ := g 2 (by omega)
    obtain ⟨g3, g3'⟩ := g 3 c2
    have hl := d0.trans (congrArg (l.getD 0 0 :: ·) ((d 1 (by omega)).trans (congrArg (l.getD 1 0 :: ·) ((d 2 (by omega)).trans (congrArg (l.getD 2 0 :: ·) (d 3 c2))))))
    refine (no ((l.getD 0 0) % 8 * 262144 + (l.getD 1 0) % 64 * 4096 + (l.getD 2 0) % 64 * 64 + (l.getD 3 0) % 64) (l.drop 4) ⟨by omega, by omega, by omega⟩ (hl.trans ?_)).elim
    generalize l.getD 0 0 = x at *
    generalize l.getD 1 0 = y at *
    generalize l.getD 2 0 = z at *
    generalize l.getD 3 0 = u at *
    unfold oneL
    rw [if_neg (by omega), if_neg (by omega), if_neg (by omega)]
    simp only [List.cons_append, List.nil_append, List.cons.injEq]
    exact ⟨by omega, by omega, by omega, by omega, trivial⟩
  · exact e

theorem str_byte {zs : List Int} (hb : ∀ z ∈ zs, 0 ≤ z ∧ z < 256) (j : Nat) : ((strOfNums zs).data.toList.getD j 0).toNat = (zs.getD j 0).toNat := by
  rw [strOfNums_data]
  by_cases h : j < zs.length
  · have := hb _ (List.getElem_mem h)
    simp [h]
    omega
  · simp [List.getD_eq_getElem?_getD, List.getElem?_eq_none (Nat.le_of_not_lt h)]

theorem getD_drop0 (zs : List Int) (i j : Nat) : zs.getD (i + j) 0 = (zs.drop i).getD j 0 := by
  simp [List.getD_eq_getElem?_getD, List.getElem?_drop]

theorem decode_eq {zs : List Int} (hb : ∀ z ∈ zs, 0 ≤ z ∧ z < 256) (i : Nat) :
    Utf8.decode (strOfNums zs) i = decodeN (zs.drop i).length ((zs.drop i).getD 0 0).toNat ((zs.drop i).getD 1 0).toNat ((zs.drop i).getD 2 0).toNat ((zs.drop i).getD 3 0).toNat := by
  rw [decode_N, str_byte hb, str_byte hb, str_byte hb, str_byte hb, strOfNums_data, List.length_map, List.length_drop]
  rw [← getD_drop0, ← getD_drop0, ← getD_drop0, ← getD_drop0]
  rfl

theorem mem_drop_bytes {zs : List Int} (hb : ∀ z ∈ zs, 0 ≤ z ∧ z < 256) (i : Nat) : ∀ z ∈ zs.drop i, 0 ≤ z ∧ z < 256 := fun z hz => hb z (List.mem_of_mem_drop hz)

/-- At a place where a rune begins the model decodes it. -/
theorem decode_some {zs : List Int} (hb : ∀ z ∈ zs, 0 ≤ z ∧ z < 256) {i : Nat} {n : Int} {k : Nat} (h : atL (zs.drop i) = some (n, k)) : Utf8.decode (strOfNums zs) i = (n.toNat, k) := by
  rw [decode_eq hb]; exact decodeN_some (mem_drop_bytes hb i) h
/-- Where none begins it tells the sign of an error, of one byte. -/
theorem decode_none {zs : List Int} (hb : ∀ z ∈ zs, 0 ≤ z ∧ z < 256) {i : Nat} (hi : i < zs.length) (h : atL (zs.drop i) = none) : Utf8.decode (strOfNums zs) i = (65533, 1) := by
  rw [decode_eq hb]
  refine decodeN_none (mem_drop_bytes hb i) (fun h0 => ?_) h
  have := congrArg List.length h0
  simp at this; omega
/-- That number, where it is a rune, has three bytes. -/
theorem error_three {l : List Int} {k : Nat} (h : atL l = some (65533, k)) : k = 3 := by
  obtain ⟨_, _, hk, _⟩ := atL_some h
  rw [hk]; decide
end Go.Proofs.YtiadgkdkjinnjaaGreatDoor.Utf

/-
  NAME: bad, the search for the first byte that is no text, by contract: it answers what the plain function 'badL' tells.
-/
namespace Go.Proofs.YtiadgkdkjinnjaaGreatDoor.Utf
open Go.RowKit

/-- The two tables of unicode/utf8 lie as the row lists them. -/
def Tabs (w : World) : Prop := Lib.Utf8Tabs 1 2 w
theorem Tabs.below {w w' : World} (h : Tabs w) (hb : Below w.heap.size w w') : Tabs w' := Utf8Tabs_below h hb
theorem Tabs.alloc {w : World} (h : Tabs w) (o : Obj) : Tabs (w.alloc o) := h.below ((Below.refl _ _).alloc (Nat.le_refl _) o)

theorem str_tail (zs : List Int) (i : Nat) : (strOfNums zs).extract i zs.length = strOfNums (zs.drop i) := by
  apply ByteArray.ext
  apply Array.toList_inj.1
  rw [ByteArray.data_extract, Array.toList_extract, strOfNums_data, strOfNums_data]
  simp
  rw [List.take_of_length_le (by simp)]

set_option maxHeartbeats 800000 in
theorem bad_any (zs : List Int) (hb : ∀ z ∈ zs, 0 ≤ z ∧ z < 256) (w : World) (hT : Tabs w) :
    Calls Tryz.prog 181 #[.string (strOfNums zs)] w fun e w' => e = .returned (.int .i64 (badL zs)) ∧ Below w.heap.size w w' := by
  have D1 : ∀ pos n k, atL (zs.drop pos) = some (n, k) → Utf8.decode (strOfNums zs) pos = (n.toNat, k) := fun pos n k h => decode_some hb h
  have D2 : ∀ pos, pos < zs.length → atL (zs.drop pos) = none → Utf8.decode (strOfNums zs) pos = (65533, 1) := fun pos h h' => decode_none hb h h'
  have D3 : ∀ pos, pos < zs.length → Lib.decodeGo ((strOfNums zs).extract pos zs.length) = Utf8.decode (strOfNums zs) pos := fun pos h => by
    rw [str_tail]
    unfold Lib.decodeGo
    rw [strOfNums_size, List.length_drop, if_neg (by omega), decode_eq (mem_drop_bytes hb pos), decode_eq hb]
    rfl
  have hs : (strOfNums zs).size = zs.length := strOfNums_size zs
  generalize strOfNums zs = s at *
  have H1 := hid D1
  have H2 := hid D2
  have H3 := hid D3
  clear D1 D2 D3 hb
  go_enter Tryz.func181, Tryz.ntmps181
  go_wp2
  go_loopw [3] (fun _ wr => ∃ pos : Nat, wr.heap[w.heap.size]? = some (.stringIter s pos) ∧ Below w.heap.size w wr ∧ pos ≤ zs.length ∧ (scan zs).2 = pos + (scan (zs.drop pos)).2)
    (fun _ wr => zs.length - wr.iterPos w.heap.size)
  case atStart => exact ⟨0, World.iter_heap w s 0, (Below.refl _ _).alloc (Nat.le_refl _) _, Nat.zero_le _, by simp⟩
  case round =>
    obtain ⟨pos, hk, hbw, hpos, hsc⟩ := hrel
    have HS := hid hsc
    clear hsc
    have hT' : Tabs wr := hT.below hbw
    by_cases hp : pos < s.size
    · cases ha : atL (zs.drop pos) with
      | none =>
        have hd := H2.out pos (by omega) ha
        have hnx : ∀ ty, (Instr.next (.pointer (some ⟨w.heap.size, 0, none⟩)) true ty).run Tryz.prog wr = .ok (.tuple #[.bool true, .int .i64 pos, .int .i32 65533]) (wr.iterAt w.heap.size s (pos + 1)) := fun ty => by
          rw [Lib.run_next_any_at wr w.heap.size s pos ty hk hp, hd]; rfl
        have hw1 := Lib.below_iterAt hbw (Nat.le_refl _) s (pos + 1)
        have hT1 : Tabs (wr.iterAt w.heap.size s (pos + 1)) := hT.below hw1
        have HF : Hid (badL zs = pos) := by
          have h := HS.out
          rw [scan_none ha] at h
          show _ = _
          rw [badL_some (by omega)]
          simp at h; omega
        have HD := hid ((H3.out pos (by omega)).trans hd)
        clear hd ha hT hT'
        generalize wr.iterAt w.heap.size s (pos + 1) = w1 at *
        go_wp2_with fail
        refine (Tryz.utf8_DecodeRuneInString _ _ hT1).mono ?_
        rw [HD.out]
        rintro e w2 ⟨rfl, hb2⟩
        go_wp2
        go_ret
        exact ⟨ret_int HF.out.symm, hw1.trans (hb2.mono (by have := hw1.size; omega))⟩
      | some q =>
        obtain ⟨n, k⟩ := q
        obtain ⟨hn, _, _, hk1, _, hkl⟩ := atL_some ha
        have hd := H1.out pos n k ha
        have hnx : ∀ ty, (Instr.next (.pointer (some ⟨w.heap.size, 0, none⟩)) true ty).run Tryz.prog wr = .ok (.tuple #[.bool true, .int .i64 pos, .int .i32 n]) (wr.iterAt w.heap.size s (pos + k)) := fun ty => by
          rw [Lib.run_next_any_at wr w.heap.size s pos ty hk hp, hd]
          have := hn.1
          simp only [Int.toNat_of_nonneg this]
        have hw1 := Lib.below_iterAt hbw (Nat.le_refl _) s (pos + k)
        have hT1 : Tabs (wr.iterAt w.heap.size s (pos + k)) := hT.below hw1
        have hk1' := Lib.iterAt_heap wr w.heap.size s pos (pos + k) hk
        have hit : (wr.iterAt w.heap.size s (pos + k)).iterPos w.heap.size = pos + k := by unfold World.iterPos; rw [hk1']
        have hit0 : wr.iterPos w.heap.size = pos := by unfold World.iterPos; rw [hk]
        have HF : Hid ((scan zs).2 = (pos + k) + (scan (zs.drop (pos + k))).2) := by
          have h := HS.out
          rw [scan_some ha, List.drop_drop] at h
          show _ = _
          simp only at h
          omega
        have hlk : pos + k ≤ zs.length := by simp at hkl; omega
        by_cases he : n = 65533
        · subst he
          obtain rfl := error_three ha
          have HD := hid ((H3.out pos (by omega)).trans hd)
          clear hd ha hT hT' hn
          generalize wr.iterAt w.heap.size s (pos + 3) = w1 at *
          go_wp2_with fail
          refine (Tryz.utf8_DecodeRuneInString _ _ hT1).mono ?_
          rw [HD.out]
          rintro e w2 ⟨rfl, hb2⟩
          have hlt : w.heap.size < w1.heap.size := (Array.getElem?_eq_some_iff.1 hk1').1
          have hk2 := (hb2.block _ hlt).trans hk1'
          have hit2 : w2.iterPos w.heap.size = pos + 3 := by unfold World.iterPos; rw [hk2]
          go_wp2
          go_roundw
          case rel => exact ⟨pos + 3, hk2, hw1.trans (hb2.mono (by omega)), hlk, HF.out⟩
          case measure => rw [hit2, hit0]; omega
        · clear hd ha hT hT'
          generalize wr.iterAt w.heap.size s (pos + k) = w1 at *
          go_wp2
          go_roundw
          case rel => exact ⟨pos + k, hk1', hw1, hlk, HF.out⟩
          case measure => rw [hit, hit0]; omega
    · have hnx : ∀ ty, (Instr.next (.pointer (some ⟨w.heap.size, 0, none⟩)) true ty).run Tryz.prog wr = _ := fun ty => Lib.run_next_end_at wr w.heap.size s pos ty hk hp
      have HF : Hid (badL zs = -1) := badL_none (by
        have h := HS.out
        rw [List.drop_eq_nil_of_le (by omega), scan_nil] at h
        simp at h; omega)
      go_wp2
      go_ret
      exact ⟨ret_int HF.out.symm, hbw⟩
end Go.Proofs.YtiadgkdkjinnjaaGreatDoor.Utf

/-
  What the row lists is what the walks ask: the table of names, and the two of unicode/utf8.
-/
namespace Go.Proofs.YtiadgkdkjinnjaaGreatDoor
open Go.RowKit Go.Lib

theorem u8Extra : U8Extra Tryz.prog Tryz.lays260_ren := ⟨by kernel_rfl, by kernel_rfl, by kernel_rfl, by kernel_rfl, by kernel_rfl, by kernel_rfl, by kernel_rfl⟩
def laid3 : List (String × DataW Unit) := [("unicode/utf8.acceptRanges", Rows.laid_unicode_utf8_acceptRanges), ("gimlet/instr.names", Rows.laid_gimlet_instr_names), ("unicode/utf8.first", Rows.laid_unicode_utf8_first)]
theorem accept_eq : (Rows.laid_unicode_utf8_acceptRanges : DataW Unit) = acceptData := by kernel_rfl
theorem tabs_3 {W : World} (hL : laidMet Tryz.prog laid3 W) : Instr.Nams W ∧ Utf.Tabs W := by
  refine ⟨nams_of (.tail _ (.head _)) hL, utf8Tabs_of_reads (ρ := Tryz.lays260_ren) Tryz.lays260 u8Extra (Pinned.utf8First_eq ▸ Lib.laidMet.reads hL (.tail _ (.tail _ (.head _)))) ?_⟩
  have h := Lib.laidMet.reads hL (.head _)
  rw [accept_eq] at h
  exact h
end Go.Proofs.YtiadgkdkjinnjaaGreatDoor
