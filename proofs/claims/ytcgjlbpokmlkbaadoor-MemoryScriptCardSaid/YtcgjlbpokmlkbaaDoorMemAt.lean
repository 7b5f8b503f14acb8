/-
  MEMORY: a memory in memory: its box, its map from numbers to pages, the pages. What outlives what its methods do.
-/
import Derived.Test.YtcgjlbpokmlkbaaDoorMemPlain
import Derived.Test.YtcgjlbpokmlkbaaDoorSave
import Derived.Maps.OwnOps
import Derived.Maps.Views
import Derived.Laws.CopyOwn
namespace Go.Proofs.YtcgjlbpokmlkbaaDoor.Mem
open Go.RowKit
open Go.Maps (Keyed int_keyed IsMap)
set_option linter.unusedVariables false

/-- A pointer to a page, as the datum of a number. -/
def ptrElem (v : Value) : Option (DataW Unit × List MemPlace) :=
  match v with
  | .pointer none => some (.nil, [])
  | .pointer (some ⟨g, 0, none⟩) => some (.lit (.int .i64 g), [])
  | _ => none
theorem ptrElem_inv {v : Value} {d : DataW Unit} {ps : List MemPlace} (h : ptrElem v = some (d, ps)) : (v = .pointer none ∧ d = .nil) ∨ ∃ g : Nat, v = .pointer (some ⟨g, 0, none⟩) ∧ d = .lit (.int .i64 g) := by
  unfold ptrElem at h
  split at h
  · cases h; exact .inl ⟨rfl, rfl⟩
  · cases h; exact .inr ⟨_, rfl, rfl⟩
  · cases h
theorem keyed : Keyed Tryd.prog 58 := int_keyed Tryd.underlying58
/-- Is it a block of a memory's own? -/
def isOwn : Obj → Bool
  | .map _ _ => true
  | .cells _ t _ => t == 47 || t == 93
  | _ => false
/-- All stands but what is a memory's own. -/
structure Keep (W W' : World) : Prop where
  os : W'.os = W.os
  tape : W'.tape = W.tape
  output : W'.output = W.output
  size : W.heap.size ≤ W'.heap.size
  block : ∀ (j : Nat) (o : Obj), W.heap[j]? = some o → isOwn o = false → W'.heap[j]? = some o
theorem Keep.refl (W : World) : Keep W W := ⟨rfl, rfl, rfl, Nat.le_refl _, fun _ _ h _ => h⟩
theorem Keep.trans {a b c : World} (h : Keep a b) (g : Keep b c) : Keep a c :=
  ⟨g.os.trans h.os, g.tape.trans h.tape, g.output.trans h.output, Nat.le_trans h.size g.size, fun j o hj ho => g.block j o (h.block j o hj ho) ho⟩
theorem Keep.of_below {W W' : World} (h : Below W.heap.size W W') : Keep W W' :=
  ⟨h.os, h.tape, h.output, h.size, fun j o hj _ => (h.block j (Array.getElem?_eq_some_iff.1 hj).1).trans hj⟩
theorem Keep.of_save {W W' : World} {g : Nat} {o : Obj} (h : Save g W W') (hg : W.heap[g]? = some o) (ho : isOwn o = true) : Keep W W' :=
  ⟨h.os, h.tape, h.output, h.size, fun j o' hj ho' => (h.block j (Array.getElem?_eq_some_iff.1 hj).1 (fun e => by
    subst e; rw [hg] at hj; cases hj; rw [ho] at ho'; cases ho')).trans hj⟩
theorem Keep.cells {W W' : World} (h : Keep W W') {g : Nat} {C : Array Value} {t : TypeId} {m : Nat × Nat} (hg : W.heap[g]? = some (.cells C t m)) (ht : (t == 47 || t == 93) = false) : W'.heap[g]? = some (.cells C t m) :=
  h.block g _ hg ht
/-- A page: its bytes. -/
def PageAt (W : World) (g : Nat) (f : Nat → Int) (k : Nat) : Prop := ∃ L : List Int, W.heap[g]? = some (.cells (L.map (Value.int .u8)).toArray 93 (0, 0)) ∧ L.length = 65536 ∧ ∀ i, i < 65536 → L.getD i 0 = f (k * 65536 + i)
theorem PageAt.congr {W : World} {g k : Nat} {f f' : Nat → Int} (h : PageAt W g f k) (he : ∀ i, i < 65536 → f' (k * 65536 + i) = f (k * 65536 + i)) : PageAt W g f' k := by
  obtain ⟨L, h1, h2, h3⟩ := h
  exact ⟨L, h1, h2, fun i hi => (h3 i hi).trans (he i hi).symm⟩
/-- A memory. -/
structure MemAt (B : Nat) (W : World) (p mb K : Nat) (D : DataW Unit) (m : Mm) : Prop where
  box : W.heap[p]? = some (.cells #[.pointer (some ⟨p, 0, none⟩), .int .u32 m.n, .int .u32 m.most, .map (some mb)] 47 (0, 0))
  bp : B ≤ p
  bm : B ≤ mb
  map : W.ownsMap Tryd.prog 58 ptrElem mb K D
  isMap : IsMap D
  ok : m.ok
  at_ : ∀ k : Nat, (D.atKey (.int .u64 k) .nil = .nil ∧ ∀ i, i < 65536 → m.f (k * 65536 + i) = 0) ∨ ∃ g : Nat, B ≤ g ∧ D.atKey (.int .u64 k) .nil = .lit (.int .i64 g) ∧ PageAt W g m.f k
  apart : ∀ k k' g : Nat, D.atKey (.int .u64 k) .nil = .lit (.int .i64 g) → D.atKey (.int .u64 k') .nil = .lit (.int .i64 g) → k = k'
theorem MemAt.mblock {B : Nat} {W : World} {p mb K : Nat} {D : DataW Unit} {m : Mm} (h : MemAt B W p mb K D m) : ∃ es ck, W.heap[mb]? = some (.map es ck) := by
  obtain ⟨es, ck, hh, _⟩ := h.map
  exact ⟨es, ck, hh⟩
theorem MemAt.below {B : Nat} {W W' : World} {p mb K : Nat} {D : DataW Unit} {m : Mm} (h : MemAt B W p mb K D m) (hb : Below W.heap.size W W') : MemAt B W' p mb K D m := by
  refine ⟨(hb.block p (Array.getElem?_eq_some_iff.1 h.box).1).trans h.box, h.bp, h.bm, ?_, h.isMap, h.ok, fun k => ?_, h.apart⟩
  · have hl := World.ownsMap.lt h.map
    obtain ⟨es, ck, hh, r⟩ := h.map
    exact ⟨es, ck, (hb.block mb hl).trans hh, r⟩
  · rcases h.at_ k with h1 | ⟨g, hg, h1, L, h2, h3⟩
    · exact .inl h1
    · exact .inr ⟨g, hg, h1, L, (hb.block g (Array.getElem?_eq_some_iff.1 h2).1).trans h2, h3⟩
/-- A block that is none of the memory's own is written. -/
theorem MemAt.save {B : Nat} {W W' : World} {p mb K g : Nat} {D : DataW Unit} {m : Mm} (h : MemAt B W p mb K D m) {o : Obj} (hs : Save g W W') (hg : W.heap[g]? = some o) (ho : isOwn o = false) : MemAt B W' p mb K D m := by
  have ne : ∀ (j : Nat) (o' : Obj), W.heap[j]? = some o' → isOwn o' = true → W'.heap[j]? = some o' := fun j o' hj ho' => (hs.block j (Array.getElem?_eq_some_iff.1 hj).1 (fun e => by subst e; rw [hg] at hj; cases hj; rw [ho] at ho'; cases ho')).trans hj
  refine ⟨ne _ _ h.box rfl, h.bp, h.bm, ?_, h.isMap, h.ok, fun k => ?_, h.apart⟩
  · obtain ⟨es, ck, hh, r⟩ := h.map
    exact ⟨es, ck, ne _ _ hh rfl, r⟩
  · rcases h.at_ k with h1 | ⟨q, hq, h1, L, h2, h3⟩
    · exact .inl h1
    · exact .inr ⟨q, hq, h1, L, ne _ _ h2 rfl, h3⟩
/-- The box is written: so many pages. -/
theorem MemAt.boxed {B : Nat} {W W' : World} {p mb K : Nat} {D : DataW Unit} {m : Mm} {n' : Nat} (h : MemAt B W p mb K D m) (hs : Save p W W')
    (hb : W'.heap[p]? = some (.cells #[.pointer (some ⟨p, 0, none⟩), .int .u32 n', .int .u32 m.most, .map (some mb)] 47 (0, 0))) (hn : n' ≤ m.most) : MemAt B W' p mb K D { m with n := n' } := by
  have ne : ∀ (j : Nat) (o' : Obj), W.heap[j]? = some o' → (∀ (C : Array Value) (t : TypeId) (q : Nat × Nat), o' = Obj.cells C t q → t ≠ 47) → W'.heap[j]? = some o' := fun j o' hj ho' => (hs.block j (Array.getElem?_eq_some_iff.1 hj).1 (fun e => by
    subst e; rw [h.box] at hj; cases hj; exact ho' _ _ _ rfl rfl)).trans hj
  refine ⟨hb, h.bp, h.bm, ?_, h.isMap, ⟨hn, h.ok.most, h.ok.byte⟩, fun k => ?_, h.apart⟩
  · obtain ⟨es, ck, hh, r⟩ := h.map
    exact ⟨es, ck, ne _ _ hh (fun _ _ _ e => by cases e), r⟩
  · rcases h.at_ k with h1 | ⟨q, hq, h1, L, h2, h3⟩
    · exact .inl h1
    · exact .inr ⟨q, hq, h1, L, ne _ _ h2 (fun _ _ _ e => by cases e; decide), h3⟩
/-- A page more, of noughts. -/
theorem MemAt.fresh {B : Nat} {W W' : World} {p mb K k g : Nat} {D : DataW Unit} {m : Mm} (h : MemAt B W p mb K D m) (h0 : D.atKey (.int .u64 k) .nil = .nil) (hgB : B ≤ g)
    (hgn : ∀ k' g' : Nat, D.atKey (.int .u64 k') .nil = .lit (.int .i64 g') → g' ≠ g)
    (hp : PageAt W g (fun _ => 0) k) (hmap : W'.ownsMap Tryd.prog 58 ptrElem mb (K + 1) (D.put (.int .u64 k) (.lit (.int .i64 g)))) (hs : Save mb W W') (hk : WideAt.IsKeyLit (.int .u64 k)) :
    MemAt B W' p mb (K + 1) (D.put (.int .u64 k) (.lit (.int .i64 g))) m := by
  obtain ⟨es, ck, hmb⟩ := h.mblock
  have ne : ∀ (j : Nat) (C : Array Value) (t : TypeId) (q : Nat × Nat), W.heap[j]? = some (.cells C t q) → W'.heap[j]? = some (.cells C t q) := fun j C t q hj => (hs.block j (Array.getElem?_eq_some_iff.1 hj).1 (fun e => by
    subst e; rw [hmb] at hj; cases hj)).trans hj
  have hz : ∀ i, i < 65536 → m.f (k * 65536 + i) = 0 := by
    rcases h.at_ k with ⟨_, h1⟩ | ⟨g', _, h1, _⟩
    · exact h1
    · rw [h0] at h1; cases h1
  have oth : ∀ k' : Nat, k' ≠ k → (D.put (.int .u64 k) (.lit (.int .i64 g))).atKey (.int .u64 k') .nil = D.atKey (.int .u64 k') .nil := fun k' hk' => Maps.atKey_put_other (fun e => hk' (by cases e; rfl)) _ _
  have same : (D.put (.int .u64 k) (.lit (.int .i64 g))).atKey (.int .u64 k) .nil = .lit (.int .i64 g) := Maps.atKey_put_same h.isMap hk _ _
  refine ⟨ne _ _ _ _ h.box, h.bp, h.bm, hmap, h.isMap.put _ _, h.ok, fun k' => ?_, fun a b q ha hb => ?_⟩
  · by_cases e : k' = k
    · subst e
      obtain ⟨L, h1, h2, h3⟩ := hp
      exact .inr ⟨g, hgB, same, L, ne _ _ _ _ h1, h2, fun i hi => (h3 i hi).trans (hz i hi).symm⟩
    · rw [oth k' e]
      rcases h.at_ k' with h1 | ⟨q, hq, h1, L, h2, h3⟩
      · exact .inl h1
      · exact .inr ⟨q, hq, h1, L, ne _ _ _ _ h2, h3⟩
  · by_cases ea : a = k
    · by_cases eb : b = k
      · rw [ea, eb]
      · subst ea
        rw [same] at ha; rw [oth b eb] at hb; cases ha
        exact absurd rfl (hgn _ _ hb)
    · by_cases eb : b = k
      · subst eb
        rw [same] at hb; rw [oth a ea] at ha; cases hb
        exact absurd rfl (hgn _ _ ha)
      · rw [oth a ea] at ha; rw [oth b eb] at hb
        exact h.apart a b q ha hb
/-- A page is written. -/
theorem MemAt.written {B : Nat} {W W' : World} {p mb K k g : Nat} {D : DataW Unit} {m : Mm} {f' : Nat → Int} (h : MemAt B W p mb K D m) (hg : D.atKey (.int .u64 k) .nil = .lit (.int .i64 g)) (hs : Save g W W') (hp : PageAt W' g f' k)
    (hf : ∀ a, a < k * 65536 ∨ (k + 1) * 65536 ≤ a → f' a = m.f a) (hb : ∀ a, 0 ≤ f' a ∧ f' a < 256) : MemAt B W' p mb K D { m with f := f' } := by
  have hpg : PageAt W g m.f k := by
    rcases h.at_ k with ⟨h1, _⟩ | ⟨g', _, h1, h2⟩
    · rw [hg] at h1; cases h1
    · rw [hg] at h1
      have : g = g' := by simp at h1; omega
      rw [this]; exact h2
  obtain ⟨L0, hL0, _⟩ := hpg
  have ne : ∀ (j : Nat) (o' : Obj), W.heap[j]? = some o' → j ≠ g → W'.heap[j]? = some o' := fun j o' hj hne => (hs.block j (Array.getElem?_eq_some_iff.1 hj).1 hne).trans hj
  refine ⟨ne _ _ h.box (fun e => ?_), h.bp, h.bm, ?_, h.isMap, ⟨h.ok.n, h.ok.most, hb⟩, fun k' => ?_, h.apart⟩
  · have := h.box
    rw [e, hL0] at this
    simp at this
  · obtain ⟨es, ck, hh, r⟩ := h.map
    exact ⟨es, ck, ne _ _ hh (fun e => by rw [e, hL0] at hh; cases hh), r⟩
  · by_cases e : k' = k
    · subst e
      rcases h.at_ k' with ⟨h1, _⟩ | ⟨g', hB, h1, _⟩
      · rw [hg] at h1; cases h1
      · rw [hg] at h1
        have e2 : g = g' := by simp at h1; omega
        subst e2
        exact .inr ⟨g, hB, hg, hp⟩
    · rcases h.at_ k' with ⟨h1, h2⟩ | ⟨q, hq, h1, L, h2, h3, h4⟩
      · exact .inl ⟨h1, fun i hi => (hf _ (by omega)).trans (h2 i hi)⟩
      · refine .inr ⟨q, hq, h1, L, ne _ _ h2 (fun e2 => ?_), h3, fun i hi => (h4 i hi).trans (hf _ (by omega)).symm⟩
        subst e2
        exact e (h.apart _ _ _ h1 hg)
end Go.Proofs.YtcgjlbpokmlkbaaDoor.Mem
