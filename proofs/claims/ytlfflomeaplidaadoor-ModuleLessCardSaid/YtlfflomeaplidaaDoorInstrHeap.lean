/-
  INSTR: lists of instructions in memory; what a round of a range over them leaves as it was.
-/
import Derived.Test.YtlfflomeaplidaaDoorInstrLaw
import Derived.RangeFuncNested
import Derived.RangeFuncBound
import Derived.RangeFuncCalls
import Derived.RangeFuncLeaves
namespace Go.Proofs.YtlfflomeaplidaaDoor.Instr
open Go.RowKit

/-- Labels in memory below block n₀. -/
def TagsAt (n₀ : Nat) (w : World) (a : Option Addr) (zs : List Int) : Prop :=
  zs = [] ∨ ∃ b off, a = some ⟨b, off, none⟩ ∧ b < n₀ ∧ ∀ i, i < zs.length → w.cell? ⟨b, off + i, none⟩ = some (.int .u32 (zs.getD i 0))
/-- From a place in block b on lie these instructions; all below block n₀. -/
def Items (n₀ : Nat) (w : World) : Nat → Nat → Il → Prop
  | _, _, .nil => True
  | b, off, .cons x l e r =>
    b < n₀ ∧ x.ok ∧
    (w.cell? ⟨b, off, none⟩ = some (.int .i64 x.op) ∧ w.cell? ⟨b, off + 1, none⟩ = some (.int .i64 x.res) ∧ w.cell? ⟨b, off + 2, none⟩ = some (.int .u32 x.a) ∧ w.cell? ⟨b, off + 3, none⟩ = some (.int .u32 x.b) ∧
      w.cell? ⟨b, off + 4, none⟩ = some (.int .i32 x.n) ∧ w.cell? ⟨b, off + 5, none⟩ = some (.slice x.ta x.tags.length x.tc) ∧ w.cell? ⟨b, off + 6, none⟩ = some (.slice x.la x.ln x.lc) ∧ w.cell? ⟨b, off + 7, none⟩ = some (.slice x.ea x.en x.ec)) ∧
    TagsAt n₀ w x.ta x.tags ∧
    (l.len = x.ln ∧ (l = .nil ∨ ∃ b' o', x.la = some ⟨b', o', none⟩ ∧ Items n₀ w b' o' l)) ∧
    (e.len = x.en ∧ (e = .nil ∨ ∃ b' o', x.ea = some ⟨b', o', none⟩ ∧ Items n₀ w b' o' e)) ∧
    Items n₀ w b (off + 8) r
/-- A slice of this many at this address is these instructions. -/
def ListAt (n₀ : Nat) (w : World) (a : Option Addr) (n : Nat) (t : Il) : Prop := t.len = n ∧ (t = .nil ∨ ∃ b off, a = some ⟨b, off, none⟩ ∧ Items n₀ w b off t)

theorem TagsAt.below {n₀ : Nat} {w w' : World} {a : Option Addr} {zs : List Int} (hb : Below n₀ w w') (h : TagsAt n₀ w a zs) : TagsAt n₀ w' a zs := by
  rcases h with h | ⟨b, off, ha, hl, hc⟩
  · exact .inl h
  · exact .inr ⟨b, off, ha, hl, fun i hi => (hb.cell (p := ⟨b, off + i, none⟩) hl).trans (hc i hi)⟩
theorem Items.below {n₀ : Nat} {w w' : World} (hb : Below n₀ w w') : ∀ {t : Il} {b off : Nat}, Items n₀ w b off t → Items n₀ w' b off t
  | .nil, _, _, _ => trivial
  | .cons x l e r, b, off, ⟨hl, hx, ⟨c0, c1, c2, c3, c4, c5, c6, c7⟩, ht, ⟨l1, l2⟩, ⟨e1, e2⟩, hr⟩ => by
    have k : ∀ j v, w.cell? ⟨b, off + j, none⟩ = some v → w'.cell? ⟨b, off + j, none⟩ = some v := fun j v h => (hb.cell (p := ⟨b, off + j, none⟩) hl).trans h
    refine ⟨hl, hx, ⟨k 0 _ c0, k 1 _ c1, k 2 _ c2, k 3 _ c3, k 4 _ c4, k 5 _ c5, k 6 _ c6, k 7 _ c7⟩, ht.below hb, ⟨l1, ?_⟩, ⟨e1, ?_⟩, Items.below hb hr⟩
    · rcases l2 with h | ⟨b', o', ha, hi⟩
      · exact .inl h
      · exact .inr ⟨b', o', ha, Items.below hb hi⟩
    · rcases e2 with h | ⟨b', o', ha, hi⟩
      · exact .inl h
      · exact .inr ⟨b', o', ha, Items.below hb hi⟩
theorem ListAt.below {n₀ : Nat} {w w' : World} {a : Option Addr} {n : Nat} {t : Il} (hb : Below n₀ w w') (h : ListAt n₀ w a n t) : ListAt n₀ w' a n t := by
  refine ⟨h.1, ?_⟩
  rcases h.2 with h | ⟨b', o', ha, hi⟩
  · exact .inl h
  · exact .inr ⟨b', o', ha, hi.below hb⟩
theorem TagsAt.more {n₀ n₁ : Nat} {w : World} {a : Option Addr} {zs : List Int} (hn : n₀ ≤ n₁) (h : TagsAt n₀ w a zs) : TagsAt n₁ w a zs := by
  rcases h with h | ⟨b, off, ha, hl, hc⟩
  · exact .inl h
  · exact .inr ⟨b, off, ha, by omega, hc⟩
theorem Items.more {n₀ n₁ : Nat} {w : World} (hn : n₀ ≤ n₁) : ∀ {t : Il} {b off : Nat}, Items n₀ w b off t → Items n₁ w b off t
  | .nil, _, _, _ => trivial
  | .cons x l e r, b, off, ⟨hl, hx, hc, ht, ⟨l1, l2⟩, ⟨e1, e2⟩, hr⟩ => by
    refine ⟨by omega, hx, hc, ht.more hn, ⟨l1, ?_⟩, ⟨e1, ?_⟩, Items.more hn hr⟩
    · rcases l2 with h | ⟨b', o', ha, hi⟩
      · exact .inl h
      · exact .inr ⟨b', o', ha, Items.more hn hi⟩
    · rcases e2 with h | ⟨b', o', ha, hi⟩
      · exact .inl h
      · exact .inr ⟨b', o', ha, Items.more hn hi⟩
theorem ListAt.more {n₀ n₁ : Nat} {w : World} {a : Option Addr} {n : Nat} {t : Il} (hn : n₀ ≤ n₁) (h : ListAt n₀ w a n t) : ListAt n₁ w a n t := by
  refine ⟨h.1, ?_⟩
  rcases h.2 with h | ⟨b', o', ha, hi⟩
  · exact .inl h
  · exact .inr ⟨b', o', ha, hi.more hn⟩
/-- Behind a call that leaves all that was there. -/
theorem ListAt.on {w w' : World} {a : Option Addr} {n : Nat} {t : Il} (h : ListAt w.heap.size w a n t) (hb : Below w.heap.size w w') : ListAt w'.heap.size w' a n t := (h.below hb).more hb.size

/-- What a round leaves: all cells but those of the blocks from n₀ to n₁; and all below n₀. -/
structure Kept (n₀ n₁ : Nat) (w w' : World) : Prop where
  below : Below n₀ w w'
  cells : ∀ j o, w.heap[j]? = some o → o.isCells = true → n₁ ≤ j → w'.heap[j]? = some o
theorem Kept.refl (n₀ n₁ : Nat) (w : World) : Kept n₀ n₁ w w := ⟨Below.refl _ _, fun _ _ h _ _ => h⟩
theorem Kept.trans {n₀ n₁ : Nat} {a b c : World} (h : Kept n₀ n₁ a b) (g : Kept n₀ n₁ b c) : Kept n₀ n₁ a c := ⟨h.below.trans g.below, fun j o hj ho hn => g.cells j o (h.cells j o hj ho hn) ho hn⟩
theorem Kept.alloc {n₀ n₁ : Nat} {a b : World} (h : Kept n₀ n₁ a b) (o : Obj) (hn : n₀ ≤ b.heap.size) : Kept n₀ n₁ a (b.alloc o) :=
  ⟨h.below.alloc hn o, fun j p hj hp hn => ((Below.refl b.heap.size b).alloc (Nat.le_refl _) o).block j (Array.getElem?_eq_some_iff.1 (h.cells j p hj hp hn)).1 |>.trans (h.cells j p hj hp hn)⟩
theorem Kept.of_below {n₀ n₁ : Nat} {a b : World} (h : Below a.heap.size a b) (hn : n₀ ≤ a.heap.size) : Kept n₀ n₁ a b :=
  ⟨h.mono hn, fun j _ hj _ _ => (h.block j (Array.getElem?_eq_some_iff.1 hj).1).trans hj⟩
theorem Kept.setCell {n₀ n₁ : Nat} {a b : World} (h : Kept n₀ n₁ a b) {p : Addr} (h0 : n₀ ≤ p.block) (h1 : p.block < n₁) (v : Value) : Kept n₀ n₁ a (b.setCell p v) :=
  ⟨h.below.setCell h0 v, fun j o hj ho hn => (Below.heap_setCell b p v j (by omega)).trans (h.cells j o hj ho hn)⟩
theorem Kept.cell {n₀ n₁ : Nat} {a b : World} (h : Kept n₀ n₁ a b) {p : Addr} {v : Value} (hp : n₁ ≤ p.block) (hc : a.cell? p = some v) : b.cell? p = some v := by
  obtain ⟨o, ho, hi⟩ := cells_of_cell hc
  exact (World.cell?_of_block (w := a) ((h.cells _ o ho hi hp).trans ho.symm)).trans hc
theorem At.kept {n₀ n₁ g : Nat} {x : Ix} {a b : World} (h : At x g a) (hk : Kept n₀ n₁ a b) (hg : n₁ ≤ g) : At x g b :=
  ⟨hk.cell hg h.c0, hk.cell hg h.c1, hk.cell hg h.c2, hk.cell hg h.c3, hk.cell hg h.c4, hk.cell hg h.c5, hk.cell hg h.c6, hk.cell hg h.c7⟩
theorem kept_t {n₀ n₁ : Nat} {A B C : World} (h : Kept n₀ n₁ A B) (g : Kept n₀ n₁ B C) : Kept n₀ n₁ A C := h.trans g
theorem kept_b {n₀ n₁ : Nat} {w : World} (hn : n₀ ≤ w.heap.size) : ∀ (W : World) (l : Nat) (o o' : Obj), w.heap.size ≤ l → W.heap[l]? = some o → o.isCells = false → o.isWalk = false → Kept n₀ n₁ W (W.putObj l o') := fun W l o o' hl ho hi hw =>
  ⟨belowK_b hn W l o o' hl ho hi hw, fun j p hj hp _ => by
    have hne : j ≠ l := by rintro rfl; rw [ho] at hj; cases hj; rw [hi] at hp; cases hp
    exact (World.putObj_heap_other hne).trans hj⟩
end Go.Proofs.YtlfflomeaplidaaDoor.Instr
