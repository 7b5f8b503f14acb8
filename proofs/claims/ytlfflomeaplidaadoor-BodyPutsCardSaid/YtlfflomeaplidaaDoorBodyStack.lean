import Derived.Test.YtlfflomeaplidaaDoorInstrHeap
import Derived.Test.YtlfflomeaplidaaDoorBodyPlain
import Derived.Laws.OwnMore
import Derived.WalkSmall
import Derived.Deep.AppendLies
/-
  BODY: lists of instructions in memory of one's own: which blocks they lie in; what stays where only other blocks turn.
-/
namespace Go.Proofs.YtlfflomeaplidaaDoor
open Go.RowKit

/-- Of what was there only blocks of S have turned. -/
structure Touch (S : Nat → Prop) (w w' : World) : Prop where
  os : w'.os = w.os
  tape : w'.tape = w.tape
  output : w'.output = w.output
  size : w.heap.size ≤ w'.heap.size
  block : ∀ j, j < w.heap.size → ¬ S j → w'.heap[j]? = w.heap[j]?
theorem Touch.refl (S : Nat → Prop) (w : World) : Touch S w w := ⟨rfl, rfl, rfl, Nat.le_refl _, fun _ _ _ => rfl⟩
theorem Touch.trans {S : Nat → Prop} {a b c : World} (h : Touch S a b) (g : Touch S b c) : Touch S a c :=
  ⟨g.os.trans h.os, g.tape.trans h.tape, g.output.trans h.output, Nat.le_trans h.size g.size, fun j hj hk => (g.block j (Nat.lt_of_lt_of_le hj h.size) hk).trans (h.block j hj hk)⟩
theorem Touch.mono {S T : Nat → Prop} {a b : World} (h : Touch S a b) (hs : ∀ j, S j → T j) : Touch T a b := ⟨h.os, h.tape, h.output, h.size, fun j hj hk => h.block j hj (fun hs' => hk (hs j hs'))⟩
theorem Touch.of_save {k : Nat} {w w' : World} (h : Save k w w') : Touch (fun j => j = k) w w' := ⟨h.os, h.tape, h.output, h.size, fun j hj hk => h.block j hj hk⟩
theorem Touch.of_below {S : Nat → Prop} {w w' : World} (h : Below w.heap.size w w') : Touch S w w' := ⟨h.os, h.tape, h.output, h.size, fun j hj _ => h.block j hj⟩
theorem Touch.of_grown {w w' : World} {row : Option Nat} (h : w.grownBy w' row) : Touch (fun j => row = some j) w w' := ⟨h.os, h.tape, h.output, h.size, fun j hj hk => h.block j hj (fun e => hk e.symm)⟩
theorem Touch.alloc {S : Nat → Prop} {a b : World} (h : Touch S a b) (o : Obj) : Touch S a (b.alloc o) := h.trans (.of_below ((Below.refl _ _).alloc (Nat.le_refl _) o))
theorem Touch.setCell {S : Nat → Prop} {a b : World} (h : Touch S a b) {p : Addr} (hp : S p.block ∨ a.heap.size ≤ p.block) (v : Value) : Touch S a (b.setCell p v) :=
  ⟨h.os, h.tape, h.output, by have := h.size; simpa [World.setCell] using this, fun j hj hk => (Below.heap_setCell _ _ _ _ (by rcases hp with hp | hp; rintro rfl; exact hk hp; omega)).trans (h.block j hj hk)⟩
theorem Touch.below {S : Nat → Prop} {B : Nat} {a b : World} (h : Touch S a b) (hB : B ≤ a.heap.size) (hs : ∀ j, S j → B ≤ j) : Below B a b :=
  ⟨h.os, h.tape, h.output, h.size, fun j hj => h.block j (by omega) (fun hj' => by have := hs j hj'; omega)⟩
theorem Touch.cell {S : Nat → Prop} {w w' : World} (h : Touch S w w') {p : Addr} {v : Value} (hk : ¬ S p.block) (hc : w.cell? p = some v) : w'.cell? p = some v :=
  (World.cell?_of_block (w := w) (h.block p.block (World.block_lt_of_cell? w _ hc) hk)).trans hc
theorem touch_row {S : Nat → Prop} {w w' : World} {base size n : Nat} {e : TypeId} {v : Value} {xs : List Value} (h : w.ownsRow base e size v n xs) (ht : Touch S w w') (hk : ∀ g, v.ownBlock = some g → ¬ S g) : w'.ownsRow base e size v n xs := by
  refine ⟨h.1, ?_⟩
  rcases h.2 with h0 | ⟨g, cap, cur, rfl, hg, hh, rest⟩
  · exact .inl h0
  · exact .inr ⟨g, cap, cur, rfl, hg, (ht.block g (Array.getElem?_eq_some_iff.1 hh).1 (hk g rfl)).trans hh, rest⟩
theorem plain_add (b i : Nat) : (⟨b, 0, none⟩ : Addr).add i = ⟨b, i, none⟩ := by unfold Addr.add; split <;> simp_all

/-- A block that can be written. -/
def Soft (w : World) (q : Nat) : Prop := ∃ cs e, w.heap[q]? = some (.cells cs e (0, 0))
theorem Soft.touch {S : Nat → Prop} {w w' : World} {q : Nat} (h : Soft w q) (ht : Touch S w w') (hk : ¬ S q) : Soft w' q := by
  obtain ⟨cs, e, h⟩ := h
  exact ⟨cs, e, (ht.block q (Array.getElem?_eq_some_iff.1 h).1 hk).trans h⟩
theorem Soft.frozen {w : World} {q : Nat} (h : Soft w q) (i : Nat) : w.frozen? ⟨q, i, none⟩ = false := by
  obtain ⟨cs, e, h⟩ := h
  simp [World.frozen?, h]
theorem Soft.lt {w : World} {q : Nat} (h : Soft w q) : q < w.heap.size := by
  obtain ⟨cs, e, h⟩ := h
  exact (Array.getElem?_eq_some_iff.1 h).1
theorem soft_row {w : World} {base size n : Nat} {e : TypeId} {v : Value} {xs : List Value} (h : w.ownsRow base e size v n xs) {g : Nat} (hg : v.ownBlock = some g) : Soft w g := by
  rcases h.2 with ⟨rfl, _⟩ | ⟨g', cap, cur, rfl, _, hh, _⟩
  · simp [Value.ownBlock] at hg
  · simp only [Value.ownBlock, Option.some.injEq] at hg
    subst hg
    exact ⟨_, _, hh⟩

namespace Instr
def blkOf (n : Nat) (a : Option Addr) : List Nat := if n = 0 then [] else match a with
  | some p => [p.block]
  | none => []
/-- The blocks that hold what is in these instructions: labels, lists. -/
def Il.foot : Il → List Nat
  | .nil => []
  | .cons x l e r => (blkOf x.tags.length x.ta ++ (blkOf x.ln x.la ++ l.foot) ++ (blkOf x.en x.ea ++ e.foot)) ++ r.foot
def Il.cells : Il → List Value
  | .nil => []
  | .cons x _ _ r => x.vals.toList ++ r.cells
/-- What is in these instructions lies as it should; the row that holds themselves may move. -/
def Il.kids (w : World) : Il → Prop
  | .nil => True
  | .cons x l e r => x.ok ∧ TagsAt w.heap.size w x.ta x.tags ∧ ListAt w.heap.size w x.la x.ln l ∧ ListAt w.heap.size w x.ea x.en e ∧ r.kids w
theorem foot_app : ∀ t u : Il, (t.app u).foot = t.foot ++ u.foot
  | .nil, _ => rfl
  | .cons x l e r, u => by simp only [Il.app, Il.foot, foot_app r, List.append_assoc]
theorem cells_app : ∀ t u : Il, (t.app u).cells = t.cells ++ u.cells
  | .nil, _ => rfl
  | .cons x l e r, u => by simp only [Il.app, Il.cells, cells_app r, List.append_assoc]
theorem cells_length : ∀ t : Il, t.cells.length = t.len * 8
  | .nil => rfl
  | .cons _ _ _ r => by simp only [Il.cells, Il.len, List.length_append, cells_length r]; simp [Ix.vals]; omega
theorem kids_app {w : World} : ∀ t u : Il, t.kids w → u.kids w → (t.app u).kids w
  | .nil, _, _, h => h
  | .cons _ _ _ r, u, ⟨h1, h2, h3, h4, h5⟩, h => ⟨h1, h2, h3, h4, kids_app r u h5 h⟩

theorem TagsAt.touch {S : Nat → Prop} {n₀ : Nat} {w w' : World} {a : Option Addr} {zs : List Int} (h : TagsAt n₀ w a zs) (ht : Touch S w w') (hk : ∀ q ∈ blkOf zs.length a, ¬ S q) : TagsAt n₀ w' a zs := by
  rcases h with h | ⟨b, off, rfl, hl, hc⟩
  · exact .inl h
  · by_cases h0 : zs = []
    · exact .inl h0
    · have hne : zs.length ≠ 0 := fun h => h0 (List.eq_nil_of_length_eq_zero h)
      exact .inr ⟨b, off, rfl, hl, fun i hi => ht.cell (p := ⟨b, off + i, none⟩) (hk b (by simp [blkOf, hne])) (hc i hi)⟩
theorem Items.touch {S : Nat → Prop} {n₀ : Nat} {w w' : World} (ht : Touch S w w') : ∀ {t : Il} {b off : Nat}, Items n₀ w b off t → ¬ S b → (∀ q ∈ t.foot, ¬ S q) → Items n₀ w' b off t
  | .nil, _, _, _, _, _ => trivial
  | .cons x l e r, b, off, ⟨hl, hx, ⟨c0, c1, c2, c3, c4, c5, c6, c7⟩, htg, ⟨l1, l2⟩, ⟨e1, e2⟩, hr⟩, hb, hf => by
    have k : ∀ j v, w.cell? ⟨b, off + j, none⟩ = some v → w'.cell? ⟨b, off + j, none⟩ = some v := fun j v h => ht.cell (p := ⟨b, off + j, none⟩) hb h
    simp only [Il.foot, List.mem_append] at hf
    refine ⟨hl, hx, ⟨k 0 _ c0, k 1 _ c1, k 2 _ c2, k 3 _ c3, k 4 _ c4, k 5 _ c5, k 6 _ c6, k 7 _ c7⟩, htg.touch ht (fun q hq => hf q (.inl (.inl (.inl hq)))), ⟨l1, ?_⟩, ⟨e1, ?_⟩, Items.touch ht hr hb (fun q hq => hf q (.inr hq))⟩
    · rcases l2 with h | ⟨b', o', ha, hi⟩
      · exact .inl h
      · cases l with
        | nil => exact .inl rfl
        | cons y m f s =>
          have hne : x.ln ≠ 0 := by rw [← l1]; simp [Il.len]
          exact .inr ⟨b', o', ha, Items.touch ht hi (hf b' (.inl (.inl (.inr (.inl (by simp [blkOf, hne, ha])))))) (fun q hq => hf q (.inl (.inl (.inr (.inr hq)))))⟩
    · rcases e2 with h | ⟨b', o', ha, hi⟩
      · exact .inl h
      · cases e with
        | nil => exact .inl rfl
        | cons y m f s =>
          have hne : x.en ≠ 0 := by rw [← e1]; simp [Il.len]
          exact .inr ⟨b', o', ha, Items.touch ht hi (hf b' (.inl (.inr (.inl (by simp [blkOf, hne, ha]))))) (fun q hq => hf q (.inl (.inr (.inr hq))))⟩
theorem ListAt.touch {S : Nat → Prop} {n₀ : Nat} {w w' : World} {a : Option Addr} {n : Nat} {t : Il} (h : ListAt n₀ w a n t) (ht : Touch S w w') (hk : ∀ q ∈ blkOf n a ++ t.foot, ¬ S q) : ListAt n₀ w' a n t := by
  obtain ⟨h1, h2⟩ := h
  refine ⟨h1, ?_⟩
  rcases h2 with h | ⟨b', o', ha, hi⟩
  · exact .inl h
  · cases t with
    | nil => exact .inl rfl
    | cons y m f s =>
      have hne : n ≠ 0 := by rw [← h1]; simp [Il.len]
      exact .inr ⟨b', o', ha, Items.touch ht hi (hk b' (by simp [blkOf, hne, ha])) (fun q hq => hk q (by simp [hq]))⟩
theorem kids_touch {S : Nat → Prop} {w w' : World} (ht : Touch S w w') : ∀ {t : Il}, t.kids w → (∀ q ∈ t.foot, ¬ S q) → t.kids w'
  | .nil, _, _ => trivial
  | .cons x l e r, ⟨h1, h2, h3, h4, h5⟩, hf => by
    simp only [Il.foot, List.mem_append] at hf
    exact ⟨h1, (h2.touch ht (fun q hq => hf q (.inl (.inl (.inl hq))))).more ht.size, ListAt.more ht.size (h3.touch ht (fun q hq => hf q (.inl (.inl (.inr (List.mem_append.1 hq)))))),
      ListAt.more ht.size (h4.touch ht (fun q hq => hf q (.inl (.inr (List.mem_append.1 hq))))), kids_touch ht h5 (fun q hq => hf q (.inr hq))⟩
theorem tags_lt {n₀ : Nat} {w : World} {a : Option Addr} {zs : List Int} (h : TagsAt n₀ w a zs) : ∀ q ∈ blkOf zs.length a, q < n₀ := by
  intro q hq
  rcases h with rfl | ⟨b, off, rfl, hl, _⟩
  · simp [blkOf] at hq
  · unfold blkOf at hq
    split at hq
    · simp at hq
    · simp at hq; omega
mutual
theorem items_lt {n₀ : Nat} {w : World} : ∀ {t : Il} {b off : Nat}, Items n₀ w b off t → ∀ q ∈ t.foot, q < n₀
  | .nil, _, _, _, q, hq => by simp [Il.foot] at hq
  | .cons x l e r, b, off, ⟨_, _, _, ht, hl, he, hr⟩, q, hq => by
    simp only [Il.foot, List.mem_append] at hq
    rcases hq with ((hq | hq) | hq) | hq
    · exact tags_lt ht q hq
    · exact list_lt (t := l) hl q (List.mem_append.2 hq)
    · exact list_lt (t := e) he q (List.mem_append.2 hq)
    · exact items_lt hr q hq
theorem list_lt {n₀ : Nat} {w : World} {a : Option Addr} {n : Nat} : ∀ {t : Il}, ListAt n₀ w a n t → ∀ q ∈ blkOf n a ++ t.foot, q < n₀
  | .nil, ⟨h1, _⟩, q, hq => by simp [← h1, blkOf, Il.len, Il.foot] at hq
  | .cons x l e r, ⟨h1, h2⟩, q, hq => by
    rcases h2 with h | ⟨b, off, rfl, hb, hx, hc, ht, hl, he, hr⟩
    · cases h
    · rcases List.mem_append.1 hq with hq | hq
      · unfold blkOf at hq
        split at hq
        · simp at hq
        · simp at hq; omega
      · simp only [Il.foot, List.mem_append] at hq
        rcases hq with ((hq | hq) | hq) | hq
        · exact tags_lt ht q hq
        · exact list_lt (t := l) hl q (List.mem_append.2 hq)
        · exact list_lt (t := e) he q (List.mem_append.2 hq)
        · exact items_lt hr q hq
end
theorem kids_lt {w : World} : ∀ {t : Il}, t.kids w → ∀ q ∈ t.foot, q < w.heap.size
  | .nil, _, q, hq => by simp [Il.foot] at hq
  | .cons x l e r, ⟨_, ht, hl, he, hr⟩, q, hq => by
    simp only [Il.foot, List.mem_append] at hq
    rcases hq with ((hq | hq) | hq) | hq
    · exact tags_lt ht q hq
    · exact list_lt hl q (List.mem_append.2 hq)
    · exact list_lt he q (List.mem_append.2 hq)
    · exact kids_lt hr q hq
/-- A row that holds them, and what is in them: a list in memory. -/
theorem items_of {w : World} {g : Nat} (hg : g < w.heap.size) : ∀ (t : Il) (off : Nat), (∀ j u, t.cells[j]? = some u → w.cell? ⟨g, off + j, none⟩ = some u) → t.kids w → Items w.heap.size w g off t
  | .nil, _, _, _ => trivial
  | .cons x l e r, off, hc, ⟨h1, h2, h3, h4, h5⟩ => by
    have h8 : ∀ q u, q < 8 → x.vals.toList[q]? = some u → w.cell? ⟨g, off + q, none⟩ = some u := fun q u hq hu => hc q u (by
      rw [Il.cells, List.getElem?_append_left (by simpa [Ix.vals] using hq)]; exact hu)
    refine ⟨hg, h1, ⟨h8 0 _ (by omega) rfl, h8 1 _ (by omega) rfl, h8 2 _ (by omega) rfl, h8 3 _ (by omega) rfl, h8 4 _ (by omega) rfl, h8 5 _ (by omega) rfl, h8 6 _ (by omega) rfl, h8 7 _ (by omega) rfl⟩, h2, h3, h4, items_of hg r (off + 8) (fun j u hu => ?_) h5⟩
    have := hc (8 + j) u (by
      rw [Il.cells, List.getElem?_append_right (by simp [Ix.vals])]
      simpa [Ix.vals] using hu)
    rw [show off + 8 + j = off + (8 + j) by omega]
    exact this
theorem list_of_row {w : World} {base : Nat} {v : Value} {t : Il} (h : w.ownsRow base 61 8 v t.len t.cells) (hk : t.kids w) : ∃ a c, v = .slice a t.len c ∧ ListAt w.heap.size w a t.len t ∧ blkOf t.len a = (if t.len = 0 then [] else match v.ownBlock with
    | some g => [g]
    | none => []) := by
  rcases h.2 with ⟨rfl, h0⟩ | ⟨g, cap, cur, rfl, _, hh, _⟩
  · refine ⟨none, 0, by rw [h0], ⟨rfl, .inl (len_zero h0)⟩, by simp [blkOf, h0]⟩
  · have hlt : g < w.heap.size := (Array.getElem?_eq_some_iff.1 hh).1
    refine ⟨_, _, rfl, ⟨rfl, .inr ⟨g, 0, rfl, items_of hlt t 0 (fun j u hu => ?_) hk⟩⟩, by simp [blkOf, Value.ownBlock]⟩
    have := World.ownsRow.cells h (g := g) rfl j u hu
    rw [plain_add] at this
    rw [Nat.zero_add]
    exact this
where len_zero : ∀ {t : Il}, t.len = 0 → t = .nil
  | .nil, _ => rfl
  | .cons _ _ _ _, h => by simp [Il.len] at h
end Instr
end Go.Proofs.YtlfflomeaplidaaDoor

/-
  BODY: the open lists in memory: a row of them, each with a row of its instructions; how a top one turns.
-/
namespace Go.Proofs.YtlfflomeaplidaaDoor.Body
open Go.RowKit Go.Proofs.YtlfflomeaplidaaDoor.Instr
open Go.Proofs.YtlfflomeaplidaaDoor.Kind (Rd numR refuseR startR numR_good numR_bounds refuseR_good getL_next)

/-- An open list: its owner, the owner's first list if this is its second, what has been read, the slice that holds that. -/
structure Og where
  x : Ix
  fl : Il
  t : Il
  v : Value
  oth : Bool
def Og.cells (o : Og) : List Value := o.x.vals.toList ++ [o.v, .bool o.oth]
def rowBlk (v : Value) : List Nat := match v.ownBlock with
  | some g => [g]
  | none => []
/-- Its blocks, but for that of its row. -/
def Og.inner (o : Og) : List Nat := o.t.foot ++ (blkOf o.x.ln o.x.la ++ o.fl.foot)
def Og.foot (o : Og) : List Nat := rowBlk o.v ++ o.inner
/-- What the plain reading knows of it. -/
def Og.fr (o : Og) : Fr := ⟨plainX o.x.op o.x.res 0 0 0 [], o.fl.bare, o.t.bare, o.oth⟩
/-- All but the row of what has been read. -/
structure Half (base : Nat) (w : World) (o : Og) : Prop where
  kids : o.t.kids w
  own : ListAt w.heap.size w o.x.la o.x.ln o.fl
  tags : o.x.tags = []
  zero : o.x.a = 0 ∧ o.x.b = 0 ∧ o.x.n = 0
  ok : o.x.ok
  en : o.x.ea = none ∧ o.x.en = 0 ∧ o.x.ec = 0
  first : o.oth = false → o.x.la = none ∧ o.x.ln = 0 ∧ o.x.lc = 0
  low : ∀ q ∈ o.inner, base ≤ q
  few : o.t.len ≤ 4000000
  soft : ∀ q ∈ o.inner, Soft w q
structure OpenOk (base : Nat) (w : World) (o : Og) : Prop where
  half : Half base w o
  row : w.ownsRow base 61 8 o.v o.t.len o.t.cells
theorem Half.touch {base : Nat} {S : Nat → Prop} {w w' : World} {o : Og} (h : Half base w o) (ht : Touch S w w') (hk : ∀ q ∈ o.inner, ¬ S q) : Half base w' o := by
  obtain ⟨h1, h2, h3, h4, h5, h6, h7, h8, h9, h10⟩ := h
  have hs : ∀ q ∈ o.inner, Soft w' q := fun q hq => (h10 q hq).touch ht (hk q hq)
  unfold Og.inner at hk
  exact ⟨kids_touch ht h1 (fun q hq => hk q (List.mem_append_left _ hq)), ListAt.more ht.size (h2.touch ht (fun q hq => hk q (List.mem_append_right _ hq))), h3, h4, h5, h6, h7, h8, h9, hs⟩
theorem OpenOk.touch {base : Nat} {S : Nat → Prop} {w w' : World} {o : Og} (h : OpenOk base w o) (ht : Touch S w w') (hk : ∀ q ∈ o.foot, ¬ S q) : OpenOk base w' o :=
  ⟨h.half.touch ht (fun q hq => hk q (List.mem_append_right _ hq)), touch_row h.row ht (fun g hg => hk g (List.mem_append_left _ (by simp [rowBlk, hg])))⟩
theorem OpenOk.low {base : Nat} {w : World} {o : Og} (h : OpenOk base w o) : ∀ q ∈ o.foot, base ≤ q := by
  intro q hq
  rcases List.mem_append.1 hq with hq | hq
  · unfold rowBlk at hq
    split at hq
    · rename_i g hg
      simp at hq
      subst hq
      exact (World.ownsRow.lt h.row q hg).1
    · simp at hq
  · exact h.half.low q hq
theorem OpenOk.soft {base : Nat} {w : World} {o : Og} (h : OpenOk base w o) : ∀ q ∈ o.foot, Soft w q := by
  intro q hq
  rcases List.mem_append.1 hq with hq | hq
  · unfold rowBlk at hq
    split at hq
    · rename_i g hg
      simp at hq
      subst hq
      exact soft_row h.row hg
    · simp at hq
  · exact h.half.soft q hq
theorem Half.lt {base : Nat} {w : World} {o : Og} (h : Half base w o) : ∀ q ∈ o.inner, q < w.heap.size := by
  intro q hq
  rcases List.mem_append.1 hq with hq | hq
  · exact kids_lt h.kids q hq
  · exact list_lt h.own q hq
theorem OpenOk.lt {base : Nat} {w : World} {o : Og} (h : OpenOk base w o) : ∀ q ∈ o.foot, q < w.heap.size := by
  intro q hq
  rcases List.mem_append.1 hq with hq | hq
  · unfold rowBlk at hq
    split at hq
    · rename_i g hg
      simp at hq
      subst hq
      exact (World.ownsRow.lt h.row q hg).2
    · simp at hq
  · exact h.half.lt q hq

/-- The stack: the outermost list first. -/
structure StackOk (base : Nat) (w : World) (gs cap : Nat) (os : List Og) : Prop where
  row : w.ownsRow base 148 10 (.slice (some ⟨gs, 0, none⟩) os.length cap) os.length (os.flatMap Og.cells)
  each : ∀ o ∈ os, OpenOk base w o
  apart : (gs :: os.flatMap Og.foot).Nodup
theorem StackOk.low {base : Nat} {w : World} {gs cap : Nat} {os : List Og} (h : StackOk base w gs cap os) : base ≤ gs ∧ gs < w.heap.size := World.ownsRow.lt h.row gs rfl
theorem StackOk.save {base k : Nat} {w w' : World} {gs cap : Nat} {os : List Og} (h : StackOk base w gs cap os) (hs : Save k w w') (hk : k < base) : StackOk base w' gs cap os := by
  refine ⟨touch_row h.row (.of_save hs) (fun g hg => by simp [Value.ownBlock] at hg; have := h.low; omega), fun o ho => (h.each o ho).touch (.of_save hs) (fun q hq => ?_), h.apart⟩
  have := (h.each o ho).low q hq
  omega
theorem cells_ten (o : Og) : o.cells.length = 10 := by simp [Og.cells, Ix.vals]
theorem flat_ten : ∀ os : List Og, (os.flatMap Og.cells).length = os.length * 10
  | [] => rfl
  | o :: os => by rw [List.flatMap_cons, List.length_append, flat_ten os, cells_ten, List.length_cons]; omega
theorem flat_snoc (os : List Og) (o : Og) : (os ++ [o]).flatMap Og.cells = os.flatMap Og.cells ++ o.cells := by simp
/-- A cell of the top one. -/
theorem StackOk.cell {base : Nat} {w : World} {gs cap : Nat} {os : List Og} {o : Og} (h : StackOk base w gs cap (os ++ [o])) {j : Nat} (hj : j < 10) : w.cell? ⟨gs, os.length * 10 + j, none⟩ = o.cells[j]? := by
  rw [World.ownsRow.cellAt h.row (os.length * 10 + j) (by simp; omega), flat_snoc, List.getElem?_append_right (by rw [flat_ten]; omega), flat_ten]
  congr 1; omega
theorem set_top (os : List Og) (cs : List Value) (j : Nat) (u : Value) : (os.flatMap Og.cells ++ cs).set (os.length * 10 + j) u = os.flatMap Og.cells ++ cs.set j u := by
  rw [List.set_append_right _ _ (by rw [flat_ten]; omega), flat_ten]
  congr 2; omega
theorem nodup_mid {a : Nat} {l m : List Nat} (h : (a :: (l ++ m)).Nodup) : (∀ q ∈ l, q ≠ a ∧ q ∉ m) ∧ (∀ q ∈ m, q ≠ a) ∧ m.Nodup ∧ l.Nodup := by
  simp only [List.nodup_cons, List.mem_append, not_or, List.nodup_append] at h
  obtain ⟨⟨h1, h2⟩, h3, h4, h5⟩ := h
  exact ⟨fun q hq => ⟨fun e => h1 (e ▸ hq), fun hm => h5 q hq q hm rfl⟩, fun q hq e => h2 (e ▸ hq), h4, h3⟩

/-- The top one's blocks apart from all others; it may be turned. -/
structure Ready (base : Nat) (w : World) (gs cap : Nat) (os : List Og) (o : Og) : Prop where
  row : w.ownsRow base 148 10 (.slice (some ⟨gs, 0, none⟩) (os.length + 1) cap) (os.length + 1) (os.flatMap Og.cells ++ o.cells)
  each : ∀ q ∈ os, OpenOk base w q
  half : Half base w o
  apart : (gs :: (os.flatMap Og.foot ++ o.inner)).Nodup
theorem StackOk.ready {base : Nat} {w : World} {gs cap : Nat} {os : List Og} {o : Og} (h : StackOk base w gs cap (os ++ [o])) : Ready base w gs cap os o := by
  refine ⟨by have := h.row; rw [flat_snoc, List.length_append] at this; exact this, fun q hq => h.each q (by simp [hq]), (h.each o (by simp)).half, ?_⟩
  have := h.apart
  rw [List.flatMap_append, List.flatMap_cons, List.flatMap_nil, List.append_nil] at this
  unfold Og.foot at this
  refine List.Nodup.sublist ?_ this
  exact List.Sublist.cons_cons _ (List.Sublist.append (List.Sublist.refl _) (List.sublist_append_right _ _))
theorem Ready.touch {base : Nat} {S : Nat → Prop} {w w' : World} {gs cap : Nat} {os : List Og} {o : Og} (h : Ready base w gs cap os o) (ht : Touch S w w') (hs : ∀ q ∈ gs :: (os.flatMap Og.foot ++ o.inner), ¬ S q) : Ready base w' gs cap os o := by
  refine ⟨touch_row h.row ht (fun g hg => by simp [Value.ownBlock] at hg; exact hs g (by simp [hg])), fun q hq => (h.each q hq).touch ht (fun r hr => hs r ?_), h.half.touch ht (fun r hr => hs r ?_), h.apart⟩
  · exact List.mem_cons_of_mem _ (List.mem_append_left _ (List.mem_flatMap.2 ⟨q, hq, hr⟩))
  · exact List.mem_cons_of_mem _ (List.mem_append_right _ hr)
theorem Ready.lt {base : Nat} {w : World} {gs cap : Nat} {os : List Og} {o : Og} (h : Ready base w gs cap os o) : ∀ q ∈ gs :: (os.flatMap Og.foot ++ o.inner), q < w.heap.size := by
  intro q hq
  rcases List.mem_cons.1 hq with rfl | hq
  · exact (World.ownsRow.lt h.row q rfl).2
  · rcases List.mem_append.1 hq with hq | hq
    · obtain ⟨p, hp, hr⟩ := List.mem_flatMap.1 hq
      exact (h.each p hp).lt q hr
    · exact h.half.lt q hq
/-- The top one has a new row and other cells. -/
theorem Ready.done {base : Nat} {w : World} {gs cap : Nat} {os : List Og} {o : Og} (hrow : w.ownsRow base 148 10 (.slice (some ⟨gs, 0, none⟩) (os.length + 1) cap) (os.length + 1) (os.flatMap Og.cells ++ o.cells)) (each : ∀ q ∈ os, OpenOk base w q) (ho : OpenOk base w o)
    (ha : (gs :: (os.flatMap Og.foot ++ o.foot)).Nodup) : StackOk base w gs cap (os ++ [o]) := by
  refine ⟨by rw [flat_snoc, List.length_append]; exact hrow, fun q hq => ?_, by rw [List.flatMap_append, List.flatMap_cons, List.flatMap_nil, List.append_nil]; exact ha⟩
  rcases List.mem_append.1 hq with hq | hq
  · exact each q hq
  · simp at hq; subst hq; exact ho

/-- Eight cells of a row are written over. -/
def store8 (w : World) (g off : Nat) (x : Ix) : World :=
  (((((((w.setCell ⟨g, off, none⟩ (.int .i64 x.op)).setCell ⟨g, off + 1, none⟩ (.int .i64 x.res)).setCell ⟨g, off + 2, none⟩ (.int .u32 x.a)).setCell ⟨g, off + 3, none⟩ (.int .u32 x.b)).setCell ⟨g, off + 4, none⟩ (.int .i32 x.n)).setCell
    ⟨g, off + 5, none⟩ (.slice x.ta x.tags.length x.tc)).setCell ⟨g, off + 6, none⟩ (.slice x.la x.ln x.lc)).setCell ⟨g, off + 7, none⟩ (.slice x.ea x.en x.ec)
theorem store8_touch (w : World) (g off : Nat) (x : Ix) : Touch (fun j => j = g) w (store8 w g off x) := by
  have step : ∀ (a b : World) (q : Addr) (v : Value), q.block = g → Touch (fun j => j = g) a b → Touch (fun j => j = g) a (b.setCell q v) := fun a b q v hq h => h.setCell (.inl hq) v
  unfold store8
  exact step _ _ _ _ rfl (step _ _ _ _ rfl (step _ _ _ _ rfl (step _ _ _ _ rfl (step _ _ _ _ rfl (step _ _ _ _ rfl (step _ _ _ _ rfl (step _ _ _ _ rfl (Touch.refl _ w))))))))
theorem set8 (l : List Value) (z0 z1 z2 z3 z4 z5 z6 z7 y0 y1 y2 y3 y4 y5 y6 y7 : Value) :
    ((((((((l ++ [z0, z1, z2, z3, z4, z5, z6, z7]).set l.length y0).set (l.length + 1) y1).set (l.length + 2) y2).set (l.length + 3) y3).set (l.length + 4) y4).set (l.length + 5) y5).set (l.length + 6) y6).set (l.length + 7) y7 = l ++ [y0, y1, y2, y3, y4, y5, y6, y7] := by
  simp [List.set_append_right]
theorem store8_row {w : World} {base g n cap : Nat} {xs : List Value} {z : Ix} (x : Ix) (hx : xs.length = n * 8) (h : w.ownsRow base 61 8 (.slice (some ⟨g, 0, none⟩) (n + 1) cap) (n + 1) (xs ++ z.vals.toList)) :
    (store8 w g (n * 8) x).ownsRow base 61 8 (.slice (some ⟨g, 0, none⟩) (n + 1) cap) (n + 1) (xs ++ x.vals.toList) := by
  have h1 := (h.stored (n * 8) (.int .i64 x.op)).1
  have h2 := (h1.stored (n * 8 + 1) (.int .i64 x.res)).1
  have h3 := (h2.stored (n * 8 + 2) (.int .u32 x.a)).1
  have h4 := (h3.stored (n * 8 + 3) (.int .u32 x.b)).1
  have h5 := (h4.stored (n * 8 + 4) (.int .i32 x.n)).1
  have h6 := (h5.stored (n * 8 + 5) (.slice x.ta x.tags.length x.tc)).1
  have h7 := (h6.stored (n * 8 + 6) (.slice x.la x.ln x.lc)).1
  have h8 := (h7.stored (n * 8 + 7) (.slice x.ea x.en x.ec)).1
  have e := set8 xs (.int .i64 z.op) (.int .i64 z.res) (.int .u32 z.a) (.int .u32 z.b) (.int .i32 z.n) (.slice z.ta z.tags.length z.tc) (.slice z.la z.ln z.lc) (.slice z.ea z.en z.ec) (.int .i64 x.op) (.int .i64 x.res) (.int .u32 x.a) (.int .u32 x.b) (.int .i32 x.n) (.slice x.ta x.tags.length x.tc) (.slice x.la x.ln x.lc) (.slice x.ea x.en x.ec)
  rw [hx] at e
  have hz : z.vals.toList = [.int .i64 z.op, .int .i64 z.res, .int .u32 z.a, .int .u32 z.b, .int .i32 z.n, .slice z.ta z.tags.length z.tc, .slice z.la z.ln z.lc, .slice z.ea z.en z.ec] := rfl
  have hxx : x.vals.toList = [.int .i64 x.op, .int .i64 x.res, .int .u32 x.a, .int .u32 x.b, .int .i32 x.n, .slice x.ta x.tags.length x.tc, .slice x.la x.ln x.lc, .slice x.ea x.en x.ec] := rfl
  rw [hz, e, ← hxx] at h8
  exact h8

/-- An instruction more in the top list: its cells are written behind the others, and the list's new slice into the stack. -/
theorem Ready.item {base : Nat} {w : World} {gs cap : Nat} {os : List Og} {o : Og} {g' cap' : Nat} {z x : Ix} {l e : Il} (h : Ready base w gs cap os o)
    (hown : w.ownsRow base 61 8 (.slice (some ⟨g', 0, none⟩) (o.t.len + 1) cap') (o.t.len + 1) (o.t.cells ++ z.vals.toList)) (hx : (Il.cons x l e .nil).kids w)
    (hfx : (Il.cons x l e .nil).foot.Nodup) (hlo : ∀ q ∈ (Il.cons x l e .nil).foot, base ≤ q ∧ q ≠ g' ∧ q ∉ gs :: (os.flatMap Og.foot ++ o.inner)) (hg' : g' ∉ gs :: (os.flatMap Og.foot ++ o.inner)) (hfew : o.t.len < 4000000) (hsf : ∀ q ∈ (Il.cons x l e .nil).foot, Soft w q) :
    StackOk base ((store8 w g' (o.t.len * 8) x).setCell ⟨gs, os.length * 10 + 8, none⟩ (.slice (some ⟨g', 0, none⟩) (o.t.len + 1) cap')) gs cap (os ++ [⟨o.x, o.fl, o.t.app (.cons x l e .nil), .slice (some ⟨g', 0, none⟩) (o.t.len + 1) cap', o.oth⟩]) := by
  have hgg : g' ≠ gs := fun e => hg' (by simp [e])
  have t1 := store8_touch w g' (o.t.len * 8) x
  have t2 : Touch (fun j => j = g' ∨ j = gs) w ((store8 w g' (o.t.len * 8) x).setCell ⟨gs, os.length * 10 + 8, none⟩ (.slice (some ⟨g', 0, none⟩) (o.t.len + 1) cap')) := (t1.mono (fun j hj => .inl hj)).setCell (.inl (.inr rfl)) _
  have hgs := World.ownsRow.lt h.row gs rfl
  have hout : ∀ q ∈ os.flatMap Og.foot ++ o.inner, ¬ (q = g' ∨ q = gs) := by
    rintro q hq (rfl | rfl)
    · exact hg' (List.mem_cons_of_mem _ hq)
    · exact (List.nodup_cons.1 h.apart).1 hq
  have hrow1 : (store8 w g' (o.t.len * 8) x).ownsRow base 148 10 (.slice (some ⟨gs, 0, none⟩) (os.length + 1) cap) (os.length + 1) (os.flatMap Og.cells ++ o.cells) :=
    touch_row h.row t1 (fun g hg => by simp [Value.ownBlock] at hg; omega)
  have hrow2 := (hrow1.stored (os.length * 10 + 8) (.slice (some ⟨g', 0, none⟩) (o.t.len + 1) cap')).1
  rw [set_top] at hrow2
  have hitem := store8_row x (cells_length o.t) hown
  have hitem2 := touch_row hitem ((Touch.refl (fun j => j = gs) _).setCell (p := ⟨gs, os.length * 10 + 8, none⟩) (.inl rfl) (.slice (some ⟨g', 0, none⟩) (o.t.len + 1) cap')) (fun g hg => by simp [Value.ownBlock] at hg; omega)
  obtain ⟨h1, h2, h3, h4, h5, h6, h7, h8, h9, h10⟩ := h.half.touch t2 (fun q hq => hout q (List.mem_append_right _ hq))
  refine Ready.done (by simpa [Og.cells, Ix.vals] using hrow2) (fun q hq => (h.each q hq).touch t2 (fun r hr => hout r (List.mem_append_left _ (List.mem_flatMap.2 ⟨q, hq, hr⟩)))) ⟨⟨kids_app _ _ h1 (kids_touch t2 hx ?_), h2, h3, h4, h5, h6, h7, ?_, ?_, ?_⟩, ?_⟩ ?_
  · rintro q hq (rfl | rfl)
    · exact (hlo q hq).2.1 rfl
    · exact (hlo q hq).2.2 (by simp)
  · intro q hq
    simp only [Og.inner, foot_app, List.mem_append] at hq
    rcases hq with (hq | hq) | hq
    · exact h8 q (by simp [Og.inner, hq])
    · exact (hlo q hq).1
    · exact h8 q (by simp only [Og.inner, List.mem_append]; exact .inr hq)
  · simp only [app_len, Il.len]; omega
  · intro q hq
    simp only [Og.inner, foot_app, List.mem_append] at hq
    rcases hq with (hq | hq) | hq
    · exact h10 q (by simp [Og.inner, hq])
    · exact (hsf q hq).touch t2 (by rintro (rfl | rfl); exact (hlo q hq).2.1 rfl; exact (hlo q hq).2.2 (by simp))
    · exact h10 q (by simp only [Og.inner, List.mem_append]; exact .inr hq)
  · simp only [app_len, Il.len, cells_app, Il.cells, List.append_nil]
    exact hitem2
  · have hp : (gs :: (os.flatMap Og.foot ++ (Og.foot ⟨o.x, o.fl, o.t.app (.cons x l e .nil), .slice (some ⟨g', 0, none⟩) (o.t.len + 1) cap', o.oth⟩))).Perm (g' :: ((Il.cons x l e .nil).foot ++ (gs :: (os.flatMap Og.foot ++ o.inner)))) := by
      rw [List.perm_iff_count]
      intro q
      simp only [Og.foot, Og.inner, rowBlk, Value.ownBlock, foot_app, List.count_append, List.count_cons, List.count_nil]
      omega
    rw [hp.nodup_iff, List.nodup_cons, List.nodup_append]
    refine ⟨fun hq => ?_, hfx, h.apart, fun a ha b hb hab => (hlo a ha).2.2 (hab ▸ hb)⟩
    rcases List.mem_append.1 hq with hq | hq
    · exact (hlo g' hq).2.1 rfl
    · exact hg' hq
end Go.Proofs.YtlfflomeaplidaaDoor.Body
