import Derived.Test.YtckdnhafookcgaaGreatDoorPa12
namespace Go.Proofs.YtckdnhafookcgaaGreatDoor.Instr
end Go.Proofs.YtckdnhafookcgaaGreatDoor.Instr
namespace Go.Proofs.YtckdnhafookcgaaGreatDoor.Mod
open Go.RowKit Go.Proofs.YtckdnhafookcgaaGreatDoor.Instr

/-- What a list has ahead, from the k-th on. -/
def Ahead (n₀ n k m : Nat) (a : Option Addr) (w : World) (r : Il) : Prop := r.len + k = n ∧ r.count ≤ m + 1 ∧ (r = .nil ∨ ∃ b off, a = some ⟨b, off, none⟩ ∧ Items n₀ w b (off + k * 8) r)
theorem Ahead.below {n₀ n k m : Nat} {a : Option Addr} {w w' : World} {r : Il} (h : Ahead n₀ n k m a w r) (hb : Below n₀ w w') : Ahead n₀ n k m a w' r := by
  obtain ⟨h1, h2, h3⟩ := h
  refine ⟨h1, h2, ?_⟩
  rcases h3 with h | ⟨b, off, ha, hi⟩
  · exact .inl h
  · exact .inr ⟨b, off, ha, hi.below hb⟩
theorem Ahead.done {n₀ n m : Nat} {a : Option Addr} {w : World} {r : Il} (h : Ahead n₀ n n m a w r) : r = .nil := by
  have := h.1
  cases r with
  | nil => rfl
  | cons x l e s => simp only [Il.len] at this; omega
/-- All fields of two instructions are the same. -/
structure AllSame (x y : Ix) (l e l' e' : Il) : Prop where
  op : x.op = y.op
  res : x.res = y.res
  a : x.a = y.a
  b : x.b = y.b
  n : x.n = y.n
  tags : x.tags = y.tags
  l : l.bare = l'.bare
  e : e.bare = e'.bare
theorem cons_same {x y : Ix} {l e s l' e' s' : Il} (hl : l.len = x.ln) (he : e.len = x.en) (hl' : l'.len = y.ln) (he' : e'.len = y.en) : (Il.cons x l e s).bare = (Il.cons y l' e' s').bare ↔ AllSame x y l e l' e' ∧ s.bare = s'.bare := by
  simp only [Il.bare, Il.cons.injEq, Ix.bare, Ix.mk.injEq]
  constructor
  · rintro ⟨⟨h1, h2, h3, h4, h5, h6, _⟩, h7, h8, h9⟩
    exact ⟨⟨h1, h2, h3, h4, h5, h6, h7, h8⟩, h9⟩
  · rintro ⟨⟨h1, h2, h3, h4, h5, h6, h7, h8⟩, h9⟩
    have b1 := bare_len l
    have b2 := bare_len e
    rw [h7, bare_len] at b1
    rw [h8, bare_len] at b2
    exact ⟨⟨h1, h2, h3, h4, h5, h6, trivial, trivial, trivial, by omega, trivial, trivial, by omega, trivial⟩, h7, h8, h9⟩
end Go.Proofs.YtckdnhafookcgaaGreatDoor.Mod
