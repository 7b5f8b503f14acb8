/-
  A call that turns nothing of what was there but one block: 'Save k'. (A method that writes through its receiver, which lies in block k.)
-/
import Derived.Test.YtojgibigmoaejaaDoorBase2
namespace Go.Proofs.YtojgibigmoaejaaDoor
open Go.RowKit

structure Save (k : Nat) (w w' : World) : Prop where
  os : w'.os = w.os
  tape : w'.tape = w.tape
  output : w'.output = w.output
  size : w.heap.size ≤ w'.heap.size
  block : ∀ j, j < w.heap.size → j ≠ k → w'.heap[j]? = w.heap[j]?

theorem Save.refl (k : Nat) (w : World) : Save k w w := ⟨rfl, rfl, rfl, Nat.le_refl _, fun _ _ _ => rfl⟩
theorem Save.trans {k : Nat} {a b c : World} (h : Save k a b) (g : Save k b c) : Save k a c :=
  ⟨g.os.trans h.os, g.tape.trans h.tape, g.output.trans h.output, Nat.le_trans h.size g.size, fun j hj hk => (g.block j (Nat.lt_of_lt_of_le hj h.size) hk).trans (h.block j hj hk)⟩
theorem Save.of_below {k : Nat} {w w' : World} (h : Below w.heap.size w w') : Save k w w' := ⟨h.os, h.tape, h.output, h.size, fun j hj _ => h.block j hj⟩
theorem Save.below {k B : Nat} {w w' : World} (h : Save k w w') (hB : B ≤ w.heap.size) (hk : B ≤ k) : Below B w w' :=
  ⟨h.os, h.tape, h.output, h.size, fun j hj => h.block j (by omega) (by omega)⟩
theorem Save.drew {k : Nat} {w w' : World} (h : Save k w w') : Save k w w'.drew := h.trans (.of_below (Below.refl _ _).drew)
theorem Save.alloc {k : Nat} {w w' : World} (h : Save k w w') (o : Obj) : Save k w (w'.alloc o) := h.trans (.of_below ((Below.refl _ _).alloc (Nat.le_refl _) o))
theorem Save.setCell {k : Nat} {w w' : World} (h : Save k w w') {p : Addr} (hp : p.block = k ∨ w.heap.size ≤ p.block) (u : Value) : Save k w (w'.setCell p u) :=
  ⟨h.os, h.tape, h.output, by have := h.size; simpa [World.setCell] using this, fun j hj hk => (Below.heap_setCell _ _ _ _ (by omega)).trans (h.block j hj hk)⟩
theorem Save.cell {k : Nat} {w w' : World} (h : Save k w w') {p : Addr} {v : Value} (hk : p.block ≠ k) (hc : w.cell? p = some v) : w'.cell? p = some v :=
  (World.cell?_of_block (w := w) (h.block p.block (World.block_lt_of_cell? w _ hc) hk)).trans hc
theorem Save.frozen {k : Nat} {w w' : World} (h : Save k w w') {p : Addr} {b : Bool} (hp : p.block < w.heap.size) (hk : p.block ≠ k) (hc : w.frozen? p = b) : w'.frozen? p = b :=
  (World.frozen?_of_block (w := w) (h.block p.block hp hk)).trans hc
theorem Bytes.save {k : Nat} {w w' : World} {a : Option Addr} {zs : List Int} (h : Bytes w a zs) (hs : Save k w w') (ha : ∀ b off, a = some ⟨b, off, none⟩ → zs ≠ [] → b ≠ k) : Bytes w' a zs := by
  refine ⟨h.byte, h.size, ?_⟩
  by_cases h9 : zs = []
  · exact .inl h9
  rcases h.at_ with h0 | ⟨b, off, rfl, hc⟩
  · exact .inl h0
  · exact .inr ⟨b, off, rfl, fun i hi => hs.cell (ha b off rfl h9) (hc i hi)⟩
/-- The bytes lie in memory that is there. -/
theorem Bytes.lt {w : World} {a : Option Addr} {zs : List Int} (h : Bytes w a zs) : ∀ b off, a = some ⟨b, off, none⟩ → zs ≠ [] → b < w.heap.size := by
  intro b off ha hne
  rcases h.at_ with h0 | ⟨b', off', h1, hc⟩
  · exact absurd h0 hne
  · rw [h1] at ha
    simp only [Option.some.injEq, Addr.mk.injEq] at ha
    obtain ⟨rfl, _, _⟩ := ha
    exact World.block_lt_of_cell? w _ (hc 0 (List.length_pos_iff.2 hne))
end Go.Proofs.YtojgibigmoaejaaDoor
