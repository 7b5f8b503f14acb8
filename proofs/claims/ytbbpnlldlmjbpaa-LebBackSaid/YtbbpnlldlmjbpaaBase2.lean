/-
  More small words: what a cell holds stays behind a call and behind a new block; what a call gave reads as its bytes.
-/
import Derived.Test.YtbbpnlldlmjbpaaBase
namespace Go.Proofs.Ytbbpnlldlmjbpaa
open Go.RowKit

/-- A cell that is there holds the same behind a call that leaves all that was there. -/
theorem keep {W w1 : World} {p : Addr} {v : Value} (hb : Below W.heap.size W w1) (h : W.cell? p = some v) : w1.cell? p = some v := (hb.cell (World.block_lt_of_cell? W _ h)).trans h
/-- And behind a new block. -/
theorem keepA {W : World} {p : Addr} {v : Value} (h : W.cell? p = some v) (o : Obj) : (W.alloc o).cell? p = some v := keep ((Below.refl _ _).alloc (Nat.le_refl _) o) h
theorem Bytes.alloc {w : World} {a : Option Addr} {zs : List Int} (h : Bytes w a zs) (o : Obj) : Bytes (w.alloc o) a zs := h.below ((Below.refl _ _).alloc (Nat.le_refl _) o)
/-- Two calls, one behind the other. -/
theorem thenB {w w1 w2 : World} (h1 : Below w.heap.size w w1) (h2 : Below w1.heap.size w1 w2) : Below w.heap.size w w2 := h1.trans (h2.mono h1.size)
theorem thenA {w w1 : World} (h1 : Below w.heap.size w w1) (o : Obj) : Below w.heap.size w (w1.alloc o) := h1.alloc h1.size o
/-- A list of its own that a call gave reads as its bytes. -/
theorem Own.bytes {base : Nat} {w : World} {a : Option Addr} {n cap : Nat} {zs : List Int} (h : Own base w (.slice a n cap) zs) (hz : ∀ z ∈ zs, 0 ≤ z ∧ z < 256) (hn : zs.length ≤ 140737488351232) : Bytes w a zs := by
  refine ⟨hz, hn, ?_⟩
  rcases h.2 with ⟨_, h0⟩ | ⟨g, cap', cur, hv, _, hh, _, _, _, ht⟩
  · exact .inl (List.eq_nil_of_length_eq_zero h0)
  · simp only [Value.slice.injEq] at hv
    obtain ⟨rfl, _, _⟩ := hv
    refine .inr ⟨g, 0, rfl, fun i hi => ?_⟩
    have hj : (zs.map (Value.int .u8))[i]? = some (.int .u8 (zs.getD i 0)) := by rw [getD_lt hi]; simp [hi]
    have := World.ownsRow.cells (show w.ownsRow base 5 1 (.slice (some ⟨g, 0, none⟩) n cap) zs.length (zs.map (Value.int .u8)) from h) (g := g) rfl i _ hj
    have hplain : (⟨g, 0, none⟩ : Addr).add i = ⟨g, 0 + i, none⟩ := by unfold Addr.add; split <;> simp_all
    rw [hplain] at this
    exact this
end Go.Proofs.Ytbbpnlldlmjbpaa
