/-
  Small words that all texts of this seat use: hiding a fact from the walk; equal results; a slice that reads as a list of bytes.
-/
import Derived.Test.YtojgibigmoaejaaDoorProg
import Derived.WalkKit
import Derived.WalkSpells
import Derived.WalkLawsBesides
import Derived.Laws.BitsAllLaws
import Derived.Outline
namespace Go.Proofs.YtojgibigmoaejaaDoor
open Go.RowKit

theorem hid {p : Prop} (h : p) : Hid p := h
theorem ret_int {k : IntKind} {a b : Int} (h : a = b) : Ending.returned (.int k a) = .returned (.int k b) := by rw [h]
theorem ret_bool {a b : Bool} (h : a = b) : Ending.returned (.bool a) = .returned (.bool b) := by rw [h]

/-- The row of the table of types for a byte. -/
theorem infoByte : (Tryd.prog.info? 5).map (fun i => (i.zero, i.size, i.bytes)) = some (some (.int .u8 0), 1, 1) := by kernel_rfl

/-- 'v' is a list of bytes that a call made itself, in memory from block number 'base' on. -/
def Own (base : Nat) (w : World) (v : Value) (zs : List Int) : Prop := w.ownsRow base 5 1 v zs.length (zs.map (Value.int .u8))
theorem Own.slice {base : Nat} {w : World} {v : Value} {zs : List Int} (h : Own base w v zs) : ∃ a c, v = .slice a zs.length c := by
  rcases h.2 with ⟨rfl, h0⟩ | ⟨g, cap, cur, rfl, _⟩
  · exact ⟨none, 0, by rw [h0]⟩
  · exact ⟨_, cap, rfl⟩
theorem Own.of_snoc {base n : Nat} {w : World} {v : Value} {zs : List Int} {z : Int} (hn : zs.length = n) (h : w.ownsRow base 5 1 v (n + 1) (zs.map (Value.int .u8) ++ [.int .u8 z])) : Own base w v (zs ++ [z]) := by
  unfold Own; subst hn; simpa using h
/-- What an append to such a list leaves below 'base'. -/
theorem below_append {base n : Nat} {w wr w1 : World} {v : Value} {xs : List Value} (hown : wr.ownsRow base 5 1 v n xs) (hb : Below base w wr) (o : Obj) (hbase : base ≤ wr.heap.size)
    (hg : (wr.alloc o).grownBy w1 v.ownBlock) : Below base w w1 :=
  (hb.alloc hbase o).grown hg (by simp; omega) (fun k h => (hown.lt k h).1)
theorem getD_lt {zs : List Int} {i : Nat} (h : i < zs.length) : zs.getD i 0 = zs[i] := by simp [h]
theorem drop_at {zs : List Int} {i : Nat} (h : i < zs.length) : zs.drop i = zs.getD i 0 :: zs.drop (i + 1) := by rw [List.drop_eq_getElem_cons h, getD_lt h]
/-- What a slice value at address 'a' reads as: these bytes. Of an empty one nothing is known of the address. -/
structure Bytes (w : World) (a : Option Addr) (zs : List Int) : Prop where
  byte : ∀ z ∈ zs, 0 ≤ z ∧ z < 256
  size : zs.length ≤ 140737488351232
  at_ : zs = [] ∨ ∃ b off, a = some ⟨b, off, none⟩ ∧ ∀ i, i < zs.length → w.cell? ⟨b, off + i, none⟩ = some (.int .u8 (zs.getD i 0))
theorem Bytes.get {w : World} {a : Option Addr} {zs : List Int} (h : Bytes w a zs) {i : Nat} (hi : i < zs.length) : 0 ≤ zs.getD i 0 ∧ zs.getD i 0 < 256 := by
  rw [getD_lt hi]; exact h.byte _ (List.getElem_mem hi)
theorem Bytes.at {w : World} {a : Option Addr} {zs : List Int} (h : Bytes w a zs) (hi : 0 < zs.length) : ∃ b off, a = some ⟨b, off, none⟩ ∧ ∀ i, i < zs.length → w.cell? ⟨b, off + i, none⟩ = some (.int .u8 (zs.getD i 0)) := by
  rcases h.at_ with h | h
  · rw [h] at hi; simp at hi
  · exact h
theorem Bytes.below {w w' : World} {a : Option Addr} {zs : List Int} (h : Bytes w a zs) (hb : Below w.heap.size w w') : Bytes w' a zs := by
  refine ⟨h.byte, h.size, ?_⟩
  rcases h.at_ with h0 | ⟨b, off, rfl, hc⟩
  · exact .inl h0
  · exact .inr ⟨b, off, rfl, fun i hi => (hb.cell (World.block_lt_of_cell? w _ (hc i hi))).trans (hc i hi)⟩
/-- Behind a call: the cells and marks below its first block read on as they did. -/
theorem old {W w1 : World} (hb : Below W.heap.size W w1) : (∀ b o, b < W.heap.size → w1.cell? ⟨b, o, none⟩ = W.cell? ⟨b, o, none⟩) ∧ (∀ b o, b < W.heap.size → w1.frozen? ⟨b, o, none⟩ = W.frozen? ⟨b, o, none⟩) :=
  ⟨fun b o h => hb.cell (p := ⟨b, o, none⟩) h, fun b o h => hb.frozen (p := ⟨b, o, none⟩) h⟩
/-- Behind a call: a new block of two cells, laid just ahead of it, is as it was laid. -/
theorem two {w w' : World} {x y : Value} {t : TypeId} (hb : Below (w.alloc (.cells #[x, y] t)).heap.size (w.alloc (.cells #[x, y] t)) w') :
    w'.cell? ⟨w.heap.size, 0, none⟩ = some x ∧ w'.cell? ⟨w.heap.size, 1, none⟩ = some y ∧ w'.frozen? ⟨w.heap.size, 0, none⟩ = false ∧ w'.frozen? ⟨w.heap.size, 1, none⟩ = false ∧ w.heap.size < w'.heap.size := by
  obtain ⟨hc, hf⟩ := old hb
  have hs := hb.size
  refine ⟨(hc _ _ (by simp)).trans ?_, (hc _ _ (by simp)).trans ?_, (hf _ _ (by simp)).trans ?_, (hf _ _ (by simp)).trans ?_, by simp at hs; omega⟩ <;> go_simp
/-- The call gives back such a list, and leaves all that was there. -/
def Gives (w : World) (zs : List Int) (e : Ending) (w' : World) : Prop := ∃ v, e = .returned v ∧ Own w.heap.size w' v zs ∧ Below w.heap.size w w'
end Go.Proofs.YtojgibigmoaejaaDoor
