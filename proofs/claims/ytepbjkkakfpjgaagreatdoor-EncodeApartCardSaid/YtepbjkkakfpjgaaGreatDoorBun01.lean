import Derived.Test.YtepbjkkakfpjgaaGreatDoorProg
import Derived.WalkKit
import Derived.WalkSpells
import Derived.WalkLawsBesides
import Derived.Laws.BitsAllLaws
import Derived.Outline
import Derived.Lib.ItoaNum
import Derived.Laws.AppendOwnNone
import Derived.Lib.OthersKept
import Derived.Laws.MakeOwn
import Derived.Laws.StructEq
import Derived.Deep.RegionHeld3
import Derived.Shelf.Small.Bits
import Derived.Shelf.Bits.Mul64
import Derived.Shelf.Unicode.DecodeSlow
import Derived.Shelf.Unicode.DecodeAny
import Derived.Laws.BytesArg
import Derived.Lib.ConvBytes
import Derived.Lib.AppendStr
/-
  Small words that all texts of this seat use: hiding a fact from the walk; equal results; a slice that reads as a list of bytes.
-/
namespace Go.Proofs.YtepbjkkakfpjgaaGreatDoor
open Go.RowKit

theorem hid {p : Prop} (h : p) : Hid p := h
theorem ret_int {k : IntKind} {a b : Int} (h : a = b) : Ending.returned (.int k a) = .returned (.int k b) := by rw [h]
theorem ret_bool {a b : Bool} (h : a = b) : Ending.returned (.bool a) = .returned (.bool b) := by rw [h]

/-- The row of the table of types for a byte. -/
theorem infoByte : (Tryz.prog.info? 5).map (fun i => (i.zero, i.size, i.bytes)) = some (some (.int .u8 0), 1, 1) := by kernel_rfl

/-- 'v' is a list of bytes that a call made itself, in memory from block number 'base' on. -/
def Own (base : Nat) (w : World) (v : Value) (zs : List Int) : Prop := w.ownsRow base 5 1 v zs.length (zs.map (Value.int .u8))
theorem Own.slice {base : Nat} {w : World} {v : Value} {zs : List Int} (h : Own base w v zs) : ∃ a c, v = .slice a zs.length c := by
  rcases h.2 with ⟨rfl, h0⟩ | ⟨g, cap, cur, rfl, _⟩
  · exact ⟨none, 0, by rw [h0]⟩
  · exact ⟨_, cap, rfl⟩
theorem Own.of_snoc {base n : Nat} {w : World} {v : Value} {zs : List Int} {z : Int} (hn : zs.length = n) (h : w.ownsRow base 5 1 v (n + 1) (zs.map (Value.int .u8) ++ [.int .u8 z])) : Own base w v (zs ++ [z]) := by
  unfold Own; subst hn; simpa using h
/-- What an append to such a list leaves below 'base'. -/
theorem below_append {base n : Nat} {w wr w1 : World} {v : Value} {xs : List Value} (hown : wr.ownsRow base 5 1 v n xs) (hb : Below base w wr) (o : Obj) (hbase : base ≤ wr.heap.size)
    (hg : (wr.alloc o).grownBy w1 v.ownBlock) : Below base w w1 :=
  (hb.alloc hbase o).grown hg (by simp; omega) (fun k h => (hown.lt k h).1)
theorem getD_lt {zs : List Int} {i : Nat} (h : i < zs.length) : zs.getD i 0 = zs[i] := by simp [h]
theorem drop_at {zs : List Int} {i : Nat} (h : i < zs.length) : zs.drop i = zs.getD i 0 :: zs.drop (i + 1) := by rw [List.drop_eq_getElem_cons h, getD_lt h]
/-- What a slice value at address 'a' reads as: these bytes. Of an empty one nothing is known of the address. -/
structure Bytes (w : World) (a : Option Addr) (zs : List Int) : Prop where
  byte : ∀ z ∈ zs, 0 ≤ z ∧ z < 256
  size : zs.length ≤ 140737488351232
  at_ : zs = [] ∨ ∃ b off, a = some ⟨b, off, none⟩ ∧ ∀ i, i < zs.length → w.cell? ⟨b, off + i, none⟩ = some (.int .u8 (zs.getD i 0))
theorem Bytes.get {w : World} {a : Option Addr} {zs : List Int} (h : Bytes w a zs) {i : Nat} (hi : i < zs.length) : 0 ≤ zs.getD i 0 ∧ zs.getD i 0 < 256 := by
  rw [getD_lt hi]; exact h.byte _ (List.getElem_mem hi)
theorem Bytes.at {w : World} {a : Option Addr} {zs : List Int} (h : Bytes w a zs) (hi : 0 < zs.length) : ∃ b off, a = some ⟨b, off, none⟩ ∧ ∀ i, i < zs.length → w.cell? ⟨b, off + i, none⟩ = some (.int .u8 (zs.getD i 0)) := by
  rcases h.at_ with h | h
  · rw [h] at hi; simp at hi
  · exact h
theorem Bytes.below {w w' : World} {a : Option Addr} {zs : List Int} (h : Bytes w a zs) (hb : Below w.heap.size w w') : Bytes w' a zs := by
  refine ⟨h.byte, h.size, ?_⟩
  rcases h.at_ with h0 | ⟨b, off, rfl, hc⟩
  · exact .inl h0
  · exact .inr ⟨b, off, rfl, fun i hi => (hb.cell (World.block_lt_of_cell? w _ (hc i hi))).trans (hc i hi)⟩
/-- Behind a call: the cells and marks below its first block read on as they did. -/
theorem old {W w1 : World} (hb : Below W.heap.size W w1) : (∀ b o, b < W.heap.size → w1.cell? ⟨b, o, none⟩ = W.cell? ⟨b, o, none⟩) ∧ (∀ b o, b < W.heap.size → w1.frozen? ⟨b, o, none⟩ = W.frozen? ⟨b, o, none⟩) :=
  ⟨fun b o h => hb.cell (p := ⟨b, o, none⟩) h, fun b o h => hb.frozen (p := ⟨b, o, none⟩) h⟩
/-- Behind a call: a new block of two cells, laid just ahead of it, is as it was laid. -/
theorem two {w w' : World} {x y : Value} {t : TypeId} (hb : Below (w.alloc (.cells #[x, y] t)).heap.size (w.alloc (.cells #[x, y] t)) w') :
    w'.cell? ⟨w.heap.size, 0, none⟩ = some x ∧ w'.cell? ⟨w.heap.size, 1, none⟩ = some y ∧ w'.frozen? ⟨w.heap.size, 0, none⟩ = false ∧ w'.frozen? ⟨w.heap.size, 1, none⟩ = false ∧ w.heap.size < w'.heap.size := by
  obtain ⟨hc, hf⟩ := old hb
  have hs := hb.size
  refine ⟨(hc _ _ (by simp)).trans ?_, (hc _ _ (by simp)).trans ?_, (hf _ _ (by simp)).trans ?_, (hf _ _ (by simp)).trans ?_, by simp at hs; omega⟩ <;> go_simp
/-- The call gives back such a list, and leaves all that was there. -/
def Gives (w : World) (zs : List Int) (e : Ending) (w' : World) : Prop := ∃ v, e = .returned v ∧ Own w.heap.size w' v zs ∧ Below w.heap.size w w'
end Go.Proofs.YtepbjkkakfpjgaaGreatDoor

/-
  More small words: what a cell holds stays behind a call and behind a new block; what a call gave reads as its bytes.
-/
namespace Go.Proofs.YtepbjkkakfpjgaaGreatDoor
open Go.RowKit

/-- A cell that is there holds the same behind a call that leaves all that was there. -/
theorem keep {W w1 : World} {p : Addr} {v : Value} (hb : Below W.heap.size W w1) (h : W.cell? p = some v) : w1.cell? p = some v := (hb.cell (World.block_lt_of_cell? W _ h)).trans h
/-- And behind a new block. -/
theorem keepA {W : World} {p : Addr} {v : Value} (h : W.cell? p = some v) (o : Obj) : (W.alloc o).cell? p = some v := keep ((Below.refl _ _).alloc (Nat.le_refl _) o) h
theorem Bytes.alloc {w : World} {a : Option Addr} {zs : List Int} (h : Bytes w a zs) (o : Obj) : Bytes (w.alloc o) a zs := h.below ((Below.refl _ _).alloc (Nat.le_refl _) o)
/-- Two calls, one behind the other. -/
theorem thenB {w w1 w2 : World} (h1 : Below w.heap.size w w1) (h2 : Below w1.heap.size w1 w2) : Below w.heap.size w w2 := h1.trans (h2.mono h1.size)
theorem thenA {w w1 : World} (h1 : Below w.heap.size w w1) (o : Obj) : Below w.heap.size w (w1.alloc o) := h1.alloc h1.size o
/-- A list of its own that a call gave reads as its bytes. -/
theorem Own.bytes {base : Nat} {w : World} {a : Option Addr} {n cap : Nat} {zs : List Int} (h : Own base w (.slice a n cap) zs) (hz : ∀ z ∈ zs, 0 ≤ z ∧ z < 256) (hn : zs.length ≤ 140737488351232) : Bytes w a zs := by
  refine ⟨hz, hn, ?_⟩
  rcases h.2 with ⟨_, h0⟩ | ⟨g, cap', cur, hv, _, hh, _, _, _, ht⟩
  · exact .inl (List.eq_nil_of_length_eq_zero h0)
  · simp only [Value.slice.injEq] at hv
    obtain ⟨rfl, _, _⟩ := hv
    refine .inr ⟨g, 0, rfl, fun i hi => ?_⟩
    have hj : (zs.map (Value.int .u8))[i]? = some (.int .u8 (zs.getD i 0)) := by rw [getD_lt hi]; simp [hi]
    have := World.ownsRow.cells (show w.ownsRow base 5 1 (.slice (some ⟨g, 0, none⟩) n cap) zs.length (zs.map (Value.int .u8)) from h) (g := g) rfl i _ hj
    have hplain : (⟨g, 0, none⟩ : Addr).add i = ⟨g, 0 + i, none⟩ := by unfold Addr.add; split <;> simp_all
    rw [hplain] at this
    exact this
theorem Own.sliceN {base n : Nat} {w : World} {v : Value} {zs : List Int} (h : Own base w v zs) (hn : zs.length = n) : ∃ a c, v = .slice a n c := by subst hn; exact h.slice
theorem Own.nil {base : Nat} {w : World} {a : Option Addr} {n c : Nat} {zs : List Int} (h : Own base w (.slice a n c) zs) : Hid (a = none → c = 0) := by
  refine hid fun ha => ?_
  subst ha
  rcases h.2 with ⟨h', _⟩ | ⟨g, cap, cur, h', _⟩
  · simp at h'; exact h'.2
  · simp at h'
theorem Own.mono {base base' : Nat} {w : World} {v : Value} {zs : List Int} (h : Own base w v zs) (hb : base' ≤ base) : Own base' w v zs := by
  refine ⟨h.1, ?_⟩
  rcases h.2 with h0 | ⟨g, cap, cur, hv, hg, rest⟩
  · exact .inl h0
  · exact .inr ⟨g, cap, cur, hv, Nat.le_trans hb hg, rest⟩
/-- Two cells of one block, each set. -/
theorem set_two {w : World} {k : Nat} {u v x y : Value} (c0 : w.cell? ⟨k, 0, none⟩ = some u) (c1 : w.cell? ⟨k, 1, none⟩ = some v) :
    ((w.setCell ⟨k, 0, none⟩ x).setCell ⟨k, 1, none⟩ y).cell? ⟨k, 0, none⟩ = some x ∧ ((w.setCell ⟨k, 0, none⟩ x).setCell ⟨k, 1, none⟩ y).cell? ⟨k, 1, none⟩ = some y := by
  constructor <;> simp [go_sem, c0, c1]
/-- A call that leaves all that was there turns no row. -/
theorem Own.below {base : Nat} {w w' : World} {v : Value} {zs : List Int} (h : Own base w v zs) (hb : Below w.heap.size w w') : Own base w' v zs := by
  refine ⟨h.1, ?_⟩
  rcases h.2 with h0 | ⟨g, cap, cur, hv, hg, hh, rest⟩
  · exact .inl h0
  · exact .inr ⟨g, cap, cur, hv, hg, (hb.block g (Array.getElem?_eq_some_iff.1 hh).1).trans hh, rest⟩
theorem Own.alloc {base : Nat} {w : World} {v : Value} {zs : List Int} (h : Own base w v zs) (o : Obj) : Own base (w.alloc o) v zs := h.below ((Below.refl _ _).alloc (Nat.le_refl _) o)
theorem Own.setCell {base : Nat} {w : World} {v : Value} {zs : List Int} (h : Own base w v zs) {p : Addr} (hp : p.block < base) (u : Value) : Own base (w.setCell p u) v zs := by
  refine ⟨h.1, ?_⟩
  rcases h.2 with h0 | ⟨g, cap, cur, hv, hg, hh, rest⟩
  · exact .inl h0
  · exact .inr ⟨g, cap, cur, hv, hg, (Below.heap_setCell w p u g (by omega)).trans hh, rest⟩
end Go.Proofs.YtepbjkkakfpjgaaGreatDoor

/-
  INSTR: instructions as plain data: a list of them, each with the two lists in it; what an operation is called, takes, leaves and uses; how many and how deep they are; whether they may be; their text. It imports nothing of any translation.
-/
namespace Go.Proofs.YtepbjkkakfpjgaaGreatDoor.Instr
open Go.RowKit

/-- An instruction's own fields; of each of its three lists where it lies, how long it is and how far it reaches. -/
structure Ix where
  op : Int
  res : Int
  a : Int
  b : Int
  n : Int
  tags : List Int
  ta : Option Addr
  tc : Nat
  la : Option Addr
  ln : Nat
  lc : Nat
  ea : Option Addr
  en : Nat
  ec : Nat
/-- A list of instructions: the first one's fields, its list L, its list E, and the others. -/
inductive Il where
  | nil
  | cons (x : Ix) (l e r : Il)
def Il.len : Il → Nat
  | .nil => 0
  | .cons _ _ _ r => r.len + 1
def Il.count : Il → Nat
  | .nil => 0
  | .cons _ l e r => l.count + e.count + r.count + 1
def Il.deep : Il → Nat
  | .nil => 0
  | .cons _ l e r => max (max l.deep e.deep + 1) r.deep

/-- The names of the operations, as the program's text lays them. -/
def nameTab : List (List Int) := [[117, 110, 114, 101, 97, 99, 104, 97, 98, 108, 101], [110, 111, 112], [98, 108, 111, 99, 107], [108, 111, 111, 112], [105, 102], [], [], [], [], [], [], [], [98, 114], [98, 114, 95, 105, 102], [98, 114, 95, 116, 97, 98, 108, 101], [114, 101, 116, 117, 114, 110], [99, 97, 108, 108], [99, 97, 108, 108, 95, 105, 110, 100, 105, 114, 101, 99, 116], [], [], [], [], [], [], [], [], [100, 114, 111, 112], [115, 101, 108, 101, 99, 116], [], [], [], [], [108, 111, 99, 97, 108, 46, 103, 101, 116], [108, 111, 99, 97, 108, 46, 115, 101, 116], [108, 111, 99, 97, 108, 46, 116, 101, 101], [103, 108, 111, 98, 97, 108, 46, 103, 101, 116], [103, 108, 111, 98, 97, 108, 46, 115, 101, 116], [], [], [], [105, 51, 50, 46, 108, 111, 97, 100], [], [], [], [105, 51, 50, 46, 108, 111, 97, 100, 56, 95, 115], [105, 51, 50, 46, 108, 111, 97, 100, 56, 95, 117], [105, 51, 50, 46, 108, 111, 97, 100, 49, 54, 95, 115], [105, 51, 50, 46, 108, 111, 97, 100, 49, 54, 95, 117], [], [], [], [], [], [], [105, 51, 50, 46, 115, 116, 111, 114, 101], [], [], [], [105, 51, 50, 46, 115, 116, 111, 114, 101, 56], [105, 51, 50, 46, 115, 116, 111, 114, 101, 49, 54], [], [], [], [109, 101, 109, 111, 114, 121, 46, 115, 105, 122, 101], [109, 101, 109, 111, 114, 121, 46, 103, 114, 111, 119], [105, 51, 50, 46, 99, 111, 110, 115, 116], [], [], [], [105, 51, 50, 46, 101, 113, 122], [105, 51, 50, 46, 101, 113], [105, 51, 50, 46, 110, 101], [105, 51, 50, 46, 108, 116, 95, 115], [105, 51, 50, 46, 108, 116, 95, 117], [105, 51, 50, 46, 103, 116, 95, 115], [105, 51, 50, 46, 103, 116, 95, 117], [105, 51, 50, 46, 108, 101, 95, 115], [105, 51, 50, 46, 108, 101, 95, 117], [105, 51, 50, 46, 103, 101, 95, 115], [105, 51, 50, 46, 103, 101, 95, 117], [], [], [], [], [], [], [], [], [], [], [], [], [], [], [], [], [], [], [], [], [], [], [], [105, 51, 50, 46, 99, 108, 122], [105, 51, 50, 46, 99, 116, 122], [105, 51, 50, 46, 112, 111, 112, 99, 110, 116], [105, 51, 50, 46, 97, 100, 100], [105, 51, 50, 46, 115, 117, 98], [105, 51, 50, 46, 109, 117, 108], [105, 51, 50, 46, 100, 105, 118, 95, 115], [105, 51, 50, 46, 100, 105, 118, 95, 117], [105, 51, 50, 46, 114, 101, 109, 95, 115], [105, 51, 50, 46, 114, 101, 109, 95, 117], [105, 51, 50, 46, 97, 110, 100], [105, 51, 50, 46, 111, 114], [105, 51, 50, 46, 120, 111, 114], [105, 51, 50, 46, 115, 104, 108], [105, 51, 50, 46, 115, 104, 114, 95, 115], [105, 51, 50, 46, 115, 104, 114, 95, 117], [105, 51, 50, 46, 114, 111, 116, 108], [105, 51, 50, 46, 114, 111, 116, 114]]
def nameL (op : Int) : List Int := if 0 ≤ op ∧ op < 121 then nameTab.getD op.toNat [] else []
def usedP (op : Int) : Int :=
  if op = 40 ∨ op = 54 ∨ op = 46 ∨ op = 47 ∨ op = 59 ∨ op = 44 ∨ op = 45 ∨ op = 58 then 6
  else if op = 2 ∨ op = 3 then 33 else if op = 4 then 97
  else if op = 12 ∨ op = 13 ∨ op = 16 ∨ op = 17 ∨ op = 32 ∨ op = 33 ∨ op = 34 ∨ op = 35 ∨ op = 36 then 2
  else if op = 14 then 18 else if op = 65 then 8 else 0
def bit (b : Bool) (k : Int) : Int := if b then k else 0
def filledP (x : Ix) : Int :=
  bit (x.res != 0) 1 + bit (x.a != 0) 2 + bit (x.b != 0) 4 + bit (x.n != 0) 8 + bit (decide (0 < x.tags.length)) 16 + bit (decide (0 < x.ln)) 32 + bit (decide (0 < x.en)) 64
/-- The fields that are filled and not used. -/
def overP (x : Ix) : Int := bits .andNot .u8 (filledP x) (usedP x.op)
def lawfulP (x : Ix) : Bool := decide (nameL x.op ≠ []) && decide (overP x = 0) && (decide (x.res = 0) || decide (x.res = 1))
def Il.all : Il → Bool
  | .nil => true
  | .cons x l e r => lawfulP x && l.all && e.all && r.all
def Il.tags : Il → Bool
  | .nil => false
  | .cons x l e r => decide (16384 < x.tags.length) || l.tags || e.tags || r.tags
def checkP (t : Il) : Int := if t.all then (if 262144 < t.count ∨ 900 < t.deep ∨ t.tags = true then 141 else 0) else 2

/-- All of them, each ahead of those in it, with how deep it stands. -/
def Il.walk : Il → Int → List (Int × Ix)
  | .nil, _ => []
  | .cons x l e r, d => (d, x) :: (l.walk (d + 1) ++ (e.walk (d + 1) ++ r.walk d))
theorem walk_length : ∀ (t : Il) (d : Int), (t.walk d).length = t.count
  | .nil, _ => rfl
  | .cons x l e r, d => by simp [Il.walk, Il.count, walk_length l, walk_length e, walk_length r]; omega
theorem walk_all : ∀ (t : Il) (d : Int), ((t.walk d).all fun p => lawfulP p.2) = t.all
  | .nil, _ => rfl
  | .cons x l e r, d => by simp [Il.walk, Il.all, walk_all l, walk_all e, walk_all r, Bool.and_assoc]
theorem walk_tags : ∀ (t : Il) (d : Int), ((t.walk d).any fun p => decide (16384 < p.2.tags.length)) = t.tags
  | .nil, _ => rfl
  | .cons x l e r, d => by simp [Il.walk, Il.tags, walk_tags l, walk_tags e, walk_tags r, Bool.or_assoc]
/-- How deep the deepest stands. -/
def deepest (l : List (Int × Ix)) : Int := l.foldl (fun m p => max m p.1) 0
theorem foldl_max (l : List (Int × Ix)) (m : Int) : l.foldl (fun m p => max m p.1) m = max m (l.foldl (fun m p => max m p.1) m) := by
  induction l generalizing m with
  | nil => simp
  | cons p l ih => simp only [List.foldl_cons]; rw [ih]; omega
theorem walk_deep : ∀ (t : Il) (d m : Int), 1 ≤ d → 0 ≤ m → (t.walk d).foldl (fun m p => max m p.1) m = max m (if t.deep = 0 then 0 else d - 1 + t.deep)
  | .nil, d, m, _, hm => by simp [Il.walk, Il.deep]; omega
  | .cons x l e r, d, m, h, hm => by
    simp only [Il.walk, List.foldl_cons, List.foldl_append, Il.deep]
    rw [walk_deep l _ _ (by omega) (by omega), walk_deep e _ _ (by omega) (by omega), walk_deep r _ _ h (by omega)]
    (repeat' split) <;> omega
theorem deepest_walk (t : Il) : deepest (t.walk 1) = t.deep := by
  unfold deepest
  rw [walk_deep t 1 0 (by omega) (by omega)]
  split <;> omega
theorem deepest_snoc (l : List (Int × Ix)) (p : Int × Ix) : deepest (l ++ [p]) = max (deepest l) p.1 := by simp [deepest, List.foldl_append]
theorem deepest_nonneg (l : List (Int × Ix)) : 0 ≤ deepest l := by unfold deepest; rw [foldl_max]; omega
theorem walk_depths : ∀ (t : Il) (d : Int), ∀ p ∈ t.walk d, d ≤ p.1 ∧ p.1 ≤ d + t.deep
  | .nil, _, p, hp => by simp [Il.walk] at hp
  | .cons x l e r, d, p, hp => by
    simp only [Il.walk, List.mem_cons, List.mem_append] at hp
    simp only [Il.deep]
    rcases hp with rfl | hp | hp | hp
    · simp; omega
    · have := walk_depths l (d + 1) p hp; omega
    · have := walk_depths e (d + 1) p hp; omega
    · have := walk_depths r d p hp; omega
theorem deep_le_count : ∀ t : Il, t.deep ≤ t.count
  | .nil => Nat.le_refl _
  | .cons x l e r => by have := deep_le_count l; have := deep_le_count e; have := deep_le_count r; simp only [Il.deep, Il.count]; omega
theorem len_le_count : ∀ t : Il, t.len ≤ t.count
  | .nil => Nat.le_refl _
  | .cons x l e r => by have := len_le_count r; simp only [Il.len, Il.count]; omega

/-- A number's digits. -/
def decL (n : Int) : List Int := (Lib.itoa n).map fun b => (b.toNat : Int)
def numT (n : Int) : List Int := 32 :: decL n
def uses (u k : Int) : Bool := decide (bits .and .u8 u k ≠ 0)
def fieldsL (x : Ix) (u : Int) : List Int :=
  (if uses u 1 && decide (x.res = 1) then [32, 105, 51, 50] else []) ++ (if uses u 16 then x.tags.flatMap numT else []) ++ (if uses u 2 then numT x.a else []) ++ (if uses u 4 then numT x.b else []) ++ (if uses u 8 then numT x.n else [])
def Il.text : Il → List Int
  | .nil => []
  | .cons x l e r =>
    (nameL x.op ++ fieldsL x (usedP x.op) ++ [59] ++
      (if uses (usedP x.op) 32 then l.text ++ (if uses (usedP x.op) 64 && decide (0 < x.en) then [101, 108, 115, 101, 59] ++ e.text else []) ++ [101, 110, 100, 59] else [])) ++ r.text
end Go.Proofs.YtepbjkkakfpjgaaGreatDoor.Instr

/-
  Rows of numbers of any kind: read; a call's own; appended to by one; made; an iterator that stands beside them.
-/
namespace Go.Proofs.YtepbjkkakfpjgaaGreatDoor
open Go.RowKit

/-- What a slice value at address 'a' reads as: these numbers. -/
structure Nums (k : IntKind) (w : World) (a : Option Addr) (zs : List Int) : Prop where
  at_ : zs = [] ∨ ∃ b off, a = some ⟨b, off, none⟩ ∧ ∀ i, i < zs.length → w.cell? ⟨b, off + i, none⟩ = some (.int k (zs.getD i 0))
theorem Nums.at {k : IntKind} {w : World} {a : Option Addr} {zs : List Int} (h : Nums k w a zs) (hi : 0 < zs.length) : ∃ b off, a = some ⟨b, off, none⟩ ∧ ∀ i, i < zs.length → w.cell? ⟨b, off + i, none⟩ = some (.int k (zs.getD i 0)) := by
  rcases h.at_ with h | h
  · rw [h] at hi; simp at hi
  · exact h
theorem Nums.below {k : IntKind} {w w' : World} {a : Option Addr} {zs : List Int} (h : Nums k w a zs) (hb : Below w.heap.size w w') : Nums k w' a zs := by
  refine ⟨?_⟩
  rcases h.at_ with h0 | ⟨b, off, rfl, hc⟩
  · exact .inl h0
  · exact .inr ⟨b, off, rfl, fun i hi => (hb.cell (World.block_lt_of_cell? w _ (hc i hi))).trans (hc i hi)⟩
theorem Nums.alloc {k : IntKind} {w : World} {a : Option Addr} {zs : List Int} (h : Nums k w a zs) (o : Obj) : Nums k (w.alloc o) a zs := h.below ((Below.refl _ _).alloc (Nat.le_refl _) o)
theorem Bytes.nums {w : World} {a : Option Addr} {zs : List Int} (h : Bytes w a zs) : Nums .u8 w a zs := ⟨h.at_⟩

/-- A row of numbers that a call made itself. -/
def OwnK (e : TypeId) (k : IntKind) (base : Nat) (w : World) (v : Value) (zs : List Int) : Prop := w.ownsRow base e 1 v zs.length (zs.map (Value.int k))
theorem OwnK.sliceN {e : TypeId} {k : IntKind} {base n : Nat} {w : World} {v : Value} {zs : List Int} (h : OwnK e k base w v zs) (hn : zs.length = n) : ∃ a c, v = .slice a n c := by
  subst hn
  rcases h.2 with ⟨rfl, h0⟩ | ⟨g, cap, cur, rfl, _⟩
  · exact ⟨none, 0, by rw [h0]⟩
  · exact ⟨_, cap, rfl⟩
theorem OwnK.nil {e : TypeId} {k : IntKind} {base n c : Nat} {w : World} {a : Option Addr} {zs : List Int} (h : OwnK e k base w (.slice a n c) zs) : Hid (a = none → c = 0) := by
  refine hid fun ha => ?_
  subst ha
  rcases h.2 with ⟨h', _⟩ | ⟨g, cap, cur, h', _⟩
  · simp at h'; exact h'.2
  · simp at h'
theorem OwnK.nums {e : TypeId} {k : IntKind} {base n cap : Nat} {w : World} {a : Option Addr} {zs : List Int} (h : OwnK e k base w (.slice a n cap) zs) : Nums k w a zs := by
  refine ⟨?_⟩
  rcases h.2 with ⟨_, h0⟩ | ⟨g, cap', cur, hv, _, hh, _, _, _, ht⟩
  · exact .inl (List.eq_nil_of_length_eq_zero h0)
  · simp only [Value.slice.injEq] at hv
    obtain ⟨rfl, _, _⟩ := hv
    refine .inr ⟨g, 0, rfl, fun i hi => ?_⟩
    have hj : (zs.map (Value.int k))[i]? = some (.int k (zs.getD i 0)) := by rw [getD_lt hi]; simp [hi]
    have := World.ownsRow.cells (show w.ownsRow base e 1 (.slice (some ⟨g, 0, none⟩) n cap) zs.length (zs.map (Value.int k)) from h) (g := g) rfl i _ hj
    have hplain : (⟨g, 0, none⟩ : Addr).add i = ⟨g, 0 + i, none⟩ := by unfold Addr.add; split <;> simp_all
    rw [hplain] at this
    exact this
theorem OwnK.mono {e : TypeId} {k : IntKind} {base base' : Nat} {w : World} {v : Value} {zs : List Int} (h : OwnK e k base w v zs) (hb : base' ≤ base) : OwnK e k base' w v zs := by
  refine ⟨h.1, ?_⟩
  rcases h.2 with h0 | ⟨g, cap, cur, hv, hg, rest⟩
  · exact .inl h0
  · exact .inr ⟨g, cap, cur, hv, Nat.le_trans hb hg, rest⟩
/-- A store below it turns no row. -/
theorem OwnK.setCell {e : TypeId} {k : IntKind} {base : Nat} {w : World} {v : Value} {zs : List Int} (h : OwnK e k base w v zs) {p : Addr} (hp : p.block < base) (u : Value) : OwnK e k base (w.setCell p u) v zs := by
  refine ⟨h.1, ?_⟩
  rcases h.2 with h0 | ⟨g, cap, cur, hv, hg, hh, rest⟩
  · exact .inl h0
  · exact .inr ⟨g, cap, cur, hv, hg, (Below.heap_setCell w p u g (by omega)).trans hh, rest⟩
/-- A call that leaves all that was there turns no row. -/
theorem OwnK.below {e : TypeId} {k : IntKind} {base : Nat} {w w' : World} {v : Value} {zs : List Int} (h : OwnK e k base w v zs) (hb : Below w.heap.size w w') : OwnK e k base w' v zs := by
  refine ⟨h.1, ?_⟩
  rcases h.2 with h0 | ⟨g, cap, cur, hv, hg, hh, rest⟩
  · exact .inl h0
  · exact .inr ⟨g, cap, cur, hv, hg, (hb.block g (Array.getElem?_eq_some_iff.1 hh).1).trans hh, rest⟩
theorem OwnK.alloc {e : TypeId} {k : IntKind} {base : Nat} {w : World} {v : Value} {zs : List Int} (h : OwnK e k base w v zs) (o : Obj) : OwnK e k base (w.alloc o) v zs := h.below ((Below.refl _ _).alloc (Nat.le_refl _) o)
/-- An iterator's step turns no row. -/
theorem OwnK.iterAt {e : TypeId} {k : IntKind} {base j : Nat} {w : World} {v : Value} {zs : List Int} {s : ByteArray} {p : Nat} (h : OwnK e k base w v zs) (hk : w.heap[j]? = some (.stringIter s p)) (p' : Nat) : OwnK e k base (w.iterAt j s p') v zs := by
  refine ⟨h.1, ?_⟩
  rcases h.2 with h0 | ⟨g, cap, cur, hv, hg, hh, rest⟩
  · exact .inl h0
  · refine .inr ⟨g, cap, cur, hv, hg, (Lib.iterAt_other w j g s p' (fun hgj => ?_)).trans hh, rest⟩
    subst hgj
    rw [hh] at hk
    cases hk
/-- What an append leaves of an iterator. -/
theorem iter_kept {e : TypeId} {k : IntKind} {base : Nat} {w w' : World} {v : Value} {zs : List Int} (h : OwnK e k base w v zs) (o : Obj) (hg : (w.alloc o).grownBy w' v.ownBlock) (j : Nat) (s : ByteArray) (p : Nat)
    (hk : w.heap[j]? = some (.stringIter s p)) : w'.heap[j]? = some (.stringIter s p) := by
  have hj : j < w.heap.size := (Array.getElem?_eq_some_iff.1 hk).1
  refine (hg.block j (by simp; omega) ?_).trans ((Below.heap_alloc w o j hj).trans hk)
  intro he
  rcases h.2 with ⟨rfl, _⟩ | ⟨g, cap, cur, rfl, _, hh, _⟩
  · cases he
  · simp [Value.ownBlock] at he
    subst he
    rw [hh] at hk
    cases hk

section
variable {ops : Array Oper} {rest : List Oper} {o : Oper} {act : Act} {Q : Exit → Act → World → Prop}

theorem append_num {e ts : TypeId} {k : IntKind} {nb : Nat} (inf : (Tryz.prog.info? e).map (fun i => (i.zero, i.size, i.bytes)) = some (some (.int k 0), 1, nb)) (ut : Tryz.prog.underlying ts = some (.slice e))
    (hgd : o.guard = none) (s x : Operand) (ho : o.op = .call { callee := .builtin .append, args := #[s, x], argTypes := #[ts, ts] })
    {base : Nat} {w0 wr : World} {v : Value} {xs : List Int} (z : Int) (hs : act.eval s = v) (hown : OwnK e k base wr v xs) (hb : Below base w0 wr) (hbase : base ≤ wr.heap.size)
    (hx : act.eval x = .slice (some ⟨wr.heap.size, 0, none⟩) 1 1) (hl : (xs.length + 1) * nb ≤ 140737488355328) (hl' : xs.length ≤ 140737488351232)
    (h : ∀ v' w', OwnK e k base w' v' (xs ++ [z]) → Below base w0 w' → base ≤ w'.heap.size → (∀ (j : Nat) (t : ByteArray) (p : Nat), wr.heap[j]? = some (Obj.stringIter t p) → w'.heap[j]? = some (Obj.stringIter t p)) → wpList Tryz.prog ops Q rest (act.put o.dst v') w') :
    wpList Tryz.prog ops Q (o :: rest) act (wr.alloc (.cells #[.int k z] e)) := by
  obtain ⟨i0, hi, hz0, hz1, hz2⟩ := info_parts inf
  refine wpList_append_own _ hgd s x ts ho base e i0 (.int k 0) 1 nb ut hi hz0 hz1 hz2 rfl (by decide) v xs.length _ hs (World.ownsRow.alloc hown _) ⟨wr.heap.size, 0, none⟩ 1 1 [.int k z] hx rfl
    ?_ ?_ ?_ ?_ ?_ (fun v' w' hown' hgrow _ => ?_)
  · intro j u hj
    match j, hj with
    | 0, hj => simp at hj; subst hj; simp [Addr.add]
  · intro u hu; simp at hu; subst hu; rfl
  · unfold maxLen; omega
  · exact hl
  · simp; omega
  · have hb' : Below base w0 w' := (hb.alloc hbase _).grown hgrow (by simp; omega) (fun k h => (World.ownsRow.lt hown k h).1)
    refine h v' w' (by unfold OwnK; simpa using hown') hb' ?_ (fun j t p => iter_kept hown _ hgrow j t p)
    have := hgrow.size; simp at this; omega
end

/-- make([]T, 0, c). -/
theorem make_none {e ts : TypeId} {k : IntKind} {nb : Nat} (inf : (Tryz.prog.info? e).map (fun i => (i.zero, i.size, i.bytes)) = some (some (.int k 0), 1, nb)) (ut : Tryz.prog.underlying ts = some (.slice e)) (w : World) (c : Nat)
    (hl : nb * c ≤ 281474976710656) (hc : c ≤ 281474976710656) :
    ∃ w', (Instr.makeSlice ts (.int .i64 0) (.int .i64 (c : Int))).run Tryz.prog w = .ok (.slice (some ⟨w.heap.size, 0, none⟩) 0 c) w' ∧ OwnK e k w.heap.size w' (.slice (some ⟨w.heap.size, 0, none⟩) 0 c) [] ∧ Below w.heap.size w w' ∧ w.heap.size ≤ w'.heap.size := by
  obtain ⟨i0, hi, hz0, hz1, hz2⟩ := info_parts inf
  obtain ⟨w', h1, h2, h3⟩ := run_make_own w w.heap.size ts e i0 (.int k 0) 1 ut hi hz0 hz1 .i64 .i64 c (by rw [hz2]; exact hl) (by unfold maxLen; omega) (Nat.le_refl _)
  exact ⟨w', h1, h2, (Below.refl _ _).grown h3 (Nat.le_refl _) (fun k h => by cases h), h3.size⟩
end Go.Proofs.YtepbjkkakfpjgaaGreatDoor

/-
  Kind: '==' of types, of limits, of faults, as the walk meets it.
-/
namespace Go.Proofs.YtepbjkkakfpjgaaGreatDoor.Kind
open Go.RowKit

theorem eqType (a b c d : Int) (w : World) : (Op.equalIn 10000 50 (.agg #[.int .i64 a, .int .i64 b]) (.agg #[.int .i64 c, .int .i64 d])).run Tryz.prog w = .ok (a == c && b == d) w := by
  have u3 := Tryz.underlying3
  have a3 := Tryz.isAgg3
  have z3 := Tryz.sizeOf3
  have hS : Tryz.prog.underlying 50 = some (.struct (Tryz.prog.fieldsOf 50)) := by kernel_rfl
  have hp : Tryz.prog.stoodInHeld 50 = false := by kernel_rfl
  rw [show (10000 : Nat) = 9999 + 1 from rfl, run_equalIn_agg w 9999 50 _ _ hS hp]
  simp only [Program.fieldsOf, Tryz.underlying50]
  go_simp
  by_cases h1 : a = c <;> by_cases h2 : b = d <;> simp [h1, h2]
theorem guardType (op : BinOp) (x y : Operand) (xs ys : Array Value) (w : World) : (eqGuard op 50 x y (.agg xs) (.agg ys)).run Tryz.prog w = .ok () w :=
  run_eqGuard_agg w op _ x y xs ys (by kernel_rfl)
theorem eqFault (a b c d : Int) (w : World) : (Op.equalIn 10000 198 (.agg #[.int .i64 a, .int .i64 b]) (.agg #[.int .i64 c, .int .i64 d])).run Tryz.prog w = .ok (a == c && b == d) w := by
  have u3 := Tryz.underlying3
  have a3 := Tryz.isAgg3
  have z3 := Tryz.sizeOf3
  have u4 := Tryz.underlying36
  have a4 := Tryz.isAgg36
  have z4 := Tryz.sizeOf36
  have hS : Tryz.prog.underlying 198 = some (.struct (Tryz.prog.fieldsOf 198)) := by kernel_rfl
  have hp : Tryz.prog.stoodInHeld 198 = false := by kernel_rfl
  rw [show (10000 : Nat) = 9999 + 1 from rfl, run_equalIn_agg w 9999 198 _ _ hS hp]
  simp only [Program.fieldsOf, Tryz.underlying198]
  go_simp
  by_cases h1 : a = c <;> by_cases h2 : b = d <;> simp [h1, h2]
theorem guardFault (op : BinOp) (x y : Operand) (xs ys : Array Value) (w : World) : (eqGuard op 198 x y (.agg xs) (.agg ys)).run Tryz.prog w = .ok () w :=
  run_eqGuard_agg w op _ x y xs ys (by kernel_rfl)
theorem eqLim (a b c d : Int) (s t : Bool) (w : World) : (Op.equalIn 10000 60 (.agg #[.int .u32 a, .int .u32 b, .bool s]) (.agg #[.int .u32 c, .int .u32 d, .bool t])).run Tryz.prog w = .ok (a == c && b == d && s == t) w := by
  have u3 := Tryz.underlying28
  have a3 := Tryz.isAgg28
  have z3 := Tryz.sizeOf28
  have u4 := Tryz.underlying4
  have a4 := Tryz.isAgg4
  have z4 := Tryz.sizeOf4
  have hS : Tryz.prog.underlying 60 = some (.struct (Tryz.prog.fieldsOf 60)) := by kernel_rfl
  have hp : Tryz.prog.stoodInHeld 60 = false := by kernel_rfl
  rw [show (10000 : Nat) = 9999 + 1 from rfl, run_equalIn_agg w 9999 60 _ _ hS hp]
  simp only [Program.fieldsOf, Tryz.underlying60]
  go_simp
  by_cases h1 : a = c <;> by_cases h2 : b = d <;> by_cases h3 : s = t <;> simp [h1, h2, h3]
theorem guardLim (op : BinOp) (x y : Operand) (xs ys : Array Value) (w : World) : (eqGuard op 60 x y (.agg xs) (.agg ys)).run Tryz.prog w = .ok () w :=
  run_eqGuard_agg w op _ x y xs ys (by kernel_rfl)
end Go.Proofs.YtepbjkkakfpjgaaGreatDoor.Kind

/-
  LEB128 of 32-bit numbers, as plain functions on lists of integers: what is put, what is got, and how the two go together. It imports nothing of any translation.
-/
namespace Go.Proofs.YtepbjkkakfpjgaaGreatDoor.Leb

/-- How many bytes an unsigned number has. -/
def sizeU (n : Int) : Nat := if n < 128 then 1 else if n < 16384 then 2 else if n < 2097152 then 3 else if n < 268435456 then 4 else 5
/-- How many bytes a signed number has. -/
def sizeS (n : Int) : Nat :=
  if -64 ≤ n ∧ n < 64 then 1 else if -8192 ≤ n ∧ n < 8192 then 2 else if -1048576 ≤ n ∧ n < 1048576 then 3 else if -134217728 ≤ n ∧ n < 134217728 then 4 else 5
/-- So many bytes of a number: all but the last one say that another follows. -/
def putL : Nat → Int → List Int
  | 0, _ => []
  | 1, u => [u % 128]
  | s + 2, u => (u % 128 + 128) :: putL (s + 1) (u / 128)
def encU (n : Int) : List Int := putL (sizeU n) n
def encS (n : Int) : List Int := putL (sizeS n) n

/-- Which fifth byte may be. -/
def okFifth (s : Bool) (c : Int) : Bool := if s then decide (c < 8) || (decide (120 ≤ c) && decide (c < 128)) else decide (c < 16)
/-- What so many parts stand for. -/
def ext (s : Bool) (u : Int) (m : Nat) : Int := if s = true ∧ 128 ^ m ≤ 2 * u then u - 128 ^ m else u
/-- Reading on: behind k parts that make u, at place p. Value, next place, error, its place. -/
def goL (s : Bool) : Nat → Int → List Int → Int → Int × Int × Int × Int
  | _, _, [], p => (0, 0, 4, p)
  | k, u, c :: r, p =>
    if k = 4 ∧ okFifth s c = false then (0, 0, 4, p)
    else if c < 128 then (ext s (u + c % 128 * 128 ^ k) (k + 1), p + 1, 0, 0)
    else goL s (k + 1) (u + c % 128 * 128 ^ k) r (p + 1)
def getL (s : Bool) (l : List Int) (at' : Int) : Int × Int × Int × Int :=
  if at' < 0 ∨ (l.length : Int) < at' then (0, 0, 5, 0) else goL s 0 0 (l.drop at'.toNat) at'

theorem sizeU_pos (n : Int) : 1 ≤ sizeU n ∧ sizeU n ≤ 5 := by unfold sizeU; (repeat' split) <;> omega
theorem sizeS_pos (n : Int) : 1 ≤ sizeS n ∧ sizeS n ≤ 5 := by unfold sizeS; (repeat' split) <;> omega
theorem putL_length : ∀ (s : Nat) (u : Int), (putL s u).length = s
  | 0, _ => rfl
  | 1, _ => rfl
  | s + 2, u => by simp [putL, putL_length (s + 1)]
theorem putL_bytes : ∀ (s : Nat) (u : Int), ∀ c ∈ putL s u, 0 ≤ c ∧ c < 256
  | 0, _, c, h => by simp [putL] at h
  | 1, u, c, h => by simp [putL] at h; omega
  | s + 2, u, c, h => by
    simp only [putL, List.mem_cons] at h
    rcases h with h | h
    · omega
    · exact putL_bytes (s + 1) _ c h
theorem encU_length (n : Int) : (encU n).length = sizeU n := putL_length _ _
theorem encS_length (n : Int) : (encS n).length = sizeS n := putL_length _ _
theorem encU_bytes (n : Int) : ∀ c ∈ encU n, 0 ≤ c ∧ c < 256 := putL_bytes _ _
theorem encS_bytes (n : Int) : ∀ c ∈ encS n, 0 ≤ c ∧ c < 256 := putL_bytes _ _

theorem encU_last {n : Int} (h0 : 0 ≤ n) (h : n < 128) : encU n = [n] := by
  have : sizeU n = 1 := by simp [sizeU, h]
  rw [encU, this, putL]; congr 1; omega
theorem encU_step {n : Int} (h : 128 ≤ n) (hm : n < 4294967296) : encU n = (n % 128 + 128) :: encU (n / 128) := by
  have : sizeU n = sizeU (n / 128) + 1 := by unfold sizeU; (repeat' split) <;> omega
  have hp := sizeU_pos (n / 128)
  unfold encU
  rw [this]
  obtain ⟨s, hs⟩ : ∃ s, sizeU (n / 128) = s + 1 := ⟨sizeU (n / 128) - 1, by omega⟩
  rw [hs, putL]
theorem encS_last {n : Int} (h0 : -64 ≤ n) (h : n < 64) : encS n = [n % 128] := by
  have : sizeS n = 1 := by simp [sizeS, h, h0]
  rw [encS, this, putL]
theorem encS_step {n : Int} (h : n < -64 ∨ 64 ≤ n) (h0 : -2147483648 ≤ n) (hm : n < 2147483648) : encS n = (n % 128 + 128) :: encS (n / 128) := by
  have : sizeS n = sizeS (n / 128) + 1 := by unfold sizeS; (repeat' split) <;> omega
  have hp := sizeS_pos (n / 128)
  unfold encS
  rw [this]
  obtain ⟨s, hs⟩ : ∃ s, sizeS (n / 128) = s + 1 := ⟨sizeS (n / 128) - 1, by omega⟩
  rw [hs, putL]

/-- The low bits are all that is put. -/
theorem putL_wrap (s : Nat) (hs : s ≤ 5) (n : Int) : putL s (n % 18446744073709551616) = putL s n := by
  match s, hs with
  | 0, _ => rfl
  | 1, _ => simp only [putL]; congr 1; omega
  | 2, _ => simp only [putL]; congr 1; omega; congr 1; omega
  | 3, _ => simp only [putL]; congr 1; omega; congr 1; omega; congr 1; omega
  | 4, _ => simp only [putL]; congr 1; omega; congr 1; omega; congr 1; omega; congr 1; omega
  | 5, _ => simp only [putL]; congr 1; omega; congr 1; omega; congr 1; omega; congr 1; omega; congr 1; omega

/-- What is put is read on, whatever follows. -/
theorem goL_putL (s : Bool) : ∀ (j k : Nat) (u m p : Int) (r : List Int), k + j ≤ 4 → (k + j = 4 → okFifth s (m / 128 ^ j % 128) = true) →
    goL s k u (putL (j + 1) m ++ r) p = (ext s (u + m % 128 ^ (j + 1) * 128 ^ k) (k + j + 1), p + (j + 1 : Nat), 0, 0)
  | 0, k, u, m, p, r, hk, hf => by
    have h1 : m % 128 % 128 = m % 128 := by omega
    have h2 : m % 128 < 128 := by omega
    have h3 : ¬ (k = 4 ∧ okFifth s (m % 128) = false) := by
      rintro ⟨h, h'⟩
      have := hf (by omega)
      simp at this
      rw [this] at h'; cases h'
    simp [putL, goL, h1, h2, h3]
  | j + 1, k, u, m, p, r, hk, hf => by
    have h2 : ¬ (m % 128 + 128 < 128) := by omega
    have h3 : ¬ (k = 4 ∧ okFifth s (m % 128 + 128) = false) := by omega
    have h1 : (m % 128 + 128) % 128 = m % 128 := by omega
    have hdiv : m / 128 / 128 ^ j = m / 128 ^ (j + 1) := by
      rw [Int.ediv_ediv_of_nonneg (by omega), Int.pow_succ, Int.mul_comm]
    have ih := goL_putL s j (k + 1) (u + m % 128 * 128 ^ k) (m / 128) (p + 1) r (by omega) (fun h => by rw [hdiv]; exact hf (by omega))
    have hmod : m % 128 ^ (j + 1 + 1) = m % 128 + 128 * (m / 128 % 128 ^ (j + 1)) := by
      match j, hk with
      | 0, _ => simp; omega
      | 1, _ => simp; omega
      | 2, _ => simp; omega
      | 3, _ => simp; omega
      | j + 4, hk => omega
    have hv : u + m % 128 * 128 ^ k + m / 128 % 128 ^ (j + 1) * 128 ^ (k + 1) = u + m % 128 ^ (j + 1 + 1) * 128 ^ k := by
      rw [hmod, Int.pow_succ]; grind
    simp only [putL, List.cons_append, goL, h1, h2, h3, if_false]
    rw [ih, hv]
    have e1 : k + 1 + j + 1 = k + (j + 1) + 1 := by omega
    have e2 : p + 1 + ((j + 1 : Nat) : Int) = p + ((j + 1 + 1 : Nat) : Int) := by omega
    rw [e1, e2]

theorem getL_encU {n : Int} (h0 : 0 ≤ n) (hm : n < 4294967296) (l r : List Int) : getL false (l ++ encU n ++ r) (l.length : Int) = (n, (l.length : Int) + (sizeU n : Int), 0, 0) := by
  have hs := sizeU_pos n
  obtain ⟨j, hj⟩ : ∃ j, sizeU n = j + 1 := ⟨sizeU n - 1, by omega⟩
  have hlen : ¬ ((l.length : Int) < 0 ∨ ((l ++ encU n ++ r).length : Int) < l.length) := by simp; omega
  have hd : (l ++ encU n ++ r).drop (l.length : Int).toNat = putL (j + 1) n ++ r := by
    rw [Int.toNat_natCast, List.append_assoc, List.drop_left, encU, hj]
  have hlt : n < 128 ^ (j + 1) ∨ j = 4 := by
    have h4 : j = 0 ∨ j = 1 ∨ j = 2 ∨ j = 3 ∨ j = 4 := by omega
    unfold sizeU at hj
    (repeat' split at hj) <;> rcases h4 with rfl | rfl | rfl | rfl | rfl <;> simp <;> omega
  have hmod : n % 128 ^ (j + 1) = n := by
    rcases hlt with h | h
    · exact Int.emod_eq_of_lt h0 h
    · subst h; simp; omega
  have := goL_putL false j 0 0 n l.length r (by omega) (fun h => by
    obtain rfl : j = 4 := by omega
    simp [okFifth]; omega)
  unfold getL
  rw [if_neg hlen, hd, this, hmod, hj]
  simp [ext]

theorem getL_encS {n : Int} (h0 : -2147483648 ≤ n) (hm : n < 2147483648) (l r : List Int) : getL true (l ++ encS n ++ r) (l.length : Int) = (n, (l.length : Int) + (sizeS n : Int), 0, 0) := by
  have hs := sizeS_pos n
  obtain ⟨j, hj⟩ : ∃ j, sizeS n = j + 1 := ⟨sizeS n - 1, by omega⟩
  have hlen : ¬ ((l.length : Int) < 0 ∨ ((l ++ encS n ++ r).length : Int) < l.length) := by simp; omega
  have hd : (l ++ encS n ++ r).drop (l.length : Int).toNat = putL (j + 1) n ++ r := by
    rw [Int.toNat_natCast, List.append_assoc, List.drop_left, encS, hj]
  have hext : ext true (0 + n % 128 ^ (j + 1) * 128 ^ 0) (0 + j + 1) = n := by
    have h4 : j = 0 ∨ j = 1 ∨ j = 2 ∨ j = 3 ∨ j = 4 := by omega
    unfold sizeS at hj
    (repeat' split at hj) <;> rcases h4 with rfl | rfl | rfl | rfl | rfl <;> simp [ext] <;> split <;> omega
  have := goL_putL true j 0 0 n l.length r (by omega) (fun h => by
    obtain rfl : j = 4 := by omega
    simp [okFifth]; omega)
  unfold getL
  rw [if_neg hlen, hd, this, hext, hj]

/-- What is read was a number of so many parts. -/
theorem goL_ok (s : Bool) : ∀ (l : List Int) (k : Nat) (u p x q e f : Int), (∀ c ∈ l, 0 ≤ c ∧ c < 256) → k ≤ 4 → 0 ≤ u → u < 128 ^ k → goL s k u l p = (x, q, e, f) → e = 0 →
    ∃ (m : Nat) (raw c : Int), k < m ∧ m ≤ 5 ∧ q = p + m - k ∧ 0 ≤ raw ∧ raw < 128 ^ m ∧ x = ext s raw m ∧ (m = 5 → okFifth s c = true ∧ raw / 268435456 = c ∧ c < 128)
  | [], k, u, p, x, q, e, f, hl, hk, h0, hu, h, he => by simp [goL] at h; omega
  | c :: r, k, u, p, x, q, e, f, hl, hk, h0, hu, h, he => by
    have hc := hl c (by simp)
    simp only [goL] at h
    have hpow : (128 : Int) ^ (k + 1) = 128 * 128 ^ k := by rw [Int.pow_succ, Int.mul_comm]
    have hcp : 0 ≤ c % 128 * 128 ^ k := Int.mul_nonneg (by omega) (by omega)
    have hcq : c % 128 * 128 ^ k ≤ 127 * 128 ^ k := Int.mul_le_mul_of_nonneg_right (by omega) (by omega)
    split at h
    · simp at h; omega
    · rename_i hn
      split at h
      · rename_i hc'
        simp only [Prod.mk.injEq] at h
        obtain ⟨rfl, rfl, rfl, rfl⟩ := h
        refine ⟨k + 1, _, c, by omega, by omega, by omega, by omega, by rw [hpow]; omega, rfl, fun h5 => ?_⟩
        obtain rfl : k = 4 := by omega
        refine ⟨by simpa using hn, ?_, hc'⟩
        simp at hu ⊢
        omega
      · by_cases hk4 : k = 4
        · exfalso
          subst hk4
          have : okFifth s c = true := by simpa using hn
          unfold okFifth at this
          rename_i hc'
          cases s <;> simp at this <;> omega
        · obtain ⟨m, raw, c', h1, h2, h3, h4⟩ := goL_ok s r (k + 1) _ (p + 1) x q e f (fun c' h' => hl c' (by simp [h'])) (by omega) (by omega) (by rw [hpow]; omega) h he
          exact ⟨m, raw, c', by omega, h2, by omega, h4⟩

theorem getL_shortU {l : List Int} {a x q e f : Int} (hl : ∀ c ∈ l, 0 ≤ c ∧ c < 256) (h : getL false l a = (x, q, e, f)) (he : e = 0) :
    0 ≤ x ∧ x < 4294967296 ∧ sizeU x ≤ q - a ∧ q - a ≤ 5 := by
  unfold getL at h
  split at h
  · simp at h; omega
  · obtain ⟨m, raw, c, h1, h2, h3, h4, h5, h6, h7⟩ := goL_ok false _ 0 0 _ x q e f (fun c' h' => hl c' (List.mem_of_mem_drop h')) (by omega) (by omega) (by simp) h he
    have h6' : x = raw := by simpa [ext] using h6
    subst h6'
    match m, h1, h2 with
    | 1, _, _ => simp at h5; have : sizeU x = 1 := by simp [sizeU, h5]
                 omega
    | 2, _, _ => simp at h5; have : sizeU x ≤ 2 := by unfold sizeU; (repeat' split) <;> omega
                 omega
    | 3, _, _ => simp at h5; have : sizeU x ≤ 3 := by unfold sizeU; (repeat' split) <;> omega
                 omega
    | 4, _, _ => simp at h5; have : sizeU x ≤ 4 := by unfold sizeU; (repeat' split) <;> omega
                 omega
    | 5, _, _ =>
      have := h7 rfl
      have hs := sizeU_pos x
      simp [okFifth] at this
      omega

theorem getL_shortS {l : List Int} {a x q e f : Int} (hl : ∀ c ∈ l, 0 ≤ c ∧ c < 256) (h : getL true l a = (x, q, e, f)) (he : e = 0) :
    -2147483648 ≤ x ∧ x < 2147483648 ∧ sizeS x ≤ q - a ∧ q - a ≤ 5 := by
  unfold getL at h
  split at h
  · simp at h; omega
  · obtain ⟨m, raw, c, h1, h2, h3, h4, h5, h6, h7⟩ := goL_ok true _ 0 0 _ x q e f (fun c' h' => hl c' (List.mem_of_mem_drop h')) (by omega) (by omega) (by simp) h he
    simp only [ext, true_and] at h6
    match m, h1, h2 with
    | 1, _, _ => simp at h5 h6; split at h6 <;> (have : sizeS x ≤ 1 := by unfold sizeS; (repeat' split) <;> omega) <;> omega
    | 2, _, _ => simp at h5 h6; split at h6 <;> (have : sizeS x ≤ 2 := by unfold sizeS; (repeat' split) <;> omega) <;> omega
    | 3, _, _ => simp at h5 h6; split at h6 <;> (have : sizeS x ≤ 3 := by unfold sizeS; (repeat' split) <;> omega) <;> omega
    | 4, _, _ => simp at h5 h6; split at h6 <;> (have : sizeS x ≤ 4 := by unfold sizeS; (repeat' split) <;> omega) <;> omega
    | 5, _, _ =>
      have := h7 rfl
      have hs := sizeS_pos x
      simp [okFifth] at this
      simp at h5 h6
      split at h6 <;> omega

theorem goL_more {s : Bool} {k : Nat} {u c p : Int} {r : List Int} (hk : k ≠ 4) (hc : 128 ≤ c) : goL s k u (c :: r) p = goL s (k + 1) (u + c % 128 * 128 ^ k) r (p + 1) := by
  simp only [goL]; rw [if_neg (fun h => hk h.1), if_neg (by omega)]
theorem goL_last {s : Bool} {k : Nat} {u c p : Int} {r : List Int} (hk : k ≠ 4) (hc : c < 128) : goL s k u (c :: r) p = (ext s (u + c % 128 * 128 ^ k) (k + 1), p + 1, 0, 0) := by
  simp only [goL]; rw [if_neg (fun h => hk h.1), if_pos hc]
theorem goL_bad {s : Bool} {u c p : Int} {r : List Int} (hf : okFifth s c = false) : goL s 4 u (c :: r) p = (0, 0, 4, p) := by
  simp [goL, hf]
theorem goL_fifth {s : Bool} {u c p : Int} {r : List Int} (hf : okFifth s c = true) : goL s 4 u (c :: r) p = (ext s (u + c % 128 * 268435456) 5, p + 1, 0, 0) := by
  have hc : c < 128 := by unfold okFifth at hf; cases s <;> simp at hf <;> omega
  simp [goL, hf, hc]
theorem ext_false (u : Int) (m : Nat) : ext false u m = u := by simp [ext]
theorem ext_fifth {u c : Int} (h0 : 0 ≤ u) (h1 : u < 268435456) (hf : okFifth true c = true) (hc : 0 ≤ c) :
    ext true (u + c % 128 * 268435456) 5 = (u + c % 16 * 268435456 + 2147483648) % 4294967296 - 2147483648 := by
  simp [okFifth] at hf
  simp [ext]
  split <;> omega
end Go.Proofs.YtepbjkkakfpjgaaGreatDoor.Leb

/-
  Types of functions and limits as bytes, as plain functions on lists of integers: what is put, what is got, and how the two go together. It imports nothing of any translation.
-/
namespace Go.Proofs.YtepbjkkakfpjgaaGreatDoor.Kind
open Go.Proofs.YtepbjkkakfpjgaaGreatDoor.Leb

def okType (p r : Int) : Bool := decide (0 ≤ p) && decide (p ≤ 255) && decide (0 ≤ r) && decide (r ≤ 1)
def okLim (n x : Int) (c : Bool) (most : Int) : Bool := decide (n ≤ most) && (if c then decide (n ≤ x) && decide (x ≤ most) else decide (x = 0))
def wordsL (n : Int) : List Int := encU n ++ List.replicate n.toNat 127
def typeL (p r : Int) : List Int := 96 :: (wordsL p ++ wordsL r)
def limL (n x : Int) (c : Bool) : List Int := if c then 1 :: (encU n ++ encU x) else 0 :: encU n

/-- A reader: its place, its error, the place of that. -/
abbrev Rd := Int × Int × Int
def startR (zs : List Int) (p : Int) : Rd := if p < 0 ∨ (zs.length : Int) < p then (p, 5, 0) else (p, 0, 0)
def refuseR (s : Rd) (e f : Int) : Rd := if s.2.1 = 0 then (s.1, e, f) else s
/-- A byte that must be one of those that are allowed. -/
def oneR (zs : List Int) (ok : Int → Bool) (s : Rd) : Int × Rd :=
  if s.2.1 = 0 then
    if s.1 = zs.length then (0, s.1, 4, s.1)
    else if ok (zs.getD s.1.toNat 0) then (zs.getD s.1.toNat 0, s.1 + 1, 0, 0) else (0, s.1, 140, s.1)
  else (0, s)
def numR (zs : List Int) (s : Rd) : Int × Rd :=
  if s.2.1 = 0 then
    if (getL false zs s.1).2.2.1 = 0 then ((getL false zs s.1).1, (getL false zs s.1).2.1, 0, 0) else (0, s.1, (getL false zs s.1).2.2.1, (getL false zs s.1).2.2.2)
  else (0, s)
def is127 (c : Int) : Bool := decide (c = 127)
def is96 (c : Int) : Bool := decide (c = 96)
def is01 (c : Int) : Bool := decide (c = 0) || decide (c = 1)
/-- So many bytes 127. -/
def runR (zs : List Int) : Nat → Rd → Rd
  | 0, s => s
  | k + 1, s => runR zs k (oneR zs is127 s).2
def wordsR (zs : List Int) (most : Int) (s : Rd) : Int × Rd :=
  if most < (numR zs s).1 then (0, refuseR (numR zs s).2 141 s.1)
  else ((numR zs s).1, runR zs (numR zs s).1.toNat (numR zs s).2)
/-- What Get tells: words taken, told, the place behind, the error, its place. -/
def getT (zs : List Int) (p : Int) : Int × Int × Int × Int × Int :=
  let s1 := (oneR zs is96 (startR zs p)).2
  let a := wordsR zs 255 s1
  let b := wordsR zs 1 a.2
  if b.2.2.1 = 0 then (a.1, b.1, b.2.1, 0, b.2.2.2) else (0, 0, 0, b.2.2.1, b.2.2.2)
/-- What GetLimits tells: least, most, capped, the place behind, the error, its place. -/
def getLim (zs : List Int) (p most : Int) : Int × Int × Bool × Int × Int × Int :=
  let c := oneR zs is01 (startR zs p)
  let n := numR zs c.2
  let x := if c.1 = 1 then numR zs n.2 else (0, n.2)
  let s4 := if most < n.1 then refuseR x.2 141 c.2.1 else x.2
  let s5 := if c.1 = 1 ∧ (most < x.1 ∨ x.1 < n.1) then refuseR s4 141 n.2.1 else s4
  if s5.2.1 = 0 then (n.1, x.1, decide (c.1 = 1), s5.1, 0, s5.2.2) else (0, 0, false, 0, s5.2.1, s5.2.2)

/-- A reader that stands where one may. -/
def Good (zs : List Int) (s : Rd) : Prop := s.2.1 = 0 → 0 ≤ s.1 ∧ s.1 ≤ zs.length ∧ s.2.2 = 0
theorem startR_good (zs : List Int) (p : Int) : Good zs (startR zs p) := by
  unfold startR Good; split <;> simp; omega
theorem oneR_good {zs : List Int} {ok : Int → Bool} {s : Rd} (h : Good zs s) : Good zs (oneR zs ok s).2 := by
  unfold oneR
  by_cases h0 : s.2.1 = 0
  · obtain ⟨h1, h2, h3⟩ := h h0
    rw [if_pos h0]
    split
    · intro h; simp at h
    · split
      · intro _; simp; omega
      · intro h; simp at h
  · rw [if_neg h0]; exact h
theorem goL_next (s : Bool) : ∀ (l : List Int) (k : Nat) (u p x q e f : Int), goL s k u l p = (x, q, e, f) → e = 0 → p < q ∧ q ≤ p + l.length ∧ f = 0
  | [], k, u, p, x, q, e, f, h, he => by simp [goL] at h; omega
  | c :: r, k, u, p, x, q, e, f, h, he => by
    simp only [goL] at h
    split at h
    · simp at h; omega
    · split at h
      · simp only [Prod.mk.injEq] at h
        simp; omega
      · have := goL_next s r _ _ _ _ _ _ _ h he
        simp; omega
theorem getL_next {s : Bool} {l : List Int} {a x q e f : Int} (h : getL s l a = (x, q, e, f)) (he : e = 0) : 0 ≤ a ∧ a < q ∧ q ≤ l.length ∧ f = 0 := by
  unfold getL at h
  split at h
  · simp at h; omega
  · have := goL_next s _ _ _ _ _ _ _ _ h he
    simp at this
    omega
theorem numR_good {zs : List Int} {s : Rd} (h : Good zs s) : Good zs (numR zs s).2 := by
  unfold numR
  by_cases h0 : s.2.1 = 0
  · rw [if_pos h0]
    split
    · rename_i he
      have := getL_next (x := (getL false zs s.1).1) (q := (getL false zs s.1).2.1) (e := (getL false zs s.1).2.2.1) (f := (getL false zs s.1).2.2.2) rfl he
      exact fun _ => ⟨show 0 ≤ (getL false zs s.1).2.1 by omega, show (getL false zs s.1).2.1 ≤ _ by omega, rfl⟩
    · rename_i he
      intro h; exact absurd h he
  · rw [if_neg h0]; exact h
theorem refuseR_good {zs : List Int} {s : Rd} {e f : Int} (he : e ≠ 0) (h : Good zs s) : Good zs (refuseR s e f) := by
  unfold refuseR
  split
  · intro h; exact absurd h he
  · exact h
theorem runR_good {zs : List Int} : ∀ (k : Nat) {s : Rd}, Good zs s → Good zs (runR zs k s)
  | 0, _, h => h
  | k + 1, _, h => runR_good k (oneR_good h)
theorem runR_bad {zs : List Int} : ∀ (k : Nat) {s : Rd}, s.2.1 ≠ 0 → runR zs k s = s
  | 0, _, _ => rfl
  | k + 1, s, h => by
    have : (oneR zs is127 s).2 = s := by unfold oneR; rw [if_neg h]
    rw [runR, this]; exact runR_bad k h
theorem runR_succ {zs : List Int} : ∀ (k : Nat) (s : Rd), runR zs (k + 1) s = (oneR zs is127 (runR zs k s)).2
  | 0, _ => rfl
  | k + 1, s => by
    rw [runR, runR_succ k, ← runR]
theorem numR_bounds {zs : List Int} {s : Rd} (hz : ∀ c ∈ zs, 0 ≤ c ∧ c < 256) : 0 ≤ (numR zs s).1 ∧ (numR zs s).1 < 4294967296 := by
  unfold numR
  split
  · split
    · rename_i he
      have := getL_shortU hz (x := (getL false zs s.1).1) (q := (getL false zs s.1).2.1) (e := (getL false zs s.1).2.2.1) (f := (getL false zs s.1).2.2.2) rfl he
      exact ⟨this.1, this.2.1⟩
    · simp
  · simp
end Go.Proofs.YtepbjkkakfpjgaaGreatDoor.Kind

/-
  Kind: nearestType, nearestLimits, Check, CheckLimits, by contracts.
-/
namespace Go.Proofs.YtepbjkkakfpjgaaGreatDoor.Kind
open Go.RowKit

theorem nearestType_any (p r : Int) (w : World) : Calls Tryz.prog 181 #[.agg #[.int .i64 p, .int .i64 r]] w
    fun e w' => e = .returned (.agg #[.int .i64 (min (max p 0) 255), .int .i64 (min (max r 0) 1)]) ∧ Below w.heap.size w w' := by
  go_enter Tryz.func181, Tryz.ntmps181
  go_wp2
  all_goals
    refine bodyPost_ret (v := .agg #[.int .i64 (min (max p 0) 255), .int .i64 (min (max r 0) 1)]) ?_ rfl ⟨rfl, ((Below.refl _ _).alloc (Nat.le_refl _) _).alloc (by simp) _⟩
    first
      | (simp [results, Tryz.results181, go_sem]; done)
      | (simp [results, Tryz.results181, go_sem]; omega)
theorem near_ok {p r : Int} (h : okType p r = true) : min (max p 0) 255 = p ∧ min (max r 0) 1 = r := by
  unfold okType at h; simp at h; omega
theorem near_no {p r : Int} (h : okType p r = false) : ¬ (p = min (max p 0) 255 ∧ r = min (max r 0) 1) := by
  rintro ⟨h1, h2⟩
  have : okType p r = true := by unfold okType; simp; omega
  rw [h] at this; cases this
theorem box_start (w : World) (x y : Value) (t : TypeId) : Below w.heap.size w (w.alloc (.cells #[x, y] t)).drew ∧ (w.alloc (.cells #[x, y] t)).drew.cell? ⟨w.heap.size, 0, none⟩ = some x ∧ (w.alloc (.cells #[x, y] t)).drew.cell? ⟨w.heap.size, 1, none⟩ = some y :=
  ⟨((Below.refl _ _).alloc (Nat.le_refl _) _).drew, by go_simp, by go_simp⟩
theorem box_keep {w w1 w2 : World} {x y : Value} {k : Nat} (h : Below w.heap.size w w1 ∧ w1.cell? ⟨k, 0, none⟩ = some x ∧ w1.cell? ⟨k, 1, none⟩ = some y) (hb : Below w1.heap.size w1 w2) :
    Below w.heap.size w w2 ∧ w2.cell? ⟨k, 0, none⟩ = some x ∧ w2.cell? ⟨k, 1, none⟩ = some y := ⟨thenB h.1 hb, keep hb h.2.1, keep hb h.2.2⟩
theorem box_out {w w1 : World} {x y : Value} {k : Nat} (h : Below w.heap.size w w1 ∧ w1.cell? ⟨k, 0, none⟩ = some x ∧ w1.cell? ⟨k, 1, none⟩ = some y) : Below w.heap.size w w1 := h.1
def codeType (p r : Int) : Int := if okType p r then 0 else 2
set_option maxHeartbeats 800000 in
theorem check_any (p r : Int) (w : World) : Calls Tryz.prog 124 #[.agg #[.int .i64 p, .int .i64 r]] w
    fun e w' => e = .returned (.int .i64 (codeType p r)) ∧ Below w.heap.size w w' := by
  have q1 := eqType
  have q2 := guardType
  have hN := fun w => nearestType_any p r w
  by_cases h : okType p r = true
  · obtain ⟨e1, e2⟩ := near_ok h
    have HC : Hid (codeType p r = 0) := by unfold codeType; rw [if_pos h]; rfl
    simp only [e1, e2] at hN
    clear h e1 e2
    go_enter Tryz.func124, Tryz.ntmps124
    go_wp2
    go_region_held3 (fun w' => Below w.heap.size w w' ∧ w'.cell? ⟨w.heap.size, 0, none⟩ = some (.int .i64 p) ∧ w'.cell? ⟨w.heap.size, 1, none⟩ = some (.int .i64 r)) (first | assumption | exact box_start w _ _ _ | exact box_keep (by assumption) (by assumption))
      (first
        | (go_at_call 181; refine (hN _).mono ?_; rintro e w2 ⟨rfl, hb2⟩))
    go_wp2
    go_ret
    exact ⟨ret_int HC.out.symm, box_out (x := .int .i64 p) (y := .int .i64 r) (k := w.heap.size) (by assumption)⟩
  · have h' : okType p r = false := by simpa using h
    have hn := near_no h'
    have HC : Hid (codeType p r = 2) := by unfold codeType; rw [h']; rfl
    generalize min (max p 0) 255 = m1 at *
    generalize min (max r 0) 1 = m2 at *
    have hor : (p == m1) = false ∧ (p != m1) = true ∨ (r == m2) = false ∧ (r != m2) = true := by
      by_cases h1 : p = m1
      · right
        have : r ≠ m2 := fun h2 => hn ⟨h1, h2⟩
        simp [this]
      · left; simp [h1]
    clear h h' hn
    rcases hor with ⟨n1, n2⟩ | ⟨n1, n2⟩
    all_goals
      go_enter Tryz.func124, Tryz.ntmps124
      go_wp2
      go_region_held3 (fun w' => Below w.heap.size w w' ∧ w'.cell? ⟨w.heap.size, 0, none⟩ = some (.int .i64 p) ∧ w'.cell? ⟨w.heap.size, 1, none⟩ = some (.int .i64 r)) (first | assumption | exact box_start w _ _ _ | exact box_keep (by assumption) (by assumption))
        (first
          | (go_at_call 181; refine (hN _).mono ?_; rintro e w2 ⟨rfl, hb2⟩))
      go_wp2
      go_ret
      exact ⟨ret_int HC.out.symm, box_out (x := .int .i64 p) (y := .int .i64 r) (k := w.heap.size) (by assumption)⟩

theorem nearestLimits_any (n x most : Int) (c : Bool) (w : World) : Calls Tryz.prog 183 #[.agg #[.int .u32 n, .int .u32 x, .bool c], .int .u32 most] w
    fun e w' => e = .returned (.agg #[.int .u32 (min n most), .int .u32 (if c then min (max x (min n most)) most else 0), .bool c]) ∧ Below w.heap.size w w' := by
  cases c
  · go_enter Tryz.func183, Tryz.ntmps183
    go_wp2
    all_goals
      refine bodyPost_ret (v := .agg #[.int .u32 (min n most), .int .u32 0, .bool false]) ?_ rfl ⟨rfl, ?_⟩
      · simp [results, Tryz.results183, go_sem]
        try omega
      · first | exact ((Below.refl _ _).alloc (Nat.le_refl _) _).alloc (by simp) _ | trace_state
  · go_enter Tryz.func183, Tryz.ntmps183
    go_wp2
    all_goals
      refine bodyPost_ret (v := .agg #[.int .u32 (min n most), .int .u32 (min (max x (min n most)) most), .bool true]) ?_ rfl ⟨rfl, ?_⟩
      · simp [results, Tryz.results183, go_sem]
        try omega
      · first | exact ((Below.refl _ _).alloc (Nat.le_refl _) _).alloc (by simp) _ | trace_state
theorem nearL_ok {n x most : Int} {c : Bool} (h : okLim n x c most = true) : min n most = n ∧ (if c then min (max x (min n most)) most else 0) = x := by
  unfold okLim at h; cases c <;> simp at h ⊢ <;> omega
theorem nearL_no {n x most : Int} {c : Bool} (h : okLim n x c most = false) : ¬ (n = min n most ∧ x = (if c then min (max x (min n most)) most else 0)) := by
  rintro ⟨h1, h2⟩
  have : okLim n x c most = true := by unfold okLim; cases c <;> simp at h2 ⊢ <;> omega
  rw [h] at this; cases this
def codeLim (n x : Int) (c : Bool) (most : Int) : Int := if okLim n x c most then 0 else 2
theorem box3_start (w : World) (x y z : Value) (t : TypeId) : Below w.heap.size w (w.alloc (.cells #[x, y, z] t)).drew ∧ (w.alloc (.cells #[x, y, z] t)).drew.cell? ⟨w.heap.size, 0, none⟩ = some x ∧ (w.alloc (.cells #[x, y, z] t)).drew.cell? ⟨w.heap.size, 1, none⟩ = some y ∧ (w.alloc (.cells #[x, y, z] t)).drew.cell? ⟨w.heap.size, 2, none⟩ = some z :=
  ⟨((Below.refl _ _).alloc (Nat.le_refl _) _).drew, by go_simp, by go_simp, by go_simp⟩
theorem box3_keep {w w1 w2 : World} {x y z : Value} {k : Nat} (h : Below w.heap.size w w1 ∧ w1.cell? ⟨k, 0, none⟩ = some x ∧ w1.cell? ⟨k, 1, none⟩ = some y ∧ w1.cell? ⟨k, 2, none⟩ = some z) (hb : Below w1.heap.size w1 w2) :
    Below w.heap.size w w2 ∧ w2.cell? ⟨k, 0, none⟩ = some x ∧ w2.cell? ⟨k, 1, none⟩ = some y ∧ w2.cell? ⟨k, 2, none⟩ = some z := ⟨thenB h.1 hb, keep hb h.2.1, keep hb h.2.2.1, keep hb h.2.2.2⟩
theorem box3_out {w w1 : World} {x y z : Value} {k : Nat} (h : Below w.heap.size w w1 ∧ w1.cell? ⟨k, 0, none⟩ = some x ∧ w1.cell? ⟨k, 1, none⟩ = some y ∧ w1.cell? ⟨k, 2, none⟩ = some z) : Below w.heap.size w w1 := h.1
set_option maxHeartbeats 800000 in
theorem checkLimits_any (n x : Int) (c : Bool) (most : Int) (w : World) : Calls Tryz.prog 130 #[.agg #[.int .u32 n, .int .u32 x, .bool c], .int .u32 most] w
    fun e w' => e = .returned (.int .i64 (codeLim n x c most)) ∧ Below w.heap.size w w' := by
  have q1 := eqLim
  have q2 := guardLim
  have hN := fun w => nearestLimits_any n x most c w
  by_cases h : okLim n x c most = true
  · obtain ⟨e1, e2⟩ := nearL_ok h
    have HC : Hid (codeLim n x c most = 0) := by unfold codeLim; rw [if_pos h]; rfl
    rw [e2] at hN
    simp only [e1] at hN
    clear h e1 e2
    go_enter Tryz.func130, Tryz.ntmps130
    go_wp2
    go_region_held3 (fun w' => Below w.heap.size w w' ∧ w'.cell? ⟨w.heap.size, 0, none⟩ = some (.int .u32 n) ∧ w'.cell? ⟨w.heap.size, 1, none⟩ = some (.int .u32 x) ∧ w'.cell? ⟨w.heap.size, 2, none⟩ = some (.bool c)) (first | assumption | exact box3_start w _ _ _ _ | exact box3_keep (by assumption) (by assumption))
      (first
        | (go_at_call 183; refine (hN _).mono ?_; rintro e w2 ⟨rfl, hb2⟩))
    go_wp2
    go_ret
    exact ⟨ret_int HC.out.symm, box3_out (x := .int .u32 n) (y := .int .u32 x) (z := .bool c) (k := w.heap.size) (by assumption)⟩
  · have h' : okLim n x c most = false := by simpa using h
    have hn := nearL_no h'
    have HC : Hid (codeLim n x c most = 2) := by unfold codeLim; rw [h']; rfl
    generalize (if c then min (max x (min n most)) most else 0) = m2 at *
    generalize min n most = m1 at *
    have hor : (n == m1) = false ∧ (n != m1) = true ∨ (x == m2) = false ∧ (x != m2) = true := by
      by_cases h1 : n = m1
      · right
        have : x ≠ m2 := fun h2 => hn ⟨h1, h2⟩
        simp [this]
      · left; simp [h1]
    clear h h' hn
    rcases hor with ⟨n1, n2⟩ | ⟨n1, n2⟩
    all_goals
      go_enter Tryz.func130, Tryz.ntmps130
      go_wp2
      go_region_held3 (fun w' => Below w.heap.size w w' ∧ w'.cell? ⟨w.heap.size, 0, none⟩ = some (.int .u32 n) ∧ w'.cell? ⟨w.heap.size, 1, none⟩ = some (.int .u32 x) ∧ w'.cell? ⟨w.heap.size, 2, none⟩ = some (.bool c)) (first | assumption | exact box3_start w _ _ _ _ | exact box3_keep (by assumption) (by assumption))
        (first
          | (go_at_call 183; refine (hN _).mono ?_; rintro e w2 ⟨rfl, hb2⟩))
      go_wp2
      go_ret
      exact ⟨ret_int HC.out.symm, box3_out (x := .int .u32 n) (y := .int .u32 x) (z := .bool c) (k := w.heap.size) (by assumption)⟩
end Go.Proofs.YtepbjkkakfpjgaaGreatDoor.Kind

/-
  A call that turns nothing of what was there but one block: 'Save k'. (A method that writes through its receiver, which lies in block k.)
-/
namespace Go.Proofs.YtepbjkkakfpjgaaGreatDoor
open Go.RowKit

structure Save (k : Nat) (w w' : World) : Prop where
  os : w'.os = w.os
  tape : w'.tape = w.tape
  output : w'.output = w.output
  size : w.heap.size ≤ w'.heap.size
  block : ∀ j, j < w.heap.size → j ≠ k → w'.heap[j]? = w.heap[j]?

theorem Save.refl (k : Nat) (w : World) : Save k w w := ⟨rfl, rfl, rfl, Nat.le_refl _, fun _ _ _ => rfl⟩
theorem Save.trans {k : Nat} {a b c : World} (h : Save k a b) (g : Save k b c) : Save k a c :=
  ⟨g.os.trans h.os, g.tape.trans h.tape, g.output.trans h.output, Nat.le_trans h.size g.size, fun j hj hk => (g.block j (Nat.lt_of_lt_of_le hj h.size) hk).trans (h.block j hj hk)⟩
theorem Save.of_below {k : Nat} {w w' : World} (h : Below w.heap.size w w') : Save k w w' := ⟨h.os, h.tape, h.output, h.size, fun j hj _ => h.block j hj⟩
theorem Save.below {k B : Nat} {w w' : World} (h : Save k w w') (hB : B ≤ w.heap.size) (hk : B ≤ k) : Below B w w' :=
  ⟨h.os, h.tape, h.output, h.size, fun j hj => h.block j (by omega) (by omega)⟩
theorem Save.drew {k : Nat} {w w' : World} (h : Save k w w') : Save k w w'.drew := h.trans (.of_below (Below.refl _ _).drew)
theorem Save.alloc {k : Nat} {w w' : World} (h : Save k w w') (o : Obj) : Save k w (w'.alloc o) := h.trans (.of_below ((Below.refl _ _).alloc (Nat.le_refl _) o))
theorem Save.setCell {k : Nat} {w w' : World} (h : Save k w w') {p : Addr} (hp : p.block = k ∨ w.heap.size ≤ p.block) (u : Value) : Save k w (w'.setCell p u) :=
  ⟨h.os, h.tape, h.output, by have := h.size; simpa [World.setCell] using this, fun j hj hk => (Below.heap_setCell _ _ _ _ (by omega)).trans (h.block j hj hk)⟩
theorem Save.cell {k : Nat} {w w' : World} (h : Save k w w') {p : Addr} {v : Value} (hk : p.block ≠ k) (hc : w.cell? p = some v) : w'.cell? p = some v :=
  (World.cell?_of_block (w := w) (h.block p.block (World.block_lt_of_cell? w _ hc) hk)).trans hc
theorem Save.frozen {k : Nat} {w w' : World} (h : Save k w w') {p : Addr} {b : Bool} (hp : p.block < w.heap.size) (hk : p.block ≠ k) (hc : w.frozen? p = b) : w'.frozen? p = b :=
  (World.frozen?_of_block (w := w) (h.block p.block hp hk)).trans hc
theorem Bytes.save {k : Nat} {w w' : World} {a : Option Addr} {zs : List Int} (h : Bytes w a zs) (hs : Save k w w') (ha : ∀ b off, a = some ⟨b, off, none⟩ → zs ≠ [] → b ≠ k) : Bytes w' a zs := by
  refine ⟨h.byte, h.size, ?_⟩
  by_cases h9 : zs = []
  · exact .inl h9
  rcases h.at_ with h0 | ⟨b, off, rfl, hc⟩
  · exact .inl h0
  · exact .inr ⟨b, off, rfl, fun i hi => hs.cell (ha b off rfl h9) (hc i hi)⟩
/-- The bytes lie in memory that is there. -/
theorem Bytes.lt {w : World} {a : Option Addr} {zs : List Int} (h : Bytes w a zs) : ∀ b off, a = some ⟨b, off, none⟩ → zs ≠ [] → b < w.heap.size := by
  intro b off ha hne
  rcases h.at_ with h0 | ⟨b', off', h1, hc⟩
  · exact absurd h0 hne
  · rw [h1] at ha
    simp only [Option.some.injEq, Addr.mk.injEq] at ha
    obtain ⟨rfl, _, _⟩ := ha
    exact World.block_lt_of_cell? w _ (hc 0 (List.length_pos_iff.2 hne))
end Go.Proofs.YtepbjkkakfpjgaaGreatDoor

/-
  DERIVED: THE SHELF's CONTRACTS AT THIS DUMP, IN PLAIN WORDS (tools/lay-plain.mjs out of 'TryzShelf.lean', which tools/lay-shelf.mjs wrote): THE SAME DECLARATIONS UNDER THE SAME NAMES: 'import', 'namespace', 'open', 'def', 'theorem' AND NOTHING ELSE: no command of the shelf's: FOR A HAND-IN. Each laying: the table of numbers ('.._ren') and one theorem, a field a fact of the dump's own or the kernel's comparison; each contract: ONE APPLICATION.
-/
namespace Go.Proofs
open Go.Shelf
def Tryz.lays128_ren : Go.Shelf.Ren := ⟨fun | 128 => 215 | n => n, fun | 51 => 28 | 3 => 3 | 4 => 4 | 46 => 220 | 5 => 5 | 9 => 9 | n => n, fun | n => n⟩
theorem Tryz.lays128 : Go.Proofs.Lays.n128 Tryz.prog Tryz.lays128_ren := {
  mixed := by kernel_rfl
  f128 := Tryz.func215.trans (congrArg some (by kernel_rfl))
  t3 := Tryz.underlying3
  a3 := Tryz.isAgg3
  z3 := Tryz.sizeOf3
  v3 := Tryz.zeroValue3
  t4 := Tryz.underlying4
  a4 := Tryz.isAgg4
  z4 := Tryz.sizeOf4
  v4 := Tryz.zeroValue4
  t5 := Tryz.underlying5
  a5 := Tryz.isAgg5
  z5 := Tryz.sizeOf5
  v5 := Tryz.zeroValue5
  t9 := Tryz.underlying9
  a9 := Tryz.isAgg9
  z9 := Tryz.sizeOf9
  v9 := Tryz.zeroValue9
  t46 := Tryz.underlying220
  a46 := Tryz.isAgg220
  z46 := Tryz.sizeOf220
  v46 := Tryz.zeroValue220
  t51 := Tryz.underlying28
  a51 := Tryz.isAgg28
  z51 := Tryz.sizeOf28
  v51 := Tryz.zeroValue28 }
/-- bits.Len32: "Len32 returns the minimum number of bits required to represent x; the result is 0 for x == 0.": IT RETURNS 'Lib.bitLen x'; the world is as it was. ('h0', 'h1': x is a uint32.) (LAID: no walk: one application.) -/
theorem Tryz.bits_Len32 (x : Int) (w : World) (h0 : 0 ≤ x) (h1 : x ≤ 4294967295) :
    Calls Tryz.prog 215 #[.int .u32 x] w fun e w' => e = .returned (.int .i64 (Lib.bitLen x.toNat)) ∧ w' = w := Any.bits_Len32 Tryz.lays128 x w h0 h1
def Tryz.lays264_ren : Go.Shelf.Ren := ⟨fun | 264 => 244 | n => n, fun | 53 => 138 | 46 => 220 | n => n, fun | n => n⟩
theorem Tryz.lays264 : Go.Proofs.Lays.n264 Tryz.prog Tryz.lays264_ren := {
  mixed := by kernel_rfl
  f264 := Tryz.func244.trans (congrArg some (by kernel_rfl))
  t46 := Tryz.underlying220
  a46 := Tryz.isAgg220
  z46 := Tryz.sizeOf220
  v46 := Tryz.zeroValue220
  t53 := Tryz.underlying138
  a53 := Tryz.isAgg138
  z53 := Tryz.sizeOf138
  v53 := Tryz.zeroValue138 }
open Go.RowKit Go.Lib in
theorem Tryz.bits_Mul64 (x y : Nat) (hx : x < 18446744073709551616) (hy : y < 18446744073709551616) (w : World) :
    Calls Tryz.prog 244 #[.int .u64 x, .int .u64 y] w fun e w' => e = .returned (.tuple #[.int .u64 ((x * y / 18446744073709551616 : Nat) : Int), .int .u64 ((x * y % 18446744073709551616 : Nat) : Int)]) ∧ w' = w := Any.bits_Mul64 Tryz.lays264 x y hx hy w
def Tryz.lays212_ren : Go.Shelf.Ren := ⟨fun | 212 => 235 | 263 => 243 | 264 => 244 | n => n, fun | 46 => 220 | 51 => 28 | 146 => 242 | 53 => 138 | 148 => 244 | n => n, fun | n => n⟩
theorem Tryz.lays212 : Go.Proofs.Lays.n212 Tryz.prog Tryz.lays212_ren := {
  mixed := by kernel_rfl
  f212 := Tryz.func235.trans (congrArg some (by kernel_rfl))
  f263 := Tryz.func243.trans (congrArg some (by kernel_rfl))
  f264 := Tryz.func244.trans (congrArg some (by kernel_rfl))
  t46 := Tryz.underlying220
  a46 := Tryz.isAgg220
  z46 := Tryz.sizeOf220
  v46 := Tryz.zeroValue220
  t51 := Tryz.underlying28
  a51 := Tryz.isAgg28
  z51 := Tryz.sizeOf28
  v51 := Tryz.zeroValue28
  t53 := Tryz.underlying138
  a53 := Tryz.isAgg138
  z53 := Tryz.sizeOf138
  v53 := Tryz.zeroValue138
  t146 := Tryz.underlying242
  a146 := Tryz.isAgg242
  z146 := Tryz.sizeOf242
  v146 := Tryz.zeroValue242
  t148 := Tryz.underlying244
  a148 := Tryz.isAgg244
  z148 := Tryz.sizeOf244
  v148 := Tryz.zeroValue244 }
open Go.RowKit Go.Lib in
/-- math/bits.Mul: "Mul returns the full-width product of x and y": on a machine of 64 bits: Mul64's. (LAID: no walk: one application.) -/
theorem Tryz.bits_Mul (x y : Nat) (hx : x < 18446744073709551616) (hy : y < 18446744073709551616) (w : World) :
    Calls Tryz.prog 235 #[.int .u64 x, .int .u64 y] w fun e w' => e = .returned (.tuple #[.int .u64 ((x * y / 18446744073709551616 : Nat) : Int), .int .u64 ((x * y % 18446744073709551616 : Nat) : Int)]) ∧ w' = w := Any.bits_Mul Tryz.lays212 x y hx hy w
def Tryz.lays260_ren : Go.Shelf.Ren := ⟨fun | 260 => 222 | n => n, fun | 9 => 9 | 21 => 21 | 3 => 3 | 4 => 4 | 5 => 5 | 119 => 232 | 0 => 0 | 46 => 220 | 139 => 235 | 138 => 234 | n => n, fun | 3 => 1 | 4 => 2 | n => n⟩
theorem Tryz.lays260 : Go.Proofs.Lays.n260 Tryz.prog Tryz.lays260_ren := {
  mixed := by kernel_rfl
  f260 := Tryz.func222.trans (congrArg some (by kernel_rfl))
  t0 := Tryz.underlying0
  a0 := Tryz.isAgg0
  z0 := Tryz.sizeOf0
  v0 := Tryz.zeroValue0
  t3 := Tryz.underlying3
  a3 := Tryz.isAgg3
  z3 := Tryz.sizeOf3
  v3 := Tryz.zeroValue3
  t4 := Tryz.underlying4
  a4 := Tryz.isAgg4
  z4 := Tryz.sizeOf4
  v4 := Tryz.zeroValue4
  t5 := Tryz.underlying5
  a5 := Tryz.isAgg5
  z5 := Tryz.sizeOf5
  v5 := Tryz.zeroValue5
  t9 := Tryz.underlying9
  a9 := Tryz.isAgg9
  z9 := Tryz.sizeOf9
  v9 := Tryz.zeroValue9
  t21 := Tryz.underlying21
  a21 := Tryz.isAgg21
  z21 := Tryz.sizeOf21
  v21 := Tryz.zeroValue21
  t46 := Tryz.underlying220
  a46 := Tryz.isAgg220
  z46 := Tryz.sizeOf220
  v46 := Tryz.zeroValue220
  t119 := Tryz.underlying232
  a119 := Tryz.isAgg232
  z119 := Tryz.sizeOf232
  t138 := Tryz.underlying234
  a138 := Tryz.isAgg234
  z138 := Tryz.sizeOf234
  v138 := Tryz.zeroValue234
  t139 := Tryz.underlying235
  a139 := Tryz.isAgg235
  z139 := Tryz.sizeOf235
  v139 := Tryz.zeroValue235
  g3 := by kernel_rfl
  g4 := by kernel_rfl }
open Go.RowKit Go.Lib in
theorem Tryz.utf8_decodeRuneInStringSlow (s : ByteArray) (w : World) (hT : Lib.Utf8Tabs 1 2 w) :
    Calls Tryz.prog 222 #[.string s] w fun e w' => e = .returned (.tuple #[.int .i32 (Lib.decodeGo s).1, .int .i64 (Lib.decodeGo s).2]) ∧ Below w.heap.size w w' := Any.utf8_decodeRuneInStringSlow Tryz.lays260 s w hT
def Tryz.lays197_ren : Go.Shelf.Ren := ⟨fun | 197 => 206 | 260 => 222 | n => n, fun | 9 => 9 | 21 => 21 | 3 => 3 | 4 => 4 | 5 => 5 | 105 => 212 | 119 => 232 | 0 => 0 | 46 => 220 | 139 => 235 | 138 => 234 | n => n, fun | 3 => 1 | 4 => 2 | n => n⟩
theorem Tryz.lays197 : Go.Proofs.Lays.n197 Tryz.prog Tryz.lays197_ren := {
  mixed := by kernel_rfl
  f197 := Tryz.func206.trans (congrArg some (by kernel_rfl))
  f260 := Tryz.func222.trans (congrArg some (by kernel_rfl))
  t0 := Tryz.underlying0
  a0 := Tryz.isAgg0
  z0 := Tryz.sizeOf0
  v0 := Tryz.zeroValue0
  t3 := Tryz.underlying3
  a3 := Tryz.isAgg3
  z3 := Tryz.sizeOf3
  v3 := Tryz.zeroValue3
  t4 := Tryz.underlying4
  a4 := Tryz.isAgg4
  z4 := Tryz.sizeOf4
  v4 := Tryz.zeroValue4
  t5 := Tryz.underlying5
  a5 := Tryz.isAgg5
  z5 := Tryz.sizeOf5
  v5 := Tryz.zeroValue5
  t9 := Tryz.underlying9
  a9 := Tryz.isAgg9
  z9 := Tryz.sizeOf9
  v9 := Tryz.zeroValue9
  t21 := Tryz.underlying21
  a21 := Tryz.isAgg21
  z21 := Tryz.sizeOf21
  v21 := Tryz.zeroValue21
  t46 := Tryz.underlying220
  a46 := Tryz.isAgg220
  z46 := Tryz.sizeOf220
  v46 := Tryz.zeroValue220
  t105 := Tryz.underlying212
  a105 := Tryz.isAgg212
  z105 := Tryz.sizeOf212
  v105 := Tryz.zeroValue212
  t119 := Tryz.underlying232
  a119 := Tryz.isAgg232
  z119 := Tryz.sizeOf232
  t138 := Tryz.underlying234
  a138 := Tryz.isAgg234
  z138 := Tryz.sizeOf234
  v138 := Tryz.zeroValue234
  t139 := Tryz.underlying235
  a139 := Tryz.isAgg235
  z139 := Tryz.sizeOf235
  v139 := Tryz.zeroValue235
  g3 := by kernel_rfl
  g4 := by kernel_rfl }
open Go.RowKit Go.Lib in
/-- **unicode/utf8.DecodeRuneInString AT EVERY STRING.** (LAID: no walk: one application.) -/
theorem Tryz.utf8_DecodeRuneInString (s : ByteArray) (w : World) (hT : Lib.Utf8Tabs 1 2 w) :
    Calls Tryz.prog 206 #[.string s] w fun e w' => e = .returned (.tuple #[.int .i32 (Lib.decodeGo s).1, .int .i64 (Lib.decodeGo s).2]) ∧ Below w.heap.size w w' := Any.utf8_DecodeRuneInString Tryz.lays197 s w hT
end Go.Proofs

/-
  LEB: the functions that only reckon with numbers, by contracts: SizeU, SizeS, fifth, extend.
-/
namespace Go.Proofs.YtepbjkkakfpjgaaGreatDoor.Leb
open Go.RowKit

theorem bitLen_small : ∀ n : Fin 128, Lib.bitLen n.val ≤ 7 ∧ (1 ≤ n.val → 1 ≤ Lib.bitLen n.val) ∧ (n.val < 64 → Lib.bitLen n.val ≤ 6) := by decide +kernel
theorem bitLen_7 {x : Nat} (h : x < 128) : Lib.bitLen x ≤ 7 ∧ (1 ≤ x → 1 ≤ Lib.bitLen x) ∧ (x < 64 → Lib.bitLen x ≤ 6) := bitLen_small ⟨x, h⟩
theorem sizeU_len (n : Nat) (h : n < 4294967296) : max 1 ((Lib.bitLen n + 6) / 7) = sizeU n := by
  unfold sizeU
  by_cases h1 : n < 128
  · have := bitLen_7 h1
    rw [if_pos (by omega)]; omega
  · by_cases h2 : n < 16384
    · have := Lib.bitLen_shift 7 n (by omega) (by omega)
      have := bitLen_7 (x := n / 2 ^ 7) (by omega)
      rw [if_neg (by omega), if_pos (by omega)]; omega
    · by_cases h3 : n < 2097152
      · have := Lib.bitLen_shift 14 n (by omega) (by omega)
        have := bitLen_7 (x := n / 2 ^ 14) (by omega)
        rw [if_neg (by omega), if_neg (by omega), if_pos (by omega)]; omega
      · by_cases h4 : n < 268435456
        · have := Lib.bitLen_shift 21 n (by omega) (by omega)
          have := bitLen_7 (x := n / 2 ^ 21) (by omega)
          rw [if_neg (by omega), if_neg (by omega), if_neg (by omega), if_pos (by omega)]; omega
        · have := Lib.bitLen_shift 28 n (by omega) (by omega)
          have := bitLen_7 (x := n / 2 ^ 28) (by omega)
          rw [if_neg (by omega), if_neg (by omega), if_neg (by omega), if_neg (by omega)]; omega

theorem sizeS_len (n : Nat) (h : n < 2147483648) : (Lib.bitLen n + 7) / 7 = sizeS n := by
  unfold sizeS
  by_cases h1 : n < 64
  · have := bitLen_7 (x := n) (by omega)
    rw [if_pos (by omega)]; omega
  · by_cases h2 : n < 8192
    · have := Lib.bitLen_shift 6 n (by omega) (by omega)
      have := bitLen_7 (x := n / 2 ^ 6) (by omega)
      rw [if_neg (by omega), if_pos (by omega)]; omega
    · by_cases h3 : n < 1048576
      · have := Lib.bitLen_shift 13 n (by omega) (by omega)
        have := bitLen_7 (x := n / 2 ^ 13) (by omega)
        rw [if_neg (by omega), if_neg (by omega), if_pos (by omega)]; omega
      · by_cases h4 : n < 134217728
        · have := Lib.bitLen_shift 20 n (by omega) (by omega)
          have := bitLen_7 (x := n / 2 ^ 20) (by omega)
          rw [if_neg (by omega), if_neg (by omega), if_neg (by omega), if_pos (by omega)]; omega
        · have := Lib.bitLen_shift 27 n (by omega) (by omega)
          have := bitLen_7 (x := n / 2 ^ 27) (by omega)
          rw [if_neg (by omega), if_neg (by omega), if_neg (by omega), if_neg (by omega)]; omega
theorem sizeS_neg (n : Int) : sizeS (-n - 1) = sizeS n := by unfold sizeS; (repeat' split) <;> omega
theorem bitLen_le32 (n : Nat) (h : n < 4294967296) : Lib.bitLen n ≤ 35 := by
  by_cases h1 : n < 128
  · have := bitLen_7 h1; omega
  · by_cases h2 : n < 268435456
    · by_cases h3 : n < 16384
      · have := Lib.bitLen_shift 7 n (by omega) (by omega)
        have := bitLen_7 (x := n / 2 ^ 7) (by omega)
        omega
      · by_cases h4 : n < 2097152
        · have := Lib.bitLen_shift 14 n (by omega) (by omega)
          have := bitLen_7 (x := n / 2 ^ 14) (by omega)
          omega
        · have := Lib.bitLen_shift 21 n (by omega) (by omega)
          have := bitLen_7 (x := n / 2 ^ 21) (by omega)
          omega
    · have := Lib.bitLen_shift 28 n (by omega) (by omega)
      have := bitLen_7 (x := n / 2 ^ 28) (by omega)
      omega
theorem and127 {c : Int} (h0 : 0 ≤ c) (h1 : c < 256) : bits .and .u8 c 127 = c % 128 := bits_mask .u8 8 (by decide) wraps_u8 7 (by decide) c h0 h1
theorem and128 {c : Int} (h0 : 0 ≤ c) (h1 : c < 256) : bits .and .u8 c 128 = if c < 128 then 0 else 128 := by
  have hh : ∀ n : Fin 256, bits .and .u8 (n.val : Int) 128 = if (n.val : Int) < 128 then 0 else 128 := by decide +kernel
  obtain ⟨m, rfl⟩ := Int.eq_ofNat_of_zero_le h0
  exact hh ⟨m, by omega⟩
theorem xor_m1 (n : Int) (h0 : -2147483648 ≤ n) (h1 : n < 2147483648) : bits .xor .i32 n (-1) = -n - 1 := by
  show IntKind.i32.wrap ((BitVec.ofInt 32 n ^^^ BitVec.ofInt 32 (-1)).toNat : Int) = _
  have h : BitVec.ofInt 32 (-1) = BitVec.allOnes 32 := by decide
  rw [h, BitVec.xor_allOnes, BitVec.toNat_not, BitVec.toNat_ofInt, IntKind.wrap_i32]
  omega
theorem xor_0 (n : Int) (h0 : -2147483648 ≤ n) (h1 : n < 2147483648) : bits .xor .i32 n 0 = n := by
  show IntKind.i32.wrap ((BitVec.ofInt 32 n ^^^ BitVec.ofInt 32 0).toNat : Int) = _
  have h : BitVec.ofInt 32 0 = 0#32 := by decide
  rw [h, BitVec.xor_zero, BitVec.toNat_ofInt, IntKind.wrap_i32]
  omega

set_option maxHeartbeats 400000 in
theorem sizeU_any (n : Int) (w : World) (h0 : 0 ≤ n) (h1 : n < 4294967296) : Calls Tryz.prog 200 #[.int .u32 n] w fun e w' => e = .returned (.int .i64 (sizeU n)) ∧ w = w' := by
  obtain ⟨m, rfl⟩ := Int.eq_ofNat_of_zero_le h0
  have HL := hid (sizeU_len m (by omega))
  have hb := bitLen_le32 m (by omega)
  go_enter Tryz.func200, Tryz.ntmps200
  go_wp2_with (go_at_call 215; refine (Tryz.bits_Len32 _ _ (by omega) (by omega)).mono ?_; rintro e w' ⟨rfl, rfl⟩)
  go_ret
  exact ⟨ret_int (by have := HL.out; omega), rfl⟩

theorem m25 : (max (0 : Int) 25).toNat = 25 := rfl
theorem m18 : (max (0 : Int) 18).toNat = 18 := rfl
theorem m11 : (max (0 : Int) 11).toNat = 11 := rfl
theorem m4 : (max (0 : Int) 4).toNat = 4 := rfl
theorem m0 : (max (0 : Int) (-3)).toNat = 0 := rfl
end Go.Proofs.YtepbjkkakfpjgaaGreatDoor.Leb

/-
  LEB, signed: SizeS, fifth, extend by contracts.
-/
namespace Go.Proofs.YtepbjkkakfpjgaaGreatDoor.Leb
open Go.RowKit

set_option maxHeartbeats 400000 in
theorem sizeS_any (n : Int) (w : World) (h0 : -2147483648 ≤ n) (h1 : n < 2147483648) : Calls Tryz.prog 245 #[.int .i32 n] w fun e w' => e = .returned (.int .i64 (sizeS n)) ∧ w = w' := by
  by_cases hs : 0 ≤ n
  · obtain ⟨m, rfl⟩ := Int.eq_ofNat_of_zero_le hs
    have HL := hid (sizeS_len m (by omega))
    have hb := bitLen_le32 m (by omega)
    have hd : (m : Int) / 2147483648 = 0 := by omega
    have hx := xor_0 m (by omega) (by omega)
    go_enter Tryz.func245, Tryz.ntmps245
    go_wp2_with (go_at_call 215; refine (Tryz.bits_Len32 _ _ (by omega) (by omega)).mono ?_; rintro e w' ⟨rfl, rfl⟩)
    go_ret
    exact ⟨ret_int (by have := HL.out; omega), rfl⟩
  · obtain ⟨m, hm⟩ := Int.eq_ofNat_of_zero_le (show 0 ≤ -n - 1 by omega)
    obtain rfl : n = -(m : Int) - 1 := by omega
    have HL := hid (sizeS_len m (by omega))
    have HN := hid (sizeS_neg m)
    have hb := bitLen_le32 m (by omega)
    have hd : (-(m : Int) - 1) / 2147483648 = -1 := by omega
    have hx : bits .xor .i32 (-(m : Int) - 1) (-1) = m := by rw [xor_m1 _ (by omega) (by omega)]; omega
    clear hm
    go_enter Tryz.func245, Tryz.ntmps245
    go_wp2_with (go_at_call 215; refine (Tryz.bits_Len32 _ _ (by omega) (by omega)).mono ?_; rintro e w' ⟨rfl, rfl⟩)
    go_ret
    exact ⟨ret_int (by rw [HN.out]; have := HL.out; omega), rfl⟩

end Go.Proofs.YtepbjkkakfpjgaaGreatDoor.Leb

/-
  LEB: put, PutU, PutS by contracts: the bytes that the plain functions tell, in new memory.
-/
namespace Go.Proofs.YtepbjkkakfpjgaaGreatDoor.Leb
open Go.RowKit

theorem and127_64 {c : Int} (h0 : 0 ≤ c) (h1 : c < 2 ^ 64) : bits .and .u64 c 127 = c % 128 := bits_mask .u64 64 (by decide) (fun n h h' => by rw [IntKind.wrap_u64]; omega) 7 (by decide) c h0 h1
theorem or128 {c : Int} (h0 : 0 ≤ c) (h1 : c < 128) : bits .or .u8 c 128 = c + 128 := by
  have hh : ∀ n : Fin 128, bits .or .u8 (n.val : Int) 128 = (n.val : Int) + 128 := by decide +kernel
  obtain ⟨m, rfl⟩ := Int.eq_ofNat_of_zero_le h0
  exact hh ⟨m, by omega⟩
def U64 (u : Int) : Prop := 0 ≤ u ∧ u < 2 ^ 64
theorem U64.div {u : Int} (h : U64 u) : U64 (u / 128) := by unfold U64 at *; omega

theorem put_more {xs : List Int} {k s : Nat} {u u0 : Int} (hk : k + 1 < s) (h : xs ++ putL (s - k) u = putL s u0) :
    (xs ++ [u % 128 + 128]) ++ putL (s - (k + 1)) (u / 128) = putL s u0 := by
  obtain ⟨d, hd⟩ : ∃ d, s - k = d + 2 := ⟨s - k - 2, by omega⟩
  have : s - (k + 1) = d + 1 := by omega
  rw [hd, putL] at h
  rw [this, ← h]; simp
theorem put_last {xs : List Int} {k s : Nat} {u u0 : Int} (hk : k + 1 = s) (h : xs ++ putL (s - k) u = putL s u0) : xs ++ [u % 128] = putL s u0 := by
  have : s - k = 1 := by omega
  rw [this, putL] at h
  exact h

set_option maxRecDepth 100000 in
set_option maxHeartbeats 1600000 in
theorem put_any (u : Int) (s : Nat) (w : World) (hu : U64 u) (hs : 1 ≤ s) (hs9 : s ≤ 9) :
    Calls Tryz.prog 199 #[.int .u64 u, .int .i64 s] w (Gives w (putL s u)) := by
  obtain ⟨i0, hi, hz0, hz1, hz2⟩ := info_parts infoByte
  go_enter Tryz.func199, Tryz.ntmps199
  go_wp2_with (at_make; refine wpList_make_own _ rfl _ _ 35 rfl w.heap.size 5 i0 (.int .u8 0) 1 Tryz.underlying35 hi hz0 hz1 _ _ _ s rfl rfl (by omega) ?b2 ?b3 (Nat.le_refl _) ?_)
  case b2 => rw [hz2]; omega
  case b3 => unfold maxLen; omega
  intro w0 hown0 hgrow0
  go_wp2
  go_loopw [0, 5] (fun su out wr => ∃ (k : Nat) (U : Int) (xs : List Int), k < s ∧ xs.length = k ∧ U64 U ∧ su = .int .u64 U ∧ Own w.heap.size wr out xs ∧ (∃ a c, out = .slice a k c) ∧ xs ++ putL (s - k) U = putL s u ∧ Below w.heap.size w wr)
    (fun _ out _ => match out with | .slice _ n _ => s - n | _ => 0)
  case atStart => exact ⟨0, u, [], by omega, rfl, hu, rfl, hown0, ⟨_, _, rfl⟩, rfl, (Below.refl _ _).grown hgrow0 (Nat.le_refl _) (fun k h => by cases h)⟩
  case round =>
    obtain ⟨k, U, xs, hk, hx, hU, rfl, hown, ⟨a, c, rfl⟩, hp, hb⟩ := hrel
    have hm := and127_64 hU.1 hU.2
    have ho := or128 (c := U % 128) (by omega) (by omega)
    have hu0 := hU.1
    have HP := hid hp
    have HX := hid hx
    clear hp hx
    have hsz := hb.size
    by_cases hl : s ≤ k + 1
    · have HF := hid (put_last (by omega) HP.out)
      clear HP
      go_wp2_with (first | (at_builtin; refine wpList_append_own _ rfl (.tmp 19) (.tmp 21) 35 rfl w.heap.size 5 i0 (.int .u8 0) 1 1 Tryz.underlying35 hi hz0 hz1 hz2 rfl (by decide) _ _ _ rfl (hown.alloc _) ⟨wr.heap.size, 0, none⟩ 1 1 [.int .u8 (U % 128)] rfl rfl ?c1 ?c2 ?c3 ?c4 ?c5 ?_))
      case c1 =>
        intro j v hj
        match j, hj with
        | 0, hj => simp at hj; subst hj; simp [Addr.add]
      case c2 => intro v hv; simp at hv; subst hv; rfl
      case c3 => have := HX.out; unfold maxLen; omega
      case c4 => have := HX.out; omega
      case c5 => simp; omega
      intro v' w1 hown' hgrow _
      go_wp2
      go_ret
      have hown1 := Own.of_snoc HX.out (by rw [HX.out] at hown'; exact hown')
      rw [HF.out] at hown1
      exact ⟨v', rfl, hown1, below_append hown hb _ hsz hgrow⟩
    · have HF := hid (put_more (by omega) HP.out)
      clear HP
      go_wp2_with (first | (at_builtin; refine wpList_append_own _ rfl (.tmp 23) (.tmp 26) 35 rfl w.heap.size 5 i0 (.int .u8 0) 1 1 Tryz.underlying35 hi hz0 hz1 hz2 rfl (by decide) _ _ _ rfl (hown.alloc _) ⟨wr.heap.size, 0, none⟩ 1 1 [.int .u8 (U % 128 + 128)] rfl rfl ?d1 ?d2 ?d3 ?d4 ?d5 ?_))
      case d1 =>
        intro j v hj
        match j, hj with
        | 0, hj => simp at hj; subst hj; simp [Addr.add]
      case d2 => intro v hv; simp at hv; subst hv; rfl
      case d3 => have := HX.out; unfold maxLen; omega
      case d4 => have := HX.out; omega
      case d5 => simp; omega
      intro v' w1 hown' hgrow _
      go_wp2
      go_roundw
      case rel =>
        have hown1 := Own.of_snoc HX.out (by rw [HX.out] at hown'; exact hown')
        have hsl := hown1.slice
        have hlen : (xs ++ [U % 128 + 128]).length = k + 1 := by rw [List.length_append, HX.out]; rfl
        rw [hlen] at hsl
        exact ⟨k + 1, U / 128, xs ++ [U % 128 + 128], by omega, hlen, hU.div, rfl, hown1, hsl, HF.out, below_append hown hb _ hsz hgrow⟩
      case measure =>
        have hown1 := Own.of_snoc HX.out (by rw [HX.out] at hown'; exact hown')
        obtain ⟨a', c', h'⟩ := hown1.slice
        have hlen : (xs ++ [U % 128 + 128]).length = k + 1 := by rw [List.length_append, HX.out]; rfl
        rw [hlen] at h'
        rw [h']
        simp
        omega

theorem Gives.of_eq {w : World} {zs zs' : List Int} (h : zs = zs') {e : Ending} {w' : World} (hg : Gives w zs e w') : Gives w zs' e w' := h ▸ hg

set_option maxHeartbeats 400000 in
theorem putU_any (n : Int) (w : World) (h0 : 0 ≤ n) (h1 : n < 4294967296) : Calls Tryz.prog 175 #[.int .u32 n] w (Gives w (encU n)) := by
  have hs := sizeU_pos n
  have hu : U64 n := ⟨h0, by omega⟩
  go_enter Tryz.func175, Tryz.ntmps175
  go_wp2_with (go_at_call 200; refine (sizeU_any _ _ (by omega) (by omega)).mono ?_; rintro e w' ⟨rfl, rfl⟩)
  refine (put_any n (sizeU n) w hu (by omega) (by omega)).mono ?_
  rintro e w' ⟨v, rfl, ho, hb⟩
  go_wp2
  go_ret
  exact ⟨v, rfl, ho, hb⟩

end Go.Proofs.YtepbjkkakfpjgaaGreatDoor.Leb

/-
  LEB: get, GetU, GetS by contracts: they answer what the plain function 'getL' tells of the bytes.
-/
namespace Go.Proofs.YtepbjkkakfpjgaaGreatDoor.Leb
open Go.RowKit

/-- What a read gives back: number, place behind it, error, its place; all that was there stays. -/
def Got (k : IntKind) (w : World) (r : Int × Int × Int × Int) (e : Ending) (w' : World) : Prop :=
  e = .returned (.tuple #[.int k r.1, .int .i64 r.2.1, .agg #[.int .i64 r.2.2.1, .int .i64 r.2.2.2]]) ∧ Below w.heap.size w w'

theorem or_low {u h : Int} (i : Nat) (h0 : 0 ≤ u) (h1 : u < 2 ^ i) (h2 : 0 ≤ h) (h3 : h < 4294967296) (h4 : h % 2 ^ i = 0) (h5 : u < 4294967296) : bits .or .u32 u h = u + h := by
  rw [u32_or u h h0 h5 h2 h3]
  obtain ⟨a, rfl⟩ := Int.eq_ofNat_of_zero_le h0
  obtain ⟨b, rfl⟩ := Int.eq_ofNat_of_zero_le h2
  have e1 : b % 2 ^ i = 0 := by exact_mod_cast h4
  have e2 : a < 2 ^ i := by exact_mod_cast h1
  rw [Int.toNat_natCast, Int.toNat_natCast, Nat.or_comm, nat_join i b a e1 e2]
  omega

end Go.Proofs.YtepbjkkakfpjgaaGreatDoor.Leb

/-
  Strings and bytes where the statements' kit for bytes is not at hand: bytes made into a string; a string's bytes as numbers; a string's bytes appended.
-/
namespace Go.Proofs.YtepbjkkakfpjgaaGreatDoor
open Go.RowKit

/-- Bytes made into a string. -/
theorem str_of {w : World} {a : Option Addr} {zs : List Int} (hz : Bytes w a zs) (len cap : Nat) (hlen : zs.length = len) :
    (convert 35 9 (.slice a len cap)).run Tryz.prog w = .ok (.string (strOfNums zs)) w := by
  rcases hz.at_ with h | ⟨b, off, rfl, hc⟩
  · subst h
    subst hlen
    rw [run_convert_bytes_string w 35 9 5 _ _ cap Tryz.underlying35 Tryz.underlying5 Tryz.underlying9]
    cases a <;> simp [Conv.bytesToString, loadCells]
    all_goals rfl
  · exact run_convert_bytes_arg w 35 5 Tryz.underlying35 Tryz.underlying5 b off len cap zs hlen (fun i hi => hc i (by omega)) 9 Tryz.underlying9

/-- A string's bytes. -/
def numsOf (s : ByteArray) : List Int := s.data.toList.map fun b => (b.toNat : Int)
theorem numsOf_length (s : ByteArray) : (numsOf s).length = s.size := by rw [numsOf, List.length_map, Array.length_toList]; rfl
theorem numsOf_bytes (s : ByteArray) : ∀ z ∈ numsOf s, 0 ≤ z ∧ z < 256 := by
  intro z hz
  obtain ⟨b, _, rfl⟩ := List.mem_map.1 hz
  have := b.toNat_lt
  omega
theorem str_numsOf (s : ByteArray) : strOfNums (numsOf s) = s := by
  apply ByteArray.ext
  apply Array.toList_inj.1
  rw [strOfNums_data, numsOf, List.map_map]
  refine (List.map_congr_left (g := id) fun b _ => ?_).trans (List.map_id _)
  simp
theorem numsOf_str {zs : List Int} (hz : ∀ z ∈ zs, 0 ≤ z ∧ z < 256) : numsOf (strOfNums zs) = zs := by
  rw [numsOf, strOfNums_data, List.map_map]
  refine (List.map_congr_left (g := id) fun z hm => ?_).trans (List.map_id _)
  have := hz z hm
  simp
  omega
theorem strOfNums_inj {xs ys : List Int} (hx : ∀ z ∈ xs, 0 ≤ z ∧ z < 256) (hy : ∀ z ∈ ys, 0 ≤ z ∧ z < 256) : strOfNums xs = strOfNums ys ↔ xs = ys :=
  ⟨fun h => by rw [← numsOf_str hx, ← numsOf_str hy, h], fun h => by rw [h]⟩

/-- A string made into bytes: a row that holds them, in new memory. -/
theorem bytes_of (zs : List Int) (hz : ∀ z ∈ zs, 0 ≤ z ∧ z < 256) (hl : zs.length ≤ 140737488351232) (w : World) :
    ∃ b c w', (convert 9 35 (.string (strOfNums zs))).run Tryz.prog w = .ok (.slice (some ⟨b, 0, none⟩) zs.length c) w' ∧ Bytes w' (some ⟨b, 0, none⟩) zs ∧ Below w.heap.size w w' := by
  refine ⟨w.heap.size, grownCap w (strOfNums zs).size 0 5, Lib.bytesWorld w 5 (strOfNums zs), ?_, ⟨hz, hl, .inr ⟨w.heap.size, 0, rfl, fun i hi => ?_⟩⟩, ?_⟩
  · rw [Lib.run_convert_string_bytes w 9 35 5 (strOfNums zs) Tryz.underlying9 Tryz.underlying35 Tryz.underlying5, strOfNums_size]
  · rw [Nat.zero_add, Lib.bytesWorld_cell w 5 (strOfNums zs) i (by rw [strOfNums_size]; exact hi)]
    rw [strOfNums_data, getD_lt hi]
    have := hz _ (List.getElem_mem hi)
    simp [hi]
    omega
  · exact ⟨rfl, rfl, rfl, by rw [Lib.bytesWorld_size]; omega, fun k hk => Lib.bytesWorld_at_old w _ _ k hk⟩

section
variable {ops : Array Oper} {rest : List Oper} {o : Oper} {act : Act} {Q : Exit → Act → World → Prop}
theorem strCells_nums {zs : List Int} (hz : ∀ z ∈ zs, 0 ≤ z ∧ z < 256) : Lib.strCells (strOfNums zs) = zs.map (Value.int .u8) := by
  conv => rhs; rw [← numsOf_str hz]
  simp [Lib.strCells, numsOf]
/-- A string's bytes appended to bytes of one's own. -/
theorem append_str (hgd : o.guard = none) (s x : Operand) (ho : o.op = .call { callee := .builtin .append, args := #[s, x], argTypes := #[35, 9] })
    {base : Nat} {w0 wr : World} {v : Value} {xs ys : List Int} (hs : act.eval s = v) (hown : Own base wr v xs) (hb : Below base w0 wr) (hbase : base ≤ wr.heap.size)
    (hx : act.eval x = .string (strOfNums ys)) (hy : ∀ z ∈ ys, 0 ≤ z ∧ z < 256) (hl : xs.length + ys.length ≤ 140737488355328)
    (h : ∀ v' w', Own base w' v' (xs ++ ys) → Below base w0 w' → base ≤ w'.heap.size → wpList Tryz.prog ops Q rest (act.put o.dst v') w') :
    wpList Tryz.prog ops Q (o :: rest) act wr := by
  obtain ⟨i0, hi, hz0, hz1, hz2⟩ := info_parts infoByte
  refine Lib.wpList_append_own_string _ hgd s x 35 9 ho base 5 i0 Tryz.underlying35 Tryz.underlying9 hi hz0 hz1 hz2 v xs.length _ hs hown (strOfNums ys) hx
    (by rw [strOfNums_size]; unfold maxLen; omega) (by rw [strOfNums_size]; exact hl) hbase (fun v' w' hown' hgrow _ => ?_)
  refine h v' w' ?_ (hb.grown hgrow hbase (fun k hk => (World.ownsRow.lt hown k hk).1)) (by have := hgrow.size; omega)
  unfold Own
  rw [strOfNums_size, strCells_nums hy] at hown'
  rw [List.length_append, List.map_append]
  exact hown'
end
end Go.Proofs.YtepbjkkakfpjgaaGreatDoor
