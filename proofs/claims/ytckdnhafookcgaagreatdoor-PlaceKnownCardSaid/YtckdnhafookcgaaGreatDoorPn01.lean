import Derived.Test.YtckdnhafookcgaaGreatDoorProg
import Derived.Test.YtckdnhafookcgaaGreatDoorRows
import Derived.WalkKit
import Derived.WalkSpells
import Derived.WalkLawsBesides
import Derived.Laws.BitsAllLaws
import Derived.Outline
import Derived.Lib.ItoaNum
import Derived.Laws.BytesArg
import Derived.Lib.ConvBytes
import Derived.Lib.AppendStr
import Derived.BigQuiet
import Derived.ProofKit
import Derived.OpenShut
import Derived.ShutString
import Derived.ChangeOld
import Derived.Below
import Derived.SizedLaws
import Derived.Lib.LaidU8
import Derived.Lay
import Derived.Lib.TrimUEq
import Derived.Lib.MapLaws
import Derived.Shelf.Unicode.DecodeSlow
import Derived.Shelf.Unicode.DecodeAny
import Derived.Lib.OthersKept
import Derived.PinnedBridge
import Derived.Laws.AppendOwn
import Derived.Laws.AppendOwnNone
import Derived.Laws.OwnMore
import Derived.Deep.AppendLies
import Derived.Laws.StructEq
import Derived.Lib.BitFns
namespace Go.Proofs.YtckdnhafookcgaaGreatDoor.Leb
end Go.Proofs.YtckdnhafookcgaaGreatDoor.Leb
namespace Go.Proofs.YtckdnhafookcgaaGreatDoor.Instr
end Go.Proofs.YtckdnhafookcgaaGreatDoor.Instr
namespace Go.Proofs.YtckdnhafookcgaaGreatDoor
open Go.RowKit

theorem hid {p : Prop} (h : p) : Hid p := h
theorem ret_int {k : IntKind} {a b : Int} (h : a = b) : Ending.returned (.int k a) = .returned (.int k b) := by rw [h]
theorem ret_bool {a b : Bool} (h : a = b) : Ending.returned (.bool a) = .returned (.bool b) := by rw [h]

/-- The row of the table of types for a byte. -/
theorem infoByte : (Tryz.prog.info? 5).map (fun i => (i.zero, i.size, i.bytes)) = some (some (.int .u8 0), 1, 1) := by kernel_rfl

/-- 'v' is a list of bytes that a call made itself, in memory from block number 'base' on. -/
def Own (base : Nat) (w : World) (v : Value) (zs : List Int) : Prop := w.ownsRow base 5 1 v zs.length (zs.map (Value.int .u8))
theorem Own.slice {base : Nat} {w : World} {v : Value} {zs : List Int} (h : Own base w v zs) : ∃ a c, v = .slice a zs.length c := by
  rcases h.2 with ⟨rfl, h0⟩ | ⟨g, cap, cur, rfl, _⟩
  · exact ⟨none, 0, by rw [h0]⟩
  · exact ⟨_, cap, rfl⟩
theorem getD_lt {zs : List Int} {i : Nat} (h : i < zs.length) : zs.getD i 0 = zs[i] := by simp [h]
/-- What a slice value at address 'a' reads as: these bytes. Of an empty one nothing is known of the address. -/
structure Bytes (w : World) (a : Option Addr) (zs : List Int) : Prop where
  byte : ∀ z ∈ zs, 0 ≤ z ∧ z < 256
  size : zs.length ≤ 140737488351232
  at_ : zs = [] ∨ ∃ b off, a = some ⟨b, off, none⟩ ∧ ∀ i, i < zs.length → w.cell? ⟨b, off + i, none⟩ = some (.int .u8 (zs.getD i 0))
theorem Bytes.below {w w' : World} {a : Option Addr} {zs : List Int} (h : Bytes w a zs) (hb : Below w.heap.size w w') : Bytes w' a zs := by
  refine ⟨h.byte, h.size, ?_⟩
  rcases h.at_ with h0 | ⟨b, off, rfl, hc⟩
  · exact .inl h0
  · exact .inr ⟨b, off, rfl, fun i hi => (hb.cell (World.block_lt_of_cell? w _ (hc i hi))).trans (hc i hi)⟩
end Go.Proofs.YtckdnhafookcgaaGreatDoor

namespace Go.Proofs.YtckdnhafookcgaaGreatDoor.Instr
open Go.RowKit

/-- An instruction's own fields; of each of its three lists where it lies, how long it is and how far it reaches. -/
structure Ix where
  op : Int
  res : Int
  a : Int
  b : Int
  n : Int
  tags : List Int
  ta : Option Addr
  tc : Nat
  la : Option Addr
  ln : Nat
  lc : Nat
  ea : Option Addr
  en : Nat
  ec : Nat
/-- A list of instructions: the first one's fields, its list L, its list E, and the others. -/
inductive Il where
  | nil
  | cons (x : Ix) (l e r : Il)
def Il.len : Il → Nat
  | .nil => 0
  | .cons _ _ _ r => r.len + 1
def Il.count : Il → Nat
  | .nil => 0
  | .cons _ l e r => l.count + e.count + r.count + 1
def Il.deep : Il → Nat
  | .nil => 0
  | .cons _ l e r => max (max l.deep e.deep + 1) r.deep

/-- The names of the operations, as the program's text lays them. -/
def nameTab : List (List Int) := [[117, 110, 114, 101, 97, 99, 104, 97, 98, 108, 101], [110, 111, 112], [98, 108, 111, 99, 107], [108, 111, 111, 112], [105, 102], [], [], [], [], [], [], [], [98, 114], [98, 114, 95, 105, 102], [98, 114, 95, 116, 97, 98, 108, 101], [114, 101, 116, 117, 114, 110], [99, 97, 108, 108], [99, 97, 108, 108, 95, 105, 110, 100, 105, 114, 101, 99, 116], [], [], [], [], [], [], [], [], [100, 114, 111, 112], [115, 101, 108, 101, 99, 116], [], [], [], [], [108, 111, 99, 97, 108, 46, 103, 101, 116], [108, 111, 99, 97, 108, 46, 115, 101, 116], [108, 111, 99, 97, 108, 46, 116, 101, 101], [103, 108, 111, 98, 97, 108, 46, 103, 101, 116], [103, 108, 111, 98, 97, 108, 46, 115, 101, 116], [], [], [], [105, 51, 50, 46, 108, 111, 97, 100], [], [], [], [105, 51, 50, 46, 108, 111, 97, 100, 56, 95, 115], [105, 51, 50, 46, 108, 111, 97, 100, 56, 95, 117], [105, 51, 50, 46, 108, 111, 97, 100, 49, 54, 95, 115], [105, 51, 50, 46, 108, 111, 97, 100, 49, 54, 95, 117], [], [], [], [], [], [], [105, 51, 50, 46, 115, 116, 111, 114, 101], [], [], [], [105, 51, 50, 46, 115, 116, 111, 114, 101, 56], [105, 51, 50, 46, 115, 116, 111, 114, 101, 49, 54], [], [], [], [109, 101, 109, 111, 114, 121, 46, 115, 105, 122, 101], [109, 101, 109, 111, 114, 121, 46, 103, 114, 111, 119], [105, 51, 50, 46, 99, 111, 110, 115, 116], [], [], [], [105, 51, 50, 46, 101, 113, 122], [105, 51, 50, 46, 101, 113], [105, 51, 50, 46, 110, 101], [105, 51, 50, 46, 108, 116, 95, 115], [105, 51, 50, 46, 108, 116, 95, 117], [105, 51, 50, 46, 103, 116, 95, 115], [105, 51, 50, 46, 103, 116, 95, 117], [105, 51, 50, 46, 108, 101, 95, 115], [105, 51, 50, 46, 108, 101, 95, 117], [105, 51, 50, 46, 103, 101, 95, 115], [105, 51, 50, 46, 103, 101, 95, 117], [], [], [], [], [], [], [], [], [], [], [], [], [], [], [], [], [], [], [], [], [], [], [], [105, 51, 50, 46, 99, 108, 122], [105, 51, 50, 46, 99, 116, 122], [105, 51, 50, 46, 112, 111, 112, 99, 110, 116], [105, 51, 50, 46, 97, 100, 100], [105, 51, 50, 46, 115, 117, 98], [105, 51, 50, 46, 109, 117, 108], [105, 51, 50, 46, 100, 105, 118, 95, 115], [105, 51, 50, 46, 100, 105, 118, 95, 117], [105, 51, 50, 46, 114, 101, 109, 95, 115], [105, 51, 50, 46, 114, 101, 109, 95, 117], [105, 51, 50, 46, 97, 110, 100], [105, 51, 50, 46, 111, 114], [105, 51, 50, 46, 120, 111, 114], [105, 51, 50, 46, 115, 104, 108], [105, 51, 50, 46, 115, 104, 114, 95, 115], [105, 51, 50, 46, 115, 104, 114, 95, 117], [105, 51, 50, 46, 114, 111, 116, 108], [105, 51, 50, 46, 114, 111, 116, 114]]
def nameL (op : Int) : List Int := if 0 ≤ op ∧ op < 121 then nameTab.getD op.toNat [] else []
def usedP (op : Int) : Int :=
  if op = 40 ∨ op = 54 ∨ op = 46 ∨ op = 47 ∨ op = 59 ∨ op = 44 ∨ op = 45 ∨ op = 58 then 6
  else if op = 2 ∨ op = 3 then 33 else if op = 4 then 97
  else if op = 12 ∨ op = 13 ∨ op = 16 ∨ op = 17 ∨ op = 32 ∨ op = 33 ∨ op = 34 ∨ op = 35 ∨ op = 36 then 2
  else if op = 14 then 18 else if op = 65 then 8 else 0
def bit (b : Bool) (k : Int) : Int := if b then k else 0
def filledP (x : Ix) : Int :=
  bit (x.res != 0) 1 + bit (x.a != 0) 2 + bit (x.b != 0) 4 + bit (x.n != 0) 8 + bit (decide (0 < x.tags.length)) 16 + bit (decide (0 < x.ln)) 32 + bit (decide (0 < x.en)) 64
/-- The fields that are filled and not used. -/
def overP (x : Ix) : Int := bits .andNot .u8 (filledP x) (usedP x.op)
def lawfulP (x : Ix) : Bool := decide (nameL x.op ≠ []) && decide (overP x = 0) && (decide (x.res = 0) || decide (x.res = 1))
def Il.all : Il → Bool
  | .nil => true
  | .cons x l e r => lawfulP x && l.all && e.all && r.all
def Il.tags : Il → Bool
  | .nil => false
  | .cons x l e r => decide (16384 < x.tags.length) || l.tags || e.tags || r.tags
def checkP (t : Il) : Int := if t.all then (if 262144 < t.count ∨ 900 < t.deep ∨ t.tags = true then 141 else 0) else 2

/-- All of them, each ahead of those in it, with how deep it stands. -/
def Il.walk : Il → Int → List (Int × Ix)
  | .nil, _ => []
  | .cons x l e r, d => (d, x) :: (l.walk (d + 1) ++ (e.walk (d + 1) ++ r.walk d))
theorem walk_length : ∀ (t : Il) (d : Int), (t.walk d).length = t.count
  | .nil, _ => rfl
  | .cons x l e r, d => by simp [Il.walk, Il.count, walk_length l, walk_length e, walk_length r]; omega
theorem walk_all : ∀ (t : Il) (d : Int), ((t.walk d).all fun p => lawfulP p.2) = t.all
  | .nil, _ => rfl
  | .cons x l e r, d => by simp [Il.walk, Il.all, walk_all l, walk_all e, walk_all r, Bool.and_assoc]
theorem walk_tags : ∀ (t : Il) (d : Int), ((t.walk d).any fun p => decide (16384 < p.2.tags.length)) = t.tags
  | .nil, _ => rfl
  | .cons x l e r, d => by simp [Il.walk, Il.tags, walk_tags l, walk_tags e, walk_tags r, Bool.or_assoc]
/-- How deep the deepest stands. -/
def deepest (l : List (Int × Ix)) : Int := l.foldl (fun m p => max m p.1) 0
theorem walk_deep : ∀ (t : Il) (d m : Int), 1 ≤ d → 0 ≤ m → (t.walk d).foldl (fun m p => max m p.1) m = max m (if t.deep = 0 then 0 else d - 1 + t.deep)
  | .nil, d, m, _, hm => by simp [Il.walk, Il.deep]; omega
  | .cons x l e r, d, m, h, hm => by
    simp only [Il.walk, List.foldl_cons, List.foldl_append, Il.deep]
    rw [walk_deep l _ _ (by omega) (by omega), walk_deep e _ _ (by omega) (by omega), walk_deep r _ _ h (by omega)]
    (repeat' split) <;> omega
theorem deepest_walk (t : Il) : deepest (t.walk 1) = t.deep := by
  unfold deepest
  rw [walk_deep t 1 0 (by omega) (by omega)]
  split <;> omega
theorem deepest_snoc (l : List (Int × Ix)) (p : Int × Ix) : deepest (l ++ [p]) = max (deepest l) p.1 := by simp [deepest, List.foldl_append]
theorem deep_le_count : ∀ t : Il, t.deep ≤ t.count
  | .nil => Nat.le_refl _
  | .cons x l e r => by have := deep_le_count l; have := deep_le_count e; have := deep_le_count r; simp only [Il.deep, Il.count]; omega
end Go.Proofs.YtckdnhafookcgaaGreatDoor.Instr

namespace Go.Proofs.YtckdnhafookcgaaGreatDoor
open Go.RowKit

/-- A cell that is there holds the same behind a call that leaves all that was there. -/
theorem keep {W w1 : World} {p : Addr} {v : Value} (hb : Below W.heap.size W w1) (h : W.cell? p = some v) : w1.cell? p = some v := (hb.cell (World.block_lt_of_cell? W _ h)).trans h
theorem Bytes.alloc {w : World} {a : Option Addr} {zs : List Int} (h : Bytes w a zs) (o : Obj) : Bytes (w.alloc o) a zs := h.below ((Below.refl _ _).alloc (Nat.le_refl _) o)
/-- Two calls, one behind the other. -/
theorem thenB {w w1 w2 : World} (h1 : Below w.heap.size w w1) (h2 : Below w1.heap.size w1 w2) : Below w.heap.size w w2 := h1.trans (h2.mono h1.size)
theorem thenA {w w1 : World} (h1 : Below w.heap.size w w1) (o : Obj) : Below w.heap.size w (w1.alloc o) := h1.alloc h1.size o
/-- A list of its own that a call gave reads as its bytes. -/
theorem Own.bytes {base : Nat} {w : World} {a : Option Addr} {n cap : Nat} {zs : List Int} (h : Own base w (.slice a n cap) zs) (hz : ∀ z ∈ zs, 0 ≤ z ∧ z < 256) (hn : zs.length ≤ 140737488351232) : Bytes w a zs := by
  refine ⟨hz, hn, ?_⟩
  rcases h.2 with ⟨_, h0⟩ | ⟨g, cap', cur, hv, _, hh, _, _, _, ht⟩
  · exact .inl (List.eq_nil_of_length_eq_zero h0)
  · simp only [Value.slice.injEq] at hv
    obtain ⟨rfl, _, _⟩ := hv
    refine .inr ⟨g, 0, rfl, fun i hi => ?_⟩
    have hj : (zs.map (Value.int .u8))[i]? = some (.int .u8 (zs.getD i 0)) := by rw [getD_lt hi]; simp [hi]
    have := World.ownsRow.cells (show w.ownsRow base 5 1 (.slice (some ⟨g, 0, none⟩) n cap) zs.length (zs.map (Value.int .u8)) from h) (g := g) rfl i _ hj
    have hplain : (⟨g, 0, none⟩ : Addr).add i = ⟨g, 0 + i, none⟩ := by unfold Addr.add; split <;> simp_all
    rw [hplain] at this
    exact this
theorem Own.nil {base : Nat} {w : World} {a : Option Addr} {n c : Nat} {zs : List Int} (h : Own base w (.slice a n c) zs) : Hid (a = none → c = 0) := by
  refine hid fun ha => ?_
  subst ha
  rcases h.2 with ⟨h', _⟩ | ⟨g, cap, cur, h', _⟩
  · simp at h'; exact h'.2
  · simp at h'
theorem Own.mono {base base' : Nat} {w : World} {v : Value} {zs : List Int} (h : Own base w v zs) (hb : base' ≤ base) : Own base' w v zs := by
  refine ⟨h.1, ?_⟩
  rcases h.2 with h0 | ⟨g, cap, cur, hv, hg, rest⟩
  · exact .inl h0
  · exact .inr ⟨g, cap, cur, hv, Nat.le_trans hb hg, rest⟩
/-- A call that leaves all that was there turns no row. -/
theorem Own.below {base : Nat} {w w' : World} {v : Value} {zs : List Int} (h : Own base w v zs) (hb : Below w.heap.size w w') : Own base w' v zs := by
  refine ⟨h.1, ?_⟩
  rcases h.2 with h0 | ⟨g, cap, cur, hv, hg, hh, rest⟩
  · exact .inl h0
  · exact .inr ⟨g, cap, cur, hv, hg, (hb.block g (Array.getElem?_eq_some_iff.1 hh).1).trans hh, rest⟩
theorem Own.alloc {base : Nat} {w : World} {v : Value} {zs : List Int} (h : Own base w v zs) (o : Obj) : Own base (w.alloc o) v zs := h.below ((Below.refl _ _).alloc (Nat.le_refl _) o)
theorem Own.setCell {base : Nat} {w : World} {v : Value} {zs : List Int} (h : Own base w v zs) {p : Addr} (hp : p.block < base) (u : Value) : Own base (w.setCell p u) v zs := by
  refine ⟨h.1, ?_⟩
  rcases h.2 with h0 | ⟨g, cap, cur, hv, hg, hh, rest⟩
  · exact .inl h0
  · exact .inr ⟨g, cap, cur, hv, hg, (Below.heap_setCell w p u g (by omega)).trans hh, rest⟩
end Go.Proofs.YtckdnhafookcgaaGreatDoor

namespace Go.Proofs.YtckdnhafookcgaaGreatDoor
open Go.RowKit

/-- Bytes made into a string. -/
theorem str_of {w : World} {a : Option Addr} {zs : List Int} (hz : Bytes w a zs) (len cap : Nat) (hlen : zs.length = len) :
    (convert 73 9 (.slice a len cap)).run Tryz.prog w = .ok (.string (strOfNums zs)) w := by
  rcases hz.at_ with h | ⟨b, off, rfl, hc⟩
  · subst h
    subst hlen
    rw [run_convert_bytes_string w 73 9 5 _ _ cap Tryz.underlying73 Tryz.underlying5 Tryz.underlying9]
    cases a <;> simp [Conv.bytesToString, loadCells]
    all_goals rfl
  · exact run_convert_bytes_arg w 73 5 Tryz.underlying73 Tryz.underlying5 b off len cap zs hlen (fun i hi => hc i (by omega)) 9 Tryz.underlying9

/-- A string's bytes. -/
def numsOf (s : ByteArray) : List Int := s.data.toList.map fun b => (b.toNat : Int)
theorem numsOf_length (s : ByteArray) : (numsOf s).length = s.size := by rw [numsOf, List.length_map, Array.length_toList]; rfl
theorem numsOf_bytes (s : ByteArray) : ∀ z ∈ numsOf s, 0 ≤ z ∧ z < 256 := by
  intro z hz
  obtain ⟨b, _, rfl⟩ := List.mem_map.1 hz
  have := b.toNat_lt
  omega
theorem str_numsOf (s : ByteArray) : strOfNums (numsOf s) = s := by
  apply ByteArray.ext
  apply Array.toList_inj.1
  rw [strOfNums_data, numsOf, List.map_map]
  refine (List.map_congr_left (g := id) fun b _ => ?_).trans (List.map_id _)
  simp
/-- A string made into bytes: a row that holds them, in new memory. -/
theorem bytes_of (zs : List Int) (hz : ∀ z ∈ zs, 0 ≤ z ∧ z < 256) (hl : zs.length ≤ 140737488351232) (w : World) :
    ∃ b c w', (convert 9 73 (.string (strOfNums zs))).run Tryz.prog w = .ok (.slice (some ⟨b, 0, none⟩) zs.length c) w' ∧ Bytes w' (some ⟨b, 0, none⟩) zs ∧ Below w.heap.size w w' := by
  refine ⟨w.heap.size, grownCap w (strOfNums zs).size 0 5, Lib.bytesWorld w 5 (strOfNums zs), ?_, ⟨hz, hl, .inr ⟨w.heap.size, 0, rfl, fun i hi => ?_⟩⟩, ?_⟩
  · rw [Lib.run_convert_string_bytes w 9 73 5 (strOfNums zs) Tryz.underlying9 Tryz.underlying73 Tryz.underlying5, strOfNums_size]
  · rw [Nat.zero_add, Lib.bytesWorld_cell w 5 (strOfNums zs) i (by rw [strOfNums_size]; exact hi)]
    rw [strOfNums_data, getD_lt hi]
    have := hz _ (List.getElem_mem hi)
    simp [hi]
    omega
  · exact ⟨rfl, rfl, rfl, by rw [Lib.bytesWorld_size]; omega, fun k hk => Lib.bytesWorld_at_old w _ _ k hk⟩

section
variable {ops : Array Oper} {rest : List Oper} {o : Oper} {act : Act} {Q : Exit → Act → World → Prop}
end
end Go.Proofs.YtckdnhafookcgaaGreatDoor

namespace Go.Proofs.YtckdnhafookcgaaGreatDoor.Instr
open Go.RowKit

theorem drewN {B n : Nat} {a w : World} (h : Below B a w) : Below B a (w.drewN n) := ⟨h.os, h.tape, h.output, h.size, h.block⟩
/-- The table of names lies as it was laid. -/
def Nams (w : World) : Prop := ∀ j, j < 121 → w.cell? ⟨0, j, none⟩ = some (.string (strOfNums (nameTab.getD j [])))
theorem Nams.below {w w' : World} (h : Nams w) (hb : Below w.heap.size w w') : Nams w' := fun j hj => keep hb (h j hj)

theorem Name_any (op : Int) (w : World) (hT : Nams w) : Calls Tryz.prog 235 #[.int .i64 op] w fun e w' => e = .returned (.string (strOfNums (nameL op))) ∧ w = w' := by
  by_cases h : 0 ≤ op ∧ op < 121
  · have hc := hT op.toNat (by omega)
    have hn : nameTab.getD op.toNat [] = nameL op := by unfold nameL; rw [if_pos h]
    rw [hn] at hc
    obtain ⟨v, hv⟩ : ∃ v, strOfNums (nameL op) = v := ⟨_, rfl⟩
    rw [hv] at hc ⊢
    obtain ⟨h0, h1⟩ := h
    clear hv hT hn
    go_enter Tryz.func235, Tryz.ntmps235
    go_wp2
    go_ret
    exact ⟨rfl, rfl⟩
  · have hn : nameL op = [] := by unfold nameL; rw [if_neg h]
    rw [hn]
    clear hn hT
    have h' : op < 0 ∨ 121 ≤ op := by omega
    clear h
    rcases h' with h' | h'
    all_goals
      go_enter Tryz.func235, Tryz.ntmps235
      go_wp2
      go_ret
      exact ⟨rfl, rfl⟩

/-- Aligned by what, at most; and whether an operation loads or stores. -/
def alignP (op : Int) : Int := if op = 40 ∨ op = 54 then 2 else if op = 46 ∨ op = 47 ∨ op = 59 then 1 else 0
def storedP (op : Int) : Bool := decide (op = 40 ∨ op = 54 ∨ op = 46 ∨ op = 47 ∨ op = 59 ∨ op = 44 ∨ op = 45 ∨ op = 58)
theorem Align_any (op : Int) (w : World) : Calls Tryz.prog 243 #[.int .i64 op] w fun e w' => e = .returned (.tuple #[.int .u32 (alignP op), .bool (storedP op)]) ∧ w = w' := by
  obtain ⟨u, hu⟩ : ∃ u, alignP op = u := ⟨_, rfl⟩
  obtain ⟨v, hv⟩ : ∃ v, storedP op = v := ⟨_, rfl⟩
  rw [hu, hv]
  have HU := hid hu
  have HV := hid hv
  clear hu hv
  go_enter Tryz.func243, Tryz.ntmps243
  go_wp2
  all_goals go_ret2
  all_goals
    refine ⟨?_, rfl⟩
    have hu := HU.out
    have hv := HV.out
    clear HU HV
    simp only [beq_iff_eq, beq_eq_false_iff_ne, ne_eq] at *
    subst hu hv
    refine congrArg Ending.returned (congrArg Value.tuple ?_)
    simp [alignP, storedP, *]
theorem used_any (op : Int) (w : World) : Calls Tryz.prog 237 #[.int .i64 op] w fun e w' => e = .returned (.int .u8 (usedP op)) ∧ w = w' := by
  have CA := Align_any op w
  obtain ⟨u, hu⟩ : ∃ u, alignP op = u := ⟨_, rfl⟩
  rw [hu] at CA
  clear hu
  obtain ⟨v, hv⟩ : ∃ v, usedP op = v := ⟨_, rfl⟩
  rw [hv]
  have HV := hid hv
  clear hv
  cases hs : storedP op
  all_goals
    rw [hs] at CA
    have HS := hid hs
    have C := hid CA
    clear hs CA
    go_enter Tryz.func237, Tryz.ntmps237
    go_wp2_with fail
    refine C.out.mono ?_
    clear C
    rintro e w1 ⟨rfl, rfl⟩
    go_wp2
  all_goals go_ret
  all_goals
    refine ⟨?_, rfl⟩
    have hv := HV.out
    have hs := HS.out
    clear HV HS
    simp only [beq_iff_eq, beq_eq_false_iff_ne, ne_eq] at *
    subst hv
    refine ret_int ?_
    simp only [storedP, decide_eq_true_eq, decide_eq_false_iff_not] at hs
    unfold usedP
    (repeat' split) <;> first | rfl | (exfalso; omega)
end Go.Proofs.YtckdnhafookcgaaGreatDoor.Instr

namespace Go.Proofs.YtckdnhafookcgaaGreatDoor
open Go.RowKit Go.Lib

theorem ownK : ownKnob Tryz.prog.godebug = none := by kernel_rfl
theorem names_eq : (Rows.laid_gimlet_instr_names : DataW Unit) = .agg (Instr.nameTab.map fun s => .lit (.string (s.map fun z => UInt8.ofNat z.toNat))) := by kernel_rfl
theorem cells_of_strs {H : Type} {enc : TypeId × Value → H} {P : Program} {w : World} {base : Nat} {sp : Nat → Bool} {held : Bool} {fuel : Nat} {t e : TypeId} {n : Nat} {cs : List Value} {ss : List (List UInt8)} {p : List MemPlace}
    (ht : P.underlying t = some (.array n e)) (he : P.underlying e = some .string) (hce : P.cellsOf e = 1) (hct : P.cellsOf t = n)
    (h : DataW.trod enc P w base sp held fuel t cs = some (.agg (ss.map fun s => .lit (.string s)), p)) : cs = ss.map fun s => Value.string ⟨s.toArray⟩ := by
  cases fuel with
  | zero => simp [DataW.trod] at h
  | succ fuel =>
    simp only [DataW.trod, ht, hce, hct, Nat.mul_one] at h
    split at h
    · rename_i hl
      obtain ⟨xs, hm, hx⟩ := Option.map_eq_some_iff.1 h
      have hxs : xs.map (·.1) = ss.map fun s => (DataW.lit (.string s) : DataW H) := by
        have := congrArg Prod.fst hx
        simpa using this
      have hxl : xs.length = n := by simpa using mapM_length hm
      have hzl : ss.length = n := by
        have := congrArg List.length hxs
        simp at this
        omega
      apply List.ext_getElem?
      intro i
      by_cases hi : i < n
      · obtain ⟨b, hb, hf⟩ := mapM_at hm i i (by simp [hi])
        obtain ⟨z, hc, rfl, _⟩ := DataW.trod_string he hf
        have h1 : cs[i]? = some (.string z) := by
          have := congrArg (·[0]?) hc
          simpa [List.getElem?_take, List.getElem?_drop] using this
        have h2 : (xs.map (·.1))[i]? = some (DataW.lit (.string z.data.toList) : DataW H) := by simp [hb]
        rw [hxs] at h2
        simp only [List.getElem?_map, Option.map_eq_some_iff, DataW.lit.injEq, Lit.string.injEq] at h2
        obtain ⟨z', hz', he'⟩ := h2
        simp [h1, hz', he']
      · rw [List.getElem?_eq_none (by omega), List.getElem?_eq_none (by simp; omega)]
    · cases h
theorem nams_of {W : World} {l : List (String × DataW Unit)} (hm : ("gimlet/instr.names", Rows.laid_gimlet_instr_names) ∈ l) (hL : laidMet Tryz.prog l W) : Instr.Nams W := by
  obtain ⟨g, t, cs, fuel, p, hg, hty, hvar, hd⟩ := Lib.laidMet.reads hL hm
  obtain rfl := Option.some.inj ((show Tryz.prog.globalNamed "gimlet/instr.names" = some 0 by kernel_rfl).symm.trans hg)
  obtain rfl := Option.some.inj ((show (Tryz.prog.globals[0]?).map (·.type) = some 312 by kernel_rfl).symm.trans hty)
  rw [names_eq] at hd
  have hcs := cells_of_strs (ss := Instr.nameTab.map fun s => s.map fun z => UInt8.ofNat z.toNat) Tryz.underlying312 Tryz.underlying9 (by kernel_rfl) (by kernel_rfl) (by rw [List.map_map]; exact hd)
  have hlen : Instr.nameTab.length = 121 := by decide +kernel
  intro j hj
  rw [World.var?_cell hg hvar j, ← Array.getElem?_toList, hcs]
  simp [List.getD, hlen, hj, strOfNums]
end Go.Proofs.YtckdnhafookcgaaGreatDoor

namespace Go.Proofs.YtckdnhafookcgaaGreatDoor.Utf

/-- May a number be a rune? -/
def Rune (n : Int) : Prop := 0 ≤ n ∧ n ≤ 1114111 ∧ (n < 55296 ∨ 57343 < n)
instance (n : Int) : Decidable (Rune n) := by unfold Rune; infer_instance
/-- A rune's bytes. -/
def oneL (n : Int) : List Int :=
  if n < 128 then [n] else if n < 2048 then [192 + n / 64, 128 + n % 64] else if n < 65536 then [224 + n / 4096, 128 + n / 64 % 64, 128 + n % 64]
  else [240 + n / 262144, 128 + n / 4096 % 64, 128 + n / 64 % 64, 128 + n % 64]
/-- The part of a first byte, and how many go on. -/
def firstL (c : Int) : Option (Int × Nat) :=
  if c < 128 then some (c, 0) else if 192 ≤ c ∧ c < 224 then some (c - 192, 1) else if 224 ≤ c ∧ c < 240 then some (c - 224, 2) else if 240 ≤ c ∧ c < 248 then some (c - 240, 3) else none
/-- What so many bytes that go on make of a number. -/
def tailsL : Nat → Int → List Int → Option Int
  | 0, n, _ => some n
  | _ + 1, _, [] => none
  | m + 1, n, c :: t => if 128 ≤ c ∧ c < 192 then tailsL m (64 * n + (c - 128)) t else none
/-- The rune that a list begins with, and how many bytes it has. -/
def atL : List Int → Option (Int × Nat)
  | [] => none
  | c :: t => match firstL c with
    | none => none
    | some (n0, more) => match tailsL more n0 t with
      | none => none
      | some n => if Rune n ∧ (oneL n).length = more + 1 then some (n, more + 1) else none

/-- What a list begins with is a rune, and just its bytes. -/
theorem atL_some {l : List Int} {n : Int} {k : Nat} (h : atL l = some (n, k)) : Rune n ∧ l.take k = oneL n ∧ k = (oneL n).length ∧ 1 ≤ k ∧ k ≤ 4 ∧ k ≤ l.length := by
  cases l with
  | nil => simp [atL] at h
  | cons c t =>
    simp only [atL, firstL] at h
    by_cases h1 : c < 128
    · simp only [if_pos h1, tailsL] at h
      split at h
      · rename_i hr
        simp only [Option.some.injEq, Prod.mk.injEq] at h
        obtain ⟨rfl, rfl⟩ := h
        refine ⟨hr.1, ?_, hr.2.symm, by omega, by omega, by simp⟩
        simp [oneL, h1]
      · cases h
    rw [if_neg h1] at h
    by_cases h2 : 192 ≤ c ∧ c < 224
    · simp only [if_pos h2] at h
      match t, h with
      | [], h => simp [tailsL] at h
      | c1 :: t, h =>
        simp only [tailsL] at h
        by_cases k1 : 128 ≤ c1 ∧ c1 < 192
        · simp only [if_pos k1] at h
          split at h
          · rename_i hr
            simp only [Option.some.injEq, Prod.mk.injEq] at h
            obtain ⟨rfl, rfl⟩ := h
            refine ⟨hr.1, ?_, hr.2.symm, by omega, by omega, by simp⟩
            have hl := hr.2
            unfold oneL at hl ⊢
            split at hl
            · simp at hl
            · split at hl
              · rename_i a b
                rw [if_neg a, if_pos b]
                simp only [List.take_succ_cons, List.take_zero, List.cons.injEq, and_true]
                omega
              · split at hl <;> simp at hl
          · cases h
        · simp [if_neg k1] at h
    rw [if_neg h2] at h
    by_cases h3 : 224 ≤ c ∧ c < 240
    · simp only [if_pos h3] at h
      match t, h with
      | [], h => simp [tailsL] at h
      | [c1], h => simp [tailsL] at h
      | c1 :: c2 :: t, h =>
        simp only [tailsL] at h
        by_cases k1 : 128 ≤ c1 ∧ c1 < 192
        · simp only [if_pos k1] at h
          by_cases k2 : 128 ≤ c2 ∧ c2 < 192
          · simp only [if_pos k2] at h
            split at h
            · rename_i hr
              simp only [Option.some.injEq, Prod.mk.injEq] at h
              obtain ⟨rfl, rfl⟩ := h
              refine ⟨hr.1, ?_, hr.2.symm, by omega, by omega, by simp⟩
              have hl := hr.2
              unfold oneL at hl ⊢
              split at hl
              · simp at hl
              · split at hl
                · simp at hl
                · split at hl
                  · rename_i a b d
                    rw [if_neg a, if_neg b, if_pos d]
                    simp only [List.take_succ_cons, List.take_zero, List.cons.injEq, and_true]
                    omega
                  · simp at hl
            · cases h
          · simp [if_neg k2] at h
        · simp [if_neg k1] at h
    rw [if_neg h3] at h
    by_cases h4 : 240 ≤ c ∧ c < 248
    · simp only [if_pos h4] at h
      match t, h with
      | [], h => simp [tailsL] at h
      | [c1], h => simp [tailsL] at h
      | [c1, c2], h => simp [tailsL] at h
      | c1 :: c2 :: c3 :: t, h =>
        simp only [tailsL] at h
        by_cases k1 : 128 ≤ c1 ∧ c1 < 192
        · simp only [if_pos k1] at h
          by_cases k2 : 128 ≤ c2 ∧ c2 < 192
          · simp only [if_pos k2] at h
            by_cases k3 : 128 ≤ c3 ∧ c3 < 192
            · simp only [if_pos k3] at h
              split at h
              · rename_i hr
                simp only [Option.some.injEq, Prod.mk.injEq] at h
                obtain ⟨rfl, rfl⟩ := h
                refine ⟨hr.1, ?_, hr.2.symm, by omega, by omega, by simp⟩
                have hl := hr.2
                unfold oneL at hl ⊢
                split at hl
                · simp at hl
                · split at hl
                  · simp at hl
                  · split at hl
                    · simp at hl
                    · rename_i a b d
                      rw [if_neg a, if_neg b, if_neg d]
                      simp only [List.take_succ_cons, List.take_zero, List.cons.injEq, and_true]
                      omega
              · cases h
            · simp [if_neg k3] at h
          · simp [if_neg k2] at h
        · simp [if_neg k1] at h
    · simp [if_neg h4] at h

/-- A rune's bytes begin with it. -/
theorem atL_one {n : Int} (h : Rune n) (rest : List Int) : atL (oneL n ++ rest) = some (n, (oneL n).length) := by
  have hr := h
  obtain ⟨h0, h1, h2⟩ := h
  by_cases a : n < 128
  · have e : oneL n = [n] := by simp [oneL, a]
    simp [atL, firstL, tailsL, e, a, hr]
  by_cases b : n < 2048
  · have e : oneL n = [192 + n / 64, 128 + n % 64] := by simp [oneL, a, b]
    have c1 : ¬ (192 + n / 64 < 128) := by omega
    have c2 : 192 ≤ 192 + n / 64 ∧ 192 + n / 64 < 224 := by omega
    have c3 : 128 ≤ 128 + n % 64 ∧ 128 + n % 64 < 192 := by omega
    have c4 : 64 * (192 + n / 64 - 192) + (128 + n % 64 - 128) = n := by omega
    rw [e]
    simp only [List.cons_append, List.nil_append, atL, firstL, if_neg c1, if_pos c2, tailsL, if_pos c3, c4, e]
    simp [hr]
  by_cases d : n < 65536
  · have e : oneL n = [224 + n / 4096, 128 + n / 64 % 64, 128 + n % 64] := by simp [oneL, a, b, d]
    have c1 : ¬ (224 + n / 4096 < 128) := by omega
    have c2 : ¬ (192 ≤ 224 + n / 4096 ∧ 224 + n / 4096 < 224) := by omega
    have c3 : 224 ≤ 224 + n / 4096 ∧ 224 + n / 4096 < 240 := by omega
    have c4 : 128 ≤ 128 + n / 64 % 64 ∧ 128 + n / 64 % 64 < 192 := by omega
    have c5 : 128 ≤ 128 + n % 64 ∧ 128 + n % 64 < 192 := by omega
    have c6 : 64 * (64 * (224 + n / 4096 - 224) + (128 + n / 64 % 64 - 128)) + (128 + n % 64 - 128) = n := by omega
    rw [e]
    simp only [List.cons_append, List.nil_append, atL, firstL, if_neg c1, if_neg c2, if_pos c3, tailsL, if_pos c4, if_pos c5, c6, e]
    simp [hr]
  · have e : oneL n = [240 + n / 262144, 128 + n / 4096 % 64, 128 + n / 64 % 64, 128 + n % 64] := by simp [oneL, a, b, d]
    have c1 : ¬ (240 + n / 262144 < 128) := by omega
    have c2 : ¬ (192 ≤ 240 + n / 262144 ∧ 240 + n / 262144 < 224) := by omega
    have c3 : ¬ (224 ≤ 240 + n / 262144 ∧ 240 + n / 262144 < 240) := by omega
    have c4 : 240 ≤ 240 + n / 262144 ∧ 240 + n / 262144 < 248 := by omega
    have c5 : 128 ≤ 128 + n / 4096 % 64 ∧ 128 + n / 4096 % 64 < 192 := by omega
    have c6 : 128 ≤ 128 + n / 64 % 64 ∧ 128 + n / 64 % 64 < 192 := by omega
    have c7 : 128 ≤ 128 + n % 64 ∧ 128 + n % 64 < 192 := by omega
    have c8 : 64 * (64 * (64 * (240 + n / 262144 - 240) + (128 + n / 4096 % 64 - 128)) + (128 + n / 64 % 64 - 128)) + (128 + n % 64 - 128) = n := by omega
    rw [e]
    simp only [List.cons_append, List.nil_append, atL, firstL, if_neg c1, if_neg c2, if_neg c3, if_pos c4, tailsL, if_pos c5, if_pos c6, if_pos c7, c8, e]
    simp [hr]

/-- The runes that a list begins with, up to the first place where none begins; and how many bytes they take. -/
def scanGo : Nat → List Int → List Int × Nat
  | 0, _ => ([], 0)
  | f + 1, l => match atL l with
    | none => ([], 0)
    | some (n, k) => (n :: (scanGo f (l.drop k)).1, k + (scanGo f (l.drop k)).2)
def scan (l : List Int) : List Int × Nat := scanGo l.length l
theorem scanGo_fuel : ∀ (f g : Nat) (l : List Int), l.length ≤ f → l.length ≤ g → scanGo f l = scanGo g l
  | 0, 0, _, _, _ => rfl
  | 0, g + 1, l, hf, _ => by
    have : l = [] := List.eq_nil_of_length_eq_zero (by omega)
    subst this; simp [scanGo, atL]
  | f + 1, 0, l, _, hg => by
    have : l = [] := List.eq_nil_of_length_eq_zero (by omega)
    subst this; simp [scanGo, atL]
  | f + 1, g + 1, l, hf, hg => by
    simp only [scanGo]
    cases h : atL l with
    | none => rfl
    | some p =>
      obtain ⟨n, k⟩ := p
      obtain ⟨_, _, _, hk, _, hl⟩ := atL_some h
      simp only
      rw [scanGo_fuel f g (l.drop k) (by simp; omega) (by simp; omega)]
theorem scan_none {l : List Int} (h : atL l = none) : scan l = ([], 0) := by
  unfold scan
  cases l with
  | nil => rfl
  | cons c t => simp [scanGo, h]
theorem scan_some {l : List Int} {n : Int} {k : Nat} (h : atL l = some (n, k)) : scan l = (n :: (scan (l.drop k)).1, k + (scan (l.drop k)).2) := by
  obtain ⟨_, _, _, hk, _, hl⟩ := atL_some h
  unfold scan
  obtain ⟨m, hm⟩ : ∃ m, l.length = m + 1 := ⟨l.length - 1, by omega⟩
  rw [hm]
  simp only [scanGo, h]
  rw [scanGo_fuel m (l.drop k).length (l.drop k) (by simp; omega) (Nat.le_refl _)]
theorem scan_nil : scan [] = ([], 0) := rfl

/-- Where a list is no text of runes; -1: it is one. -/
def badL (l : List Int) : Int := if (scan l).2 = l.length then -1 else (scan l).2
theorem badL_none {l : List Int} (h : (scan l).2 = l.length) : badL l = -1 := if_pos h
theorem badL_some {l : List Int} (h : (scan l).2 ≠ l.length) : badL l = (scan l).2 := if_neg h
end Go.Proofs.YtckdnhafookcgaaGreatDoor.Utf

namespace Go.Proofs.YtckdnhafookcgaaGreatDoor.Utf
open Go.Lib (decodeN decodeN_shape decode_N)

theorem decodeN_some {l : List Int} (hb : ∀ z ∈ l, 0 ≤ z ∧ z < 256) {n : Int} {k : Nat} (h : atL l = some (n, k)) :
    decodeN l.length (l.getD 0 0).toNat (l.getD 1 0).toNat (l.getD 2 0).toNat (l.getD 3 0).toNat = (n.toNat, k) := by
  obtain ⟨⟨r0, r1, r2⟩, ht, hk, _, _, hkl⟩ := atL_some h
  have hl : l = oneL n ++ l.drop k := by rw [← ht, List.take_append_drop]
  generalize l.drop k = r at hl
  subst hl
  subst hk
  clear ht hkl h
  obtain ⟨m, rfl⟩ := Int.eq_ofNat_of_zero_le r0
  unfold oneL
  by_cases a : (m : Int) < 128
  · rw [if_pos a]
    have c0 : m < 128 := by omega
    simp [decodeN, c0]
  by_cases b : (m : Int) < 2048
  · rw [if_neg a, if_pos b]
    have e0 : (192 + (m : Int) / 64).toNat = 192 + m / 64 := by omega
    have e1 : (128 + (m : Int) % 64).toNat = 128 + m % 64 := by omega
    simp only [List.cons_append, List.nil_append, List.length_cons, List.getD_cons_zero, List.getD_cons_succ, e0, e1, Int.toNat_natCast]
    unfold decodeN
    rw [if_neg (by omega), if_pos (by omega), if_pos (by omega)]
    simp only [Prod.mk.injEq, List.length_nil]
    exact ⟨by omega, trivial⟩
  by_cases d : (m : Int) < 65536
  · rw [if_neg a, if_neg b, if_pos d]
    have e0 : (224 + (m : Int) / 4096).toNat = 224 + m / 4096 := by omega
    have e1 : (128 + (m : Int) / 64 % 64).toNat = 128 + m / 64 % 64 := by omega
    have e2 : (128 + (m : Int) % 64).toNat = 128 + m % 64 := by omega
    simp only [List.cons_append, List.nil_append, List.length_cons, List.getD_cons_zero, List.getD_cons_succ, e0, e1, e2, Int.toNat_natCast]
    unfold decodeN
    rw [if_neg (by omega), if_neg (by omega), if_pos (by omega), if_pos (by omega)]
    simp only [Prod.mk.injEq, List.length_nil]
    exact ⟨by omega, trivial⟩
  · rw [if_neg a, if_neg b, if_neg d]
    have e0 : (240 + (m : Int) / 262144).toNat = 240 + m / 262144 := by omega
    have e1 : (128 + (m : Int) / 4096 % 64).toNat = 128 + m / 4096 % 64 := by omega
    have e2 : (128 + (m : Int) / 64 % 64).toNat = 128 + m / 64 % 64 := by omega
    have e3 : (128 + (m : Int) % 64).toNat = 128 + m % 64 := by omega
    simp only [List.cons_append, List.nil_append, List.length_cons, List.getD_cons_zero, List.getD_cons_succ, e0, e1, e2, e3, Int.toNat_natCast]
    unfold decodeN
    rw [if_neg (by omega), if_neg (by omega), if_neg (by omega), if_pos (by omega), if_pos (by omega)]
    simp only [Prod.mk.injEq, List.length_nil]
    exact ⟨by omega, trivial⟩

theorem decodeN_none {l : List Int} (hb : ∀ z ∈ l, 0 ≤ z ∧ z < 256) (h0 : l ≠ []) (h : atL l = none) :
    decodeN l.length (l.getD 0 0).toNat (l.getD 1 0).toNat (l.getD 2 0).toNat (l.getD 3 0).toNat = (65533, 1) := by
  have no : ∀ (n : Int) (r : List Int), Rune n → l = oneL n ++ r → False := fun n r hr hl => by
    rw [hl, atL_one hr] at h; cases h
  have hne : 0 < l.length := List.length_pos_iff.2 h0
  have g : ∀ j, j < l.length → 0 ≤ l.getD j 0 ∧ l.getD j 0 < 256 := fun j hj => by
    have : l.getD j 0 = l[j] := by simp [hj]
    rw [this]; exact hb _ (List.getElem_mem hj)
  have d : ∀ j, j < l.length → l.drop j = l.getD j 0 :: l.drop (j + 1) := fun j hj => by
    rw [List.drop_eq_getElem_cons hj]; simp [hj]
  obtain ⟨g0, g0'⟩ := g 0 hne
  have d0 := d 0 hne
  rw [List.drop_zero] at d0
  rcases decodeN_shape l.length (l.getD 0 0).toNat (l.getD 1 0).toNat (l.getD 2 0).toNat (l.getD 3 0).toNat with ⟨c, e⟩ | ⟨c1, c2, c3, cv, e⟩ | ⟨c1, c2, c3, c4, cv, cs, e⟩ | ⟨c1, c2, c3, c4, c5, cv, cw, e⟩ | e
  · refine (no (l.getD 0 0) (l.drop 1) ⟨by omega, by omega, by omega⟩ (d0.trans ?_)).elim
    generalize l.getD 0 0 = x at *
    unfold oneL
    rw [if_pos (by omega)]
    rfl
  · obtain ⟨g1, g1'⟩ := g 1 c2
    have hl := d0.trans (congrArg (l.getD 0 0 :: ·) (d 1 c2))
    refine (no ((l.getD 0 0) % 32 * 64 + (l.getD 1 0) % 64) (l.drop 2) ⟨by omega, by omega, by omega⟩ (hl.trans ?_)).elim
    generalize l.getD 0 0 = x at *
    generalize l.getD 1 0 = y at *
    unfold oneL
    rw [if_neg (by omega), if_pos (by omega)]
    simp only [List.cons_append, List.nil_append, List.cons.injEq]
    exact ⟨by omega, by omega, trivial⟩
  · obtain ⟨g1, g1'⟩ := g 1 (by omega)
    obtain ⟨g2, g2'⟩ := g 2 c2
    have hl := d0.trans (congrArg (l.getD 0 0 :: ·) ((d 1 (by omega)).trans (congrArg (l.getD 1 0 :: ·) (d 2 c2))))
    refine (no ((l.getD 0 0) % 16 * 4096 + (l.getD 1 0) % 64 * 64 + (l.getD 2 0) % 64) (l.drop 3) ⟨by omega, by omega, by omega⟩ (hl.trans ?_)).elim
    generalize l.getD 0 0 = x at *
    generalize l.getD 1 0 = y at *
    generalize l.getD 2 0 = z at *
    unfold oneL
    rw [if_neg (by omega), if_neg (by omega), if_pos (by omega)]
    simp only [List.cons_append, List.nil_append, List.cons.injEq]
    exact ⟨by omega, by omega, by omega, trivial⟩
  · obtain ⟨g1, g1'⟩ := g 1 (by omega)
    obtain ⟨g2, g2'⟩ := g 2 (by omega)
    obtain ⟨g3, g3'⟩ := g 3 c2
    have hl := d0.trans (congrArg (l.getD 0 0 :: ·) ((d 1 (by omega)).trans (congrArg (l.getD 1 0 :: ·) ((d 2 (by omega)).trans (congrArg (l.getD 2 0 :: ·) (d 3 c2))))))
    refine (no ((l.getD 0 0) % 8 * 262144 + (l.getD 1 0) % 64 * 4096 + (l.getD 2 0) % 64 * 64 + (l.getD 3 0) % 64) (l.drop 4) ⟨by omega, by omega, by omega⟩ (hl.trans ?_)).elim
    generalize l.getD 0 0 = x at *
    generalize l.getD 1 0 = y at *
    generalize l.getD 2 0 = z at *
    generalize l.getD 3 0 = u at *
    unfold oneL
    rw [if_neg (by omega), if_neg (by omega), if_neg (by omega)]
    simp only [List.cons_append, List.nil_append, List.cons.injEq]
    exact ⟨by omega, by omega, by omega, by omega, trivial⟩
  · exact e

theorem str_byte {zs : List Int} (hb : ∀ z ∈ zs, 0 ≤ z ∧ z < 256) (j : Nat) : ((strOfNums zs).data.toList.getD j 0).toNat = (zs.getD j 0).toNat := by
  rw [strOfNums_data]
  by_cases h : j < zs.length
  · have := hb _ (List.getElem_mem h)
    simp [h]
    omega
  · simp [List.getD_eq_getElem?_getD, List.getElem?_eq_none (Nat.le_of_not_lt h)]

theorem getD_drop0 (zs : List Int) (i j : Nat) : zs.getD (i + j) 0 = (zs.drop i).getD j 0 := by
  simp [List.getD_eq_getElem?_getD, List.getElem?_drop]

theorem decode_eq {zs : List Int} (hb : ∀ z ∈ zs, 0 ≤ z ∧ z < 256) (i : Nat) :
    Utf8.decode (strOfNums zs) i = decodeN (zs.drop i).length ((zs.drop i).getD 0 0).toNat ((zs.drop i).getD 1 0).toNat ((zs.drop i).getD 2 0).toNat ((zs.drop i).getD 3 0).toNat := by
  rw [decode_N, str_byte hb, str_byte hb, str_byte hb, str_byte hb, strOfNums_data, List.length_map, List.length_drop]
  rw [← getD_drop0, ← getD_drop0, ← getD_drop0, ← getD_drop0]
  rfl

theorem mem_drop_bytes {zs : List Int} (hb : ∀ z ∈ zs, 0 ≤ z ∧ z < 256) (i : Nat) : ∀ z ∈ zs.drop i, 0 ≤ z ∧ z < 256 := fun z hz => hb z (List.mem_of_mem_drop hz)

/-- At a place where a rune begins the model decodes it. -/
theorem decode_some {zs : List Int} (hb : ∀ z ∈ zs, 0 ≤ z ∧ z < 256) {i : Nat} {n : Int} {k : Nat} (h : atL (zs.drop i) = some (n, k)) : Utf8.decode (strOfNums zs) i = (n.toNat, k) := by
  rw [decode_eq hb]; exact decodeN_some (mem_drop_bytes hb i) h
/-- Where none begins it tells the sign of an error, of one byte. -/
theorem decode_none {zs : List Int} (hb : ∀ z ∈ zs, 0 ≤ z ∧ z < 256) {i : Nat} (hi : i < zs.length) (h : atL (zs.drop i) = none) : Utf8.decode (strOfNums zs) i = (65533, 1) := by
  rw [decode_eq hb]
  refine decodeN_none (mem_drop_bytes hb i) (fun h0 => ?_) h
  have := congrArg List.length h0
  simp at this; omega
/-- That number, where it is a rune, has three bytes. -/
theorem error_three {l : List Int} {k : Nat} (h : atL l = some (65533, k)) : k = 3 := by
  obtain ⟨_, _, hk, _⟩ := atL_some h
  rw [hk]; decide
end Go.Proofs.YtckdnhafookcgaaGreatDoor.Utf

namespace Go.Proofs
open Go.Shelf
def Tryz.lays260_ren : Go.Shelf.Ren := ⟨fun | 260 => 258 | n => n, fun | 9 => 9 | 21 => 21 | 3 => 3 | 4 => 4 | 5 => 5 | 119 => 321 | 0 => 0 | 46 => 322 | 139 => 325 | 138 => 324 | n => n, fun | 3 => 2 | 4 => 3 | n => n⟩
theorem Tryz.lays260 : Go.Proofs.Lays.n260 Tryz.prog Tryz.lays260_ren := {
  mixed := by kernel_rfl
  f260 := Tryz.func258.trans (congrArg some (by kernel_rfl))
  t0 := Tryz.underlying0
  a0 := Tryz.isAgg0
  z0 := Tryz.sizeOf0
  v0 := Tryz.zeroValue0
  t3 := Tryz.underlying3
  a3 := Tryz.isAgg3
  z3 := Tryz.sizeOf3
  v3 := Tryz.zeroValue3
  t4 := Tryz.underlying4
  a4 := Tryz.isAgg4
  z4 := Tryz.sizeOf4
  v4 := Tryz.zeroValue4
  t5 := Tryz.underlying5
  a5 := Tryz.isAgg5
  z5 := Tryz.sizeOf5
  v5 := Tryz.zeroValue5
  t9 := Tryz.underlying9
  a9 := Tryz.isAgg9
  z9 := Tryz.sizeOf9
  v9 := Tryz.zeroValue9
  t21 := Tryz.underlying21
  a21 := Tryz.isAgg21
  z21 := Tryz.sizeOf21
  v21 := Tryz.zeroValue21
  t46 := Tryz.underlying322
  a46 := Tryz.isAgg322
  z46 := Tryz.sizeOf322
  v46 := Tryz.zeroValue322
  t119 := Tryz.underlying321
  a119 := Tryz.isAgg321
  z119 := Tryz.sizeOf321
  t138 := Tryz.underlying324
  a138 := Tryz.isAgg324
  z138 := Tryz.sizeOf324
  v138 := Tryz.zeroValue324
  t139 := Tryz.underlying325
  a139 := Tryz.isAgg325
  z139 := Tryz.sizeOf325
  v139 := Tryz.zeroValue325
  g3 := by kernel_rfl
  g4 := by kernel_rfl }
def Tryz.lays197_ren : Go.Shelf.Ren := ⟨fun | 197 => 242 | 260 => 258 | n => n, fun | 9 => 9 | 21 => 21 | 3 => 3 | 4 => 4 | 5 => 5 | 105 => 296 | 119 => 321 | 0 => 0 | 46 => 322 | 139 => 325 | 138 => 324 | n => n, fun | 3 => 2 | 4 => 3 | n => n⟩
theorem Tryz.lays197 : Go.Proofs.Lays.n197 Tryz.prog Tryz.lays197_ren := {
  mixed := by kernel_rfl
  f197 := Tryz.func242.trans (congrArg some (by kernel_rfl))
  f260 := Tryz.func258.trans (congrArg some (by kernel_rfl))
  t0 := Tryz.underlying0
  a0 := Tryz.isAgg0
  z0 := Tryz.sizeOf0
  v0 := Tryz.zeroValue0
  t3 := Tryz.underlying3
  a3 := Tryz.isAgg3
  z3 := Tryz.sizeOf3
  v3 := Tryz.zeroValue3
  t4 := Tryz.underlying4
  a4 := Tryz.isAgg4
  z4 := Tryz.sizeOf4
  v4 := Tryz.zeroValue4
  t5 := Tryz.underlying5
  a5 := Tryz.isAgg5
  z5 := Tryz.sizeOf5
  v5 := Tryz.zeroValue5
  t9 := Tryz.underlying9
  a9 := Tryz.isAgg9
  z9 := Tryz.sizeOf9
  v9 := Tryz.zeroValue9
  t21 := Tryz.underlying21
  a21 := Tryz.isAgg21
  z21 := Tryz.sizeOf21
  v21 := Tryz.zeroValue21
  t46 := Tryz.underlying322
  a46 := Tryz.isAgg322
  z46 := Tryz.sizeOf322
  v46 := Tryz.zeroValue322
  t105 := Tryz.underlying296
  a105 := Tryz.isAgg296
  z105 := Tryz.sizeOf296
  v105 := Tryz.zeroValue296
  t119 := Tryz.underlying321
  a119 := Tryz.isAgg321
  z119 := Tryz.sizeOf321
  t138 := Tryz.underlying324
  a138 := Tryz.isAgg324
  z138 := Tryz.sizeOf324
  v138 := Tryz.zeroValue324
  t139 := Tryz.underlying325
  a139 := Tryz.isAgg325
  z139 := Tryz.sizeOf325
  v139 := Tryz.zeroValue325
  g3 := by kernel_rfl
  g4 := by kernel_rfl }
open Go.RowKit Go.Lib in
/-- **unicode/utf8.DecodeRuneInString AT EVERY STRING.** (LAID: no walk: one application.) -/
theorem Tryz.utf8_DecodeRuneInString (s : ByteArray) (w : World) (hT : Lib.Utf8Tabs 2 3 w) :
    Calls Tryz.prog 242 #[.string s] w fun e w' => e = .returned (.tuple #[.int .i32 (Lib.decodeGo s).1, .int .i64 (Lib.decodeGo s).2]) ∧ Below w.heap.size w w' := Any.utf8_DecodeRuneInString Tryz.lays197 s w hT
end Go.Proofs

namespace Go.Proofs.YtckdnhafookcgaaGreatDoor.Utf
open Go.RowKit

/-- The two tables of unicode/utf8 lie as the row lists them. -/
def Tabs (w : World) : Prop := Lib.Utf8Tabs 2 3 w
theorem Tabs.below {w w' : World} (h : Tabs w) (hb : Below w.heap.size w w') : Tabs w' := Utf8Tabs_below h hb
theorem Tabs.alloc {w : World} (h : Tabs w) (o : Obj) : Tabs (w.alloc o) := h.below ((Below.refl _ _).alloc (Nat.le_refl _) o)

theorem str_tail (zs : List Int) (i : Nat) : (strOfNums zs).extract i zs.length = strOfNums (zs.drop i) := by
  apply ByteArray.ext
  apply Array.toList_inj.1
  rw [ByteArray.data_extract, Array.toList_extract, strOfNums_data, strOfNums_data]
  simp
  rw [List.take_of_length_le (by simp)]

set_option maxHeartbeats 800000 in
theorem bad_any (zs : List Int) (hb : ∀ z ∈ zs, 0 ≤ z ∧ z < 256) (w : World) (hT : Tabs w) :
    Calls Tryz.prog 211 #[.string (strOfNums zs)] w fun e w' => e = .returned (.int .i64 (badL zs)) ∧ Below w.heap.size w w' := by
  have D1 : ∀ pos n k, atL (zs.drop pos) = some (n, k) → Utf8.decode (strOfNums zs) pos = (n.toNat, k) := fun pos n k h => decode_some hb h
  have D2 : ∀ pos, pos < zs.length → atL (zs.drop pos) = none → Utf8.decode (strOfNums zs) pos = (65533, 1) := fun pos h h' => decode_none hb h h'
  have D3 : ∀ pos, pos < zs.length → Lib.decodeGo ((strOfNums zs).extract pos zs.length) = Utf8.decode (strOfNums zs) pos := fun pos h => by
    rw [str_tail]
    unfold Lib.decodeGo
    rw [strOfNums_size, List.length_drop, if_neg (by omega), decode_eq (mem_drop_bytes hb pos), decode_eq hb]
    rfl
  have hs : (strOfNums zs).size = zs.length := strOfNums_size zs
  generalize strOfNums zs = s at *
  have H1 := hid D1
  have H2 := hid D2
  have H3 := hid D3
  clear D1 D2 D3 hb
  go_enter Tryz.func211, Tryz.ntmps211
  go_wp2
  go_loopw [3] (fun _ wr => ∃ pos : Nat, wr.heap[w.heap.size]? = some (.stringIter s pos) ∧ Below w.heap.size w wr ∧ pos ≤ zs.length ∧ (scan zs).2 = pos + (scan (zs.drop pos)).2)
    (fun _ wr => zs.length - wr.iterPos w.heap.size)
  case atStart => exact ⟨0, World.iter_heap w s 0, (Below.refl _ _).alloc (Nat.le_refl _) _, Nat.zero_le _, by simp⟩
  case round =>
    obtain ⟨pos, hk, hbw, hpos, hsc⟩ := hrel
    have HS := hid hsc
    clear hsc
    have hT' : Tabs wr := hT.below hbw
    by_cases hp : pos < s.size
    · cases ha : atL (zs.drop pos) with
      | none =>
        have hd := H2.out pos (by omega) ha
        have hnx : ∀ ty, (Instr.next (.pointer (some ⟨w.heap.size, 0, none⟩)) true ty).run Tryz.prog wr = .ok (.tuple #[.bool true, .int .i64 pos, .int .i32 65533]) (wr.iterAt w.heap.size s (pos + 1)) := fun ty => by
          rw [Lib.run_next_any_at wr w.heap.size s pos ty hk hp, hd]; rfl
        have hw1 := Lib.below_iterAt hbw (Nat.le_refl _) s (pos + 1)
        have hT1 : Tabs (wr.iterAt w.heap.size s (pos + 1)) := hT.below hw1
        have HF : Hid (badL zs = pos) := by
          have h := HS.out
          rw [scan_none ha] at h
          show _ = _
          rw [badL_some (by omega)]
          simp at h; omega
        have HD := hid ((H3.out pos (by omega)).trans hd)
        clear hd ha hT hT'
        generalize wr.iterAt w.heap.size s (pos + 1) = w1 at *
        go_wp2_with fail
        refine (Tryz.utf8_DecodeRuneInString _ _ hT1).mono ?_
        rw [HD.out]
        rintro e w2 ⟨rfl, hb2⟩
        go_wp2
        go_ret
        exact ⟨ret_int HF.out.symm, hw1.trans (hb2.mono (by have := hw1.size; omega))⟩
      | some q =>
        obtain ⟨n, k⟩ := q
        obtain ⟨hn, _, _, hk1, _, hkl⟩ := atL_some ha
        have hd := H1.out pos n k ha
        have hnx : ∀ ty, (Instr.next (.pointer (some ⟨w.heap.size, 0, none⟩)) true ty).run Tryz.prog wr = .ok (.tuple #[.bool true, .int .i64 pos, .int .i32 n]) (wr.iterAt w.heap.size s (pos + k)) := fun ty => by
          rw [Lib.run_next_any_at wr w.heap.size s pos ty hk hp, hd]
          have := hn.1
          simp only [Int.toNat_of_nonneg this]
        have hw1 := Lib.below_iterAt hbw (Nat.le_refl _) s (pos + k)
        have hT1 : Tabs (wr.iterAt w.heap.size s (pos + k)) := hT.below hw1
        have hk1' := Lib.iterAt_heap wr w.heap.size s pos (pos + k) hk
        have hit : (wr.iterAt w.heap.size s (pos + k)).iterPos w.heap.size = pos + k := by unfold World.iterPos; rw [hk1']
        have hit0 : wr.iterPos w.heap.size = pos := by unfold World.iterPos; rw [hk]
        have HF : Hid ((scan zs).2 = (pos + k) + (scan (zs.drop (pos + k))).2) := by
          have h := HS.out
          rw [scan_some ha, List.drop_drop] at h
          show _ = _
          simp only at h
          omega
        have hlk : pos + k ≤ zs.length := by simp at hkl; omega
        by_cases he : n = 65533
        · subst he
          obtain rfl := error_three ha
          have HD := hid ((H3.out pos (by omega)).trans hd)
          clear hd ha hT hT' hn
          generalize wr.iterAt w.heap.size s (pos + 3) = w1 at *
          go_wp2_with fail
          refine (Tryz.utf8_DecodeRuneInString _ _ hT1).mono ?_
          rw [HD.out]
          rintro e w2 ⟨rfl, hb2⟩
          have hlt : w.heap.size < w1.heap.size := (Array.getElem?_eq_some_iff.1 hk1').1
          have hk2 := (hb2.block _ hlt).trans hk1'
          have hit2 : w2.iterPos w.heap.size = pos + 3 := by unfold World.iterPos; rw [hk2]
          go_wp2
          go_roundw
          case rel => exact ⟨pos + 3, hk2, hw1.trans (hb2.mono (by omega)), hlk, HF.out⟩
          case measure => rw [hit2, hit0]; omega
        · clear hd ha hT hT'
          generalize wr.iterAt w.heap.size s (pos + k) = w1 at *
          go_wp2
          go_roundw
          case rel => exact ⟨pos + k, hk1', hw1, hlk, HF.out⟩
          case measure => rw [hit, hit0]; omega
    · have hnx : ∀ ty, (Instr.next (.pointer (some ⟨w.heap.size, 0, none⟩)) true ty).run Tryz.prog wr = _ := fun ty => Lib.run_next_end_at wr w.heap.size s pos ty hk hp
      have HF : Hid (badL zs = -1) := badL_none (by
        have h := HS.out
        rw [List.drop_eq_nil_of_le (by omega), scan_nil] at h
        simp at h; omega)
      go_wp2
      go_ret
      exact ⟨ret_int HF.out.symm, hbw⟩
end Go.Proofs.YtckdnhafookcgaaGreatDoor.Utf

namespace Go.Proofs.YtckdnhafookcgaaGreatDoor
open Go.RowKit Go.Lib

theorem u8Extra : U8Extra Tryz.prog Tryz.lays260_ren := ⟨by kernel_rfl, by kernel_rfl, by kernel_rfl, by kernel_rfl, by kernel_rfl, by kernel_rfl, by kernel_rfl⟩
theorem accept_eq : (Rows.laid_unicode_utf8_acceptRanges : DataW Unit) = acceptData := by kernel_rfl
end Go.Proofs.YtckdnhafookcgaaGreatDoor

namespace Go.Proofs.YtckdnhafookcgaaGreatDoor.Num

/-- How many words an operation takes. -/
def arity (op : Int) : Int := if op = 69 ∨ (103 ≤ op ∧ op ≤ 105) then 1 else if (70 ≤ op ∧ op ≤ 79) ∨ (106 ≤ op ∧ op ≤ 120) then 2 else 0
end Go.Proofs.YtckdnhafookcgaaGreatDoor.Num

namespace Go.Proofs.YtckdnhafookcgaaGreatDoor.Num
open Go.RowKit

/-- The table of arities, as the program's text lays it. -/
def arTab : List Int := List.replicate 69 0 ++ [1] ++ List.replicate 10 2 ++ List.replicate 23 0 ++ [1, 1, 1] ++ List.replicate 15 2
/-- The table of arities lies as it was laid. -/
def Arit (w : World) : Prop := ∀ j, j < 121 → w.cell? ⟨1, j, none⟩ = some (.int .u8 (arTab.getD j 0))
theorem Arit.below {w w' : World} (h : Arit w) (hb : Below w.heap.size w w') : Arit w' := fun j hj => keep hb (h j hj)
theorem arTab_at : ∀ j : Fin 121, arTab.getD j.val 0 = arity (j.val : Int) := by decide +kernel
theorem arity_range (op : Int) : 0 ≤ arity op ∧ arity op ≤ 2 := by unfold arity; split <;> (try split) <;> omega
theorem arity_out {op : Int} (h : op < 0 ∨ 121 ≤ op) : arity op = 0 := by unfold arity; rw [if_neg (by omega), if_neg (by omega)]

set_option maxHeartbeats 400000 in
theorem Arity_any (op : Int) (w : World) (hT : Arit w) : Calls Tryz.prog 249 #[.int .i64 op] w fun e w' => e = .returned (.int .i64 (arity op)) ∧ w = w' := by
  obtain ⟨v, hv⟩ : ∃ v, arity op = v := ⟨_, rfl⟩
  by_cases h : 0 ≤ op ∧ op < 121
  · have hc := hT op.toNat (by omega)
    rw [arTab_at ⟨op.toNat, by omega⟩] at hc
    simp only [Int.toNat_of_nonneg h.1] at hc
    have hr := arity_range op
    rw [hv] at hr hc ⊢
    obtain ⟨h0, h1⟩ := h
    obtain ⟨r0, r1⟩ := hr
    clear hv hT
    go_enter Tryz.func249, Tryz.ntmps249
    go_wp2
    go_ret
    exact ⟨rfl, rfl⟩
  · rw [arity_out (by omega)]
    clear hv hT
    have h' : op < 0 ∨ 121 ≤ op := by omega
    clear h
    rcases h' with h' | h'
    all_goals
      go_enter Tryz.func249, Tryz.ntmps249
      go_wp2
      go_ret
      exact ⟨rfl, rfl⟩
end Go.Proofs.YtckdnhafookcgaaGreatDoor.Num

namespace Go.Proofs.YtckdnhafookcgaaGreatDoor
open Go.RowKit Go.Lib

def laid4 : List (String × DataW Unit) := [("unicode/utf8.acceptRanges", Rows.laid_unicode_utf8_acceptRanges), ("gimlet/num.arities", Rows.laid_gimlet_num_arities), ("gimlet/instr.names", Rows.laid_gimlet_instr_names), ("unicode/utf8.first", Rows.laid_unicode_utf8_first)]
theorem arities_eq : (Rows.laid_gimlet_num_arities : DataW Unit) = tabData .u8 Num.arTab := by kernel_rfl
theorem arit_of {W : World} {l : List (String × DataW Unit)} (hm : ("gimlet/num.arities", Rows.laid_gimlet_num_arities) ∈ l) (hL : laidMet Tryz.prog l W) : Num.Arit W := by
  obtain ⟨g, t, cs, fuel, p, hg, hty, hvar, hd⟩ := Lib.laidMet.reads hL hm
  obtain rfl := Option.some.inj ((show Tryz.prog.globalNamed "gimlet/num.arities" = some 1 by kernel_rfl).symm.trans hg)
  obtain rfl := Option.some.inj ((show (Tryz.prog.globals[1]?).map (·.type) = some 315 by kernel_rfl).symm.trans hty)
  rw [arities_eq] at hd
  have hcs := cells_of_tab Tryz.underlying315 Tryz.underlying5 (by kernel_rfl) (by kernel_rfl) hd
  have hlen : Num.arTab.length = 121 := by decide +kernel
  intro j hj
  rw [World.var?_cell hg hvar j, ← Array.getElem?_toList, hcs]
  simp [List.getD, hlen, hj]
theorem tabs_4 {W : World} (hL : laidMet Tryz.prog laid4 W) : Instr.Nams W ∧ Utf.Tabs W ∧ Num.Arit W := by
  refine ⟨nams_of (.tail _ (.tail _ (.head _))) hL, utf8Tabs_of_reads (ρ := Tryz.lays260_ren) Tryz.lays260 u8Extra (Pinned.utf8First_eq ▸ Lib.laidMet.reads hL (.tail _ (.tail _ (.tail _ (.head _))))) ?_, arit_of (.tail _ (.head _)) hL⟩
  have h := Lib.laidMet.reads hL (.head _)
  rw [accept_eq] at h
  exact h
end Go.Proofs.YtckdnhafookcgaaGreatDoor

namespace Go.Proofs.YtckdnhafookcgaaGreatDoor.Kind
open Go.Proofs.YtckdnhafookcgaaGreatDoor.Leb

def okType (p r : Int) : Bool := decide (0 ≤ p) && decide (p ≤ 255) && decide (0 ≤ r) && decide (r ≤ 1)
def okLim (n x : Int) (c : Bool) (most : Int) : Bool := decide (n ≤ most) && (if c then decide (n ≤ x) && decide (x ≤ most) else decide (x = 0))
/-- A reader: its place, its error, the place of that. -/
abbrev Rd := Int × Int × Int
end Go.Proofs.YtckdnhafookcgaaGreatDoor.Kind

namespace Go.Proofs.YtckdnhafookcgaaGreatDoor.Mod
open Go.RowKit Go.Proofs.YtckdnhafookcgaaGreatDoor.Instr

/-- A list of instructions: where it lies, how far it reaches, what it is. -/
structure Lst where
  a : Option Addr
  c : Nat
  t : Il
structure Imp where
  mo : ByteArray
  na : ByteArray
  ty : Int
structure Fn where
  ty : Int
  lo : Int
  l : Lst
structure Li where
  n : Int
  x : Int
  c : Bool
structure Gl where
  mu : Bool
  l : Lst
structure Ex where
  na : ByteArray
  k : Int
  i : Int
structure El where
  l : Lst
  fa : Option Addr
  fc : Nat
  fs : List Int
structure Da where
  l : Lst
  ba : Option Addr
  bc : Nat
  bs : List Int
/-- Where a slice lies, and how far it reaches. -/
structure Sl where
  a : Option Addr
  c : Nat
structure Md where
  ty : List (Int × Int)
  im : List Imp
  fu : List Fn
  tb : List Li
  me : List Li
  gl : List Gl
  ex : List Ex
  st : Bool
  sn : Int
  el : List El
  da : List Da
  ty' : Sl
  im' : Sl
  fu' : Sl
  tb' : Sl
  me' : Sl
  gl' : Sl
  ex' : Sl
  el' : Sl
  da' : Sl

def Lst.val (l : Lst) : Value := .slice l.a l.t.len l.c
def tyV (x : Int × Int) : List Value := [.int .i64 x.1, .int .i64 x.2]
def Imp.v (x : Imp) : List Value := [.string x.mo, .string x.na, .int .i64 x.ty]
def Fn.v (x : Fn) : List Value := [.int .i64 x.ty, .int .i64 x.lo, x.l.val]
def Li.v (x : Li) : List Value := [.int .u32 x.n, .int .u32 x.x, .bool x.c]
def Gl.v (x : Gl) : List Value := [.bool x.mu, x.l.val]
def Ex.v (x : Ex) : List Value := [.string x.na, .int .i64 x.k, .int .u32 x.i]
def El.v (x : El) : List Value := [x.l.val, .slice x.fa x.fs.length x.fc]
def Da.v (x : Da) : List Value := [x.l.val, .slice x.ba x.bs.length x.bc]
/-- A module's cells. -/
def Md.v (m : Md) : Array Value := #[.slice m.ty'.a m.ty.length m.ty'.c, .slice m.im'.a m.im.length m.im'.c, .slice m.fu'.a m.fu.length m.fu'.c, .slice m.tb'.a m.tb.length m.tb'.c, .slice m.me'.a m.me.length m.me'.c,
  .slice m.gl'.a m.gl.length m.gl'.c, .slice m.ex'.a m.ex.length m.ex'.c, .bool m.st, .int .u32 m.sn, .slice m.el'.a m.el.length m.el'.c, .slice m.da'.a m.da.length m.da'.c]

/-- All lists of instructions, in order. -/
def Md.codes (m : Md) : List Lst := m.fu.map (·.l) ++ (m.gl.map (·.l) ++ (m.el.map (·.l) ++ m.da.map (·.l)))
/-- What is told of them all: too many ahead of wrong. -/
def codeP : List Lst → Int
  | [] => 0
  | l :: r => if checkP l.t = 141 then 141 else if codeP r = 141 then 141 else if checkP l.t = 0 then codeP r else 2
theorem checkP_cases (t : Il) : checkP t = 0 ∨ checkP t = 141 ∨ checkP t = 2 := by
  unfold checkP; split
  · split <;> simp
  · simp
theorem codeP_cons (l : Lst) (r : List Lst) : codeP (l :: r) = if checkP l.t = 141 then 141 else if codeP r = 141 then 141 else if checkP l.t = 0 then codeP r else 2 := rfl
theorem codeP_cases : ∀ l : List Lst, codeP l = 0 ∨ codeP l = 141 ∨ codeP l = 2
  | [] => .inl rfl
  | l :: r => by
    rw [codeP_cons]
    have := codeP_cases r
    split
    · simp
    · split
      · simp
      · split
        · exact this
        · simp
def worstP : List Lst → Int → Int
  | [], x => x
  | l :: r, x => worstP r (if checkP l.t = 0 then x else checkP l.t)
theorem worstP_append : ∀ (l r : List Lst) (x : Int), worstP (l ++ r) x = worstP r (worstP l x)
  | [], _, _ => rfl
  | a :: l, r, x => by simp only [List.cons_append, worstP]; exact worstP_append l r _
/-- As the program goes: no list has too many, and what the last wrong one told. -/
theorem codeP_none : ∀ (l : List Lst) (x : Int), (∀ y ∈ l, checkP y.t ≠ 141) → (x = 0 ∨ x = 2) → worstP l x = (if x = 2 then 2 else codeP l) ∧ codeP l ≠ 141
  | [], x, _, hx => by
    simp only [worstP, codeP]
    split <;> omega
  | l :: r, x, h, hx => by
    have h0 := h l (by simp)
    have hr : ∀ y ∈ r, checkP y.t ≠ 141 := fun y hy => h y (by simp [hy])
    have hc := checkP_cases l.t
    simp only [worstP]
    by_cases h1 : checkP l.t = 0
    · obtain ⟨i1, i2⟩ := codeP_none r x hr hx
      have e : codeP (l :: r) = codeP r := by rw [codeP_cons, if_neg h0, if_neg i2, if_pos h1]
      rw [if_pos h1, i1, e]
      exact ⟨rfl, i2⟩
    · have h2 : checkP l.t = 2 := by omega
      obtain ⟨i1, i2⟩ := codeP_none r 2 hr (.inr rfl)
      have e : codeP (l :: r) = 2 := by rw [codeP_cons, if_neg h0, if_neg i2, if_neg h1]
      rw [if_neg h1, h2, i1, if_pos rfl, e]
      exact ⟨by split <;> rfl, by omega⟩
theorem codeP_many : ∀ (l : List Lst) (y : Lst), y ∈ l → checkP y.t = 141 → codeP l = 141
  | [], y, h, _ => by simp at h
  | l :: r, y, h, h1 => by
    rw [codeP_cons]
    rcases List.mem_cons.1 h with rfl | h
    · rw [if_pos h1]
    · split
      · rfl
      · rw [if_pos (codeP_many r y h h1)]
theorem codeP_zero : ∀ (l : List Lst), codeP l = 0 ↔ ∀ y ∈ l, checkP y.t = 0
  | [] => by simp [codeP]
  | l :: r => by
    rw [codeP_cons, List.forall_mem_cons, ← codeP_zero r]
    have := checkP_cases l.t
    have := codeP_cases r
    (repeat' split) <;> omega

/-- The place of the first item of which p holds; -1 if there is none. -/
def idxP {α : Type} (p : α → Bool) (l : List α) : Int := match l.findIdx? p with
  | some i => (i : Int)
  | none => -1
theorem idxP_hit {α : Type} {p : α → Bool} {l : List α} {k : Nat} (hk : k < l.length) (h : p l[k] = true) (hb : ∀ j (hj : j < l.length), j < k → p l[j] = false) : idxP p l = k := by
  have : l.findIdx? p = some k := List.findIdx?_eq_some_iff_getElem.2 ⟨hk, h, fun j hj => by rw [hb j (by omega) hj]; simp⟩
  unfold idxP; rw [this]
theorem idxP_miss {α : Type} {p : α → Bool} {l : List α} (hb : ∀ j (hj : j < l.length), p l[j] = false) : idxP p l = -1 := by
  have : l.findIdx? p = none := List.findIdx?_eq_none_iff.2 fun x hx => by
    obtain ⟨j, hj, rfl⟩ := List.mem_iff_getElem.1 hx
    exact hb j hj
  unfold idxP; rw [this]
theorem idxP_any {α : Type} (p : α → Bool) (l : List α) : decide (0 ≤ idxP p l) = l.any p := by
  cases h : l.findIdx? p with
  | none =>
    have h1 := List.findIdx?_eq_none_iff.1 h
    have : l.any p = false := by rw [List.any_eq_false]; intro x hx; rw [h1 x hx]; simp
    rw [this]; unfold idxP; rw [h]; simp
  | some i =>
    obtain ⟨hi, h1, _⟩ := List.findIdx?_eq_some_iff_getElem.1 h
    have : l.any p = true := List.any_eq_true.2 ⟨l[i], List.getElem_mem hi, h1⟩
    rw [this]; unfold idxP; rw [h]; simp
theorem idxP_bounds {α : Type} (p : α → Bool) (l : List α) : -1 ≤ idxP p l ∧ idxP p l < l.length := by
  unfold idxP
  cases h : l.findIdx? p with
  | none => simp; omega
  | some i =>
    obtain ⟨hi, _, _⟩ := List.findIdx?_eq_some_iff_getElem.1 h
    simp; omega

/-- Has a list too many items? -/
def Md.crowded (m : Md) : Bool :=
  decide (16384 < m.ty.length) || decide (16384 < m.im.length) || decide (16384 < m.fu.length) || decide (16384 < m.gl.length) || decide (16384 < m.ex.length) || decide (16384 < m.el.length) || decide (16384 < m.da.length) ||
    (m.el.any fun e => decide (16384 < e.fs.length)) || decide (1 < m.tb.length) || decide (1 < m.me.length)
/-- The longest of these lists of functions, and of what is longest besides. -/
def longP (l : List El) (x : Int) : Int := l.foldl (fun x e => max x (e.fs.length : Int)) x
theorem longP_snoc (l : List El) (e : El) (x : Int) : longP (l ++ [e]) x = max (longP l x) (e.fs.length : Int) := by simp [longP, List.foldl_append]
theorem longP_gt : ∀ (l : List El) (x : Int), decide (16384 < longP l x) = (decide (16384 < x) || l.any fun e => decide (16384 < e.fs.length))
  | [], x => (Bool.or_false _).symm
  | e :: l, x => by
    have := longP_gt l (max x (e.fs.length : Int))
    unfold longP at this ⊢
    rw [List.foldl_cons, this, List.any_cons, ← Bool.or_assoc]
    congr 1
    rw [Bool.eq_iff_iff]
    simp only [Bool.or_eq_true, decide_eq_true_eq]
    omega
def Md.max7 (m : Md) : Int := max (max (max (max (max (max (m.ty.length : Int) m.im.length) m.fu.length) m.gl.length) m.ex.length) m.el.length) m.da.length
theorem crowded_eq (m : Md) : m.crowded = (decide (16384 < longP m.el m.max7) || (decide (1 < m.tb.length) || decide (1 < m.me.length))) := by
  rw [longP_gt]
  have : decide (16384 < m.max7) = (decide (16384 < m.ty.length) || decide (16384 < m.im.length) || decide (16384 < m.fu.length) || decide (16384 < m.gl.length) || decide (16384 < m.ex.length) || decide (16384 < m.el.length) || decide (16384 < m.da.length)) := by
    unfold Md.max7
    rw [Bool.eq_iff_iff]
    simp only [Bool.or_eq_true, decide_eq_true_eq]
    omega
  rw [this]
  unfold Md.crowded
  simp only [Bool.or_assoc]
def longS (s : ByteArray) : Bool := decide (1000 < s.size)
def noText (s : ByteArray) : Bool := decide (0 ≤ Utf.badL (numsOf s))
def Md.anyName (m : Md) (p : ByteArray → Bool) : Bool := (m.im.any fun i => p i.mo || p i.na) || (m.ex.any fun e => p e.na)
def sumB : List Da → Nat
  | [] => 0
  | d :: r => d.bs.length + sumB r
theorem sumB_append : ∀ (l r : List Da), sumB (l ++ r) = sumB l + sumB r
  | [], r => by simp [sumB]
  | d :: l, r => by simp only [List.cons_append, sumB, sumB_append l r]; omega
theorem sumB_take (l : List Da) (k : Nat) : sumB (l.take k) ≤ sumB l := by
  have := sumB_append (l.take k) (l.drop k)
  rw [List.take_append_drop] at this
  omega
theorem sumB_step {l : List Da} {k : Nat} (hk : k < l.length) : sumB (l.take (k + 1)) = sumB (l.take k) + l[k].bs.length := by
  rw [List.take_succ_eq_append_getElem hk, sumB_append]; rfl
def Md.heavy (m : Md) : Bool := decide (1048576 < sumB m.da)
def wrongN (n : Int) : Bool := decide (n < 0) || decide (2147483647 < n)
def wrongT (t : Int × Int) : Bool := !Kind.okType t.1 t.2
def wrongI (i : Imp) : Bool := wrongN i.ty
def wrongF (f : Fn) : Bool := wrongN f.ty || (decide (f.lo < 0) || decide (50000 < f.lo))
def wrongE (e : Ex) : Bool := decide (e.k < 0) || decide (3 < e.k)
def beyond (most : Int) (l : Li) : Bool := !Kind.okLim l.n l.x l.c most
/-- What else is wrong. -/
def Md.wrong (m : Md) : Bool :=
  m.anyName noText || m.ty.any wrongT || m.im.any wrongI || m.fu.any wrongF || m.ex.any wrongE || m.tb.any (beyond 1048576) || m.me.any (beyond 65536) || (!m.st && decide (m.sn ≠ 0))
/-- P7.1. -/
def Md.check (m : Md) : Int :=
  if m.crowded then 141 else if codeP m.codes = 141 then 141 else if m.anyName longS then 3 else if m.heavy then 3 else if codeP m.codes = 2 then 2 else if m.wrong then 2 else 0

/-- The number of a function's type; -1 if there is no such function. -/
def Md.typeN (m : Md) (n : Nat) : Int :=
  if n < m.im.length then ((m.im.map (·.ty)).getD n 0) else if n < m.im.length + m.fu.length then ((m.fu.map (·.ty)).getD (n - m.im.length) 0) else -1
/-- P7.2: a function's type, and whether it is there. -/
def Md.typeOf (m : Md) (n : Nat) : (Int × Int) × Bool :=
  if m.typeN n < 0 ∨ (m.ty.length : Int) ≤ m.typeN n then ((0, 0), false) else (m.ty.getD (m.typeN n).toNat (0, 0), true)
def countL : List Lst → Nat
  | [] => 0
  | l :: r => l.t.count + countL r
def Md.size (m : Md) : Nat := countL m.codes
end Go.Proofs.YtckdnhafookcgaaGreatDoor.Mod

namespace Go.Proofs.YtckdnhafookcgaaGreatDoor.Stk
open Go.RowKit
set_option linter.unusedVariables false

/-- From address a on lie these rows, each of sz cells; below block n₀. -/
def Rows (n₀ : Nat) (w : World) (a : Option Addr) (sz : Nat) (rs : List (List Value)) : Prop :=
  rs = [] ∨ ∃ b off, a = some ⟨b, off, none⟩ ∧ b < n₀ ∧ ∀ i, i < rs.length → ∀ j, j < sz → ∀ v, (rs.getD i [])[j]? = some v → w.cell? ⟨b, off + i * sz + j, none⟩ = some v
theorem Rows.below {n₀ sz : Nat} {w w' : World} {a : Option Addr} {rs : List (List Value)} (hb : Below n₀ w w') (h : Rows n₀ w a sz rs) : Rows n₀ w' a sz rs := by
  rcases h with h | ⟨b, off, ha, hl, hc⟩
  · exact .inl h
  · exact .inr ⟨b, off, ha, hl, fun i hi j hj v hv => (hb.cell (p := ⟨b, off + i * sz + j, none⟩) hl).trans (hc i hi j hj v hv)⟩
theorem Rows.more {n₀ n₁ sz : Nat} {w : World} {a : Option Addr} {rs : List (List Value)} (hn : n₀ ≤ n₁) (h : Rows n₀ w a sz rs) : Rows n₁ w a sz rs := by
  rcases h with h | ⟨b, off, ha, hl, hc⟩
  · exact .inl h
  · exact .inr ⟨b, off, ha, by omega, hc⟩
theorem flat_length {α : Type} {sz : Nat} : ∀ (rs : List (List α)) (_ : ∀ r ∈ rs, r.length = sz), rs.flatten.length = rs.length * sz
  | [], _ => by simp
  | r :: rs, h => by
    rw [List.flatten_cons, List.length_append, h r (by simp), flat_length rs (fun x hx => h x (by simp [hx])), List.length_cons, Nat.succ_mul]
    omega
theorem flat_get {α : Type} {sz : Nat} : ∀ (rs : List (List α)) (_ : ∀ r ∈ rs, r.length = sz) (i j : Nat) (_ : i < rs.length) (_ : j < sz), rs.flatten[i * sz + j]? = (rs.getD i [])[j]?
  | [], _, i, _, hi, _ => by simp at hi
  | r :: rs, h, 0, j, _, hj => by
    rw [List.flatten_cons, Nat.zero_mul, Nat.zero_add, List.getElem?_append_left (by rw [h r (by simp)]; exact hj)]
    rfl
  | r :: rs, h, i + 1, j, hi, hj => by
    have hr := h r (by simp)
    have e : (i + 1) * sz = i * sz + sz := Nat.succ_mul i sz
    rw [List.flatten_cons, List.getElem?_append_right (by rw [hr, e]; omega), hr]
    have e2 : (i + 1) * sz + j - sz = i * sz + j := by rw [e]; omega
    rw [e2, flat_get rs (fun x hx => h x (by simp [hx])) i j (by simpa using hi) hj]
    rfl
/-- Rows that a call made itself, each of sz cells. -/
structure OwnR (e : TypeId) (sz base : Nat) (w : World) (v : Value) (rs : List (List Value)) : Prop where
  row : w.ownsRow base e sz v rs.length rs.flatten
  len : ∀ r ∈ rs, r.length = sz
theorem OwnR.start (e : TypeId) (sz base : Nat) (w : World) : OwnR e sz base w (.slice none 0 0) [] := ⟨World.ownsRow_nil _ _ _ _, by simp⟩
theorem OwnR.made (e : TypeId) (sz : Nat) (w : World) : OwnR e sz w.heap.size (w.alloc (.cells #[] e)) (.slice (some ⟨w.heap.size, 0, none⟩) 0 0) [] := ⟨World.ownsRow_made w #[] 0 (Nat.le_refl _) (by unfold maxLen; omega) (by simp), by simp⟩
theorem OwnR.below {e : TypeId} {sz base : Nat} {w w' : World} {v : Value} {rs : List (List Value)} (h : OwnR e sz base w v rs) (hb : Below w.heap.size w w') : OwnR e sz base w' v rs := by
  refine ⟨⟨h.row.1, ?_⟩, h.len⟩
  rcases h.row.2 with h0 | ⟨g, cap, cur, hv, hg, hh, rest⟩
  · exact .inl h0
  · exact .inr ⟨g, cap, cur, hv, hg, (hb.block g (Array.getElem?_eq_some_iff.1 hh).1).trans hh, rest⟩
theorem OwnR.mono {e : TypeId} {sz base base' : Nat} {w : World} {v : Value} {rs : List (List Value)} (h : OwnR e sz base w v rs) (hb : base' ≤ base) : OwnR e sz base' w v rs := by
  refine ⟨⟨h.row.1, ?_⟩, h.len⟩
  rcases h.row.2 with h0 | ⟨g, cap, cur, hv, hg, rest⟩
  · exact .inl h0
  · exact .inr ⟨g, cap, cur, hv, Nat.le_trans hb hg, rest⟩
/-- As a slice in memory. -/
theorem OwnR.rows {e : TypeId} {sz base : Nat} {w : World} {v : Value} {rs : List (List Value)} (h : OwnR e sz base w v rs) : ∃ a c, v = .slice a rs.length c ∧ Rows w.heap.size w a sz rs ∧ ∀ g, v.ownBlock = some g → base ≤ g := by
  have hl := World.ownsRow.lt h.row
  rcases h.row.2 with ⟨rfl, h0⟩ | ⟨g, cap, cur, rfl, hg, hh, h2, h3, h4, h5⟩
  · exact ⟨none, 0, by rw [h0], .inl (List.eq_nil_of_length_eq_zero h0), fun g hg => (hl g hg).1⟩
  · refine ⟨_, cap, rfl, .inr ⟨g, 0, rfl, (hl g rfl).2, fun i hi j hj u hu => ?_⟩, fun g hg => (hl g hg).1⟩
    have hf := flat_get rs h.len i j hi hj
    rw [hu] at hf
    have := World.ownsRow.cells h.row (g := g) rfl (i * sz + j) u hf
    have hplain : (⟨g, 0, none⟩ : Addr).add (i * sz + j) = ⟨g, 0 + i * sz + j, none⟩ := by unfold Addr.add; split <;> simp_all <;> omega
    rw [hplain] at this
    exact this

theorem run_append_none (w : World) (base : Nat) (t ty e : TypeId) (i : TypeInfo) (size c : Nat) (ht : Tryz.prog.underlying t = some (.slice e)) (hi : Tryz.prog.info? e = some i)
    (v : Value) (n : Nat) (xs : List Value) (hown : w.ownsRow base e size v n xs) :
    (Builtin.append_ #[t, t] ty #[v, .slice none 0 c]).run Tryz.prog w = .ok v w := by
  rcases hown.2 with ⟨rfl, rfl⟩ | ⟨g, cap, cur, rfl, _, _, hnc, _⟩
  · simp [Builtin.append_, run_underlying ht, sizeOf, typeInfo, hi, Builtin.lenOf, Builtin.firstCells]
  · simp [Builtin.append_, run_underlying ht, sizeOf, typeInfo, hi, Builtin.lenOf, Builtin.firstCells, hnc, storeCells]
section
variable {ops : Array Oper} {rest : List Oper} {o : Oper} {act : Act} {Q : Exit → Act → World → Prop}
theorem append_none (hgd : o.guard = none) (s x : Operand) (t : TypeId) (ho : o.op = .call { callee := .builtin .append, args := #[s, x], argTypes := #[t, t] })
    {w : World} (base : Nat) (e : TypeId) (i : TypeInfo) (size c : Nat) (ht : Tryz.prog.underlying t = some (.slice e)) (hi : Tryz.prog.info? e = some i)
    (v : Value) (n : Nat) (xs : List Value) (hs : act.eval s = v) (hown : w.ownsRow base e size v n xs) (hx : act.eval x = .slice none 0 c)
    (h : wpList Tryz.prog ops Q rest (act.put o.dst v) w) : wpList Tryz.prog ops Q (o :: rest) act w := by
  refine wpList_plain hgd fun K hK => ?_
  have hrun := run_append_none w base t o.type e i size c ht hi v n xs hown
  unfold Oper.wp
  simp [execOp, ho, resolve, invoke, builtin, hs, hx, hrun, Result.andThen]
  exact hK _ _ h
end
section
variable {ops : Array Oper} {rest : List Oper} {o : Oper} {act : Act} {Q : Exit → Act → World → Prop}
/-- Rows that lie somewhere are appended. -/
theorem append_rows {e ts : TypeId} {sz nb : Nat} {z : Value} (inf : (Tryz.prog.info? e).map (fun i => (i.zero, i.size, i.bytes)) = some (some z, sz, nb)) (hz : z.cells.size = sz) (h0 : 0 < sz) (hnb : nb ≤ 1000) (ut : Tryz.prog.underlying ts = some (.slice e))
    (hgd : o.guard = none) (s x : Operand) (ho : o.op = .call { callee := .builtin .append, args := #[s, x], argTypes := #[ts, ts] })
    {base : Nat} {w0 wr : World} {v : Value} {xs : List (List Value)} (ys : List (List Value)) (hs : act.eval s = v) (hown : OwnR e sz base wr v xs) (hb : Below base w0 wr) (hbase : base ≤ wr.heap.size)
    (ad : Addr) (m c : Nat) (hm : ys.length = m) (hx : act.eval x = .slice (some ad) m c) (hy : ∀ r ∈ ys, r.length = sz) (hnews : ∀ j u, ys.flatten[j]? = some u → wr.cell? (ad.add j) = some u) (h1 : ∀ r ∈ ys, ∀ u ∈ r, u.oneCell' = true)
    (hl : xs.length + m ≤ 1000000000)
    (h : ∀ v' w', OwnR e sz base w' v' (xs ++ ys) → Below base w0 w' → base ≤ w'.heap.size → wr.grownBy w' v.ownBlock → wpList Tryz.prog ops Q rest (act.put o.dst v') w') :
    wpList Tryz.prog ops Q (o :: rest) act wr := by
  obtain ⟨i0, hi, hz0, hz1, hz2⟩ := info_parts inf
  subst hm
  refine wpList_append_own _ hgd s x ts ho base e i0 z sz nb ut hi hz0 hz1 hz2 hz h0 v xs.length _ hs hown.row ad ys.length c ys.flatten hx (flat_length ys hy)
    hnews (fun u hu => ?_) (by unfold maxLen; omega) ?_ hbase (fun v' w' hown' hgrow _ => ?_)
  · obtain ⟨r, hr, hur⟩ := List.mem_flatten.1 hu
    exact h1 r hr u hur
  · calc (xs.length + ys.length) * nb ≤ 1000000000 * 1000 := Nat.mul_le_mul hl hnb
      _ ≤ _ := by omega
  · refine h v' w' ⟨?_, ?_⟩ (hb.grown hgrow hbase (fun k hk => (World.ownsRow.lt hown.row k hk).1)) (by have := hgrow.size; omega) hgrow
    · rw [List.length_append, List.flatten_append]; exact hown'
    · intro r hr
      rcases List.mem_append.1 hr with hr | hr
      · exact hown.len r hr
      · exact hy r hr
end
section
variable {ops : Array Oper} {rest : List Oper} {o : Oper} {act : Act} {Q : Exit → Act → World → Prop}
/-- A whole list that lies somewhere is appended. -/
theorem append_list {e ts : TypeId} {sz nb : Nat} {z : Value} (inf : (Tryz.prog.info? e).map (fun i => (i.zero, i.size, i.bytes)) = some (some z, sz, nb)) (hz : z.cells.size = sz) (h0 : 0 < sz) (hnb : nb ≤ 1000) (ut : Tryz.prog.underlying ts = some (.slice e))
    (hgd : o.guard = none) (s x : Operand) (ho : o.op = .call { callee := .builtin .append, args := #[s, x], argTypes := #[ts, ts] })
    {base : Nat} {wr : World} {v : Value} (hs : act.eval s = v) (hown : OwnR e sz base wr v []) (hbase : base ≤ wr.heap.size)
    (a2 : Option Addr) (n c : Nat) (hx : act.eval x = .slice a2 n c) (ys : List (List Value)) (hn : ys.length = n) (hy : Rows wr.heap.size wr a2 sz ys) (hlen : ∀ r ∈ ys, r.length = sz) (h1 : ∀ r ∈ ys, ∀ u ∈ r, u.oneCell' = true)
    (hl : ys.length ≤ 1000000000)
    (h : ∀ v' w', OwnR e sz base w' v' ys → Below base wr w' → base ≤ w'.heap.size → wpList Tryz.prog ops Q rest (act.put o.dst v') w') :
    wpList Tryz.prog ops Q (o :: rest) act wr := by
  obtain ⟨i0, hi, hz0, hz1, hz2⟩ := info_parts inf
  subst hn
  have hb0 := Below.refl base wr
  rcases hy with h2 | ⟨b, off, rfl, hlt, hc⟩
  · subst h2
    cases a2 with
    | none => exact append_none hgd s x ts ho base e i0 sz c ut hi v _ _ hs hown.row hx (h v wr hown hb0 hbase)
    | some ad =>
      refine append_rows inf hz h0 hnb ut hgd s x ho (xs := []) [] hs hown hb0 hbase ad 0 c rfl hx (by simp) (by simp) (by simp) (by simp) (fun v' w' h3 h4 h5 _ => h v' w' h3 h4 h5)
  · refine append_rows inf hz h0 hnb ut hgd s x ho (xs := []) ys hs hown hb0 hbase ⟨b, off, none⟩ ys.length c rfl hx hlen (fun j u hj => ?_) h1 (by simpa using hl) (fun v' w' h3 h4 h5 _ => h v' w' h3 h4 h5)
    have hfl := flat_length ys hlen
    have hjl : j < ys.length * sz := by
      rcases Nat.lt_or_ge j (ys.length * sz) with h | h
      · exact h
      · rw [List.getElem?_eq_none (by omega)] at hj; cases hj
    have hq : j / sz < ys.length := (Nat.div_lt_iff_lt_mul h0).2 hjl
    have hr : j % sz < sz := Nat.mod_lt _ h0
    have hjj : j / sz * sz + j % sz = j := by rw [Nat.mul_comm]; exact Nat.div_add_mod j sz
    have hg := flat_get ys hlen (j / sz) (j % sz) hq hr
    rw [hjj, hj] at hg
    have := hc (j / sz) hq (j % sz) hr u hg.symm
    rw [Nat.add_assoc, hjj] at this
    have hplain : (⟨b, off, none⟩ : Addr).add j = ⟨b, off + j, none⟩ := by unfold Addr.add; split <;> simp_all
    rw [hplain]
    exact this
end
section
variable {ops : Array Oper} {rest : List Oper} {o : Oper} {act : Act} {Q : Exit → Act → World → Prop}
end
theorem OwnR.madeG {W : World} (e : TypeId) (sz g : Nat) (hg : g = W.heap.size) : OwnR e sz g (W.alloc (.cells #[] e)) (.slice (some ⟨g, 0, none⟩) 0 0) [] := by
  subst hg; exact OwnR.made e sz W
theorem OwnR.alloc {e : TypeId} {sz base : Nat} {w : World} {v : Value} {rs : List (List Value)} (h : OwnR e sz base w v rs) (o : Obj) : OwnR e sz base (w.alloc o) v rs := h.below ((Below.refl _ _).alloc (Nat.le_refl _) o)
/-- A store below it turns no row. -/
theorem OwnR.setCell {e : TypeId} {sz base : Nat} {w : World} {v : Value} {rs : List (List Value)} (h : OwnR e sz base w v rs) {p : Addr} (hp : p.block < base) (u : Value) : OwnR e sz base (w.setCell p u) v rs := by
  refine ⟨⟨h.row.1, ?_⟩, h.len⟩
  rcases h.row.2 with h0 | ⟨g, cap, cur, hv, hg, hh, rest⟩
  · exact .inl h0
  · exact .inr ⟨g, cap, cur, hv, hg, (Below.heap_setCell w p u g (by omega)).trans hh, rest⟩
end Go.Proofs.YtckdnhafookcgaaGreatDoor.Stk

namespace Go.Proofs.YtckdnhafookcgaaGreatDoor.Stk
open Go.RowKit
set_option linter.unusedVariables false

/-- A frame. -/
structure Fr where
  (op ba re : Int)
  de : Bool
def Fr.v (f : Fr) : List Value := [.int .i64 f.op, .int .i64 f.ba, .int .i64 f.re, .bool f.de]
def Fr.none : Fr := ⟨0, 0, 0, false⟩
def opens (op : Int) : Bool := decide (op = 2) || decide (op = 3) || decide (op = 4) || decide (op = 5)
def wrongRe (r : Int) : Bool := decide (r < 0) || decide (1 < r)
/-- Is a frame behind one of base b wrong? -/
def badF (h b : Int) (f : Fr) : Bool := !opens f.op || decide (f.ba < b) || decide (h < f.ba) || wrongRe f.re
def badL (h : Int) : Int → List Fr → Bool
  | _, [] => false
  | b, f :: l => badF h b f || badL h f.ba l
def badFirst (f : Fr) : Bool := decide (f.op ≠ 0) || decide (f.ba ≠ 0) || wrongRe f.re
def badAll (h : Int) : List Fr → Bool
  | [] => true
  | f :: l => decide (1000 < l.length + 1) || (badFirst f || badL h 0 l)
def valid (h : Int) (l : List Fr) : Bool := decide (0 ≤ h) && decide (h ≤ 1073741824) && !badAll h l
def chk (h : Int) (l : List Fr) : Int := if valid h l then 0 else 2
def lastF (l : List Fr) : Fr := l.getD (l.length - 1) Fr.none
/-- A stand, and an error. -/
structure R where
  h : Int
  l : List Fr
  e : Int
def bad (e : Int) : R := ⟨0, [], e⟩
def newR (r : Int) : R := if wrongRe r then bad 2 else ⟨0, [⟨0, 0, r, false⟩], 0⟩
def pushR (h : Int) (l : List Fr) (n : Int) : R := if valid h l = false then bad 2 else if n < 0 then bad 2 else if 1073741824 - h < n then bad 8 else ⟨h + n, l, 0⟩
/-- What stands when n words have been taken in a frame. -/
def without (h n : Int) (f : Fr) : Int × Int := if h - f.ba < n ∧ f.de = false then (0, 200) else (if f.ba ≤ h - n then h - n else f.ba, 0)
def popR (h : Int) (l : List Fr) (n : Int) : R := if valid h l = false then bad 2 else if n < 0 then bad 2 else if (without h n (lastF l)).2 = 0 then ⟨(without h n (lastF l)).1, l, 0⟩ else bad (without h n (lastF l)).2
def deadR (h : Int) (l : List Fr) : R := if valid h l = false then bad 2 else ⟨(lastF l).ba, l.set (l.length - 1) { lastF l with de := true }, 0⟩
def enterR (h : Int) (l : List Fr) (op r : Int) : R := if valid h l = false then bad 2 else if opens op = false ∨ wrongRe r = true then bad 2 else if l.length = 1000 then bad 8 else ⟨h, l ++ [⟨op, h, r, false⟩], 0⟩
def leaveR (h : Int) (l : List Fr) : R :=
  if valid h l = false then bad 2 else if (without h (lastF l).re (lastF l)).2 ≠ 0 then bad (without h (lastF l).re (lastF l)).2 else if (lastF l).ba < (without h (lastF l).re (lastF l)).1 then bad 201
  else ⟨(without h (lastF l).re (lastF l)).1 + (lastF l).re, l.take (l.length - 1), 0⟩
def labelR (h : Int) (l : List Fr) (n : Int) : Int × Int :=
  if valid h l = false then (0, 2) else if n < 0 ∨ (l.length : Int) ≤ n then (0, 6) else if (l.getD (l.length - 1 - n.toNat) Fr.none).op = 3 then (0, 0) else ((l.getD (l.length - 1 - n.toNat) Fr.none).re, 0)

theorem valid_yes {h : Int} {l : List Fr} (hv : valid h l = true) : 0 ≤ h ∧ h ≤ 1073741824 ∧ l ≠ [] ∧ l.length ≤ 1000 := by
  unfold valid at hv
  simp only [Bool.and_eq_true, decide_eq_true_eq, Bool.not_eq_true'] at hv
  obtain ⟨⟨h1, h2⟩, h3⟩ := hv
  cases l with
  | nil => simp [badAll] at h3
  | cons f l =>
    simp only [badAll, Bool.or_eq_false_iff, decide_eq_false_iff_not] at h3
    exact ⟨h1, h2, by simp, by simp; omega⟩
theorem badF_no {h b : Int} {f : Fr} (hv : badF h b f = false) : opens f.op = true ∧ b ≤ f.ba ∧ f.ba ≤ h ∧ 0 ≤ f.re ∧ f.re ≤ 1 := by
  unfold badF wrongRe at hv
  simp only [Bool.or_eq_false_iff, decide_eq_false_iff_not, Bool.not_eq_false', Int.not_lt] at hv
  obtain ⟨⟨⟨h1, h2⟩, h3⟩, h4, h5⟩ := hv
  exact ⟨h1, h2, h3, h4, h5⟩
/-- What each frame of a list that may be is. -/
def fine (h : Int) (f : Fr) : Prop := 0 ≤ f.ba ∧ f.ba ≤ h ∧ 0 ≤ f.re ∧ f.re ≤ 1
theorem badL_no {h : Int} : ∀ {b : Int} {l : List Fr}, 0 ≤ b → badL h b l = false → ∀ f ∈ l, fine h f
  | _, [], _, _, f, hf => by simp at hf
  | b, g :: l, hb, hv, f, hf => by
    simp only [badL, Bool.or_eq_false_iff] at hv
    obtain ⟨h1, h2, h3, h4, h5⟩ := badF_no hv.1
    rcases List.mem_cons.1 hf with rfl | hf
    · exact ⟨by omega, h3, h4, h5⟩
    · exact badL_no (by omega) hv.2 f hf
theorem valid_fine {h : Int} {l : List Fr} (hv : valid h l = true) : ∀ f ∈ l, fine h f := by
  have ⟨h1, _⟩ := valid_yes hv
  unfold valid at hv
  simp only [Bool.and_eq_true, decide_eq_true_eq, Bool.not_eq_true'] at hv
  obtain ⟨_, h3⟩ := hv
  cases l with
  | nil => simp
  | cons g l =>
    simp only [badAll, Bool.or_eq_false_iff, badFirst, wrongRe, decide_eq_false_iff_not, Int.not_lt, ne_eq, Decidable.not_not] at h3
    obtain ⟨_, ⟨⟨h4, h5⟩, h6, h7⟩, h8⟩ := h3
    intro f hf
    rcases List.mem_cons.1 hf with rfl | hf
    · exact ⟨by omega, by omega, h6, h7⟩
    · exact badL_no (by omega) h8 f hf
theorem lastF_mem {l : List Fr} (h : l ≠ []) : lastF l ∈ l := by
  have hl : 0 < l.length := List.length_pos_iff.2 h
  unfold lastF
  rw [List.getD_eq_getElem?_getD, List.getElem?_eq_getElem (by omega)]
  exact List.getElem_mem _
theorem lastF_fine {h : Int} {l : List Fr} (hv : valid h l = true) : fine h (lastF l) := valid_fine hv _ (lastF_mem (valid_yes hv).2.2.1)
/-- From the k-th one on. -/
theorem badL_at {h b : Int} {l : List Fr} {k : Nat} (hk : k < l.length) : badL h b (l.drop k) = (badF h b l[k] || badL h l[k].ba (l.drop (k + 1))) := by
  rw [List.drop_eq_getElem_cons hk]; rfl
end Go.Proofs.YtckdnhafookcgaaGreatDoor.Stk

namespace Go.Proofs.YtckdnhafookcgaaGreatDoor
open Go.RowKit

structure Save (k : Nat) (w w' : World) : Prop where
  os : w'.os = w.os
  tape : w'.tape = w.tape
  output : w'.output = w.output
  size : w.heap.size ≤ w'.heap.size
  block : ∀ j, j < w.heap.size → j ≠ k → w'.heap[j]? = w.heap[j]?

theorem Save.refl (k : Nat) (w : World) : Save k w w := ⟨rfl, rfl, rfl, Nat.le_refl _, fun _ _ _ => rfl⟩
theorem Save.trans {k : Nat} {a b c : World} (h : Save k a b) (g : Save k b c) : Save k a c :=
  ⟨g.os.trans h.os, g.tape.trans h.tape, g.output.trans h.output, Nat.le_trans h.size g.size, fun j hj hk => (g.block j (Nat.lt_of_lt_of_le hj h.size) hk).trans (h.block j hj hk)⟩
theorem Save.of_below {k : Nat} {w w' : World} (h : Below w.heap.size w w') : Save k w w' := ⟨h.os, h.tape, h.output, h.size, fun j hj _ => h.block j hj⟩
theorem Save.below {k B : Nat} {w w' : World} (h : Save k w w') (hB : B ≤ w.heap.size) (hk : B ≤ k) : Below B w w' :=
  ⟨h.os, h.tape, h.output, h.size, fun j hj => h.block j (by omega) (by omega)⟩
theorem Save.alloc {k : Nat} {w w' : World} (h : Save k w w') (o : Obj) : Save k w (w'.alloc o) := h.trans (.of_below ((Below.refl _ _).alloc (Nat.le_refl _) o))
theorem Save.setCell {k : Nat} {w w' : World} (h : Save k w w') {p : Addr} (hp : p.block = k ∨ w.heap.size ≤ p.block) (u : Value) : Save k w (w'.setCell p u) :=
  ⟨h.os, h.tape, h.output, by have := h.size; simpa [World.setCell] using this, fun j hj hk => (Below.heap_setCell _ _ _ _ (by omega)).trans (h.block j hj hk)⟩
theorem Save.cell {k : Nat} {w w' : World} (h : Save k w w') {p : Addr} {v : Value} (hk : p.block ≠ k) (hc : w.cell? p = some v) : w'.cell? p = some v :=
  (World.cell?_of_block (w := w) (h.block p.block (World.block_lt_of_cell? w _ hc) hk)).trans hc
theorem Save.frozen {k : Nat} {w w' : World} (h : Save k w w') {p : Addr} {b : Bool} (hp : p.block < w.heap.size) (hk : p.block ≠ k) (hc : w.frozen? p = b) : w'.frozen? p = b :=
  (World.frozen?_of_block (w := w) (h.block p.block hp hk)).trans hc
theorem Bytes.save {k : Nat} {w w' : World} {a : Option Addr} {zs : List Int} (h : Bytes w a zs) (hs : Save k w w') (ha : ∀ b off, a = some ⟨b, off, none⟩ → zs ≠ [] → b ≠ k) : Bytes w' a zs := by
  refine ⟨h.byte, h.size, ?_⟩
  by_cases h9 : zs = []
  · exact .inl h9
  rcases h.at_ with h0 | ⟨b, off, rfl, hc⟩
  · exact .inl h0
  · exact .inr ⟨b, off, rfl, fun i hi => hs.cell (ha b off rfl h9) (hc i hi)⟩
/-- The bytes lie in memory that is there. -/
theorem Bytes.lt {w : World} {a : Option Addr} {zs : List Int} (h : Bytes w a zs) : ∀ b off, a = some ⟨b, off, none⟩ → zs ≠ [] → b < w.heap.size := by
  intro b off ha hne
  rcases h.at_ with h0 | ⟨b', off', h1, hc⟩
  · exact absurd h0 hne
  · rw [h1] at ha
    simp only [Option.some.injEq, Addr.mk.injEq] at ha
    obtain ⟨rfl, _, _⟩ := ha
    exact World.block_lt_of_cell? w _ (hc 0 (List.length_pos_iff.2 hne))
end Go.Proofs.YtckdnhafookcgaaGreatDoor

namespace Go.Proofs.YtckdnhafookcgaaGreatDoor.Kind
open Go.RowKit

theorem eqType (a b c d : Int) (w : World) : (Op.equalIn 10000 92 (.agg #[.int .i64 a, .int .i64 b]) (.agg #[.int .i64 c, .int .i64 d])).run Tryz.prog w = .ok (a == c && b == d) w := by
  have u3 := Tryz.underlying3
  have a3 := Tryz.isAgg3
  have z3 := Tryz.sizeOf3
  have hS : Tryz.prog.underlying 92 = some (.struct (Tryz.prog.fieldsOf 92)) := by kernel_rfl
  have hp : Tryz.prog.stoodInHeld 92 = false := by kernel_rfl
  rw [show (10000 : Nat) = 9999 + 1 from rfl, run_equalIn_agg w 9999 92 _ _ hS hp]
  simp only [Program.fieldsOf, Tryz.underlying92]
  go_simp
  by_cases h1 : a = c <;> by_cases h2 : b = d <;> simp [h1, h2]
theorem guardType (op : BinOp) (x y : Operand) (xs ys : Array Value) (w : World) : (eqGuard op 92 x y (.agg xs) (.agg ys)).run Tryz.prog w = .ok () w :=
  run_eqGuard_agg w op _ x y xs ys (by kernel_rfl)
theorem eqLim (a b c d : Int) (s t : Bool) (w : World) : (Op.equalIn 10000 83 (.agg #[.int .u32 a, .int .u32 b, .bool s]) (.agg #[.int .u32 c, .int .u32 d, .bool t])).run Tryz.prog w = .ok (a == c && b == d && s == t) w := by
  have u3 := Tryz.underlying28
  have a3 := Tryz.isAgg28
  have z3 := Tryz.sizeOf28
  have u4 := Tryz.underlying4
  have a4 := Tryz.isAgg4
  have z4 := Tryz.sizeOf4
  have hS : Tryz.prog.underlying 83 = some (.struct (Tryz.prog.fieldsOf 83)) := by kernel_rfl
  have hp : Tryz.prog.stoodInHeld 83 = false := by kernel_rfl
  rw [show (10000 : Nat) = 9999 + 1 from rfl, run_equalIn_agg w 9999 83 _ _ hS hp]
  simp only [Program.fieldsOf, Tryz.underlying83]
  go_simp
  by_cases h1 : a = c <;> by_cases h2 : b = d <;> by_cases h3 : s = t <;> simp [h1, h2, h3]
theorem guardLim (op : BinOp) (x y : Operand) (xs ys : Array Value) (w : World) : (eqGuard op 83 x y (.agg xs) (.agg ys)).run Tryz.prog w = .ok () w :=
  run_eqGuard_agg w op _ x y xs ys (by kernel_rfl)
end Go.Proofs.YtckdnhafookcgaaGreatDoor.Kind

namespace Go.Proofs.YtckdnhafookcgaaGreatDoor.Leb
open Go.RowKit

theorem m4 : (max (0 : Int) 4).toNat = 4 := rfl
theorem m0 : (max (0 : Int) (-3)).toNat = 0 := rfl
end Go.Proofs.YtckdnhafookcgaaGreatDoor.Leb

namespace Go.Proofs.YtckdnhafookcgaaGreatDoor.Leb
open Go.RowKit

/-- What a read gives back: number, place behind it, error, its place; all that was there stays. -/
def Got (k : IntKind) (w : World) (r : Int × Int × Int × Int) (e : Ending) (w' : World) : Prop :=
  e = .returned (.tuple #[.int k r.1, .int .i64 r.2.1, .agg #[.int .i64 r.2.2.1, .int .i64 r.2.2.2]]) ∧ Below w.heap.size w w'

end Go.Proofs.YtckdnhafookcgaaGreatDoor.Leb

namespace Go.Proofs.YtckdnhafookcgaaGreatDoor
open Go.RowKit

theorem strOf_inj {xs ys : List Int} (hx : ∀ z ∈ xs, 0 ≤ z ∧ z < 256) (hy : ∀ z ∈ ys, 0 ≤ z ∧ z < 256) (h : xs.map (fun n => UInt8.ofNat n.toNat) = ys.map (fun n => UInt8.ofNat n.toNat)) : xs = ys := by
  induction xs generalizing ys with
  | nil => cases ys <;> simp_all
  | cons x xs ih =>
    cases ys with
    | nil => simp at h
    | cons y ys =>
      simp only [List.map_cons, List.cons.injEq] at h
      have h1 := hx x (by simp)
      have h2 := hy y (by simp)
      have h3 := congrArg UInt8.toNat h.1
      simp only [UInt8.toNat_ofNat'] at h3
      have : x = y := by omega
      rw [this, ih (fun z hz => hx z (by simp [hz])) (fun z hz => hy z (by simp [hz])) h.2]

theorem SameBytes_any (a1 a2 : Option Addr) (l1 c1 l2 c2 : Nat) (xs ys : List Int) (w : World) (hl1 : xs.length = l1) (hl2 : ys.length = l2) (hx : Bytes w a1 xs) (hy : Bytes w a2 ys) :
    Calls Tryz.prog 29 #[.slice a1 l1 c1, .slice a2 l2 c2] w fun e w' => e = .returned (.bool (decide (xs = ys))) ∧ w = w' := by
  have e1 := str_of hx l1 c1 hl1
  have e2 := str_of hy l2 c2 hl2
  have HE : Hid (((strOfNums xs).toList == (strOfNums ys).toList) = decide (xs = ys)) := by
    show (_ == _) = decide _
    by_cases h : xs = ys
    · subst h; simp
    · have : ¬ (strOfNums xs).toList = (strOfNums ys).toList := fun hh => h (strOf_inj hx.byte hy.byte (by rw [ByteArray.toList_eq, ByteArray.toList_eq, strOfNums_data, strOfNums_data] at hh; exact hh))
      simp [h, this]
  clear hl1 hl2
  go_enter Tryz.func29, Tryz.ntmps29
  go_wp2
  go_ret
  exact ⟨ret_bool HE.out, rfl⟩
end Go.Proofs.YtckdnhafookcgaaGreatDoor
