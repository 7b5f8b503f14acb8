import Derived.Test.YtepbjkkakfpjgaaGreatDoorEl01
import Derived.Laws.OwnMore
import Derived.WalkSmall
import Derived.Deep.AppendLies
import Derived.Laws.AppendOwnNone
import Derived.Lib.OthersKept
import Derived.Laws.MakeOwn
import Derived.BigQuiet
import Derived.Deep.QuietTactic
import Derived.Deep.RegionHeld3
import Derived.Shelf.Abstract
import Derived.Shelf.RegionOpen
import Derived.OwnWalkIn
import Derived.TacticsInMore
import Derived.LoopNIn
import Derived.LoopIn
import Derived.Lib.AppendZeros
import Derived.Laws.StructEq
import Derived.Laws.BytesArg
namespace Go.Proofs.YtepbjkkakfpjgaaGreatDoor.Mod
open Go.RowKit Go.Proofs.YtepbjkkakfpjgaaGreatDoor.Instr

/-- From address a on lie these rows, each of sz cells; below block n₀. -/
def Rows (n₀ : Nat) (w : World) (a : Option Addr) (sz : Nat) (rs : List (List Value)) : Prop :=
  rs = [] ∨ ∃ b off, a = some ⟨b, off, none⟩ ∧ b < n₀ ∧ ∀ i, i < rs.length → ∀ j, j < sz → ∀ v, (rs.getD i [])[j]? = some v → w.cell? ⟨b, off + i * sz + j, none⟩ = some v
theorem Rows.below {n₀ sz : Nat} {w w' : World} {a : Option Addr} {rs : List (List Value)} (hb : Below n₀ w w') (h : Rows n₀ w a sz rs) : Rows n₀ w' a sz rs := by
  rcases h with h | ⟨b, off, ha, hl, hc⟩
  · exact .inl h
  · exact .inr ⟨b, off, ha, hl, fun i hi j hj v hv => (hb.cell (p := ⟨b, off + i * sz + j, none⟩) hl).trans (hc i hi j hj v hv)⟩
theorem Rows.more {n₀ n₁ sz : Nat} {w : World} {a : Option Addr} {rs : List (List Value)} (hn : n₀ ≤ n₁) (h : Rows n₀ w a sz rs) : Rows n₁ w a sz rs := by
  rcases h with h | ⟨b, off, ha, hl, hc⟩
  · exact .inl h
  · exact .inr ⟨b, off, ha, by omega, hc⟩
/-- Where the k-th of them lies. -/
theorem Rows.get {α : Type} {f : α → List Value} {l : List α} {n₀ sz : Nat} {w : World} {a : Option Addr} (h : Rows n₀ w a sz (l.map f)) {k : Nat} (hk : k < l.length) :
    ∃ b off, a = some ⟨b, off, none⟩ ∧ b < n₀ ∧ ∀ j, j < sz → ∀ v, (f l[k])[j]? = some v → w.cell? ⟨b, off + k * sz + j, none⟩ = some v := by
  rcases h with h | ⟨b, off, ha, hl, hc⟩
  · rw [List.map_eq_nil_iff] at h; subst h; simp at hk
  · refine ⟨b, off, ha, hl, fun j hj v hv => hc k (by simpa using hk) j hj v ?_⟩
    rw [List.getD_eq_getElem?_getD, List.getElem?_map, List.getElem?_eq_getElem hk]
    exact hv
/-- Bytes in memory below block n₀. -/
def BytesAt (n₀ : Nat) (w : World) (a : Option Addr) (zs : List Int) : Prop :=
  zs = [] ∨ ∃ b off, a = some ⟨b, off, none⟩ ∧ b < n₀ ∧ ∀ i, i < zs.length → w.cell? ⟨b, off + i, none⟩ = some (.int .u8 (zs.getD i 0))
theorem BytesAt.below {n₀ : Nat} {w w' : World} {a : Option Addr} {zs : List Int} (hb : Below n₀ w w') (h : BytesAt n₀ w a zs) : BytesAt n₀ w' a zs := by
  rcases h with h | ⟨b, off, ha, hl, hc⟩
  · exact .inl h
  · exact .inr ⟨b, off, ha, hl, fun i hi => (hb.cell (p := ⟨b, off + i, none⟩) hl).trans (hc i hi)⟩
theorem BytesAt.more {n₀ n₁ : Nat} {w : World} {a : Option Addr} {zs : List Int} (hn : n₀ ≤ n₁) (h : BytesAt n₀ w a zs) : BytesAt n₁ w a zs := by
  rcases h with h | ⟨b, off, ha, hl, hc⟩
  · exact .inl h
  · exact .inr ⟨b, off, ha, by omega, hc⟩

/-- A module in memory, below block n₀. -/
structure ModAt (n₀ : Nat) (w : World) (m : Md) : Prop where
  ty : Rows n₀ w m.ty'.a 2 (m.ty.map tyV)
  im : Rows n₀ w m.im'.a 3 (m.im.map Imp.v)
  fu : Rows n₀ w m.fu'.a 3 (m.fu.map Fn.v)
  tb : Rows n₀ w m.tb'.a 3 (m.tb.map Li.v)
  me : Rows n₀ w m.me'.a 3 (m.me.map Li.v)
  gl : Rows n₀ w m.gl'.a 2 (m.gl.map Gl.v)
  ex : Rows n₀ w m.ex'.a 3 (m.ex.map Ex.v)
  el : Rows n₀ w m.el'.a 2 (m.el.map El.v)
  da : Rows n₀ w m.da'.a 2 (m.da.map Da.v)
  ls : ∀ l ∈ m.codes, ListAt n₀ w l.a l.t.len l.t
  fs : ∀ e ∈ m.el, TagsAt n₀ w e.fa e.fs
  bs : ∀ d ∈ m.da, BytesAt n₀ w d.ba d.bs
theorem ModAt.below {n₀ : Nat} {w w' : World} {m : Md} (hb : Below n₀ w w') (h : ModAt n₀ w m) : ModAt n₀ w' m :=
  ⟨h.ty.below hb, h.im.below hb, h.fu.below hb, h.tb.below hb, h.me.below hb, h.gl.below hb, h.ex.below hb, h.el.below hb, h.da.below hb, fun l hl => (h.ls l hl).below hb, fun e he => (h.fs e he).below hb, fun d hd => (h.bs d hd).below hb⟩
theorem ModAt.more {n₀ n₁ : Nat} {w : World} {m : Md} (hn : n₀ ≤ n₁) (h : ModAt n₀ w m) : ModAt n₁ w m :=
  ⟨h.ty.more hn, h.im.more hn, h.fu.more hn, h.tb.more hn, h.me.more hn, h.gl.more hn, h.ex.more hn, h.el.more hn, h.da.more hn, fun l hl => (h.ls l hl).more hn, fun e he => (h.fs e he).more hn, fun d hd => (h.bs d hd).more hn⟩
theorem ModAt.on {w w' : World} {m : Md} (h : ModAt w.heap.size w m) (hb : Below w.heap.size w w') : ModAt w'.heap.size w' m := (h.below hb).more hb.size

/-- Sizes that any machine has. -/
structure Md.fits (m : Md) : Prop where
  ty : m.ty.length ≤ 140737488351232
  im : m.im.length ≤ 140737488351232
  fu : m.fu.length ≤ 140737488351232
  tb : m.tb.length ≤ 140737488351232
  me : m.me.length ≤ 140737488351232
  gl : m.gl.length ≤ 140737488351232
  ex : m.ex.length ≤ 140737488351232
  el : m.el.length ≤ 140737488351232
  da : m.da.length ≤ 140737488351232
  ls : ∀ l ∈ m.codes, l.t.len ≤ 140737488351232
  fs : ∀ e ∈ m.el, e.fs.length ≤ 140737488351232
  bs : ∀ d ∈ m.da, d.bs.length ≤ 140737488351232
  iS : ∀ i ∈ m.im, i.mo.size ≤ 140737488351232 ∧ i.na.size ≤ 140737488351232
  eS : ∀ e ∈ m.ex, e.na.size ≤ 140737488351232
/-- Of which all parts together are few. -/
structure Md.few (m : Md) : Prop where
  fit : m.fits
  cs : ∀ l ∈ m.codes, l.t.count ≤ 1000000
  lens : m.ty.length ≤ 1000000 ∧ m.im.length ≤ 1000000 ∧ m.fu.length ≤ 1000000 ∧ m.tb.length ≤ 1000000 ∧ m.me.length ≤ 1000000 ∧ m.gl.length ≤ 1000000 ∧ m.ex.length ≤ 1000000 ∧ m.el.length ≤ 1000000 ∧ m.da.length ≤ 1000000

/-- The box that a module lies in: cell by cell. -/
def BoxAt (w : World) (g : Nat) (v : Array Value) : Prop := ∀ j x, v[j]? = some x → w.cell? ⟨g, j, none⟩ = some x
theorem BoxAt.made (w : World) (v : Array Value) (t : TypeId) : BoxAt (w.alloc (.cells v t)) w.heap.size v := by
  intro j x h
  simp [go_sem, h]
theorem BoxAt.keep {w w' : World} {g : Nat} {v : Array Value} (hb : Below w.heap.size w w') (h : BoxAt w g v) : BoxAt w' g v := fun j x hj => Go.Proofs.YtepbjkkakfpjgaaGreatDoor.keep hb (h j x hj)
end Go.Proofs.YtepbjkkakfpjgaaGreatDoor.Mod

namespace Go.Proofs.YtepbjkkakfpjgaaGreatDoor.Mod
open Go.RowKit Go.Proofs.YtepbjkkakfpjgaaGreatDoor.Instr

theorem any_take {α : Type} {l : List α} {p : α → Bool} {k : Nat} (hk : k < l.length) (h : ∀ j (hj : j < l.length), j < k → p l[j] = false) (hx : p l[k] = false) : ∀ j (hj : j < l.length), j < k + 1 → p l[j] = false := by
  intro j hj hjk
  by_cases e : j = k
  · subst e; exact hx
  · exact h j hj (by omega)
theorem any_none {α : Type} {l : List α} {p : α → Bool} (h : ∀ j (hj : j < l.length), p l[j] = false) : l.any p = false := by
  rw [List.any_eq_false]
  intro x hx
  obtain ⟨j, hj, rfl⟩ := List.mem_iff_getElem.1 hx
  rw [h j hj]; simp
theorem any_some {α : Type} {l : List α} {p : α → Bool} {k : Nat} (hk : k < l.length) (h : p l[k] = true) : l.any p = true := List.any_eq_true.2 ⟨_, List.getElem_mem hk, h⟩
theorem none_upto {α : Type} (l : List α) (p : α → Bool) : ∀ j (hj : j < l.length), j < 0 → p l[j] = false := fun _ _ h => absurd h (Nat.not_lt_zero _)
/-- Types, types' numbers and locals are as they may be. -/
def Md.numbers (m : Md) : Bool := !(m.ty.any wrongT || (m.im.any wrongI || m.fu.any wrongF))
end Go.Proofs.YtepbjkkakfpjgaaGreatDoor.Mod

namespace Go.Proofs.YtepbjkkakfpjgaaGreatDoor.Instr

/-- Whatever lists and labels lie elsewhere, it is this instruction. -/
def Ix.bare (x : Ix) : Ix := ⟨x.op, x.res, x.a, x.b, x.n, x.tags, none, 0, none, x.ln, 0, none, x.en, 0⟩
def Il.bare : Il → Il
  | .nil => .nil
  | .cons x l e r => .cons x.bare l.bare e.bare r.bare
def Il.app : Il → Il → Il
  | .nil, t => t
  | .cons x l e r, t => .cons x l e (r.app t)
/-- The lists of each have as many as it says. -/
def Il.fit : Il → Prop
  | .nil => True
  | .cons x l e r => l.len = x.ln ∧ e.len = x.en ∧ l.fit ∧ e.fit ∧ r.fit
/-- The numbers of each are words. -/
def Il.nums : Il → Prop
  | .nil => True
  | .cons x l e r => (0 ≤ x.a ∧ x.a < 4294967296) ∧ (0 ≤ x.b ∧ x.b < 4294967296) ∧ (-2147483648 ≤ x.n ∧ x.n < 2147483648) ∧ (∀ z ∈ x.tags, 0 ≤ z ∧ z < 4294967296) ∧ l.nums ∧ e.nums ∧ r.nums
end Go.Proofs.YtepbjkkakfpjgaaGreatDoor.Instr
namespace Go.Proofs.YtepbjkkakfpjgaaGreatDoor.Body
open Go.Proofs.YtepbjkkakfpjgaaGreatDoor.Leb Go.Proofs.YtepbjkkakfpjgaaGreatDoor.Kind Go.Proofs.YtepbjkkakfpjgaaGreatDoor.Instr

/-- What follows an operation: 1: a byte and lists; 2: A; 3: A and a byte 0; 4: labels and A; 5: A and B; 6: a byte 0; 7: N; 0: nothing. -/
def kindP (op : Int) : Nat :=
  if op = 2 ∨ op = 3 ∨ op = 4 then 1
  else if op = 12 ∨ op = 13 ∨ op = 16 ∨ op = 32 ∨ op = 33 ∨ op = 34 ∨ op = 35 ∨ op = 36 then 2
  else if op = 17 then 3
  else if op = 14 then 4
  else if op = 40 ∨ op = 44 ∨ op = 45 ∨ op = 46 ∨ op = 47 ∨ op = 54 ∨ op = 58 ∨ op = 59 then 5
  else if op = 63 ∨ op = 64 then 6
  else if op = 65 then 7 else 0
def encTags (l : List Int) : List Int := encU l.length ++ l.flatMap encU
/-- The bytes of what follows, but for the lists. -/
def encRest (x : Ix) : List Int :=
  match kindP x.op with
  | 1 => [if x.res = 0 then 64 else 127]
  | 2 => encU x.a
  | 3 => encU x.a ++ [0]
  | 4 => encTags x.tags ++ encU x.a
  | 5 => encU x.a ++ encU x.b
  | 6 => [0]
  | 7 => encS x.n
  | _ => []
/-- The bytes of instructions, without their end. -/
def encL : Il → List Int
  | .nil => []
  | .cons x l e r => x.op :: (encRest x ++ ((if kindP x.op = 1 then encL l ++ ((if x.en = 0 then [] else 5 :: encL e) ++ [11]) else []) ++ encL r))
def encP (t : Il) : List Int := encL t ++ [11]
def locL (n : Int) : List Int := if n = 0 then [0] else 1 :: (encU n ++ [127])
def codeL (n : Int) (t : Il) : List Int := locL n ++ encP t

def plainX (op res a b n : Int) (tags : List Int) : Ix := ⟨op, res, a, b, n, tags, none, 0, none, 0, 0, none, 0, 0⟩
/-- What reading a list gives: instructions, what ended them, how many there have been, the state. -/
structure Lr where
  t : Il
  q : Int
  n : Int
  s : Rd
/-- One with its lists, read by 'rec'. -/
structure Or where
  x : Ix
  l : Il
  e : Il
  n : Int
  s : Rd
/-- What a reader does never goes back. -/
def On (s s' : Rd) : Prop := s'.2.1 = 0 → s.2.1 = 0 ∧ s.1 ≤ s'.1
theorem On.refl (s : Rd) : On s s := fun h => ⟨h, Int.le_refl _⟩
theorem On.trans {a b c : Rd} (h : On a b) (g : On b c) : On a c := fun hc => ⟨(h (g hc).1).1, Int.le_trans (h (g hc).1).2 (g hc).2⟩
end Go.Proofs.YtepbjkkakfpjgaaGreatDoor.Body

/-
  BODY: reading by a stack of open lists, as a plain function; it gives what reading list by list gives.
-/
namespace Go.Proofs.YtepbjkkakfpjgaaGreatDoor.Body
open Go.Proofs.YtepbjkkakfpjgaaGreatDoor.Leb Go.Proofs.YtepbjkkakfpjgaaGreatDoor.Kind Go.Proofs.YtepbjkkakfpjgaaGreatDoor.Instr

/-- A list whose end has not been read: its owner, the owner's first list if this is its second, what has been read of it. -/
structure Fr where
  x : Ix
  fl : Il
  t : Il
  oth : Bool
end Go.Proofs.YtepbjkkakfpjgaaGreatDoor.Body

/-
  BODY: what is put is got: an instruction's fields by its operation; its bytes read; a list's bytes read, whatever follows.
-/
namespace Go.Proofs.YtepbjkkakfpjgaaGreatDoor.Body
open Go.RowKit Go.Proofs.YtepbjkkakfpjgaaGreatDoor.Leb Go.Proofs.YtepbjkkakfpjgaaGreatDoor.Instr
open Go.Proofs.YtepbjkkakfpjgaaGreatDoor.Kind (Rd)

theorem over6 : ∀ b1 b2 b3 b4 b5 b6 b7 : Bool, bits .andNot .u8 (bit b1 1 + bit b2 2 + bit b3 4 + bit b4 8 + bit b5 16 + bit b6 32 + bit b7 64) 6 = 0 ↔ (b1 || b4 || b5 || b6 || b7) = false := by decide
theorem over33 : ∀ b1 b2 b3 b4 b5 b6 b7 : Bool, bits .andNot .u8 (bit b1 1 + bit b2 2 + bit b3 4 + bit b4 8 + bit b5 16 + bit b6 32 + bit b7 64) 33 = 0 ↔ (b2 || b3 || b4 || b5 || b7) = false := by decide
theorem over97 : ∀ b1 b2 b3 b4 b5 b6 b7 : Bool, bits .andNot .u8 (bit b1 1 + bit b2 2 + bit b3 4 + bit b4 8 + bit b5 16 + bit b6 32 + bit b7 64) 97 = 0 ↔ (b2 || b3 || b4 || b5) = false := by decide
theorem over2 : ∀ b1 b2 b3 b4 b5 b6 b7 : Bool, bits .andNot .u8 (bit b1 1 + bit b2 2 + bit b3 4 + bit b4 8 + bit b5 16 + bit b6 32 + bit b7 64) 2 = 0 ↔ (b1 || b3 || b4 || b5 || b6 || b7) = false := by decide
theorem over18 : ∀ b1 b2 b3 b4 b5 b6 b7 : Bool, bits .andNot .u8 (bit b1 1 + bit b2 2 + bit b3 4 + bit b4 8 + bit b5 16 + bit b6 32 + bit b7 64) 18 = 0 ↔ (b1 || b3 || b4 || b6 || b7) = false := by decide
theorem over8 : ∀ b1 b2 b3 b4 b5 b6 b7 : Bool, bits .andNot .u8 (bit b1 1 + bit b2 2 + bit b3 4 + bit b4 8 + bit b5 16 + bit b6 32 + bit b7 64) 8 = 0 ↔ (b1 || b2 || b3 || b5 || b6 || b7) = false := by decide
theorem over0 : ∀ b1 b2 b3 b4 b5 b6 b7 : Bool, bits .andNot .u8 (bit b1 1 + bit b2 2 + bit b3 4 + bit b4 8 + bit b5 16 + bit b6 32 + bit b7 64) 0 = 0 ↔ (b1 || b2 || b3 || b4 || b5 || b6 || b7) = false := by decide

theorem used_kind (op : Int) : (usedP op = 6 ∧ kindP op = 5) ∨ (usedP op = 33 ∧ kindP op = 1 ∧ op ≠ 4) ∨ (usedP op = 97 ∧ kindP op = 1 ∧ op = 4) ∨ (usedP op = 2 ∧ (kindP op = 2 ∨ kindP op = 3)) ∨
    (usedP op = 18 ∧ kindP op = 4) ∨ (usedP op = 8 ∧ kindP op = 7) ∨ (usedP op = 0 ∧ (kindP op = 0 ∨ kindP op = 6)) := by
  unfold usedP kindP
  (repeat' split) <;> simp <;> omega
theorem lawful_iff (x : Ix) : lawfulP x = true ↔ nameL x.op ≠ [] ∧ (x.res = 0 ∨ x.res = 1) ∧ (x.res = 0 ∨ kindP x.op = 1) ∧ (x.a = 0 ∨ kindP x.op = 2 ∨ kindP x.op = 3 ∨ kindP x.op = 4 ∨ kindP x.op = 5) ∧ (x.b = 0 ∨ kindP x.op = 5) ∧
    (x.n = 0 ∨ kindP x.op = 7) ∧ (x.tags.length = 0 ∨ kindP x.op = 4) ∧ (x.ln = 0 ∨ kindP x.op = 1) ∧ (x.en = 0 ∨ (kindP x.op = 1 ∧ x.op = 4)) := by
  unfold lawfulP overP filledP
  simp only [Bool.and_eq_true, Bool.or_eq_true, decide_eq_true_eq, and_assoc]
  refine and_congr_right fun _ => ?_
  rw [and_comm]
  refine and_congr_right fun _ => ?_
  rcases used_kind x.op with ⟨hu, hk⟩ | ⟨hu, hk, h4⟩ | ⟨hu, hk, h4⟩ | ⟨hu, hk⟩ | ⟨hu, hk⟩ | ⟨hu, hk⟩ | ⟨hu, hk⟩ <;> rw [hu]
  · rw [over6]; simp [hk, and_assoc]
  · rw [over33]; simp [hk, h4, and_assoc]
  · rw [over97]; simp [show kindP 4 = 1 by decide, h4, and_assoc]
  · rw [over2]; rcases hk with hk | hk <;> simp [hk, and_assoc]
  · rw [over18]; simp [hk, and_assoc]
  · rw [over8]; simp [hk, and_assoc]
  · rw [over0]; rcases hk with hk | hk <;> simp [hk, and_assoc]

theorem name_range {op : Int} (h : nameL op ≠ []) : 0 ≤ op ∧ op < 121 ∧ op ≠ 5 ∧ op ≠ 11 := by
  unfold nameL at h
  by_cases h1 : 0 ≤ op ∧ op < 121
  · refine ⟨h1.1, h1.2, ?_, ?_⟩ <;> (rintro rfl; exact h (by decide))
  · rw [if_neg h1] at h; exact absurd rfl h

-- what lies at a place
/-- An instruction may be, by itself. -/
structure May (x : Ix) : Prop where
  law : lawfulP x = true
  a : 0 ≤ x.a ∧ x.a < 4294967296
  b : 0 ≤ x.b ∧ x.b < 4294967296
  n : -2147483648 ≤ x.n ∧ x.n < 2147483648
  tags : ∀ z ∈ x.tags, 0 ≤ z ∧ z < 4294967296
  few : x.tags.length ≤ 16384
theorem encRest0 {x : Ix} (h : kindP x.op = 0) : encRest x = [] := by simp [encRest, h]
theorem encRest1 {x : Ix} (h : kindP x.op = 1) : encRest x = [if x.res = 0 then 64 else 127] := by simp [encRest, h]
theorem encRest2 {x : Ix} (h : kindP x.op = 2) : encRest x = encU x.a := by simp [encRest, h]
theorem encRest3 {x : Ix} (h : kindP x.op = 3) : encRest x = encU x.a ++ [0] := by simp [encRest, h]
theorem encRest4 {x : Ix} (h : kindP x.op = 4) : encRest x = encTags x.tags ++ encU x.a := by simp [encRest, h]
theorem encRest5 {x : Ix} (h : kindP x.op = 5) : encRest x = encU x.a ++ encU x.b := by simp [encRest, h]
theorem encRest6 {x : Ix} (h : kindP x.op = 6) : encRest x = [0] := by simp [encRest, h]
theorem encRest7 {x : Ix} (h : kindP x.op = 7) : encRest x = encS x.n := by simp [encRest, h]
section
variable {zs : List Int} {op : Int} {s : Rd}
end
theorem kind_cases (op : Int) : kindP op = 0 ∨ kindP op = 1 ∨ kindP op = 2 ∨ kindP op = 3 ∨ kindP op = 4 ∨ kindP op = 5 ∨ kindP op = 6 ∨ kindP op = 7 := by
  unfold kindP; (repeat' split) <;> simp
/-- All of them may be. -/
def MayT : Il → Prop
  | .nil => True
  | .cons x l e r => May x ∧ l.len = x.ln ∧ e.len = x.en ∧ MayT l ∧ MayT e ∧ MayT r
theorem mayT_of : ∀ t : Il, t.all = true → t.tags = false → t.fit → t.nums → MayT t
  | .nil, _, _, _, _ => trivial
  | .cons x l e r, ha, ht, hf, hn => by
    simp only [Il.all, Bool.and_eq_true] at ha
    simp only [Il.tags, Bool.or_eq_false_iff, decide_eq_false_iff_not] at ht
    obtain ⟨f1, f2, f3, f4, f5⟩ := hf
    obtain ⟨n1, n2, n3, n4, n5, n6, n7⟩ := hn
    exact ⟨⟨ha.1.1.1, n1, n2, n3, n4, by omega⟩, f1, f2, mayT_of l ha.1.1.2 ht.1.1.2 f3 n5, mayT_of e ha.1.2 ht.1.2 f4 n6, mayT_of r ha.2 ht.2 f5 n7⟩
theorem len_zero : ∀ {t : Il}, t.len = 0 → t = .nil
  | .nil, _ => rfl
  | .cons _ _ _ _, h => by simp [Il.len] at h

def Lr.pre (t : Il) (r : Lr) : Lr := ⟨t.app r.t, r.q, r.n, r.s⟩
end Go.Proofs.YtepbjkkakfpjgaaGreatDoor.Body

/-
  BODY: bytes that end too early: the fault is told where they end.
-/
namespace Go.Proofs.YtepbjkkakfpjgaaGreatDoor.Body
open Go.Proofs.YtepbjkkakfpjgaaGreatDoor.Leb Go.Proofs.YtepbjkkakfpjgaaGreatDoor.Instr
open Go.Proofs.YtepbjkkakfpjgaaGreatDoor.Kind (Rd)

end Go.Proofs.YtepbjkkakfpjgaaGreatDoor.Body

/-
  BODY: what is got may be, and is put in no more bytes.
-/
namespace Go.Proofs.YtepbjkkakfpjgaaGreatDoor.Body
open Go.Proofs.YtepbjkkakfpjgaaGreatDoor.Leb Go.Proofs.YtepbjkkakfpjgaaGreatDoor.Instr
open Go.Proofs.YtepbjkkakfpjgaaGreatDoor.Kind (Rd)

section
variable {zs : List Int} (hz : ∀ c ∈ zs, 0 ≤ c ∧ c < 256)
include hz
end
end Go.Proofs.YtepbjkkakfpjgaaGreatDoor.Body

namespace Go.Proofs.YtepbjkkakfpjgaaGreatDoor.Mod
open Go.RowKit Go.Proofs.YtepbjkkakfpjgaaGreatDoor.Instr

def Lst.bare (l : Lst) : Lst := ⟨none, 0, l.t.bare⟩
def Fn.bare (f : Fn) : Fn := ⟨f.ty, f.lo, f.l.bare⟩
def Gl.bare (g : Gl) : Gl := ⟨g.mu, g.l.bare⟩
def El.bare (e : El) : El := ⟨e.l.bare, none, 0, e.fs⟩
def Da.bare (d : Da) : Da := ⟨d.l.bare, none, 0, d.bs⟩
/-- A module, but for where its parts lie. -/
def Md.bare (m : Md) : Md :=
  ⟨m.ty, m.im, m.fu.map Fn.bare, m.tb, m.me, m.gl.map Gl.bare, m.ex, m.st, m.sn, m.el.map El.bare, m.da.map Da.bare, ⟨none, 0⟩, ⟨none, 0⟩, ⟨none, 0⟩, ⟨none, 0⟩, ⟨none, 0⟩, ⟨none, 0⟩, ⟨none, 0⟩, ⟨none, 0⟩, ⟨none, 0⟩⟩
end Go.Proofs.YtepbjkkakfpjgaaGreatDoor.Mod

namespace Go.Proofs.YtepbjkkakfpjgaaGreatDoor
open Go.RowKit

/-- Of what was there only blocks of S have turned. -/
structure Touch (S : Nat → Prop) (w w' : World) : Prop where
  os : w'.os = w.os
  tape : w'.tape = w.tape
  output : w'.output = w.output
  size : w.heap.size ≤ w'.heap.size
  block : ∀ j, j < w.heap.size → ¬ S j → w'.heap[j]? = w.heap[j]?
theorem Touch.refl (S : Nat → Prop) (w : World) : Touch S w w := ⟨rfl, rfl, rfl, Nat.le_refl _, fun _ _ _ => rfl⟩
theorem Touch.trans {S : Nat → Prop} {a b c : World} (h : Touch S a b) (g : Touch S b c) : Touch S a c :=
  ⟨g.os.trans h.os, g.tape.trans h.tape, g.output.trans h.output, Nat.le_trans h.size g.size, fun j hj hk => (g.block j (Nat.lt_of_lt_of_le hj h.size) hk).trans (h.block j hj hk)⟩
theorem Touch.mono {S T : Nat → Prop} {a b : World} (h : Touch S a b) (hs : ∀ j, S j → T j) : Touch T a b := ⟨h.os, h.tape, h.output, h.size, fun j hj hk => h.block j hj (fun hs' => hk (hs j hs'))⟩
theorem Touch.of_below {S : Nat → Prop} {w w' : World} (h : Below w.heap.size w w') : Touch S w w' := ⟨h.os, h.tape, h.output, h.size, fun j hj _ => h.block j hj⟩
theorem Touch.of_grown {w w' : World} {row : Option Nat} (h : w.grownBy w' row) : Touch (fun j => row = some j) w w' := ⟨h.os, h.tape, h.output, h.size, fun j hj hk => h.block j hj (fun e => hk e.symm)⟩
theorem Touch.alloc {S : Nat → Prop} {a b : World} (h : Touch S a b) (o : Obj) : Touch S a (b.alloc o) := h.trans (.of_below ((Below.refl _ _).alloc (Nat.le_refl _) o))
theorem Touch.setCell {S : Nat → Prop} {a b : World} (h : Touch S a b) {p : Addr} (hp : S p.block ∨ a.heap.size ≤ p.block) (v : Value) : Touch S a (b.setCell p v) :=
  ⟨h.os, h.tape, h.output, by have := h.size; simpa [World.setCell] using this, fun j hj hk => (Below.heap_setCell _ _ _ _ (by rcases hp with hp | hp; rintro rfl; exact hk hp; omega)).trans (h.block j hj hk)⟩
theorem Touch.below {S : Nat → Prop} {B : Nat} {a b : World} (h : Touch S a b) (hB : B ≤ a.heap.size) (hs : ∀ j, S j → B ≤ j) : Below B a b :=
  ⟨h.os, h.tape, h.output, h.size, fun j hj => h.block j (by omega) (fun hj' => by have := hs j hj'; omega)⟩
theorem Touch.cell {S : Nat → Prop} {w w' : World} (h : Touch S w w') {p : Addr} {v : Value} (hk : ¬ S p.block) (hc : w.cell? p = some v) : w'.cell? p = some v :=
  (World.cell?_of_block (w := w) (h.block p.block (World.block_lt_of_cell? w _ hc) hk)).trans hc
theorem touch_row {S : Nat → Prop} {w w' : World} {base size n : Nat} {e : TypeId} {v : Value} {xs : List Value} (h : w.ownsRow base e size v n xs) (ht : Touch S w w') (hk : ∀ g, v.ownBlock = some g → ¬ S g) : w'.ownsRow base e size v n xs := by
  refine ⟨h.1, ?_⟩
  rcases h.2 with h0 | ⟨g, cap, cur, rfl, hg, hh, rest⟩
  · exact .inl h0
  · exact .inr ⟨g, cap, cur, rfl, hg, (ht.block g (Array.getElem?_eq_some_iff.1 hh).1 (hk g rfl)).trans hh, rest⟩
theorem plain_add (b i : Nat) : (⟨b, 0, none⟩ : Addr).add i = ⟨b, i, none⟩ := by unfold Addr.add; split <;> simp_all

/-- A block that can be written. -/
def Soft (w : World) (q : Nat) : Prop := ∃ cs e, w.heap[q]? = some (.cells cs e (0, 0))
theorem Soft.frozen {w : World} {q : Nat} (h : Soft w q) (i : Nat) : w.frozen? ⟨q, i, none⟩ = false := by
  obtain ⟨cs, e, h⟩ := h
  simp [World.frozen?, h]
theorem Soft.lt {w : World} {q : Nat} (h : Soft w q) : q < w.heap.size := by
  obtain ⟨cs, e, h⟩ := h
  exact (Array.getElem?_eq_some_iff.1 h).1
namespace Instr
def blkOf (n : Nat) (a : Option Addr) : List Nat := if n = 0 then [] else match a with
  | some p => [p.block]
  | none => []
/-- The blocks that hold what is in these instructions: labels, lists. -/
def Il.foot : Il → List Nat
  | .nil => []
  | .cons x l e r => (blkOf x.tags.length x.ta ++ (blkOf x.ln x.la ++ l.foot) ++ (blkOf x.en x.ea ++ e.foot)) ++ r.foot
def Il.cells : Il → List Value
  | .nil => []
  | .cons x _ _ r => x.vals.toList ++ r.cells
/-- What is in these instructions lies as it should; the row that holds themselves may move. -/
def Il.kids (w : World) : Il → Prop
  | .nil => True
  | .cons x l e r => x.ok ∧ TagsAt w.heap.size w x.ta x.tags ∧ ListAt w.heap.size w x.la x.ln l ∧ ListAt w.heap.size w x.ea x.en e ∧ r.kids w
theorem tags_lt {n₀ : Nat} {w : World} {a : Option Addr} {zs : List Int} (h : TagsAt n₀ w a zs) : ∀ q ∈ blkOf zs.length a, q < n₀ := by
  intro q hq
  rcases h with rfl | ⟨b, off, rfl, hl, _⟩
  · simp [blkOf] at hq
  · unfold blkOf at hq
    split at hq
    · simp at hq
    · simp at hq; omega
mutual
theorem items_lt {n₀ : Nat} {w : World} : ∀ {t : Il} {b off : Nat}, Items n₀ w b off t → ∀ q ∈ t.foot, q < n₀
  | .nil, _, _, _, q, hq => by simp [Il.foot] at hq
  | .cons x l e r, b, off, ⟨_, _, _, ht, hl, he, hr⟩, q, hq => by
    simp only [Il.foot, List.mem_append] at hq
    rcases hq with ((hq | hq) | hq) | hq
    · exact tags_lt ht q hq
    · exact list_lt (t := l) hl q (List.mem_append.2 hq)
    · exact list_lt (t := e) he q (List.mem_append.2 hq)
    · exact items_lt hr q hq
theorem list_lt {n₀ : Nat} {w : World} {a : Option Addr} {n : Nat} : ∀ {t : Il}, ListAt n₀ w a n t → ∀ q ∈ blkOf n a ++ t.foot, q < n₀
  | .nil, ⟨h1, _⟩, q, hq => by simp [← h1, blkOf, Il.len, Il.foot] at hq
  | .cons x l e r, ⟨h1, h2⟩, q, hq => by
    rcases h2 with h | ⟨b, off, rfl, hb, hx, hc, ht, hl, he, hr⟩
    · cases h
    · rcases List.mem_append.1 hq with hq | hq
      · unfold blkOf at hq
        split at hq
        · simp at hq
        · simp at hq; omega
      · simp only [Il.foot, List.mem_append] at hq
        rcases hq with ((hq | hq) | hq) | hq
        · exact tags_lt ht q hq
        · exact list_lt (t := l) hl q (List.mem_append.2 hq)
        · exact list_lt (t := e) he q (List.mem_append.2 hq)
        · exact items_lt hr q hq
end
theorem kids_lt {w : World} : ∀ {t : Il}, t.kids w → ∀ q ∈ t.foot, q < w.heap.size
  | .nil, _, q, hq => by simp [Il.foot] at hq
  | .cons x l e r, ⟨_, ht, hl, he, hr⟩, q, hq => by
    simp only [Il.foot, List.mem_append] at hq
    rcases hq with ((hq | hq) | hq) | hq
    · exact tags_lt ht q hq
    · exact list_lt hl q (List.mem_append.2 hq)
    · exact list_lt he q (List.mem_append.2 hq)
    · exact kids_lt hr q hq
/-- A row that holds them, and what is in them: a list in memory. -/
theorem items_of {w : World} {g : Nat} (hg : g < w.heap.size) : ∀ (t : Il) (off : Nat), (∀ j u, t.cells[j]? = some u → w.cell? ⟨g, off + j, none⟩ = some u) → t.kids w → Items w.heap.size w g off t
  | .nil, _, _, _ => trivial
  | .cons x l e r, off, hc, ⟨h1, h2, h3, h4, h5⟩ => by
    have h8 : ∀ q u, q < 8 → x.vals.toList[q]? = some u → w.cell? ⟨g, off + q, none⟩ = some u := fun q u hq hu => hc q u (by
      rw [Il.cells, List.getElem?_append_left (by simpa [Ix.vals] using hq)]; exact hu)
    refine ⟨hg, h1, ⟨h8 0 _ (by omega) rfl, h8 1 _ (by omega) rfl, h8 2 _ (by omega) rfl, h8 3 _ (by omega) rfl, h8 4 _ (by omega) rfl, h8 5 _ (by omega) rfl, h8 6 _ (by omega) rfl, h8 7 _ (by omega) rfl⟩, h2, h3, h4, items_of hg r (off + 8) (fun j u hu => ?_) h5⟩
    have := hc (8 + j) u (by
      rw [Il.cells, List.getElem?_append_right (by simp [Ix.vals])]
      simpa [Ix.vals] using hu)
    rw [show off + 8 + j = off + (8 + j) by omega]
    exact this
theorem list_of_row {w : World} {base : Nat} {v : Value} {t : Il} (h : w.ownsRow base 126 8 v t.len t.cells) (hk : t.kids w) : ∃ a c, v = .slice a t.len c ∧ ListAt w.heap.size w a t.len t ∧ blkOf t.len a = (if t.len = 0 then [] else match v.ownBlock with
    | some g => [g]
    | none => []) := by
  rcases h.2 with ⟨rfl, h0⟩ | ⟨g, cap, cur, rfl, _, hh, _⟩
  · refine ⟨none, 0, by rw [h0], ⟨rfl, .inl (len_zero h0)⟩, by simp [blkOf, h0]⟩
  · have hlt : g < w.heap.size := (Array.getElem?_eq_some_iff.1 hh).1
    refine ⟨_, _, rfl, ⟨rfl, .inr ⟨g, 0, rfl, items_of hlt t 0 (fun j u hu => ?_) hk⟩⟩, by simp [blkOf, Value.ownBlock]⟩
    have := World.ownsRow.cells h (g := g) rfl j u hu
    rw [plain_add] at this
    rw [Nat.zero_add]
    exact this
where len_zero : ∀ {t : Il}, t.len = 0 → t = .nil
  | .nil, _ => rfl
  | .cons _ _ _ _, h => by simp [Il.len] at h
end Instr
end Go.Proofs.YtepbjkkakfpjgaaGreatDoor

/-
  BODY: the open lists in memory: a row of them, each with a row of its instructions; how a top one turns.
-/
namespace Go.Proofs.YtepbjkkakfpjgaaGreatDoor.Body
open Go.RowKit Go.Proofs.YtepbjkkakfpjgaaGreatDoor.Instr
open Go.Proofs.YtepbjkkakfpjgaaGreatDoor.Kind (Rd)

end Go.Proofs.YtepbjkkakfpjgaaGreatDoor.Body

namespace Go.Proofs.YtepbjkkakfpjgaaGreatDoor.Body
open Go.RowKit Go.Proofs.YtepbjkkakfpjgaaGreatDoor.Instr
open Go.Proofs.YtepbjkkakfpjgaaGreatDoor.Kind (Rd)
/-- An open list: its owner, the owner's first list if this is its second, what has been read, the slice that holds that. -/
structure Og where
  x : Ix
  fl : Il
  t : Il
  v : Value
  oth : Bool
def Og.cells (o : Og) : List Value := o.x.vals.toList ++ [o.v, .bool o.oth]
def rowBlk (v : Value) : List Nat := match v.ownBlock with
  | some g => [g]
  | none => []
/-- Its blocks, but for that of its row. -/
def Og.inner (o : Og) : List Nat := o.t.foot ++ (blkOf o.x.ln o.x.la ++ o.fl.foot)
def Og.foot (o : Og) : List Nat := rowBlk o.v ++ o.inner
/-- What the plain reading knows of it. -/
def Og.fr (o : Og) : Fr := ⟨plainX o.x.op o.x.res 0 0 0 [], o.fl.bare, o.t.bare, o.oth⟩
/-- All but the row of what has been read. -/
structure Half (base : Nat) (w : World) (o : Og) : Prop where
  kids : o.t.kids w
  own : ListAt w.heap.size w o.x.la o.x.ln o.fl
  tags : o.x.tags = []
  zero : o.x.a = 0 ∧ o.x.b = 0 ∧ o.x.n = 0
  ok : o.x.ok
  en : o.x.ea = none ∧ o.x.en = 0 ∧ o.x.ec = 0
  first : o.oth = false → o.x.la = none ∧ o.x.ln = 0 ∧ o.x.lc = 0
  low : ∀ q ∈ o.inner, base ≤ q
  few : o.t.len ≤ 4000000
  soft : ∀ q ∈ o.inner, Soft w q
structure OpenOk (base : Nat) (w : World) (o : Og) : Prop where
  half : Half base w o
  row : w.ownsRow base 126 8 o.v o.t.len o.t.cells
theorem OpenOk.low {base : Nat} {w : World} {o : Og} (h : OpenOk base w o) : ∀ q ∈ o.foot, base ≤ q := by
  intro q hq
  rcases List.mem_append.1 hq with hq | hq
  · unfold rowBlk at hq
    split at hq
    · rename_i g hg
      simp at hq
      subst hq
      exact (World.ownsRow.lt h.row q hg).1
    · simp at hq
  · exact h.half.low q hq
theorem Half.lt {base : Nat} {w : World} {o : Og} (h : Half base w o) : ∀ q ∈ o.inner, q < w.heap.size := by
  intro q hq
  rcases List.mem_append.1 hq with hq | hq
  · exact kids_lt h.kids q hq
  · exact list_lt h.own q hq
theorem OpenOk.lt {base : Nat} {w : World} {o : Og} (h : OpenOk base w o) : ∀ q ∈ o.foot, q < w.heap.size := by
  intro q hq
  rcases List.mem_append.1 hq with hq | hq
  · unfold rowBlk at hq
    split at hq
    · rename_i g hg
      simp at hq
      subst hq
      exact (World.ownsRow.lt h.row q hg).2
    · simp at hq
  · exact h.half.lt q hq

end Go.Proofs.YtepbjkkakfpjgaaGreatDoor.Body

namespace Go.Proofs.YtepbjkkakfpjgaaGreatDoor
open Go.RowKit

section
variable {ops : Array Oper} {rest : List Oper} {o : Oper} {act : Act} {Q : Exit → Act → World → Prop}

theorem append_byte (hgd : o.guard = none) (s x : Operand) (ho : o.op = .call { callee := .builtin .append, args := #[s, x], argTypes := #[35, 35] })
    {base : Nat} {w0 wr : World} {v : Value} {xs : List Int} (z : Int) (hs : act.eval s = v) (hown : Own base wr v xs) (hb : Below base w0 wr) (hbase : base ≤ wr.heap.size)
    (hx : act.eval x = .slice (some ⟨wr.heap.size, 0, none⟩) 1 1) (hl : xs.length ≤ 140737488351232)
    (h : ∀ v' w', Own base w' v' (xs ++ [z]) → Below base w0 w' → base ≤ w'.heap.size → wpList Tryz.prog ops Q rest (act.put o.dst v') w') :
    wpList Tryz.prog ops Q (o :: rest) act (wr.alloc (.cells #[.int .u8 z] 5)) := by
  obtain ⟨i0, hi, hz0, hz1, hz2⟩ := info_parts infoByte
  refine wpList_append_own _ hgd s x 35 ho base 5 i0 (.int .u8 0) 1 1 Tryz.underlying35 hi hz0 hz1 hz2 rfl (by decide) v xs.length _ hs (World.ownsRow.alloc hown _) ⟨wr.heap.size, 0, none⟩ 1 1 [.int .u8 z] hx rfl
    ?_ ?_ ?_ ?_ ?_ (fun v' w' hown' hgrow _ => ?_)
  · intro j u hj
    match j, hj with
    | 0, hj => simp at hj; subst hj; simp [Addr.add]
  · intro u hu; simp at hu; subst hu; rfl
  · unfold maxLen; omega
  · omega
  · simp; omega
  · have hb' := below_append hown hb _ hbase hgrow
    refine h v' w' (Own.of_snoc rfl hown') hb' ?_
    have := hgrow.size; simp at this; omega

theorem append_bytes (hgd : o.guard = none) (s x : Operand) (ho : o.op = .call { callee := .builtin .append, args := #[s, x], argTypes := #[35, 35] })
    {base : Nat} {w0 wr : World} {v : Value} {xs ys : List Int} (hs : act.eval s = v) (hown : Own base wr v xs) (hb : Below base w0 wr) (hbase : base ≤ wr.heap.size)
    (a2 : Option Addr) (n c : Nat) (hx : act.eval x = .slice a2 n c) (hnil : a2 = none → c = 0) (hn : ys.length = n) (hy : Bytes wr a2 ys) (hl : xs.length + ys.length ≤ 140737488355328)
    (h : ∀ v' w', Own base w' v' (xs ++ ys) → Below base w0 w' → base ≤ w'.heap.size → wpList Tryz.prog ops Q rest (act.put o.dst v') w') :
    wpList Tryz.prog ops Q (o :: rest) act wr := by
  obtain ⟨i0, hi, hz0, hz1, hz2⟩ := info_parts infoByte
  subst hn
  have fin : ∀ v' w', w'.ownsRow base 5 1 v' (xs.length + ys.length) (xs.map (Value.int .u8) ++ ys.map (Value.int .u8)) → wr.grownBy w' v.ownBlock → wpList Tryz.prog ops Q rest (act.put o.dst v') w' := by
    intro v' w' hown' hgrow
    refine h v' w' ?_ (hb.grown hgrow (by omega) (fun k hk => (World.ownsRow.lt hown k hk).1)) (by have := hgrow.size; omega)
    unfold Own; rw [List.length_append, List.map_append]; exact hown'
  rcases hy.at_ with h0 | ⟨b, off, rfl, hc⟩
  · subst h0
    cases a2 with
    | none =>
      rw [hnil rfl] at hx
      exact wpList_append_own_none hgd s x 35 ho base 5 i0 1 Tryz.underlying35 hi v xs.length _ hs hown hx (h v wr (by simpa using hown) hb hbase)
    | some ad =>
      refine wpList_append_own _ hgd s x 35 ho base 5 i0 (.int .u8 0) 1 1 Tryz.underlying35 hi hz0 hz1 hz2 rfl (by decide) v xs.length _ hs hown ad 0 c [] hx rfl
        (by simp) (by simp) ?_ ?_ hbase (fun v' w' hown' hgrow _ => fin v' w' (by simpa using hown') hgrow)
      · unfold maxLen; simp at hl; omega
      · simp at hl; omega
  · refine wpList_append_own _ hgd s x 35 ho base 5 i0 (.int .u8 0) 1 1 Tryz.underlying35 hi hz0 hz1 hz2 rfl (by decide) v xs.length _ hs hown ⟨b, off, none⟩ ys.length c (ys.map (Value.int .u8)) hx (by simp)
      ?_ ?_ ?_ ?_ hbase (fun v' w' hown' hgrow _ => fin v' w' hown' hgrow)
    · intro j u hj
      have hjl : j < ys.length := by
        rcases Nat.lt_or_ge j ys.length with h | h
        · exact h
        · rw [List.getElem?_eq_none (by simpa using h)] at hj; cases hj
      have hplain : (⟨b, off, none⟩ : Addr).add j = ⟨b, off + j, none⟩ := by unfold Addr.add; split <;> simp_all
      rw [hplain, hc j hjl]
      rw [← hj, getD_lt hjl]; simp [hjl]
    · intro u hu
      obtain ⟨n, _, rfl⟩ := List.mem_map.1 hu
      rfl
    · unfold maxLen; omega
    · omega
end
end Go.Proofs.YtepbjkkakfpjgaaGreatDoor

namespace Go.Proofs.YtepbjkkakfpjgaaGreatDoor.Leb
open Go.RowKit

theorem bitLen_small : ∀ n : Fin 128, Lib.bitLen n.val ≤ 7 ∧ (1 ≤ n.val → 1 ≤ Lib.bitLen n.val) ∧ (n.val < 64 → Lib.bitLen n.val ≤ 6) := by decide +kernel
theorem bitLen_7 {x : Nat} (h : x < 128) : Lib.bitLen x ≤ 7 ∧ (1 ≤ x → 1 ≤ Lib.bitLen x) ∧ (x < 64 → Lib.bitLen x ≤ 6) := bitLen_small ⟨x, h⟩
theorem sizeU_len (n : Nat) (h : n < 4294967296) : max 1 ((Lib.bitLen n + 6) / 7) = sizeU n := by
  unfold sizeU
  by_cases h1 : n < 128
  · have := bitLen_7 h1
    rw [if_pos (by omega)]; omega
  · by_cases h2 : n < 16384
    · have := Lib.bitLen_shift 7 n (by omega) (by omega)
      have := bitLen_7 (x := n / 2 ^ 7) (by omega)
      rw [if_neg (by omega), if_pos (by omega)]; omega
    · by_cases h3 : n < 2097152
      · have := Lib.bitLen_shift 14 n (by omega) (by omega)
        have := bitLen_7 (x := n / 2 ^ 14) (by omega)
        rw [if_neg (by omega), if_neg (by omega), if_pos (by omega)]; omega
      · by_cases h4 : n < 268435456
        · have := Lib.bitLen_shift 21 n (by omega) (by omega)
          have := bitLen_7 (x := n / 2 ^ 21) (by omega)
          rw [if_neg (by omega), if_neg (by omega), if_neg (by omega), if_pos (by omega)]; omega
        · have := Lib.bitLen_shift 28 n (by omega) (by omega)
          have := bitLen_7 (x := n / 2 ^ 28) (by omega)
          rw [if_neg (by omega), if_neg (by omega), if_neg (by omega), if_neg (by omega)]; omega

theorem sizeS_len (n : Nat) (h : n < 2147483648) : (Lib.bitLen n + 7) / 7 = sizeS n := by
  unfold sizeS
  by_cases h1 : n < 64
  · have := bitLen_7 (x := n) (by omega)
    rw [if_pos (by omega)]; omega
  · by_cases h2 : n < 8192
    · have := Lib.bitLen_shift 6 n (by omega) (by omega)
      have := bitLen_7 (x := n / 2 ^ 6) (by omega)
      rw [if_neg (by omega), if_pos (by omega)]; omega
    · by_cases h3 : n < 1048576
      · have := Lib.bitLen_shift 13 n (by omega) (by omega)
        have := bitLen_7 (x := n / 2 ^ 13) (by omega)
        rw [if_neg (by omega), if_neg (by omega), if_pos (by omega)]; omega
      · by_cases h4 : n < 134217728
        · have := Lib.bitLen_shift 20 n (by omega) (by omega)
          have := bitLen_7 (x := n / 2 ^ 20) (by omega)
          rw [if_neg (by omega), if_neg (by omega), if_neg (by omega), if_pos (by omega)]; omega
        · have := Lib.bitLen_shift 27 n (by omega) (by omega)
          have := bitLen_7 (x := n / 2 ^ 27) (by omega)
          rw [if_neg (by omega), if_neg (by omega), if_neg (by omega), if_neg (by omega)]; omega
theorem sizeS_neg (n : Int) : sizeS (-n - 1) = sizeS n := by unfold sizeS; (repeat' split) <;> omega
theorem bitLen_le32 (n : Nat) (h : n < 4294967296) : Lib.bitLen n ≤ 35 := by
  by_cases h1 : n < 128
  · have := bitLen_7 h1; omega
  · by_cases h2 : n < 268435456
    · by_cases h3 : n < 16384
      · have := Lib.bitLen_shift 7 n (by omega) (by omega)
        have := bitLen_7 (x := n / 2 ^ 7) (by omega)
        omega
      · by_cases h4 : n < 2097152
        · have := Lib.bitLen_shift 14 n (by omega) (by omega)
          have := bitLen_7 (x := n / 2 ^ 14) (by omega)
          omega
        · have := Lib.bitLen_shift 21 n (by omega) (by omega)
          have := bitLen_7 (x := n / 2 ^ 21) (by omega)
          omega
    · have := Lib.bitLen_shift 28 n (by omega) (by omega)
      have := bitLen_7 (x := n / 2 ^ 28) (by omega)
      omega
theorem xor_m1 (n : Int) (h0 : -2147483648 ≤ n) (h1 : n < 2147483648) : bits .xor .i32 n (-1) = -n - 1 := by
  show IntKind.i32.wrap ((BitVec.ofInt 32 n ^^^ BitVec.ofInt 32 (-1)).toNat : Int) = _
  have h : BitVec.ofInt 32 (-1) = BitVec.allOnes 32 := by decide
  rw [h, BitVec.xor_allOnes, BitVec.toNat_not, BitVec.toNat_ofInt, IntKind.wrap_i32]
  omega
theorem xor_0 (n : Int) (h0 : -2147483648 ≤ n) (h1 : n < 2147483648) : bits .xor .i32 n 0 = n := by
  show IntKind.i32.wrap ((BitVec.ofInt 32 n ^^^ BitVec.ofInt 32 0).toNat : Int) = _
  have h : BitVec.ofInt 32 0 = 0#32 := by decide
  rw [h, BitVec.xor_zero, BitVec.toNat_ofInt, IntKind.wrap_i32]
  omega

set_option maxHeartbeats 400000 in
theorem sizeU_any (n : Int) (w : World) (h0 : 0 ≤ n) (h1 : n < 4294967296) : Calls Tryz.prog 200 #[.int .u32 n] w fun e w' => e = .returned (.int .i64 (sizeU n)) ∧ w = w' := by
  obtain ⟨m, rfl⟩ := Int.eq_ofNat_of_zero_le h0
  have HL := hid (sizeU_len m (by omega))
  have hb := bitLen_le32 m (by omega)
  go_enter Tryz.func200, Tryz.ntmps200
  go_wp2_with (go_at_call 215; refine (Tryz.bits_Len32 _ _ (by omega) (by omega)).mono ?_; rintro e w' ⟨rfl, rfl⟩)
  go_ret
  exact ⟨ret_int (by have := HL.out; omega), rfl⟩

theorem m0 : (max (0 : Int) (-3)).toNat = 0 := rfl
end Go.Proofs.YtepbjkkakfpjgaaGreatDoor.Leb

namespace Go.Proofs.YtepbjkkakfpjgaaGreatDoor.Leb
open Go.RowKit

theorem and127_64 {c : Int} (h0 : 0 ≤ c) (h1 : c < 2 ^ 64) : bits .and .u64 c 127 = c % 128 := bits_mask .u64 64 (by decide) (fun n h h' => by rw [IntKind.wrap_u64]; omega) 7 (by decide) c h0 h1
theorem or128 {c : Int} (h0 : 0 ≤ c) (h1 : c < 128) : bits .or .u8 c 128 = c + 128 := by
  have hh : ∀ n : Fin 128, bits .or .u8 (n.val : Int) 128 = (n.val : Int) + 128 := by decide +kernel
  obtain ⟨m, rfl⟩ := Int.eq_ofNat_of_zero_le h0
  exact hh ⟨m, by omega⟩
def U64 (u : Int) : Prop := 0 ≤ u ∧ u < 2 ^ 64
theorem U64.div {u : Int} (h : U64 u) : U64 (u / 128) := by unfold U64 at *; omega

theorem put_more {xs : List Int} {k s : Nat} {u u0 : Int} (hk : k + 1 < s) (h : xs ++ putL (s - k) u = putL s u0) :
    (xs ++ [u % 128 + 128]) ++ putL (s - (k + 1)) (u / 128) = putL s u0 := by
  obtain ⟨d, hd⟩ : ∃ d, s - k = d + 2 := ⟨s - k - 2, by omega⟩
  have : s - (k + 1) = d + 1 := by omega
  rw [hd, putL] at h
  rw [this, ← h]; simp
theorem put_last {xs : List Int} {k s : Nat} {u u0 : Int} (hk : k + 1 = s) (h : xs ++ putL (s - k) u = putL s u0) : xs ++ [u % 128] = putL s u0 := by
  have : s - k = 1 := by omega
  rw [this, putL] at h
  exact h

set_option maxRecDepth 100000 in
set_option maxHeartbeats 1600000 in
theorem put_any (u : Int) (s : Nat) (w : World) (hu : U64 u) (hs : 1 ≤ s) (hs9 : s ≤ 9) :
    Calls Tryz.prog 199 #[.int .u64 u, .int .i64 s] w (Gives w (putL s u)) := by
  obtain ⟨i0, hi, hz0, hz1, hz2⟩ := info_parts infoByte
  go_enter Tryz.func199, Tryz.ntmps199
  go_wp2_with (at_make; refine wpList_make_own _ rfl _ _ 35 rfl w.heap.size 5 i0 (.int .u8 0) 1 Tryz.underlying35 hi hz0 hz1 _ _ _ s rfl rfl (by omega) ?b2 ?b3 (Nat.le_refl _) ?_)
  case b2 => rw [hz2]; omega
  case b3 => unfold maxLen; omega
  intro w0 hown0 hgrow0
  go_wp2
  go_loopw [0, 5] (fun su out wr => ∃ (k : Nat) (U : Int) (xs : List Int), k < s ∧ xs.length = k ∧ U64 U ∧ su = .int .u64 U ∧ Own w.heap.size wr out xs ∧ (∃ a c, out = .slice a k c) ∧ xs ++ putL (s - k) U = putL s u ∧ Below w.heap.size w wr)
    (fun _ out _ => match out with | .slice _ n _ => s - n | _ => 0)
  case atStart => exact ⟨0, u, [], by omega, rfl, hu, rfl, hown0, ⟨_, _, rfl⟩, rfl, (Below.refl _ _).grown hgrow0 (Nat.le_refl _) (fun k h => by cases h)⟩
  case round =>
    obtain ⟨k, U, xs, hk, hx, hU, rfl, hown, ⟨a, c, rfl⟩, hp, hb⟩ := hrel
    have hm := and127_64 hU.1 hU.2
    have ho := or128 (c := U % 128) (by omega) (by omega)
    have hu0 := hU.1
    have HP := hid hp
    have HX := hid hx
    clear hp hx
    have hsz := hb.size
    by_cases hl : s ≤ k + 1
    · have HF := hid (put_last (by omega) HP.out)
      clear HP
      go_wp2_with (first | (at_builtin; refine wpList_append_own _ rfl (.tmp 19) (.tmp 21) 35 rfl w.heap.size 5 i0 (.int .u8 0) 1 1 Tryz.underlying35 hi hz0 hz1 hz2 rfl (by decide) _ _ _ rfl (hown.alloc _) ⟨wr.heap.size, 0, none⟩ 1 1 [.int .u8 (U % 128)] rfl rfl ?c1 ?c2 ?c3 ?c4 ?c5 ?_))
      case c1 =>
        intro j v hj
        match j, hj with
        | 0, hj => simp at hj; subst hj; simp [Addr.add]
      case c2 => intro v hv; simp at hv; subst hv; rfl
      case c3 => have := HX.out; unfold maxLen; omega
      case c4 => have := HX.out; omega
      case c5 => simp; omega
      intro v' w1 hown' hgrow _
      go_wp2
      go_ret
      have hown1 := Own.of_snoc HX.out (by rw [HX.out] at hown'; exact hown')
      rw [HF.out] at hown1
      exact ⟨v', rfl, hown1, below_append hown hb _ hsz hgrow⟩
    · have HF := hid (put_more (by omega) HP.out)
      clear HP
      go_wp2_with (first | (at_builtin; refine wpList_append_own _ rfl (.tmp 23) (.tmp 26) 35 rfl w.heap.size 5 i0 (.int .u8 0) 1 1 Tryz.underlying35 hi hz0 hz1 hz2 rfl (by decide) _ _ _ rfl (hown.alloc _) ⟨wr.heap.size, 0, none⟩ 1 1 [.int .u8 (U % 128 + 128)] rfl rfl ?d1 ?d2 ?d3 ?d4 ?d5 ?_))
      case d1 =>
        intro j v hj
        match j, hj with
        | 0, hj => simp at hj; subst hj; simp [Addr.add]
      case d2 => intro v hv; simp at hv; subst hv; rfl
      case d3 => have := HX.out; unfold maxLen; omega
      case d4 => have := HX.out; omega
      case d5 => simp; omega
      intro v' w1 hown' hgrow _
      go_wp2
      go_roundw
      case rel =>
        have hown1 := Own.of_snoc HX.out (by rw [HX.out] at hown'; exact hown')
        have hsl := hown1.slice
        have hlen : (xs ++ [U % 128 + 128]).length = k + 1 := by rw [List.length_append, HX.out]; rfl
        rw [hlen] at hsl
        exact ⟨k + 1, U / 128, xs ++ [U % 128 + 128], by omega, hlen, hU.div, rfl, hown1, hsl, HF.out, below_append hown hb _ hsz hgrow⟩
      case measure =>
        have hown1 := Own.of_snoc HX.out (by rw [HX.out] at hown'; exact hown')
        obtain ⟨a', c', h'⟩ := hown1.slice
        have hlen : (xs ++ [U % 128 + 128]).length = k + 1 := by rw [List.length_append, HX.out]; rfl
        rw [hlen] at h'
        rw [h']
        simp
        omega

set_option maxHeartbeats 400000 in
theorem putU_any (n : Int) (w : World) (h0 : 0 ≤ n) (h1 : n < 4294967296) : Calls Tryz.prog 175 #[.int .u32 n] w (Gives w (encU n)) := by
  have hs := sizeU_pos n
  have hu : U64 n := ⟨h0, by omega⟩
  go_enter Tryz.func175, Tryz.ntmps175
  go_wp2_with (go_at_call 200; refine (sizeU_any _ _ (by omega) (by omega)).mono ?_; rintro e w' ⟨rfl, rfl⟩)
  refine (put_any n (sizeU n) w hu (by omega) (by omega)).mono ?_
  rintro e w' ⟨v, rfl, ho, hb⟩
  go_wp2
  go_ret
  exact ⟨v, rfl, ho, hb⟩

end Go.Proofs.YtepbjkkakfpjgaaGreatDoor.Leb

namespace Go.Proofs.YtepbjkkakfpjgaaGreatDoor.Leb
open Go.RowKit

set_option maxHeartbeats 400000 in
theorem sizeS_any (n : Int) (w : World) (h0 : -2147483648 ≤ n) (h1 : n < 2147483648) : Calls Tryz.prog 245 #[.int .i32 n] w fun e w' => e = .returned (.int .i64 (sizeS n)) ∧ w = w' := by
  by_cases hs : 0 ≤ n
  · obtain ⟨m, rfl⟩ := Int.eq_ofNat_of_zero_le hs
    have HL := hid (sizeS_len m (by omega))
    have hb := bitLen_le32 m (by omega)
    have hd : (m : Int) / 2147483648 = 0 := by omega
    have hx := xor_0 m (by omega) (by omega)
    go_enter Tryz.func245, Tryz.ntmps245
    go_wp2_with (go_at_call 215; refine (Tryz.bits_Len32 _ _ (by omega) (by omega)).mono ?_; rintro e w' ⟨rfl, rfl⟩)
    go_ret
    exact ⟨ret_int (by have := HL.out; omega), rfl⟩
  · obtain ⟨m, hm⟩ := Int.eq_ofNat_of_zero_le (show 0 ≤ -n - 1 by omega)
    obtain rfl : n = -(m : Int) - 1 := by omega
    have HL := hid (sizeS_len m (by omega))
    have HN := hid (sizeS_neg m)
    have hb := bitLen_le32 m (by omega)
    have hd : (-(m : Int) - 1) / 2147483648 = -1 := by omega
    have hx : bits .xor .i32 (-(m : Int) - 1) (-1) = m := by rw [xor_m1 _ (by omega) (by omega)]; omega
    clear hm
    go_enter Tryz.func245, Tryz.ntmps245
    go_wp2_with (go_at_call 215; refine (Tryz.bits_Len32 _ _ (by omega) (by omega)).mono ?_; rintro e w' ⟨rfl, rfl⟩)
    go_ret
    exact ⟨ret_int (by rw [HN.out]; have := HL.out; omega), rfl⟩

end Go.Proofs.YtepbjkkakfpjgaaGreatDoor.Leb

namespace Go.Proofs.YtepbjkkakfpjgaaGreatDoor.Leb
open Go.RowKit

set_option maxHeartbeats 400000 in
theorem putS_any (n : Int) (w : World) (h0 : -2147483648 ≤ n) (h1 : n < 2147483648) : Calls Tryz.prog 240 #[.int .i32 n] w (Gives w (encS n)) := by
  have hs := sizeS_pos n
  have HW := hid (putL_wrap (sizeS n) (by omega) n)
  have hu : U64 (IntKind.u64.wrap n) := by rw [IntKind.wrap_u64]; exact ⟨by omega, by omega⟩
  go_enter Tryz.func240, Tryz.ntmps240
  go_wp2_with (go_at_call 245; refine (sizeS_any _ _ (by omega) (by omega)).mono ?_; rintro e w' ⟨rfl, rfl⟩)
  refine (put_any (IntKind.u64.wrap n) (sizeS n) w hu (by omega) (by omega)).mono ?_
  rintro e w' ⟨v, rfl, ho, hb⟩
  rw [IntKind.wrap_u64, HW.out] at ho
  go_wp2
  go_ret
  exact ⟨v, rfl, ho, hb⟩
end Go.Proofs.YtepbjkkakfpjgaaGreatDoor.Leb

namespace Go.Proofs.YtepbjkkakfpjgaaGreatDoor.Body
open Go.RowKit Go.Proofs.YtepbjkkakfpjgaaGreatDoor.Instr

/-- From v in world w on: v' holds these bytes, and of what was there only v's own row has turned. -/
structure Grew (B : Nat) (v : Value) (w : World) (v' : Value) (zs : List Int) (w' : World) : Prop where
  own : Own B w' v' zs
  touch : Touch (fun j => v.ownBlock = some j) w w'
  new : ∀ g, v'.ownBlock = some g → v.ownBlock = some g ∨ w.heap.size ≤ g
theorem Grew.refl {B : Nat} {v : Value} {w : World} {zs : List Int} (h : Own B w v zs) : Grew B v w v zs w := ⟨h, .refl _ _, fun _ hg => .inl hg⟩
theorem Grew.pre {B : Nat} {v v' : Value} {w w1 w' : World} {zs : List Int} (hb : Below w.heap.size w w1) (h : Grew B v w1 v' zs w') : Grew B v w v' zs w' :=
  ⟨h.own, (Touch.of_below hb).trans h.touch, fun g hg => (h.new g hg).imp id (fun hl => Nat.le_trans hb.size hl)⟩
theorem Grew.post {B : Nat} {v v' : Value} {w w1 w' : World} {zs : List Int} (h : Grew B v w v' zs w1) (hb : Below w1.heap.size w1 w') : Grew B v w v' zs w' :=
  ⟨h.own.below hb, h.touch.trans (Touch.of_below hb), h.new⟩
theorem Grew.trans {B : Nat} {v v1 v2 : Value} {w w1 w2 : World} {xs zs : List Int} (h : Grew B v w v1 xs w1) (g : Grew B v1 w1 v2 zs w2) : Grew B v w v2 zs w2 := by
  refine ⟨g.own, ⟨g.touch.os.trans h.touch.os, g.touch.tape.trans h.touch.tape, g.touch.output.trans h.touch.output, Nat.le_trans h.touch.size g.touch.size, fun j hj hk => ?_⟩, fun q hq => ?_⟩
  · refine (g.touch.block j (Nat.lt_of_lt_of_le hj h.touch.size) (fun e => ?_)).trans (h.touch.block j hj hk)
    rcases h.new j e with e | e
    · exact hk e
    · omega
  · rcases g.new q hq with e | e
    · exact h.new q e
    · exact .inr (Nat.le_trans h.touch.size e)
theorem Grew.below {B : Nat} {v v' : Value} {w w' : World} {xs zs : List Int} (h : Grew B v w v' zs w') (hv : Own B w v xs) (hB : B ≤ w.heap.size) : Below B w w' := h.touch.below hB (fun j hj => (World.ownsRow.lt hv j hj).1)
theorem Grew.at_ {B X : Nat} {v v' : Value} {w w' : World} {zs : List Int} {x : Ix} (h : Grew B v w v' zs w') (ha : At x X w) (hv : v.ownBlock ≠ some X) : At x X w' :=
  ⟨h.touch.cell hv ha.c0, h.touch.cell hv ha.c1, h.touch.cell hv ha.c2, h.touch.cell hv ha.c3, h.touch.cell hv ha.c4, h.touch.cell hv ha.c5, h.touch.cell hv ha.c6, h.touch.cell hv ha.c7⟩
/-- A call that hands back bytes, grown from v. -/
def PutsTo (B : Nat) (v : Value) (w : World) (zs : List Int) (e : Ending) (w' : World) : Prop := ∃ v', e = .returned v' ∧ Grew B v w v' zs w'

section
variable {ops : Array Oper} {rest : List Oper} {o : Oper} {act : Act} {Q : Exit → Act → World → Prop}
theorem put_byte (hgd : o.guard = none) (s x : Operand) (ho : o.op = .call { callee := .builtin .append, args := #[s, x], argTypes := #[35, 35] })
    {B : Nat} {w0 wr : World} {v0 v : Value} {xs : List Int} (z : Int) (hs : act.eval s = v) (hG : Grew B v0 w0 v xs wr) (hB : B ≤ w0.heap.size)
    (hx : act.eval x = .slice (some ⟨wr.heap.size, 0, none⟩) 1 1) (hl : xs.length ≤ 140737488351232)
    (h : ∀ v' w', Grew B v0 w0 v' (xs ++ [z]) w' → wpList Tryz.prog ops Q rest (act.put o.dst v') w') :
    wpList Tryz.prog ops Q (o :: rest) act (wr.alloc (.cells #[.int .u8 z] 5)) := by
  obtain ⟨i0, hi, hz0, hz1, hz2⟩ := info_parts infoByte
  have hBr : B ≤ wr.heap.size := Nat.le_trans hB hG.touch.size
  refine wpList_append_lies _ hgd s x 35 ho B 5 i0 (.int .u8 0) 1 1 Tryz.underlying35 hi hz0 hz1 hz2 rfl (by decide) v xs.length _ hs (World.ownsRow.alloc hG.own _) ⟨wr.heap.size, 0, none⟩ 1 1 [.int .u8 z] hx rfl
    ?_ ?_ (by decide) ?_ ?_ ?_ _ rfl (fun g cap w' hown' hgrow hat _ => h _ w' (hG.trans ⟨Own.of_snoc rfl hown', (Touch.refl _ wr).alloc _ |>.trans (Touch.of_grown hgrow), ?_⟩))
  · intro j u hj
    match j, hj with
    | 0, hj => simp at hj; subst hj; simp [Addr.add]
  · intro u hu; simp at hu; subst hu; rfl
  · unfold maxLen; omega
  · omega
  · simp; omega
  · intro q hq
    simp only [Value.ownBlock, Option.some.injEq] at hq
    rw [← hq]
    rcases hat with e | e
    · exact .inl e
    · exact .inr (by simp only [World.size_alloc] at e; omega)
theorem put_bytes (hgd : o.guard = none) (s x : Operand) (ho : o.op = .call { callee := .builtin .append, args := #[s, x], argTypes := #[35, 35] })
    {B : Nat} {w0 wr : World} {v0 v : Value} {xs ys : List Int} {a : Option Addr} {n c : Nat} (hs : act.eval s = v) (hG : Grew B v0 w0 v xs wr) (hB : B ≤ w0.heap.size)
    (hx : act.eval x = .slice a n c) (hn : ys.length = n) (hy : Bytes wr a ys) (hne : ys ≠ []) (hl : xs.length + ys.length ≤ 140737488351232)
    (h : ∀ v' w', Grew B v0 w0 v' (xs ++ ys) w' → wpList Tryz.prog ops Q rest (act.put o.dst v') w') :
    wpList Tryz.prog ops Q (o :: rest) act wr := by
  obtain ⟨i0, hi, hz0, hz1, hz2⟩ := info_parts infoByte
  have hBr : B ≤ wr.heap.size := Nat.le_trans hB hG.touch.size
  subst hn
  obtain ⟨b, off, rfl, hc⟩ := hy.at (List.length_pos_iff.2 hne)
  refine wpList_append_lies _ hgd s x 35 ho B 5 i0 (.int .u8 0) 1 1 Tryz.underlying35 hi hz0 hz1 hz2 rfl (by decide) v xs.length _ hs hG.own ⟨b, off, none⟩ ys.length c (ys.map (Value.int .u8)) hx (by simp)
    ?_ ?_ (List.length_pos_iff.2 hne) ?_ ?_ hBr _ rfl (fun g cap w' hown' hgrow hat _ => h _ w' (hG.trans ⟨?_, Touch.of_grown hgrow, ?_⟩))
  · intro j u hj
    have hjl : j < ys.length := by
      rcases Nat.lt_or_ge j ys.length with h | h
      · exact h
      · rw [List.getElem?_eq_none (by simpa using h)] at hj; cases hj
    have hplain : (⟨b, off, none⟩ : Addr).add j = ⟨b, off + j, none⟩ := by unfold Addr.add; split <;> simp_all
    rw [hplain, hc j hjl]
    rw [← hj, getD_lt hjl]; simp [hjl]
  · intro u hu
    obtain ⟨n, _, rfl⟩ := List.mem_map.1 hu
    rfl
  · unfold maxLen; omega
  · omega
  · unfold Own; rw [List.length_append, List.map_append]; exact hown'
  · intro q hq
    simp only [Value.ownBlock, Option.some.injEq] at hq
    rw [← hq]
    rcases hat with e | e
    · exact .inl e
    · exact .inr (by omega)
end
section
variable {ops : Array Oper} {o : Oper} {act : Act} {K : Act → World → Prop} {Q : Exit → Act → World → Prop} {E : Prop}
theorem step_put_byte (hgd : o.guard = none) (s x : Operand) (ho : o.op = .call { callee := .builtin .append, args := #[s, x], argTypes := #[35, 35] })
    {B g : Nat} {w0 wr : World} {v0 v : Value} {xs : List Int} (z : Int) (hs : act.eval s = v) (hG : Grew B v0 w0 v xs wr) (hB : B ≤ w0.heap.size)
    (hx : act.eval x = .slice (some ⟨g, 0, none⟩) 1 1) (hc : wr.cell? ⟨g, 0, none⟩ = some (.int .u8 z)) (hl : xs.length ≤ 140737488351232)
    (h : ∀ v' w', Grew B v0 w0 v' (xs ++ [z]) w' → K (act.put o.dst v') w') :
    if Region.wanted o (yielded ops act.tmps) = true then Oper.wp Tryz.prog o act wr K Q else E := by
  obtain ⟨i0, hi, hz0, hz1, hz2⟩ := info_parts infoByte
  have hBr : B ≤ wr.heap.size := Nat.le_trans hB hG.touch.size
  refine step_append_lies wr hgd s x 35 ho B 5 i0 (.int .u8 0) 1 1 Tryz.underlying35 hi hz0 hz1 hz2 rfl (by decide) v xs.length _ hs hG.own ⟨g, 0, none⟩ 1 1 [.int .u8 z] hx rfl
    ?_ ?_ (by decide) ?_ ?_ hBr _ rfl (fun g' cap w' hown' hgrow hat _ => h _ w' (hG.trans ⟨Own.of_snoc rfl hown', Touch.of_grown hgrow, ?_⟩))
  · intro j u hj
    match j, hj with
    | 0, hj => simp at hj; subst hj; rw [plain_add]; exact hc
  · intro u hu; simp at hu; subst hu; rfl
  · unfold maxLen; omega
  · omega
  · intro q hq
    simp only [Value.ownBlock, Option.some.injEq] at hq
    rw [← hq]
    rcases hat with e | e
    · exact .inl e
    · exact .inr (by omega)
end
/-- What a call gave of bytes, as what is appended. -/
theorem gives_put {w w' : World} {zs : List Int} {e : Ending} (h : Gives w zs e w') (hz : ∀ z ∈ zs, 0 ≤ z ∧ z < 256) (hn : zs.length ≤ 140737488351232) : ∃ a c, e = .returned (.slice a zs.length c) ∧ Bytes w' a zs ∧ Below w.heap.size w w' := by
  obtain ⟨v, rfl, ho, hb⟩ := h
  obtain ⟨a, c, rfl⟩ := ho.slice
  exact ⟨a, c, rfl, ho.bytes hz hn, hb⟩
theorem putResults_any (r : Int) (w : World) : Calls Tryz.prog 238 #[.int .i64 r] w fun e w' => e = .returned (.int .u8 (if r = 0 then 64 else 127)) ∧ w = w' := by
  by_cases h : r = 0
  · subst h
    rw [if_pos rfl]
    go_enter Tryz.func238, Tryz.ntmps238
    go_wp2
    go_ret
    exact ⟨rfl, rfl⟩
  · rw [if_neg h]
    go_enter Tryz.func238, Tryz.ntmps238
    go_wp2
    go_ret
    exact ⟨rfl, rfl⟩
end Go.Proofs.YtepbjkkakfpjgaaGreatDoor.Body

namespace Go.Proofs.YtepbjkkakfpjgaaGreatDoor
open Go.RowKit

/-- A row of numbers that a call made itself. -/
def OwnK (e : TypeId) (k : IntKind) (base : Nat) (w : World) (v : Value) (zs : List Int) : Prop := w.ownsRow base e 1 v zs.length (zs.map (Value.int k))
theorem OwnK.sliceN {e : TypeId} {k : IntKind} {base n : Nat} {w : World} {v : Value} {zs : List Int} (h : OwnK e k base w v zs) (hn : zs.length = n) : ∃ a c, v = .slice a n c := by
  subst hn
  rcases h.2 with ⟨rfl, h0⟩ | ⟨g, cap, cur, rfl, _⟩
  · exact ⟨none, 0, by rw [h0]⟩
  · exact ⟨_, cap, rfl⟩
theorem OwnK.nil {e : TypeId} {k : IntKind} {base n c : Nat} {w : World} {a : Option Addr} {zs : List Int} (h : OwnK e k base w (.slice a n c) zs) : Hid (a = none → c = 0) := by
  refine hid fun ha => ?_
  subst ha
  rcases h.2 with ⟨h', _⟩ | ⟨g, cap, cur, h', _⟩
  · simp at h'; exact h'.2
  · simp at h'
theorem OwnK.mono {e : TypeId} {k : IntKind} {base base' : Nat} {w : World} {v : Value} {zs : List Int} (h : OwnK e k base w v zs) (hb : base' ≤ base) : OwnK e k base' w v zs := by
  refine ⟨h.1, ?_⟩
  rcases h.2 with h0 | ⟨g, cap, cur, hv, hg, rest⟩
  · exact .inl h0
  · exact .inr ⟨g, cap, cur, hv, Nat.le_trans hb hg, rest⟩
/-- A store below it turns no row. -/
theorem OwnK.setCell {e : TypeId} {k : IntKind} {base : Nat} {w : World} {v : Value} {zs : List Int} (h : OwnK e k base w v zs) {p : Addr} (hp : p.block < base) (u : Value) : OwnK e k base (w.setCell p u) v zs := by
  refine ⟨h.1, ?_⟩
  rcases h.2 with h0 | ⟨g, cap, cur, hv, hg, hh, rest⟩
  · exact .inl h0
  · exact .inr ⟨g, cap, cur, hv, hg, (Below.heap_setCell w p u g (by omega)).trans hh, rest⟩
/-- A call that leaves all that was there turns no row. -/
theorem OwnK.below {e : TypeId} {k : IntKind} {base : Nat} {w w' : World} {v : Value} {zs : List Int} (h : OwnK e k base w v zs) (hb : Below w.heap.size w w') : OwnK e k base w' v zs := by
  refine ⟨h.1, ?_⟩
  rcases h.2 with h0 | ⟨g, cap, cur, hv, hg, hh, rest⟩
  · exact .inl h0
  · exact .inr ⟨g, cap, cur, hv, hg, (hb.block g (Array.getElem?_eq_some_iff.1 hh).1).trans hh, rest⟩
/-- An iterator's step turns no row. -/
theorem OwnK.iterAt {e : TypeId} {k : IntKind} {base j : Nat} {w : World} {v : Value} {zs : List Int} {s : ByteArray} {p : Nat} (h : OwnK e k base w v zs) (hk : w.heap[j]? = some (.stringIter s p)) (p' : Nat) : OwnK e k base (w.iterAt j s p') v zs := by
  refine ⟨h.1, ?_⟩
  rcases h.2 with h0 | ⟨g, cap, cur, hv, hg, hh, rest⟩
  · exact .inl h0
  · refine .inr ⟨g, cap, cur, hv, hg, (Lib.iterAt_other w j g s p' (fun hgj => ?_)).trans hh, rest⟩
    subst hgj
    rw [hh] at hk
    cases hk
/-- What an append leaves of an iterator. -/
theorem iter_kept {e : TypeId} {k : IntKind} {base : Nat} {w w' : World} {v : Value} {zs : List Int} (h : OwnK e k base w v zs) (o : Obj) (hg : (w.alloc o).grownBy w' v.ownBlock) (j : Nat) (s : ByteArray) (p : Nat)
    (hk : w.heap[j]? = some (.stringIter s p)) : w'.heap[j]? = some (.stringIter s p) := by
  have hj : j < w.heap.size := (Array.getElem?_eq_some_iff.1 hk).1
  refine (hg.block j (by simp; omega) ?_).trans ((Below.heap_alloc w o j hj).trans hk)
  intro he
  rcases h.2 with ⟨rfl, _⟩ | ⟨g, cap, cur, rfl, _, hh, _⟩
  · cases he
  · simp [Value.ownBlock] at he
    subst he
    rw [hh] at hk
    cases hk

section
variable {ops : Array Oper} {rest : List Oper} {o : Oper} {act : Act} {Q : Exit → Act → World → Prop}

theorem append_num {e ts : TypeId} {k : IntKind} {nb : Nat} (inf : (Tryz.prog.info? e).map (fun i => (i.zero, i.size, i.bytes)) = some (some (.int k 0), 1, nb)) (ut : Tryz.prog.underlying ts = some (.slice e))
    (hgd : o.guard = none) (s x : Operand) (ho : o.op = .call { callee := .builtin .append, args := #[s, x], argTypes := #[ts, ts] })
    {base : Nat} {w0 wr : World} {v : Value} {xs : List Int} (z : Int) (hs : act.eval s = v) (hown : OwnK e k base wr v xs) (hb : Below base w0 wr) (hbase : base ≤ wr.heap.size)
    (hx : act.eval x = .slice (some ⟨wr.heap.size, 0, none⟩) 1 1) (hl : (xs.length + 1) * nb ≤ 140737488355328) (hl' : xs.length ≤ 140737488351232)
    (h : ∀ v' w', OwnK e k base w' v' (xs ++ [z]) → Below base w0 w' → base ≤ w'.heap.size → (∀ (j : Nat) (t : ByteArray) (p : Nat), wr.heap[j]? = some (Obj.stringIter t p) → w'.heap[j]? = some (Obj.stringIter t p)) → wpList Tryz.prog ops Q rest (act.put o.dst v') w') :
    wpList Tryz.prog ops Q (o :: rest) act (wr.alloc (.cells #[.int k z] e)) := by
  obtain ⟨i0, hi, hz0, hz1, hz2⟩ := info_parts inf
  refine wpList_append_own _ hgd s x ts ho base e i0 (.int k 0) 1 nb ut hi hz0 hz1 hz2 rfl (by decide) v xs.length _ hs (World.ownsRow.alloc hown _) ⟨wr.heap.size, 0, none⟩ 1 1 [.int k z] hx rfl
    ?_ ?_ ?_ ?_ ?_ (fun v' w' hown' hgrow _ => ?_)
  · intro j u hj
    match j, hj with
    | 0, hj => simp at hj; subst hj; simp [Addr.add]
  · intro u hu; simp at hu; subst hu; rfl
  · unfold maxLen; omega
  · exact hl
  · simp; omega
  · have hb' : Below base w0 w' := (hb.alloc hbase _).grown hgrow (by simp; omega) (fun k h => (World.ownsRow.lt hown k h).1)
    refine h v' w' (by unfold OwnK; simpa using hown') hb' ?_ (fun j t p => iter_kept hown _ hgrow j t p)
    have := hgrow.size; simp at this; omega
end

end Go.Proofs.YtepbjkkakfpjgaaGreatDoor

namespace Go.Proofs.YtepbjkkakfpjgaaGreatDoor.Body
open Go.RowKit Go.Proofs.YtepbjkkakfpjgaaGreatDoor.Instr
open Go.Proofs.YtepbjkkakfpjgaaGreatDoor.Kind (Rd)

/-- What follows, as the program's set of parts. -/
def partsP (op : Int) : Int :=
  if op = 2 ∨ op = 3 ∨ op = 4 then 65
  else if op = 12 ∨ op = 13 ∨ op = 16 ∨ op = 32 ∨ op = 33 ∨ op = 34 ∨ op = 35 ∨ op = 36 then 4
  else if op = 17 then 36 else if op = 14 then 6
  else if op = 40 ∨ op = 44 ∨ op = 45 ∨ op = 46 ∨ op = 47 ∨ op = 54 ∨ op = 58 ∨ op = 59 then 12
  else if op = 63 ∨ op = 64 then 32 else if op = 65 then 16 else 0
theorem parts_kind (op : Int) : (kindP op = 0 ∧ partsP op = 0) ∨ (kindP op = 1 ∧ partsP op = 65) ∨ (kindP op = 2 ∧ partsP op = 4) ∨ (kindP op = 3 ∧ partsP op = 36) ∨ (kindP op = 4 ∧ partsP op = 6) ∨ (kindP op = 5 ∧ partsP op = 12) ∨ (kindP op = 6 ∧ partsP op = 32) ∨ (kindP op = 7 ∧ partsP op = 16) := by
  unfold kindP partsP
  (repeat' split) <;> simp
theorem follows_any (op : Int) (w : World) : Calls Tryz.prog 237 #[.int .i64 op] w fun e w' => e = .returned (.int .u8 (partsP op)) ∧ w = w' := by
  obtain ⟨u, hu⟩ : ∃ u, partsP op = u := ⟨_, rfl⟩
  rw [hu]
  have HU := hid hu
  clear hu
  go_enter Tryz.func237, Tryz.ntmps237
  go_wp2
  all_goals go_ret
  all_goals
    refine ⟨ret_int ?_, rfl⟩
    have hu := HU.out
    clear HU
    simp only [beq_iff_eq, beq_eq_false_iff_ne, ne_eq] at *
    subst hu
    simp [partsP, *]

end Go.Proofs.YtepbjkkakfpjgaaGreatDoor.Body

/-
  BODY: the reader's labels, by contract: new memory that holds them.
-/
namespace Go.Proofs.YtepbjkkakfpjgaaGreatDoor.Body
open Go.RowKit Go.Proofs.YtepbjkkakfpjgaaGreatDoor.Instr
open Go.Proofs.YtepbjkkakfpjgaaGreatDoor.Kind (Rd)

end Go.Proofs.YtepbjkkakfpjgaaGreatDoor.Body

namespace Go.Proofs.YtepbjkkakfpjgaaGreatDoor.Body
open Go.RowKit Go.Proofs.YtepbjkkakfpjgaaGreatDoor.Instr
open Go.Proofs.YtepbjkkakfpjgaaGreatDoor.Kind (Rd)

/-- An instruction in a block of its own, that can be written. -/
structure Bx (g : Nat) (x : Ix) (w : World) : Prop where
  at_ : At x g w
  f0 : w.frozen? ⟨g, 0, none⟩ = false
  f1 : w.frozen? ⟨g, 1, none⟩ = false
  f2 : w.frozen? ⟨g, 2, none⟩ = false
  f3 : w.frozen? ⟨g, 3, none⟩ = false
  f4 : w.frozen? ⟨g, 4, none⟩ = false
  f5 : w.frozen? ⟨g, 5, none⟩ = false
  f6 : w.frozen? ⟨g, 6, none⟩ = false
  f7 : w.frozen? ⟨g, 7, none⟩ = false
end Go.Proofs.YtepbjkkakfpjgaaGreatDoor.Body

namespace Go.Proofs.YtepbjkkakfpjgaaGreatDoor.Instr
open Go.RowKit Go.Shelf

attribute [local go_sem] Oper.semAt_some

theorem RoundIn.anyD {m m' : Nat} {P : Program} {l : Nat} {f : FuncId} {tmps : Array Value} {assign body : Code} {w : World} {R : Ending → World → Prop}
    (h : RoundIn Fence.wide m P l f tmps assign body w R) : RoundIn Fence.wide m' P l f tmps assign body w R := ⟨h.1, fun c cs _ => h.2 c cs (fun d h => by cases h)⟩
theorem YieldAt.anyD {m m' : Nat} {P : Program} {l : Nat} {args : Array Value} {W : World} {R : Ending → World → Prop} (h : YieldAt Fence.wide m P l args W R) : YieldAt Fence.wide m' P l args W R := by
  obtain ⟨fn, tmps, assign, body, hy, hR⟩ := h
  exact ⟨fn, tmps, assign, body, hy, RoundIn.anyD hR⟩

def encs (p : Int × Ix) : Array Value := #[.int .i64 p.1, .agg p.2.vals]

set_option maxHeartbeats 4000000 in
set_option maxRecDepth 100000 in
theorem descend_in (l n₀ n₁ N : Nat) (J Jx : List (Int × Ix) → World → Prop) (B : Nat) (hJ : AbidesFrom B J) (hn : n₀ ≤ n₁)
    (hY : ∀ m pre x W, J pre W → pre.length < N → n₁ ≤ W.heap.size → YieldAt Fence.wide m Tryz.prog l (encs x) W fun e W' =>
      (e = .returned (.bool true) ∧ J (pre ++ [x]) W' ∧ Kept n₀ n₁ W W') ∨ (e = .returned (.bool false) ∧ Jx (pre ++ [x]) W')) :
    ∀ (m : Nat) (t : Il) (n : Nat) (a : Option Addr) (len cap : Nat) (d : Int) (pre : List (Int × Ix)) (W : World), t.count ≤ m → ListAt n₀ W a len t → J pre W → pre.length + t.count ≤ N → n₁ ≤ W.heap.size → 0 ≤ d → d + t.deep ≤ 4611686018427387904 → len ≤ 140737488351232 →
      CallsIn Fence.wide n Tryz.prog 187 #[.slice a len cap, .int .i64 d, .func (.yield l) #[] #[]] W fun e W' =>
        (e = .returned (.bool true) ∧ J (pre ++ t.walk d) W' ∧ Kept n₀ n₁ W W') ∨ (e = .returned (.bool false) ∧ ∃ q, q <+: t.walk d ∧ Jx (pre ++ q) W') := by
  intro m
  induction m with
  | zero =>
    intro t n a len cap d pre W hm hl hJ0 hN hW hd0 hd1 hlen
    cases t with
    | cons x l e r => simp only [Il.count] at hm; omega
    | nil =>
      have h0 : len = 0 := hl.1.symm
      subst h0
      clear hm hl hN hd1
      refine callsIn_of_wp Tryz.func187 rfl trivial ?_ rfl
      simp only [Tryz.ntmps187, List.size_toArray, List.length_cons, List.length_nil, Nat.reduceAdd, Nat.reduceSub, Array.replicate_succ, Array.replicate_zero, List.push_toArray, List.append_toArray, List.nil_append, List.cons_append]
      gi_wp2
      gi_loopw [11] (fun i wr => i = .int .i64 0 ∧ J pre wr ∧ Kept n₀ n₁ W wr) (fun _ _ => 0)
      case atStart => exact ⟨rfl, hJ0, Kept.refl _ _ _⟩
      case round =>
        obtain ⟨rfl, hJs, hk⟩ := hrel
        gi_wp2
        go_ret
        exact .inl ⟨rfl, by simpa [Il.walk] using hJs, hk⟩
  | succ m ih =>
    intro t n a len cap d pre W hm hl hJ0 hN hW hd0 hd1 hlen
    have hA : ∀ s W, J s W → ∀ o, J s (W.alloc o) := fun s W h o => hJ s W _ none h (World.grownBy_alloc W o none) (fun r e => by cases e)
    obtain ⟨hl1, hl2⟩ := hl
    have HT := hid hm
    have HN := hid hN
    have HD := hid hd1
    have HL := hid hl1
    clear hm hN hd1 hl1
    rcases hl2 with rfl | ⟨b, off, rfl, hi⟩
    · have h0 : len = 0 := HL.out.symm
      subst h0
      refine callsIn_of_wp Tryz.func187 rfl trivial ?_ rfl
      simp only [Tryz.ntmps187, List.size_toArray, List.length_cons, List.length_nil, Nat.reduceAdd, Nat.reduceSub, Array.replicate_succ, Array.replicate_zero, List.push_toArray, List.append_toArray, List.nil_append, List.cons_append]
      gi_wp2
      gi_loopw [11] (fun i wr => i = .int .i64 0 ∧ J pre wr ∧ Kept n₀ n₁ W wr) (fun _ _ => 0)
      case atStart => exact ⟨rfl, hJ0, Kept.refl _ _ _⟩
      case round =>
        obtain ⟨rfl, hJs, hk⟩ := hrel
        gi_wp2
        go_ret
        exact .inl ⟨rfl, by simpa [Il.walk] using hJs, hk⟩
    · refine callsIn_of_wp Tryz.func187 rfl trivial ?_ rfl
      simp only [Tryz.ntmps187, List.size_toArray, List.length_cons, List.length_nil, Nat.reduceAdd, Nat.reduceSub, Array.replicate_succ, Array.replicate_zero, List.push_toArray, List.append_toArray, List.nil_append, List.cons_append]
      gi_wp2
      gi_loopw [11] (fun i wr => ∃ (k : Nat) (done : List (Int × Ix)) (rest : Il), i = .int .i64 k ∧ k ≤ len ∧ Hid (k + rest.len = len ∧ done ++ rest.walk d = t.walk d ∧ rest.count ≤ t.count ∧ rest.deep ≤ t.deep) ∧ Items n₀ wr b (off + k * 8) rest ∧ J (pre ++ done) wr ∧ Kept n₀ n₁ W wr)
        (fun i _ => len - (intOf i).toNat)
      case atStart => exact ⟨0, [], t, rfl, Nat.zero_le _, ⟨by have := HL.out; omega, rfl, Nat.le_refl _, Nat.le_refl _⟩, by simpa using hi, by simpa using hJ0, Kept.refl _ _ _⟩
      case round =>
        obtain ⟨k, done, rest, rfl, hk, HR, hir, hJs, hkw⟩ := hrel
        cases rest with
        | nil =>
          obtain ⟨r1, r2, _, _⟩ := HR.out
          have hkl : k = len := by simpa [Il.len] using r1
          subst hkl
          gi_wp2
          go_ret
          exact .inl ⟨rfl, by rw [← r2]; simpa [Il.walk] using hJs, hkw⟩
        | cons x tl te r =>
          obtain ⟨hbn, hx, ⟨c0, c1, c2, c3, c4, c5, c6, c7⟩, ht, hLl, hLe, hir'⟩ := hir
          have hlt : k < len := by have := HR.out.1; simp only [Il.len] at this; omega
          obtain ⟨fn, tmps, assign, body, hy, hR⟩ := hY (n - 1) (pre ++ done) (d, x) (wr.alloc (.cells x.vals 126)) (hA _ _ hJs _) (by
            have h1 := congrArg List.length HR.out.2.1
            have h2 := walk_length t d
            have h3 := HN.out
            simp only [List.length_append, Il.walk, List.length_cons] at h1 ⊢
            omega) (by have := hkw.below.size; simp; omega)
          simp only [encs, Ix.vals] at hy hR
          have hbx := At.made x wr
          have hg : n₁ ≤ wr.heap.size := Nat.le_trans hW hkw.below.size
          have hw1 : IntKind.i64.wrap (d + 1) = d + 1 := by have := HD.out; rw [IntKind.wrap_i64]; omega
          have hB1 : Kept n₀ n₁ W (wr.alloc (.cells x.vals 126)) := hkw.alloc _ (Nat.le_trans hn hg)
          have hcounts : tl.count + te.count + r.count + 1 ≤ m + 1 ∧ tl.deep + 1 ≤ t.deep ∧ te.deep + 1 ≤ t.deep := by
            have h1 := HR.out.2.2
            have h2 := HT.out
            simp only [Il.count, Il.deep] at h1
            omega
          have HC := hid hcounts
          clear hcounts
          have hlens : (pre ++ done).length + 1 + tl.count + te.count + r.count ≤ N := by
            have h1 := congrArg List.length HR.out.2.1
            have h2 := HN.out
            simp only [List.length_append, Il.walk, List.length_cons, walk_length] at h1 ⊢
            omega
          have HLN := hid hlens
          clear hlens
          gi_wp2_with fail
          refine ⟨fun h => (by cases h), ?_⟩
          refine hR.mono ?_
          clear hR hy
          rintro e W2 (⟨rfl, hJ2, hk2⟩ | ⟨rfl, hx2⟩)
          · have hb2 := hbx.kept hk2 hg
            obtain ⟨d0, d1, d2, d3, d4, d5, d6, d7⟩ := hb2
            gi_wp2_with fail
            refine ⟨trivial, fun h => (by cases h), ?_⟩
            have hL2 : ListAt n₀ W2 x.la x.ln tl := ListAt.below (((Below.refl _ wr).alloc (Nat.le_trans hn hg) _).trans hk2.below) hLl
            refine (ih tl (n - 1) x.la x.ln x.lc (d + 1) (pre ++ done ++ [(d, x)]) W2 (by have := HC.out; omega) hL2 hJ2 (by have := HLN.out; simp only [List.length_append, List.length_cons, List.length_nil] at this ⊢; omega)
              (by have := hk2.below.size; simp at this; omega) (by omega) (by have := HC.out; have := HD.out; omega) hx.ln).mono ?_
            rintro e W3 (⟨rfl, hJ3, hk3⟩ | ⟨rfl, q, hq, hx3⟩)
            · have hb3 := hbx.kept (hk2.trans hk3) hg
              clear d0 d1 d2 d3 d4 d5 d6 d7
              obtain ⟨d0, d1, d2, d3, d4, d5, d6, d7⟩ := hb3
              gi_wp2_with fail
              refine ⟨trivial, fun h => (by cases h), ?_⟩
              have hL3 : ListAt n₀ W3 x.ea x.en te := ListAt.below ((((Below.refl _ wr).alloc (Nat.le_trans hn hg) _).trans hk2.below).trans hk3.below) hLe
              refine (ih te (n - 1) x.ea x.en x.ec (d + 1) (pre ++ done ++ [(d, x)] ++ tl.walk (d + 1)) W3 (by have := HC.out; omega) hL3 hJ3 (by have := HLN.out; simp only [List.length_append, List.length_cons, List.length_nil, walk_length] at this ⊢; omega)
                (by have := (hk2.trans hk3).below.size; simp at this; omega) (by omega) (by have := HC.out; have := HD.out; omega) hx.en).mono ?_
              rintro e W4 (⟨rfl, hJ4, hk4⟩ | ⟨rfl, q, hq, hx4⟩)
              · clear d0 d1 d2 d3 d4 d5 d6 d7
                gi_wp2
                have hkz : Kept n₀ n₁ W W4 := hB1.trans ((hk2.trans hk3).trans hk4)
                go_roundw
                case rel =>
                  refine ⟨k + 1, done ++ [(d, x)] ++ tl.walk (d + 1) ++ te.walk (d + 1), r, by simp, by omega, ?_, ?_, ?_, hkz⟩
                  · have h1 := HR.out
                    refine ⟨by simp only [Il.len] at h1; omega, ?_, by simp only [Il.count] at h1; omega, by simp only [Il.deep] at h1; omega⟩
                    rw [← h1.2.1]; simp [Il.walk, List.append_assoc]
                  · have := Items.below ((((((Below.refl _ wr).alloc (Nat.le_trans hn hg) (.cells x.vals 126)).trans hk2.below).trans hk3.below)).trans hk4.below) hir'
                    rw [show off + (k + 1) * 8 = off + k * 8 + 8 by omega]
                    exact this
                  · simpa [List.append_assoc] using hJ4
                case measure => simp [intOf]; omega
              · gi_wp2
                go_ret
                refine .inr ⟨rfl, done ++ [(d, x)] ++ tl.walk (d + 1) ++ q, ?_, by simpa [List.append_assoc] using hx4⟩
                rw [← HR.out.2.1]
                obtain ⟨z, hz⟩ := hq
                exact ⟨z ++ r.walk d, by rw [Il.walk, ← hz]; simp [List.append_assoc]⟩
            · gi_wp2
              refine ⟨trivial, ?_⟩
              gi_wp2
              go_ret
              refine .inr ⟨rfl, done ++ [(d, x)] ++ q, ?_, by simpa [List.append_assoc] using hx3⟩
              rw [← HR.out.2.1]
              obtain ⟨z, hz⟩ := hq
              exact ⟨z ++ (te.walk (d + 1) ++ r.walk d), by rw [Il.walk, ← hz]; simp [List.append_assoc]⟩
          · gi_wp2
            refine ⟨trivial, ?_⟩
            gi_wp2
            refine ⟨trivial, ?_⟩
            gi_wp2
            go_ret
            refine .inr ⟨rfl, done ++ [(d, x)], ?_, by simpa [List.append_assoc] using hx2⟩
            rw [← HR.out.2.1]
            exact ⟨tl.walk (d + 1) ++ (te.walk (d + 1) ++ r.walk d), by simp [Il.walk, List.append_assoc]⟩

set_option maxHeartbeats 1000000 in
/-- The function that within hands back. -/
theorem within_stops (n n₀ n₁ Bs : Nat) (a : Option Addr) (len cap : Nat) (t : Il) (w : World) (hBs : Bs < w.heap.size) (hn : n₀ ≤ n₁) (hw : n₁ ≤ w.heap.size)
    (hc : w.cell? ⟨Bs, 0, none⟩ = some (.slice a len cap)) (hl : ListAt n₀ w a len t) (hd : t.deep ≤ 4611686018427387900) (hlen : len ≤ 140737488351232) :
    SeqStopsK Fence.wide n Tryz.prog 186 #[.pointer (some ⟨Bs, 0, none⟩)] encs (Kept n₀ n₁) (fun ys => ys = t.walk 1) (fun pre => pre <+: t.walk 1) t.count w := fun l J Jx W hW hJ _ hY h0 => by
  have hc' := (hW.cell (p := ⟨Bs, 0, none⟩) hBs).trans hc
  have hp := descend_in l n₀ n₁ t.count J Jx W.heap.size hJ hn (fun m pre x W1 hj hl1 _ => YieldAt.anyD (hY pre x W1 hj hl1)) t.count t (n - 1) a len cap 1 [] W (Nat.le_refl _) (hl.below (hW.mono (Nat.le_trans hn hw))) h0 (by simp) (Nat.le_trans hw hW.size) (by omega) (by omega) hlen
  have C := hid hp
  clear hp hl hd hc hY
  refine callsIn_of_wp Tryz.func186 rfl trivial ?_ rfl
  simp only [Tryz.ntmps186, List.size_toArray, List.length_cons, List.length_nil, Nat.reduceAdd, Nat.reduceSub, Array.replicate_succ, Array.replicate_zero, List.push_toArray, List.append_toArray, List.nil_append, List.cons_append]
  gi_wp2_with fail
  refine ⟨trivial, fun h => (by cases h), ?_⟩
  refine C.out.mono ?_
  clear C
  rintro e W1 (⟨rfl, hJ1, _⟩ | ⟨rfl, q, hq, hx⟩)
  · gi_wp2
    go_end0
    exact ⟨⟨_, rfl⟩, .inl ⟨_, rfl, by simpa using hJ1⟩⟩
  · gi_wp2
    go_end0
    exact ⟨⟨_, rfl⟩, .inr ⟨q, hq, by simpa using hx⟩⟩
theorem within_in (n : Nat) (a : Option Addr) (len cap : Nat) (w : World) :
    CallsIn Fence.wide n Tryz.prog 137 #[.slice a len cap] w fun e w' => e = .returned (.func (.func 186) #[] #[.pointer (some ⟨w.heap.size, 0, none⟩)]) ∧ w' = w.alloc (.cells #[.slice a len cap] 45) := by
  refine callsIn_of_wp Tryz.func137 rfl trivial ?_ rfl
  simp only [Tryz.ntmps137, List.size_toArray, List.length_cons, List.length_nil, Nat.reduceAdd, Nat.reduceSub, Array.replicate_succ, Array.replicate_zero, List.push_toArray, List.append_toArray, List.nil_append, List.cons_append]
  gi_wp2
  go_ret
  exact ⟨rfl, rfl⟩
end Go.Proofs.YtepbjkkakfpjgaaGreatDoor.Instr

namespace Go.Proofs.YtepbjkkakfpjgaaGreatDoor.Instr
open Go.RowKit Go.Shelf

theorem cell_new (W : World) (v : Value) (t : TypeId) : (W.alloc (.cells #[v] t)).cell? ⟨W.heap.size, 0, none⟩ = some v ∧ (W.alloc (.cells #[v] t)).frozen? ⟨W.heap.size, 0, none⟩ = false := by
  constructor <;> go_simp
end Go.Proofs.YtepbjkkakfpjgaaGreatDoor.Instr

namespace Go.Proofs.YtepbjkkakfpjgaaGreatDoor.Kind
open Go.RowKit

theorem own_new (w : World) (n : Nat) (xs : Array Value) (hs : xs.size = n) (hm : n ≤ maxLen) :
    Own w.heap.size (w.drew.alloc (.cells xs 5)) (.slice (some ⟨w.heap.size, 0, none⟩) 0 n) [] := by
  refine ⟨rfl, .inr ⟨w.heap.size, n, xs, rfl, Nat.le_refl _, ?_, Nat.zero_le _, hm, by omega, by simp⟩⟩
  show (w.heap.push _)[w.heap.size]? = _
  simp

set_option maxHeartbeats 800000 in
theorem grow_any (n : Nat) (h0 : 0 < n) (hn : n ≤ 1000000) (w : World) :
    Calls Tryz.prog 227 #[.slice none 0 0, .int .i64 n] w (Gives w []) := by
  obtain ⟨i0, hi, hz0, hz1, hz2⟩ := info_parts infoByte
  have hr := fun ty => Lib.run_append_nil_zeros w 35 3 ty 5 i0 (.int .u8 0) .i64 .i64 Tryz.underlying35 Tryz.underlying3 hi hz0 n h0 (by omega) (by omega) (by rw [hz2]; omega)
  have hG : n ≤ grownCap w n 0 5 := grownCap_ge w _ _ _
  have hG2 := grownCap_le_maxLen w n 0 5 (by unfold maxLen; omega)
  have hown := fun xs hs => own_new w (grownCap w n 0 5) xs hs hG2
  have hsz : (Builtin.zeroCells (Value.int IntKind.u8 0).cells n ++ Builtin.zeroCells (Value.int IntKind.u8 0).cells (grownCap w n 0 5 - n)).size = grownCap w n 0 5 := by
    simp [Builtin.zeroCells, Value.cells]; omega
  have hown := hown _ hsz
  generalize grownCap w n 0 5 = G at *
  generalize Builtin.zeroCells (Value.int IntKind.u8 0).cells n ++ Builtin.zeroCells (Value.int IntKind.u8 0).cells (G - n) = xs at *
  have hb : Below w.heap.size w (w.drew.alloc (.cells xs 5)) := (Below.refl _ _).drew.alloc (Nat.le_refl _) _
  have HB := hid hb
  have HO := hid hown
  have hn0 : ¬ ((n : Int) < 0) := by omega
  have hn1 : (0 : Int) < (n : Int) := by omega
  have hi1 : (0 : Int) ≤ (G : Int) := by omega
  have hm : (G : Int) ≤ 9223372036854775807 := by unfold maxLen at hG2; omega
  clear hb hown hsz hi hz0 hz1 hz2 hG2
  generalize w.drew.alloc (.cells xs 5) = w9 at *
  go_enter Tryz.func227, Tryz.ntmps227
  go_wp2_with (at_builtin; refine Lib.wpList_append_run _ rfl _ _ _ _ rfl _ _ rfl rfl _ _ (hr _) ?_)
  go_ret
  exact ⟨_, rfl, HO, HB⟩

/-- The cells from ⟨g, 0⟩ on hold slices of these bytes. -/
def Parts (w : World) (g : Nat) (ls : List (List Int)) : Prop := ∀ j, j < ls.length → ∃ a c, w.cell? ⟨g, j, none⟩ = some (.slice a (ls.getD j []).length c) ∧ Bytes w a (ls.getD j []) ∧ (a = none → c = 0)
theorem Parts.below {w w' : World} {g : Nat} {ls : List (List Int)} (h : Parts w g ls) (hb : Below w.heap.size w w') : Parts w' g ls := fun j hj => by
  obtain ⟨a, c, h1, h2, h3⟩ := h j hj
  exact ⟨a, c, keep hb h1, h2.below hb, h3⟩
theorem flat_succ {ls : List (List Int)} {i : Nat} (hi : i < ls.length) : (ls.take (i + 1)).flatten = (ls.take i).flatten ++ ls.getD i [] := by
  rw [List.take_succ_eq_append_getElem hi, List.flatten_append, List.getD_eq_getElem?_getD, List.getElem?_eq_getElem hi]; simp
theorem flat_le (ls : List (List Int)) (i : Nat) : (ls.take i).flatten.length ≤ ls.flatten.length := by
  conv => rhs; rw [← List.take_append_drop i ls, List.flatten_append, List.length_append]
  omega

set_option maxHeartbeats 1600000 in
theorem concat_any (g n cap : Nat) (ls : List (List Int)) (w : World) (hn : ls.length = n) (hp : Parts w g ls) (h0 : 0 < ls.flatten.length) (hmax : ls.flatten.length ≤ 100000) (hn9 : n ≤ 9) :
    Calls Tryz.prog 211 #[.slice (some ⟨g, 0, none⟩) n cap] w (Gives w ls.flatten) := by
  have HN := hid hn
  have HP := hid hp
  have hle := flat_le ls
  have hs := fun i hi => flat_succ (ls := ls) (i := i) hi
  have HLE := hid hle
  have HS := hid hs
  have HA : Hid ((ls.take n).flatten = ls.flatten) := hid (by rw [← hn, List.take_length])
  clear hn hp hle hs
  go_enter Tryz.func211, Tryz.ntmps211
  go_wp2
  go_loop [3, 11] (fun ss si => ∃ i : Nat, i ≤ n ∧ si = .int .i64 i ∧ ss = .int .i64 ((ls.take i).flatten.length : Nat)) (fun _ si => n - (intOf si).toNat)
  case atStart => exact ⟨0, by omega, rfl, rfl⟩
  case round =>
    obtain ⟨i, hi, rfl, rfl⟩ := hrel
    by_cases hlt : i < n
    · obtain ⟨a, c, hc, _, _⟩ := HP.out i (by have := HN.out; omega)
      have h1 := HLE.out (i + 1)
      have h2 := HS.out i (by have := HN.out; omega)
      have h3 := congrArg List.length h2
      rw [List.length_append] at h3
      have H3 := hid h3
      clear h2 h3
      generalize (ls.getD i []).length = p at *
      generalize hq : (ls.take i).flatten.length = q at *
      clear hq
      have hle2 : q + p ≤ 100000 := by have := H3.out; omega
      go_wp2
      go_round
      case rel => exact ⟨i + 1, by omega, by go_num, by rw [H3.out]; go_num⟩
      case measure => simp [intOf]; omega
    · obtain rfl : i = n := by omega
      rw [HA.out]
      obtain ⟨t, ht⟩ : ∃ t, ls.flatten.length = t := ⟨_, rfl⟩
      have HT := hid ht
      rw [ht] at h0 hmax
      rw [ht]
      clear ht
      go_wp2_with fail
      refine (grow_any t h0 (by omega) _).mono ?_
      rintro e w1 ⟨v, rfl, ho, hb⟩
      obtain ⟨a1, c1, rfl⟩ := ho.sliceN (n := 0) rfl
      go_wp2
      go_loopw [6, 27] (fun sv si wr => ∃ j : Nat, j ≤ i ∧ si = .int .i64 j ∧ Own w.heap.size wr sv (ls.take j).flatten ∧ Below w.heap.size w wr) (fun _ si _ => i - (intOf si).toNat)
      case atStart => exact ⟨0, by omega, rfl, ho, hb⟩
      case round =>
        obtain ⟨j, hj, rfl, hown, hbw⟩ := hrel
        obtain ⟨m, hm⟩ : ∃ m, (ls.take j).flatten.length = m := ⟨_, rfl⟩
        obtain ⟨av, cv, rfl⟩ := hown.sliceN hm
        have HM := hid hm
        clear hm
        by_cases hlj : j < i
        · obtain ⟨a, c, hc, hy, hnil⟩ := (Parts.below HP.out hbw) j (by have := HN.out; omega)
          have h1 := HLE.out (j + 1)
          have h2 := HS.out j (by have := HN.out; omega)
          have h3 := congrArg List.length h2
          rw [List.length_append] at h3
          have H2 := hid h2
          have hmm := HM.out
          have htt := HT.out
          have hle2 : (ls.take j).flatten.length + (ls.getD j []).length ≤ 100000 := by omega
          have HNIL := hid hnil
          clear h2 h3 h1 hmm htt hnil
          generalize ls.getD j [] = ys at *
          obtain ⟨m2, hm2⟩ : ∃ m2, ys.length = m2 := ⟨_, rfl⟩
          rw [hm2] at hc hle2
          have HM2 := hid hm2
          have HL2 := hid hle2
          clear hm2 hle2
          go_wp2_with (first | (at_builtin; refine append_bytes rfl (.tmp 31) (.tmp 32) rfl rfl hown hbw hbw.size _ _ _ rfl HNIL.out HM2.out hy (by have := HM2.out; have := HL2.out; omega) ?_; intro v' w5 hown5 hb5 hs5))
          go_roundw
          case rel => exact ⟨j + 1, by omega, by go_num, by rw [H2.out]; exact hown5, hb5⟩
          case measure => simp [intOf]; omega
        · obtain rfl : j = i := by omega
          go_wp2
          go_ret
          exact ⟨_, rfl, by rw [← HA.out]; exact hown, hbw⟩
end Go.Proofs.YtepbjkkakfpjgaaGreatDoor.Kind

namespace Go.Proofs.YtepbjkkakfpjgaaGreatDoor.Kind
open Go.RowKit

theorem eqType (a b c d : Int) (w : World) : (Op.equalIn 10000 50 (.agg #[.int .i64 a, .int .i64 b]) (.agg #[.int .i64 c, .int .i64 d])).run Tryz.prog w = .ok (a == c && b == d) w := by
  have u3 := Tryz.underlying3
  have a3 := Tryz.isAgg3
  have z3 := Tryz.sizeOf3
  have hS : Tryz.prog.underlying 50 = some (.struct (Tryz.prog.fieldsOf 50)) := by kernel_rfl
  have hp : Tryz.prog.stoodInHeld 50 = false := by kernel_rfl
  rw [show (10000 : Nat) = 9999 + 1 from rfl, run_equalIn_agg w 9999 50 _ _ hS hp]
  simp only [Program.fieldsOf, Tryz.underlying50]
  go_simp
  by_cases h1 : a = c <;> by_cases h2 : b = d <;> simp [h1, h2]
theorem guardType (op : BinOp) (x y : Operand) (xs ys : Array Value) (w : World) : (eqGuard op 50 x y (.agg xs) (.agg ys)).run Tryz.prog w = .ok () w :=
  run_eqGuard_agg w op _ x y xs ys (by kernel_rfl)
theorem eqLim (a b c d : Int) (s t : Bool) (w : World) : (Op.equalIn 10000 60 (.agg #[.int .u32 a, .int .u32 b, .bool s]) (.agg #[.int .u32 c, .int .u32 d, .bool t])).run Tryz.prog w = .ok (a == c && b == d && s == t) w := by
  have u3 := Tryz.underlying28
  have a3 := Tryz.isAgg28
  have z3 := Tryz.sizeOf28
  have u4 := Tryz.underlying4
  have a4 := Tryz.isAgg4
  have z4 := Tryz.sizeOf4
  have hS : Tryz.prog.underlying 60 = some (.struct (Tryz.prog.fieldsOf 60)) := by kernel_rfl
  have hp : Tryz.prog.stoodInHeld 60 = false := by kernel_rfl
  rw [show (10000 : Nat) = 9999 + 1 from rfl, run_equalIn_agg w 9999 60 _ _ hS hp]
  simp only [Program.fieldsOf, Tryz.underlying60]
  go_simp
  by_cases h1 : a = c <;> by_cases h2 : b = d <;> by_cases h3 : s = t <;> simp [h1, h2, h3]
theorem guardLim (op : BinOp) (x y : Operand) (xs ys : Array Value) (w : World) : (eqGuard op 60 x y (.agg xs) (.agg ys)).run Tryz.prog w = .ok () w :=
  run_eqGuard_agg w op _ x y xs ys (by kernel_rfl)
end Go.Proofs.YtepbjkkakfpjgaaGreatDoor.Kind

namespace Go.Proofs.YtepbjkkakfpjgaaGreatDoor.Leb
open Go.RowKit

set_option maxHeartbeats 1600000 in
theorem refU_any (n : Int) (w : World) (h0 : 0 ≤ n) (h1 : n < 4294967296) :
    Calls Tryz.prog 113 #[.int .u32 n] w (Gives w (encU n)) := by
  go_enter Tryz.func113, Tryz.ntmps113
  go_wp2
  go_loopw [0, 3] (fun su out wr => ∃ (m : Int) (xs : List Int), 0 ≤ m ∧ m < 4294967296 ∧ su = .int .u32 m ∧ Own w.heap.size wr out xs ∧ xs ++ encU m = encU n ∧ xs.length ≤ 5 ∧ Below w.heap.size w wr ∧ w.heap.size ≤ wr.heap.size)
    (fun su _ _ => (intOf su).toNat)
  case atStart => exact ⟨n, [], h0, h1, rfl, World.ownsRow_nil _ _ _ _, rfl, by decide, Below.refl _ _, Nat.le_refl _⟩
  case round =>
    obtain ⟨m, xs, hm0, hm1, rfl, hown, hp, hx5, hb, hsz⟩ := hrel
    obtain ⟨a, c, rfl⟩ := hown.slice
    have HP := hid hp
    clear hp
    by_cases hl : 128 ≤ m
    · have HF : Hid ((xs ++ [m % 128 + 128]) ++ encU (m / 128) = encU n) := by
        have := HP.out; rw [encU_step hl hm1] at this; rw [← this]; simp; exact trivial
      have H5 : Hid ((xs ++ [m % 128 + 128]).length ≤ 5) := by
        have h := congrArg List.length HF.out
        have := sizeU_pos n
        simp [encU_length] at h
        show _ ≤ _
        simp; omega
      clear HP
      go_wp2_with (first | (at_builtin; refine append_byte rfl (.tmp 6) (.tmp 11) rfl (m % 128 + 128) rfl hown hb hsz rfl (by omega) ?_; intro v' w1 hown' hb' hsz'))
      go_roundw
      case rel => exact ⟨m / 128, xs ++ [m % 128 + 128], by omega, by omega, rfl, hown', HF.out, H5.out, hb', hsz'⟩
      case measure => simp [intOf]; omega
    · have HF : Hid (xs ++ [m] = encU n) := by
        have := HP.out; rw [encU_last hm0 (by omega)] at this; exact this
      clear HP
      go_wp2_with (first | (at_builtin; refine append_byte rfl (.tmp 15) (.tmp 18) rfl m rfl hown hb hsz rfl (by omega) ?_; intro v' w1 hown' hb' hsz'))
      go_ret
      rw [HF.out] at hown'
      exact ⟨v', rfl, hown', hb'⟩

end Go.Proofs.YtepbjkkakfpjgaaGreatDoor.Leb

namespace Go.Proofs.YtepbjkkakfpjgaaGreatDoor
open Go.RowKit

theorem strOf_inj {xs ys : List Int} (hx : ∀ z ∈ xs, 0 ≤ z ∧ z < 256) (hy : ∀ z ∈ ys, 0 ≤ z ∧ z < 256) (h : xs.map (fun n => UInt8.ofNat n.toNat) = ys.map (fun n => UInt8.ofNat n.toNat)) : xs = ys := by
  induction xs generalizing ys with
  | nil => cases ys <;> simp_all
  | cons x xs ih =>
    cases ys with
    | nil => simp at h
    | cons y ys =>
      simp only [List.map_cons, List.cons.injEq] at h
      have h1 := hx x (by simp)
      have h2 := hy y (by simp)
      have h3 := congrArg UInt8.toNat h.1
      simp only [UInt8.toNat_ofNat'] at h3
      have : x = y := by omega
      rw [this, ih (fun z hz => hx z (by simp [hz])) (fun z hz => hy z (by simp [hz])) h.2]

theorem SameBytes_any (a1 a2 : Option Addr) (l1 c1 l2 c2 : Nat) (xs ys : List Int) (w : World) (hl1 : xs.length = l1) (hl2 : ys.length = l2) (hx : Bytes w a1 xs) (hy : Bytes w a2 ys) :
    Calls Tryz.prog 11 #[.slice a1 l1 c1, .slice a2 l2 c2] w fun e w' => e = .returned (.bool (decide (xs = ys))) ∧ w = w' := by
  have e1 := str_of hx l1 c1 hl1
  have e2 := str_of hy l2 c2 hl2
  have HE : Hid (((strOfNums xs).toList == (strOfNums ys).toList) = decide (xs = ys)) := by
    show (_ == _) = decide _
    by_cases h : xs = ys
    · subst h; simp
    · have : ¬ (strOfNums xs).toList = (strOfNums ys).toList := fun hh => h (strOf_inj hx.byte hy.byte (by rw [ByteArray.toList_eq, ByteArray.toList_eq, strOfNums_data, strOfNums_data] at hh; exact hh))
      simp [h, this]
  clear hl1 hl2
  go_enter Tryz.func11, Tryz.ntmps11
  go_wp2
  go_ret
  exact ⟨ret_bool HE.out, rfl⟩
end Go.Proofs.YtepbjkkakfpjgaaGreatDoor


namespace Go.Proofs.YtepbjkkakfpjgaaGreatDoor.Body
open Go.RowKit Go.Proofs.YtepbjkkakfpjgaaGreatDoor.Instr
theorem isSome_doc {op : Int} : ((strOfNums (nameL op)).toList.isEmpty = true) ↔ nameL op = [] := by
  rw [ByteArray.toList_eq, strOfNums_data]
  simp
end Go.Proofs.YtepbjkkakfpjgaaGreatDoor.Body

namespace Go.Proofs.YtepbjkkakfpjgaaGreatDoor.Utf
open Go.RowKit

theorem infoInt : (Tryz.prog.info? 3).map (fun i => (i.zero, i.size, i.bytes)) = some (some (.int .i64 0), 1, 8) := by kernel_rfl
/-- What Runes hands back: the runes, no fault; or none, and the fault. -/
def faultL (zs : List Int) : Int × Int := if (scan zs).2 = zs.length then (0, 0) else (4, (scan zs).2)
def runesL (zs : List Int) : List Int := if (scan zs).2 = zs.length then (scan zs).1 else []
/-- What Runes hands back. -/
def GotRunes (w : World) (zs : List Int) (e : Ending) (w' : World) : Prop :=
  ∃ v, e = .returned (.tuple #[v, .agg #[.int .i64 (faultL zs).1, .int .i64 (faultL zs).2]]) ∧ OwnK 3 .i64 w.heap.size w' v (runesL zs) ∧ Below w.heap.size w w'
theorem own_nothing (e : TypeId) (k : IntKind) (base : Nat) (w : World) : OwnK e k base w (.slice none 0 0) [] := World.ownsRow_nil _ _ _ _
end Go.Proofs.YtepbjkkakfpjgaaGreatDoor.Utf
