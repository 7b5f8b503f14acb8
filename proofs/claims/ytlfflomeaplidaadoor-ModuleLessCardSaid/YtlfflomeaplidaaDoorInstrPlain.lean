/-
  INSTR: instructions as plain data: a list of them, each with the two lists in it; what an operation is called, takes, leaves and uses; how many and how deep they are; whether they may be; their text. It imports nothing of any translation.
-/
import Derived.Lib.ItoaNum
import Derived.Test.YtlfflomeaplidaaDoorBase
namespace Go.Proofs.YtlfflomeaplidaaDoor.Instr
open Go.RowKit

/-- An instruction's own fields; of each of its three lists where it lies, how long it is and how far it reaches. -/
structure Ix where
  op : Int
  res : Int
  a : Int
  b : Int
  n : Int
  tags : List Int
  ta : Option Addr
  tc : Nat
  la : Option Addr
  ln : Nat
  lc : Nat
  ea : Option Addr
  en : Nat
  ec : Nat
/-- A list of instructions: the first one's fields, its list L, its list E, and the others. -/
inductive Il where
  | nil
  | cons (x : Ix) (l e r : Il)
def Il.len : Il → Nat
  | .nil => 0
  | .cons _ _ _ r => r.len + 1
def Il.count : Il → Nat
  | .nil => 0
  | .cons _ l e r => l.count + e.count + r.count + 1
def Il.deep : Il → Nat
  | .nil => 0
  | .cons _ l e r => max (max l.deep e.deep + 1) r.deep

/-- The names of the operations, as the program's text lays them. -/
def nameTab : List (List Int) := [[117, 110, 114, 101, 97, 99, 104, 97, 98, 108, 101], [110, 111, 112], [98, 108, 111, 99, 107], [108, 111, 111, 112], [105, 102], [], [], [], [], [], [], [], [98, 114], [98, 114, 95, 105, 102], [98, 114, 95, 116, 97, 98, 108, 101], [114, 101, 116, 117, 114, 110], [99, 97, 108, 108], [99, 97, 108, 108, 95, 105, 110, 100, 105, 114, 101, 99, 116], [], [], [], [], [], [], [], [], [100, 114, 111, 112], [115, 101, 108, 101, 99, 116], [], [], [], [], [108, 111, 99, 97, 108, 46, 103, 101, 116], [108, 111, 99, 97, 108, 46, 115, 101, 116], [108, 111, 99, 97, 108, 46, 116, 101, 101], [103, 108, 111, 98, 97, 108, 46, 103, 101, 116], [103, 108, 111, 98, 97, 108, 46, 115, 101, 116], [], [], [], [105, 51, 50, 46, 108, 111, 97, 100], [], [], [], [105, 51, 50, 46, 108, 111, 97, 100, 56, 95, 115], [105, 51, 50, 46, 108, 111, 97, 100, 56, 95, 117], [105, 51, 50, 46, 108, 111, 97, 100, 49, 54, 95, 115], [105, 51, 50, 46, 108, 111, 97, 100, 49, 54, 95, 117], [], [], [], [], [], [], [105, 51, 50, 46, 115, 116, 111, 114, 101], [], [], [], [105, 51, 50, 46, 115, 116, 111, 114, 101, 56], [105, 51, 50, 46, 115, 116, 111, 114, 101, 49, 54], [], [], [], [109, 101, 109, 111, 114, 121, 46, 115, 105, 122, 101], [109, 101, 109, 111, 114, 121, 46, 103, 114, 111, 119], [105, 51, 50, 46, 99, 111, 110, 115, 116], [], [], [], [105, 51, 50, 46, 101, 113, 122], [105, 51, 50, 46, 101, 113], [105, 51, 50, 46, 110, 101], [105, 51, 50, 46, 108, 116, 95, 115], [105, 51, 50, 46, 108, 116, 95, 117], [105, 51, 50, 46, 103, 116, 95, 115], [105, 51, 50, 46, 103, 116, 95, 117], [105, 51, 50, 46, 108, 101, 95, 115], [105, 51, 50, 46, 108, 101, 95, 117], [105, 51, 50, 46, 103, 101, 95, 115], [105, 51, 50, 46, 103, 101, 95, 117], [], [], [], [], [], [], [], [], [], [], [], [], [], [], [], [], [], [], [], [], [], [], [], [105, 51, 50, 46, 99, 108, 122], [105, 51, 50, 46, 99, 116, 122], [105, 51, 50, 46, 112, 111, 112, 99, 110, 116], [105, 51, 50, 46, 97, 100, 100], [105, 51, 50, 46, 115, 117, 98], [105, 51, 50, 46, 109, 117, 108], [105, 51, 50, 46, 100, 105, 118, 95, 115], [105, 51, 50, 46, 100, 105, 118, 95, 117], [105, 51, 50, 46, 114, 101, 109, 95, 115], [105, 51, 50, 46, 114, 101, 109, 95, 117], [105, 51, 50, 46, 97, 110, 100], [105, 51, 50, 46, 111, 114], [105, 51, 50, 46, 120, 111, 114], [105, 51, 50, 46, 115, 104, 108], [105, 51, 50, 46, 115, 104, 114, 95, 115], [105, 51, 50, 46, 115, 104, 114, 95, 117], [105, 51, 50, 46, 114, 111, 116, 108], [105, 51, 50, 46, 114, 111, 116, 114]]
def nameL (op : Int) : List Int := if 0 ≤ op ∧ op < 121 then nameTab.getD op.toNat [] else []
def usedP (op : Int) : Int :=
  if op = 40 ∨ op = 54 ∨ op = 46 ∨ op = 47 ∨ op = 59 ∨ op = 44 ∨ op = 45 ∨ op = 58 then 6
  else if op = 2 ∨ op = 3 then 33 else if op = 4 then 97
  else if op = 12 ∨ op = 13 ∨ op = 16 ∨ op = 17 ∨ op = 32 ∨ op = 33 ∨ op = 34 ∨ op = 35 ∨ op = 36 then 2
  else if op = 14 then 18 else if op = 65 then 8 else 0
def bit (b : Bool) (k : Int) : Int := if b then k else 0
def filledP (x : Ix) : Int :=
  bit (x.res != 0) 1 + bit (x.a != 0) 2 + bit (x.b != 0) 4 + bit (x.n != 0) 8 + bit (decide (0 < x.tags.length)) 16 + bit (decide (0 < x.ln)) 32 + bit (decide (0 < x.en)) 64
/-- The fields that are filled and not used. -/
def overP (x : Ix) : Int := bits .andNot .u8 (filledP x) (usedP x.op)
def lawfulP (x : Ix) : Bool := decide (nameL x.op ≠ []) && decide (overP x = 0) && (decide (x.res = 0) || decide (x.res = 1))
def Il.all : Il → Bool
  | .nil => true
  | .cons x l e r => lawfulP x && l.all && e.all && r.all
def Il.tags : Il → Bool
  | .nil => false
  | .cons x l e r => decide (16384 < x.tags.length) || l.tags || e.tags || r.tags
def checkP (t : Il) : Int := if t.all then (if 262144 < t.count ∨ 900 < t.deep ∨ t.tags = true then 141 else 0) else 2

/-- All of them, each ahead of those in it, with how deep it stands. -/
def Il.walk : Il → Int → List (Int × Ix)
  | .nil, _ => []
  | .cons x l e r, d => (d, x) :: (l.walk (d + 1) ++ (e.walk (d + 1) ++ r.walk d))
theorem walk_length : ∀ (t : Il) (d : Int), (t.walk d).length = t.count
  | .nil, _ => rfl
  | .cons x l e r, d => by simp [Il.walk, Il.count, walk_length l, walk_length e, walk_length r]; omega
theorem walk_all : ∀ (t : Il) (d : Int), ((t.walk d).all fun p => lawfulP p.2) = t.all
  | .nil, _ => rfl
  | .cons x l e r, d => by simp [Il.walk, Il.all, walk_all l, walk_all e, walk_all r, Bool.and_assoc]
theorem walk_tags : ∀ (t : Il) (d : Int), ((t.walk d).any fun p => decide (16384 < p.2.tags.length)) = t.tags
  | .nil, _ => rfl
  | .cons x l e r, d => by simp [Il.walk, Il.tags, walk_tags l, walk_tags e, walk_tags r, Bool.or_assoc]
/-- How deep the deepest stands. -/
def deepest (l : List (Int × Ix)) : Int := l.foldl (fun m p => max m p.1) 0
theorem foldl_max (l : List (Int × Ix)) (m : Int) : l.foldl (fun m p => max m p.1) m = max m (l.foldl (fun m p => max m p.1) m) := by
  induction l generalizing m with
  | nil => simp
  | cons p l ih => simp only [List.foldl_cons]; rw [ih]; omega
theorem walk_deep : ∀ (t : Il) (d m : Int), 1 ≤ d → 0 ≤ m → (t.walk d).foldl (fun m p => max m p.1) m = max m (if t.deep = 0 then 0 else d - 1 + t.deep)
  | .nil, d, m, _, hm => by simp [Il.walk, Il.deep]; omega
  | .cons x l e r, d, m, h, hm => by
    simp only [Il.walk, List.foldl_cons, List.foldl_append, Il.deep]
    rw [walk_deep l _ _ (by omega) (by omega), walk_deep e _ _ (by omega) (by omega), walk_deep r _ _ h (by omega)]
    (repeat' split) <;> omega
theorem deepest_walk (t : Il) : deepest (t.walk 1) = t.deep := by
  unfold deepest
  rw [walk_deep t 1 0 (by omega) (by omega)]
  split <;> omega
theorem deepest_snoc (l : List (Int × Ix)) (p : Int × Ix) : deepest (l ++ [p]) = max (deepest l) p.1 := by simp [deepest, List.foldl_append]
theorem deepest_nonneg (l : List (Int × Ix)) : 0 ≤ deepest l := by unfold deepest; rw [foldl_max]; omega
theorem walk_depths : ∀ (t : Il) (d : Int), ∀ p ∈ t.walk d, d ≤ p.1 ∧ p.1 ≤ d + t.deep
  | .nil, _, p, hp => by simp [Il.walk] at hp
  | .cons x l e r, d, p, hp => by
    simp only [Il.walk, List.mem_cons, List.mem_append] at hp
    simp only [Il.deep]
    rcases hp with rfl | hp | hp | hp
    · simp; omega
    · have := walk_depths l (d + 1) p hp; omega
    · have := walk_depths e (d + 1) p hp; omega
    · have := walk_depths r d p hp; omega
theorem deep_le_count : ∀ t : Il, t.deep ≤ t.count
  | .nil => Nat.le_refl _
  | .cons x l e r => by have := deep_le_count l; have := deep_le_count e; have := deep_le_count r; simp only [Il.deep, Il.count]; omega
theorem len_le_count : ∀ t : Il, t.len ≤ t.count
  | .nil => Nat.le_refl _
  | .cons x l e r => by have := len_le_count r; simp only [Il.len, Il.count]; omega

/-- A number's digits. -/
def decL (n : Int) : List Int := (Lib.itoa n).map fun b => (b.toNat : Int)
def numT (n : Int) : List Int := 32 :: decL n
def uses (u k : Int) : Bool := decide (bits .and .u8 u k ≠ 0)
def fieldsL (x : Ix) (u : Int) : List Int :=
  (if uses u 1 && decide (x.res = 1) then [32, 105, 51, 50] else []) ++ (if uses u 16 then x.tags.flatMap numT else []) ++ (if uses u 2 then numT x.a else []) ++ (if uses u 4 then numT x.b else []) ++ (if uses u 8 then numT x.n else [])
def Il.text : Il → List Int
  | .nil => []
  | .cons x l e r =>
    (nameL x.op ++ fieldsL x (usedP x.op) ++ [59] ++
      (if uses (usedP x.op) 32 then l.text ++ (if uses (usedP x.op) 64 && decide (0 < x.en) then [101, 108, 115, 101, 59] ++ e.text else []) ++ [101, 110, 100, 59] else [])) ++ r.text
end Go.Proofs.YtlfflomeaplidaaDoor.Instr
