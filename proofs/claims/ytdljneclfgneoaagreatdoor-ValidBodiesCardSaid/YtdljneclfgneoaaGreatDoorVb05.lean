import Derived.Test.YtdljneclfgneoaaGreatDoorVb02
import Derived.Laws.AppendOwn
import Derived.Laws.AppendOwnNone
import Derived.Laws.OwnMore
import Derived.Deep.AppendLies
import Derived.Laws.Tables
import Derived.Deep.WholeRow
import Derived.BigQuiet
import Derived.Deep.QuietTactic
import Derived.Lib.SliceRun
import Derived.Deep.Cut
import Derived.Deep.RegionHeld
import Derived.Deep.RegionHeldLaw
namespace Go.Proofs.YtdljneclfgneoaaGreatDoor.Leb
end Go.Proofs.YtdljneclfgneoaaGreatDoor.Leb
namespace Go.Proofs.YtdljneclfgneoaaGreatDoor.Instr
end Go.Proofs.YtdljneclfgneoaaGreatDoor.Instr
namespace Go.Proofs.YtdljneclfgneoaaGreatDoor.Mod
end Go.Proofs.YtdljneclfgneoaaGreatDoor.Mod
namespace Go.Proofs.YtdljneclfgneoaaGreatDoor.Stk
end Go.Proofs.YtdljneclfgneoaaGreatDoor.Stk
namespace Go.Proofs.YtdljneclfgneoaaGreatDoor.Kind
open Go.Proofs.YtdljneclfgneoaaGreatDoor.Leb

def okType (p r : Int) : Bool := decide (0 ≤ p) && decide (p ≤ 255) && decide (0 ≤ r) && decide (r ≤ 1)
def okLim (n x : Int) (c : Bool) (most : Int) : Bool := decide (n ≤ most) && (if c then decide (n ≤ x) && decide (x ≤ most) else decide (x = 0))
/-- A reader: its place, its error, the place of that. -/
abbrev Rd := Int × Int × Int
end Go.Proofs.YtdljneclfgneoaaGreatDoor.Kind

namespace Go.Proofs.YtdljneclfgneoaaGreatDoor.Mod
open Go.RowKit Go.Proofs.YtdljneclfgneoaaGreatDoor.Instr

/-- A list of instructions: where it lies, how far it reaches, what it is. -/
structure Lst where
  a : Option Addr
  c : Nat
  t : Il
structure Imp where
  mo : ByteArray
  na : ByteArray
  ty : Int
structure Fn where
  ty : Int
  lo : Int
  l : Lst
structure Li where
  n : Int
  x : Int
  c : Bool
structure Gl where
  mu : Bool
  l : Lst
structure Ex where
  na : ByteArray
  k : Int
  i : Int
structure El where
  l : Lst
  fa : Option Addr
  fc : Nat
  fs : List Int
structure Da where
  l : Lst
  ba : Option Addr
  bc : Nat
  bs : List Int
/-- Where a slice lies, and how far it reaches. -/
structure Sl where
  a : Option Addr
  c : Nat
structure Md where
  ty : List (Int × Int)
  im : List Imp
  fu : List Fn
  tb : List Li
  me : List Li
  gl : List Gl
  ex : List Ex
  st : Bool
  sn : Int
  el : List El
  da : List Da
  ty' : Sl
  im' : Sl
  fu' : Sl
  tb' : Sl
  me' : Sl
  gl' : Sl
  ex' : Sl
  el' : Sl
  da' : Sl

def Lst.val (l : Lst) : Value := .slice l.a l.t.len l.c
def tyV (x : Int × Int) : List Value := [.int .i64 x.1, .int .i64 x.2]
def Imp.v (x : Imp) : List Value := [.string x.mo, .string x.na, .int .i64 x.ty]
def Fn.v (x : Fn) : List Value := [.int .i64 x.ty, .int .i64 x.lo, x.l.val]
def Li.v (x : Li) : List Value := [.int .u32 x.n, .int .u32 x.x, .bool x.c]
def Gl.v (x : Gl) : List Value := [.bool x.mu, x.l.val]
def Ex.v (x : Ex) : List Value := [.string x.na, .int .i64 x.k, .int .u32 x.i]
def El.v (x : El) : List Value := [x.l.val, .slice x.fa x.fs.length x.fc]
def Da.v (x : Da) : List Value := [x.l.val, .slice x.ba x.bs.length x.bc]
/-- A module's cells. -/
def Md.v (m : Md) : Array Value := #[.slice m.ty'.a m.ty.length m.ty'.c, .slice m.im'.a m.im.length m.im'.c, .slice m.fu'.a m.fu.length m.fu'.c, .slice m.tb'.a m.tb.length m.tb'.c, .slice m.me'.a m.me.length m.me'.c,
  .slice m.gl'.a m.gl.length m.gl'.c, .slice m.ex'.a m.ex.length m.ex'.c, .bool m.st, .int .u32 m.sn, .slice m.el'.a m.el.length m.el'.c, .slice m.da'.a m.da.length m.da'.c]

/-- All lists of instructions, in order. -/
def Md.codes (m : Md) : List Lst := m.fu.map (·.l) ++ (m.gl.map (·.l) ++ (m.el.map (·.l) ++ m.da.map (·.l)))
/-- What is told of them all: too many ahead of wrong. -/
def codeP : List Lst → Int
  | [] => 0
  | l :: r => if checkP l.t = 141 then 141 else if codeP r = 141 then 141 else if checkP l.t = 0 then codeP r else 2
theorem checkP_cases (t : Il) : checkP t = 0 ∨ checkP t = 141 ∨ checkP t = 2 := by
  unfold checkP; split
  · split <;> simp
  · simp
theorem codeP_cons (l : Lst) (r : List Lst) : codeP (l :: r) = if checkP l.t = 141 then 141 else if codeP r = 141 then 141 else if checkP l.t = 0 then codeP r else 2 := rfl
theorem codeP_cases : ∀ l : List Lst, codeP l = 0 ∨ codeP l = 141 ∨ codeP l = 2
  | [] => .inl rfl
  | l :: r => by
    rw [codeP_cons]
    have := codeP_cases r
    split
    · simp
    · split
      · simp
      · split
        · exact this
        · simp
def worstP : List Lst → Int → Int
  | [], x => x
  | l :: r, x => worstP r (if checkP l.t = 0 then x else checkP l.t)
theorem worstP_append : ∀ (l r : List Lst) (x : Int), worstP (l ++ r) x = worstP r (worstP l x)
  | [], _, _ => rfl
  | a :: l, r, x => by simp only [List.cons_append, worstP]; exact worstP_append l r _
/-- As the program goes: no list has too many, and what the last wrong one told. -/
theorem codeP_none : ∀ (l : List Lst) (x : Int), (∀ y ∈ l, checkP y.t ≠ 141) → (x = 0 ∨ x = 2) → worstP l x = (if x = 2 then 2 else codeP l) ∧ codeP l ≠ 141
  | [], x, _, hx => by
    simp only [worstP, codeP]
    split <;> omega
  | l :: r, x, h, hx => by
    have h0 := h l (by simp)
    have hr : ∀ y ∈ r, checkP y.t ≠ 141 := fun y hy => h y (by simp [hy])
    have hc := checkP_cases l.t
    simp only [worstP]
    by_cases h1 : checkP l.t = 0
    · obtain ⟨i1, i2⟩ := codeP_none r x hr hx
      have e : codeP (l :: r) = codeP r := by rw [codeP_cons, if_neg h0, if_neg i2, if_pos h1]
      rw [if_pos h1, i1, e]
      exact ⟨rfl, i2⟩
    · have h2 : checkP l.t = 2 := by omega
      obtain ⟨i1, i2⟩ := codeP_none r 2 hr (.inr rfl)
      have e : codeP (l :: r) = 2 := by rw [codeP_cons, if_neg h0, if_neg i2, if_neg h1]
      rw [if_neg h1, h2, i1, if_pos rfl, e]
      exact ⟨by split <;> rfl, by omega⟩
theorem codeP_many : ∀ (l : List Lst) (y : Lst), y ∈ l → checkP y.t = 141 → codeP l = 141
  | [], y, h, _ => by simp at h
  | l :: r, y, h, h1 => by
    rw [codeP_cons]
    rcases List.mem_cons.1 h with rfl | h
    · rw [if_pos h1]
    · split
      · rfl
      · rw [if_pos (codeP_many r y h h1)]
theorem codeP_of_many : ∀ (l : List Lst), codeP l = 141 → ∃ y ∈ l, checkP y.t = 141
  | [], h => by simp [codeP] at h
  | l :: r, h => by
    rw [codeP_cons] at h
    split at h
    · exact ⟨l, by simp, by assumption⟩
    · split at h
      · obtain ⟨y, hy, h1⟩ := codeP_of_many r (by assumption)
        exact ⟨y, by simp [hy], h1⟩
      · split at h
        · contradiction
        · omega
theorem codeP_zero : ∀ (l : List Lst), codeP l = 0 ↔ ∀ y ∈ l, checkP y.t = 0
  | [] => by simp [codeP]
  | l :: r => by
    rw [codeP_cons, List.forall_mem_cons, ← codeP_zero r]
    have := checkP_cases l.t
    have := codeP_cases r
    (repeat' split) <;> omega

/-- The place of the first item of which p holds; -1 if there is none. -/
def idxP {α : Type} (p : α → Bool) (l : List α) : Int := match l.findIdx? p with
  | some i => (i : Int)
  | none => -1
theorem idxP_hit {α : Type} {p : α → Bool} {l : List α} {k : Nat} (hk : k < l.length) (h : p l[k] = true) (hb : ∀ j (hj : j < l.length), j < k → p l[j] = false) : idxP p l = k := by
  have : l.findIdx? p = some k := List.findIdx?_eq_some_iff_getElem.2 ⟨hk, h, fun j hj => by rw [hb j (by omega) hj]; simp⟩
  unfold idxP; rw [this]
theorem idxP_miss {α : Type} {p : α → Bool} {l : List α} (hb : ∀ j (hj : j < l.length), p l[j] = false) : idxP p l = -1 := by
  have : l.findIdx? p = none := List.findIdx?_eq_none_iff.2 fun x hx => by
    obtain ⟨j, hj, rfl⟩ := List.mem_iff_getElem.1 hx
    exact hb j hj
  unfold idxP; rw [this]
theorem idxP_any {α : Type} (p : α → Bool) (l : List α) : decide (0 ≤ idxP p l) = l.any p := by
  cases h : l.findIdx? p with
  | none =>
    have h1 := List.findIdx?_eq_none_iff.1 h
    have : l.any p = false := by rw [List.any_eq_false]; intro x hx; rw [h1 x hx]; simp
    rw [this]; unfold idxP; rw [h]; simp
  | some i =>
    obtain ⟨hi, h1, _⟩ := List.findIdx?_eq_some_iff_getElem.1 h
    have : l.any p = true := List.any_eq_true.2 ⟨l[i], List.getElem_mem hi, h1⟩
    rw [this]; unfold idxP; rw [h]; simp
theorem idxP_bounds {α : Type} (p : α → Bool) (l : List α) : -1 ≤ idxP p l ∧ idxP p l < l.length := by
  unfold idxP
  cases h : l.findIdx? p with
  | none => simp; omega
  | some i =>
    obtain ⟨hi, _, _⟩ := List.findIdx?_eq_some_iff_getElem.1 h
    simp; omega

/-- Has a list too many items? -/
def Md.crowded (m : Md) : Bool :=
  decide (16384 < m.ty.length) || decide (16384 < m.im.length) || decide (16384 < m.fu.length) || decide (16384 < m.gl.length) || decide (16384 < m.ex.length) || decide (16384 < m.el.length) || decide (16384 < m.da.length) ||
    (m.el.any fun e => decide (16384 < e.fs.length)) || decide (1 < m.tb.length) || decide (1 < m.me.length)
/-- The longest of these lists of functions, and of what is longest besides. -/
def longP (l : List El) (x : Int) : Int := l.foldl (fun x e => max x (e.fs.length : Int)) x
theorem longP_snoc (l : List El) (e : El) (x : Int) : longP (l ++ [e]) x = max (longP l x) (e.fs.length : Int) := by simp [longP, List.foldl_append]
theorem longP_gt : ∀ (l : List El) (x : Int), decide (16384 < longP l x) = (decide (16384 < x) || l.any fun e => decide (16384 < e.fs.length))
  | [], x => (Bool.or_false _).symm
  | e :: l, x => by
    have := longP_gt l (max x (e.fs.length : Int))
    unfold longP at this ⊢
    rw [List.foldl_cons, this, List.any_cons, ← Bool.or_assoc]
    congr 1
    rw [Bool.eq_iff_iff]
    simp only [Bool.or_eq_true, decide_eq_true_eq]
    omega
def Md.max7 (m : Md) : Int := max (max (max (max (max (max (m.ty.length : Int) m.im.length) m.fu.length) m.gl.length) m.ex.length) m.el.length) m.da.length
theorem crowded_eq (m : Md) : m.crowded = (decide (16384 < longP m.el m.max7) || (decide (1 < m.tb.length) || decide (1 < m.me.length))) := by
  rw [longP_gt]
  have : decide (16384 < m.max7) = (decide (16384 < m.ty.length) || decide (16384 < m.im.length) || decide (16384 < m.fu.length) || decide (16384 < m.gl.length) || decide (16384 < m.ex.length) || decide (16384 < m.el.length) || decide (16384 < m.da.length)) := by
    unfold Md.max7
    rw [Bool.eq_iff_iff]
    simp only [Bool.or_eq_true, decide_eq_true_eq]
    omega
  rw [this]
  unfold Md.crowded
  simp only [Bool.or_assoc]
def longS (s : ByteArray) : Bool := decide (1000 < s.size)
def noText (s : ByteArray) : Bool := decide (0 ≤ Utf.badL (numsOf s))
def Md.anyName (m : Md) (p : ByteArray → Bool) : Bool := (m.im.any fun i => p i.mo || p i.na) || (m.ex.any fun e => p e.na)
def sumB : List Da → Nat
  | [] => 0
  | d :: r => d.bs.length + sumB r
theorem sumB_append : ∀ (l r : List Da), sumB (l ++ r) = sumB l + sumB r
  | [], r => by simp [sumB]
  | d :: l, r => by simp only [List.cons_append, sumB, sumB_append l r]; omega
theorem sumB_take (l : List Da) (k : Nat) : sumB (l.take k) ≤ sumB l := by
  have := sumB_append (l.take k) (l.drop k)
  rw [List.take_append_drop] at this
  omega
theorem sumB_step {l : List Da} {k : Nat} (hk : k < l.length) : sumB (l.take (k + 1)) = sumB (l.take k) + l[k].bs.length := by
  rw [List.take_succ_eq_append_getElem hk, sumB_append]; rfl
def Md.heavy (m : Md) : Bool := decide (1048576 < sumB m.da)
def wrongN (n : Int) : Bool := decide (n < 0) || decide (2147483647 < n)
def wrongT (t : Int × Int) : Bool := !Kind.okType t.1 t.2
def wrongI (i : Imp) : Bool := wrongN i.ty
def wrongF (f : Fn) : Bool := wrongN f.ty || (decide (f.lo < 0) || decide (50000 < f.lo))
def wrongE (e : Ex) : Bool := decide (e.k < 0) || decide (3 < e.k)
def beyond (most : Int) (l : Li) : Bool := !Kind.okLim l.n l.x l.c most
/-- What else is wrong. -/
def Md.wrong (m : Md) : Bool :=
  m.anyName noText || m.ty.any wrongT || m.im.any wrongI || m.fu.any wrongF || m.ex.any wrongE || m.tb.any (beyond 1048576) || m.me.any (beyond 65536) || (!m.st && decide (m.sn ≠ 0))
/-- P7.1. -/
def Md.check (m : Md) : Int :=
  if m.crowded then 141 else if codeP m.codes = 141 then 141 else if m.anyName longS then 3 else if m.heavy then 3 else if codeP m.codes = 2 then 2 else if m.wrong then 2 else 0

/-- The number of a function's type; -1 if there is no such function. -/
def Md.typeN (m : Md) (n : Nat) : Int :=
  if n < m.im.length then ((m.im.map (·.ty)).getD n 0) else if n < m.im.length + m.fu.length then ((m.fu.map (·.ty)).getD (n - m.im.length) 0) else -1
/-- P7.2: a function's type, and whether it is there. -/
def Md.typeOf (m : Md) (n : Nat) : (Int × Int) × Bool :=
  if m.typeN n < 0 ∨ (m.ty.length : Int) ≤ m.typeN n then ((0, 0), false) else (m.ty.getD (m.typeN n).toNat (0, 0), true)
def countL : List Lst → Nat
  | [] => 0
  | l :: r => l.t.count + countL r
def Md.size (m : Md) : Nat := countL m.codes
end Go.Proofs.YtdljneclfgneoaaGreatDoor.Mod

namespace Go.Proofs.YtdljneclfgneoaaGreatDoor.Stk
open Go.RowKit
set_option linter.unusedVariables false

/-- From address a on lie these rows, each of sz cells; below block n₀. -/
def Rows (n₀ : Nat) (w : World) (a : Option Addr) (sz : Nat) (rs : List (List Value)) : Prop :=
  rs = [] ∨ ∃ b off, a = some ⟨b, off, none⟩ ∧ b < n₀ ∧ ∀ i, i < rs.length → ∀ j, j < sz → ∀ v, (rs.getD i [])[j]? = some v → w.cell? ⟨b, off + i * sz + j, none⟩ = some v
theorem Rows.below {n₀ sz : Nat} {w w' : World} {a : Option Addr} {rs : List (List Value)} (hb : Below n₀ w w') (h : Rows n₀ w a sz rs) : Rows n₀ w' a sz rs := by
  rcases h with h | ⟨b, off, ha, hl, hc⟩
  · exact .inl h
  · exact .inr ⟨b, off, ha, hl, fun i hi j hj v hv => (hb.cell (p := ⟨b, off + i * sz + j, none⟩) hl).trans (hc i hi j hj v hv)⟩
theorem Rows.more {n₀ n₁ sz : Nat} {w : World} {a : Option Addr} {rs : List (List Value)} (hn : n₀ ≤ n₁) (h : Rows n₀ w a sz rs) : Rows n₁ w a sz rs := by
  rcases h with h | ⟨b, off, ha, hl, hc⟩
  · exact .inl h
  · exact .inr ⟨b, off, ha, by omega, hc⟩
theorem flat_length {α : Type} {sz : Nat} : ∀ (rs : List (List α)) (_ : ∀ r ∈ rs, r.length = sz), rs.flatten.length = rs.length * sz
  | [], _ => by simp
  | r :: rs, h => by
    rw [List.flatten_cons, List.length_append, h r (by simp), flat_length rs (fun x hx => h x (by simp [hx])), List.length_cons, Nat.succ_mul]
    omega
theorem flat_get {α : Type} {sz : Nat} : ∀ (rs : List (List α)) (_ : ∀ r ∈ rs, r.length = sz) (i j : Nat) (_ : i < rs.length) (_ : j < sz), rs.flatten[i * sz + j]? = (rs.getD i [])[j]?
  | [], _, i, _, hi, _ => by simp at hi
  | r :: rs, h, 0, j, _, hj => by
    rw [List.flatten_cons, Nat.zero_mul, Nat.zero_add, List.getElem?_append_left (by rw [h r (by simp)]; exact hj)]
    rfl
  | r :: rs, h, i + 1, j, hi, hj => by
    have hr := h r (by simp)
    have e : (i + 1) * sz = i * sz + sz := Nat.succ_mul i sz
    rw [List.flatten_cons, List.getElem?_append_right (by rw [hr, e]; omega), hr]
    have e2 : (i + 1) * sz + j - sz = i * sz + j := by rw [e]; omega
    rw [e2, flat_get rs (fun x hx => h x (by simp [hx])) i j (by simpa using hi) hj]
    rfl
/-- Rows that a call made itself, each of sz cells. -/
structure OwnR (e : TypeId) (sz base : Nat) (w : World) (v : Value) (rs : List (List Value)) : Prop where
  row : w.ownsRow base e sz v rs.length rs.flatten
  len : ∀ r ∈ rs, r.length = sz
theorem OwnR.start (e : TypeId) (sz base : Nat) (w : World) : OwnR e sz base w (.slice none 0 0) [] := ⟨World.ownsRow_nil _ _ _ _, by simp⟩
theorem OwnR.made (e : TypeId) (sz : Nat) (w : World) : OwnR e sz w.heap.size (w.alloc (.cells #[] e)) (.slice (some ⟨w.heap.size, 0, none⟩) 0 0) [] := ⟨World.ownsRow_made w #[] 0 (Nat.le_refl _) (by unfold maxLen; omega) (by simp), by simp⟩
theorem OwnR.below {e : TypeId} {sz base : Nat} {w w' : World} {v : Value} {rs : List (List Value)} (h : OwnR e sz base w v rs) (hb : Below w.heap.size w w') : OwnR e sz base w' v rs := by
  refine ⟨⟨h.row.1, ?_⟩, h.len⟩
  rcases h.row.2 with h0 | ⟨g, cap, cur, hv, hg, hh, rest⟩
  · exact .inl h0
  · exact .inr ⟨g, cap, cur, hv, hg, (hb.block g (Array.getElem?_eq_some_iff.1 hh).1).trans hh, rest⟩
theorem OwnR.mono {e : TypeId} {sz base base' : Nat} {w : World} {v : Value} {rs : List (List Value)} (h : OwnR e sz base w v rs) (hb : base' ≤ base) : OwnR e sz base' w v rs := by
  refine ⟨⟨h.row.1, ?_⟩, h.len⟩
  rcases h.row.2 with h0 | ⟨g, cap, cur, hv, hg, rest⟩
  · exact .inl h0
  · exact .inr ⟨g, cap, cur, hv, Nat.le_trans hb hg, rest⟩
/-- As a slice in memory. -/
theorem OwnR.rows {e : TypeId} {sz base : Nat} {w : World} {v : Value} {rs : List (List Value)} (h : OwnR e sz base w v rs) : ∃ a c, v = .slice a rs.length c ∧ Rows w.heap.size w a sz rs ∧ ∀ g, v.ownBlock = some g → base ≤ g := by
  have hl := World.ownsRow.lt h.row
  rcases h.row.2 with ⟨rfl, h0⟩ | ⟨g, cap, cur, rfl, hg, hh, h2, h3, h4, h5⟩
  · exact ⟨none, 0, by rw [h0], .inl (List.eq_nil_of_length_eq_zero h0), fun g hg => (hl g hg).1⟩
  · refine ⟨_, cap, rfl, .inr ⟨g, 0, rfl, (hl g rfl).2, fun i hi j hj u hu => ?_⟩, fun g hg => (hl g hg).1⟩
    have hf := flat_get rs h.len i j hi hj
    rw [hu] at hf
    have := World.ownsRow.cells h.row (g := g) rfl (i * sz + j) u hf
    have hplain : (⟨g, 0, none⟩ : Addr).add (i * sz + j) = ⟨g, 0 + i * sz + j, none⟩ := by unfold Addr.add; split <;> simp_all <;> omega
    rw [hplain] at this
    exact this

theorem run_append_none (w : World) (base : Nat) (t ty e : TypeId) (i : TypeInfo) (size c : Nat) (ht : Tryz.prog.underlying t = some (.slice e)) (hi : Tryz.prog.info? e = some i)
    (v : Value) (n : Nat) (xs : List Value) (hown : w.ownsRow base e size v n xs) :
    (Builtin.append_ #[t, t] ty #[v, .slice none 0 c]).run Tryz.prog w = .ok v w := by
  rcases hown.2 with ⟨rfl, rfl⟩ | ⟨g, cap, cur, rfl, _, _, hnc, _⟩
  · simp [Builtin.append_, run_underlying ht, sizeOf, typeInfo, hi, Builtin.lenOf, Builtin.firstCells]
  · simp [Builtin.append_, run_underlying ht, sizeOf, typeInfo, hi, Builtin.lenOf, Builtin.firstCells, hnc, storeCells]
section
variable {ops : Array Oper} {rest : List Oper} {o : Oper} {act : Act} {Q : Exit → Act → World → Prop}
theorem append_none (hgd : o.guard = none) (s x : Operand) (t : TypeId) (ho : o.op = .call { callee := .builtin .append, args := #[s, x], argTypes := #[t, t] })
    {w : World} (base : Nat) (e : TypeId) (i : TypeInfo) (size c : Nat) (ht : Tryz.prog.underlying t = some (.slice e)) (hi : Tryz.prog.info? e = some i)
    (v : Value) (n : Nat) (xs : List Value) (hs : act.eval s = v) (hown : w.ownsRow base e size v n xs) (hx : act.eval x = .slice none 0 c)
    (h : wpList Tryz.prog ops Q rest (act.put o.dst v) w) : wpList Tryz.prog ops Q (o :: rest) act w := by
  refine wpList_plain hgd fun K hK => ?_
  have hrun := run_append_none w base t o.type e i size c ht hi v n xs hown
  unfold Oper.wp
  simp [execOp, ho, resolve, invoke, builtin, hs, hx, hrun, Result.andThen]
  exact hK _ _ h
end
section
variable {ops : Array Oper} {rest : List Oper} {o : Oper} {act : Act} {Q : Exit → Act → World → Prop}
/-- Rows that lie somewhere are appended. -/
theorem append_rows {e ts : TypeId} {sz nb : Nat} {z : Value} (inf : (Tryz.prog.info? e).map (fun i => (i.zero, i.size, i.bytes)) = some (some z, sz, nb)) (hz : z.cells.size = sz) (h0 : 0 < sz) (hnb : nb ≤ 1000) (ut : Tryz.prog.underlying ts = some (.slice e))
    (hgd : o.guard = none) (s x : Operand) (ho : o.op = .call { callee := .builtin .append, args := #[s, x], argTypes := #[ts, ts] })
    {base : Nat} {w0 wr : World} {v : Value} {xs : List (List Value)} (ys : List (List Value)) (hs : act.eval s = v) (hown : OwnR e sz base wr v xs) (hb : Below base w0 wr) (hbase : base ≤ wr.heap.size)
    (ad : Addr) (m c : Nat) (hm : ys.length = m) (hx : act.eval x = .slice (some ad) m c) (hy : ∀ r ∈ ys, r.length = sz) (hnews : ∀ j u, ys.flatten[j]? = some u → wr.cell? (ad.add j) = some u) (h1 : ∀ r ∈ ys, ∀ u ∈ r, u.oneCell' = true)
    (hl : xs.length + m ≤ 1000000000)
    (h : ∀ v' w', OwnR e sz base w' v' (xs ++ ys) → Below base w0 w' → base ≤ w'.heap.size → wr.grownBy w' v.ownBlock → wpList Tryz.prog ops Q rest (act.put o.dst v') w') :
    wpList Tryz.prog ops Q (o :: rest) act wr := by
  obtain ⟨i0, hi, hz0, hz1, hz2⟩ := info_parts inf
  subst hm
  refine wpList_append_own _ hgd s x ts ho base e i0 z sz nb ut hi hz0 hz1 hz2 hz h0 v xs.length _ hs hown.row ad ys.length c ys.flatten hx (flat_length ys hy)
    hnews (fun u hu => ?_) (by unfold maxLen; omega) ?_ hbase (fun v' w' hown' hgrow _ => ?_)
  · obtain ⟨r, hr, hur⟩ := List.mem_flatten.1 hu
    exact h1 r hr u hur
  · calc (xs.length + ys.length) * nb ≤ 1000000000 * 1000 := Nat.mul_le_mul hl hnb
      _ ≤ _ := by omega
  · refine h v' w' ⟨?_, ?_⟩ (hb.grown hgrow hbase (fun k hk => (World.ownsRow.lt hown.row k hk).1)) (by have := hgrow.size; omega) hgrow
    · rw [List.length_append, List.flatten_append]; exact hown'
    · intro r hr
      rcases List.mem_append.1 hr with hr | hr
      · exact hown.len r hr
      · exact hy r hr
end
section
variable {ops : Array Oper} {rest : List Oper} {o : Oper} {act : Act} {Q : Exit → Act → World → Prop}
/-- A whole list that lies somewhere is appended. -/
theorem append_list {e ts : TypeId} {sz nb : Nat} {z : Value} (inf : (Tryz.prog.info? e).map (fun i => (i.zero, i.size, i.bytes)) = some (some z, sz, nb)) (hz : z.cells.size = sz) (h0 : 0 < sz) (hnb : nb ≤ 1000) (ut : Tryz.prog.underlying ts = some (.slice e))
    (hgd : o.guard = none) (s x : Operand) (ho : o.op = .call { callee := .builtin .append, args := #[s, x], argTypes := #[ts, ts] })
    {base : Nat} {wr : World} {v : Value} (hs : act.eval s = v) (hown : OwnR e sz base wr v []) (hbase : base ≤ wr.heap.size)
    (a2 : Option Addr) (n c : Nat) (hx : act.eval x = .slice a2 n c) (ys : List (List Value)) (hn : ys.length = n) (hy : Rows wr.heap.size wr a2 sz ys) (hlen : ∀ r ∈ ys, r.length = sz) (h1 : ∀ r ∈ ys, ∀ u ∈ r, u.oneCell' = true)
    (hl : ys.length ≤ 1000000000)
    (h : ∀ v' w', OwnR e sz base w' v' ys → Below base wr w' → base ≤ w'.heap.size → wpList Tryz.prog ops Q rest (act.put o.dst v') w') :
    wpList Tryz.prog ops Q (o :: rest) act wr := by
  obtain ⟨i0, hi, hz0, hz1, hz2⟩ := info_parts inf
  subst hn
  have hb0 := Below.refl base wr
  rcases hy with h2 | ⟨b, off, rfl, hlt, hc⟩
  · subst h2
    cases a2 with
    | none => exact append_none hgd s x ts ho base e i0 sz c ut hi v _ _ hs hown.row hx (h v wr hown hb0 hbase)
    | some ad =>
      refine append_rows inf hz h0 hnb ut hgd s x ho (xs := []) [] hs hown hb0 hbase ad 0 c rfl hx (by simp) (by simp) (by simp) (by simp) (fun v' w' h3 h4 h5 _ => h v' w' h3 h4 h5)
  · refine append_rows inf hz h0 hnb ut hgd s x ho (xs := []) ys hs hown hb0 hbase ⟨b, off, none⟩ ys.length c rfl hx hlen (fun j u hj => ?_) h1 (by simpa using hl) (fun v' w' h3 h4 h5 _ => h v' w' h3 h4 h5)
    have hfl := flat_length ys hlen
    have hjl : j < ys.length * sz := by
      rcases Nat.lt_or_ge j (ys.length * sz) with h | h
      · exact h
      · rw [List.getElem?_eq_none (by omega)] at hj; cases hj
    have hq : j / sz < ys.length := (Nat.div_lt_iff_lt_mul h0).2 hjl
    have hr : j % sz < sz := Nat.mod_lt _ h0
    have hjj : j / sz * sz + j % sz = j := by rw [Nat.mul_comm]; exact Nat.div_add_mod j sz
    have hg := flat_get ys hlen (j / sz) (j % sz) hq hr
    rw [hjj, hj] at hg
    have := hc (j / sz) hq (j % sz) hr u hg.symm
    rw [Nat.add_assoc, hjj] at this
    have hplain : (⟨b, off, none⟩ : Addr).add j = ⟨b, off + j, none⟩ := by unfold Addr.add; split <;> simp_all
    rw [hplain]
    exact this
end
section
variable {ops : Array Oper} {rest : List Oper} {o : Oper} {act : Act} {Q : Exit → Act → World → Prop}
end
theorem OwnR.madeG {W : World} (e : TypeId) (sz g : Nat) (hg : g = W.heap.size) : OwnR e sz g (W.alloc (.cells #[] e)) (.slice (some ⟨g, 0, none⟩) 0 0) [] := by
  subst hg; exact OwnR.made e sz W
theorem OwnR.alloc {e : TypeId} {sz base : Nat} {w : World} {v : Value} {rs : List (List Value)} (h : OwnR e sz base w v rs) (o : Obj) : OwnR e sz base (w.alloc o) v rs := h.below ((Below.refl _ _).alloc (Nat.le_refl _) o)
/-- A store below it turns no row. -/
theorem OwnR.setCell {e : TypeId} {sz base : Nat} {w : World} {v : Value} {rs : List (List Value)} (h : OwnR e sz base w v rs) {p : Addr} (hp : p.block < base) (u : Value) : OwnR e sz base (w.setCell p u) v rs := by
  refine ⟨⟨h.row.1, ?_⟩, h.len⟩
  rcases h.row.2 with h0 | ⟨g, cap, cur, hv, hg, hh, rest⟩
  · exact .inl h0
  · exact .inr ⟨g, cap, cur, hv, hg, (Below.heap_setCell w p u g (by omega)).trans hh, rest⟩
end Go.Proofs.YtdljneclfgneoaaGreatDoor.Stk

namespace Go.Proofs.YtdljneclfgneoaaGreatDoor.Stk
open Go.RowKit
set_option linter.unusedVariables false

/-- A frame. -/
structure Fr where
  (op ba re : Int)
  de : Bool
def Fr.v (f : Fr) : List Value := [.int .i64 f.op, .int .i64 f.ba, .int .i64 f.re, .bool f.de]
def Fr.none : Fr := ⟨0, 0, 0, false⟩
def opens (op : Int) : Bool := decide (op = 2) || decide (op = 3) || decide (op = 4) || decide (op = 5)
def wrongRe (r : Int) : Bool := decide (r < 0) || decide (1 < r)
/-- Is a frame behind one of base b wrong? -/
def badF (h b : Int) (f : Fr) : Bool := !opens f.op || decide (f.ba < b) || decide (h < f.ba) || wrongRe f.re
def badL (h : Int) : Int → List Fr → Bool
  | _, [] => false
  | b, f :: l => badF h b f || badL h f.ba l
def badFirst (f : Fr) : Bool := decide (f.op ≠ 0) || decide (f.ba ≠ 0) || wrongRe f.re
def badAll (h : Int) : List Fr → Bool
  | [] => true
  | f :: l => decide (1000 < l.length + 1) || (badFirst f || badL h 0 l)
def valid (h : Int) (l : List Fr) : Bool := decide (0 ≤ h) && decide (h ≤ 1073741824) && !badAll h l
def chk (h : Int) (l : List Fr) : Int := if valid h l then 0 else 2
def lastF (l : List Fr) : Fr := l.getD (l.length - 1) Fr.none
/-- A stand, and an error. -/
structure R where
  h : Int
  l : List Fr
  e : Int
def bad (e : Int) : R := ⟨0, [], e⟩
def newR (r : Int) : R := if wrongRe r then bad 2 else ⟨0, [⟨0, 0, r, false⟩], 0⟩
def pushR (h : Int) (l : List Fr) (n : Int) : R := if valid h l = false then bad 2 else if n < 0 then bad 2 else if 1073741824 - h < n then bad 8 else ⟨h + n, l, 0⟩
/-- What stands when n words have been taken in a frame. -/
def without (h n : Int) (f : Fr) : Int × Int := if h - f.ba < n ∧ f.de = false then (0, 200) else (if f.ba ≤ h - n then h - n else f.ba, 0)
def popR (h : Int) (l : List Fr) (n : Int) : R := if valid h l = false then bad 2 else if n < 0 then bad 2 else if (without h n (lastF l)).2 = 0 then ⟨(without h n (lastF l)).1, l, 0⟩ else bad (without h n (lastF l)).2
def deadR (h : Int) (l : List Fr) : R := if valid h l = false then bad 2 else ⟨(lastF l).ba, l.set (l.length - 1) { lastF l with de := true }, 0⟩
def enterR (h : Int) (l : List Fr) (op r : Int) : R := if valid h l = false then bad 2 else if opens op = false ∨ wrongRe r = true then bad 2 else if l.length = 1000 then bad 8 else ⟨h, l ++ [⟨op, h, r, false⟩], 0⟩
def leaveR (h : Int) (l : List Fr) : R :=
  if valid h l = false then bad 2 else if (without h (lastF l).re (lastF l)).2 ≠ 0 then bad (without h (lastF l).re (lastF l)).2 else if (lastF l).ba < (without h (lastF l).re (lastF l)).1 then bad 201
  else ⟨(without h (lastF l).re (lastF l)).1 + (lastF l).re, l.take (l.length - 1), 0⟩
def labelR (h : Int) (l : List Fr) (n : Int) : Int × Int :=
  if valid h l = false then (0, 2) else if n < 0 ∨ (l.length : Int) ≤ n then (0, 6) else if (l.getD (l.length - 1 - n.toNat) Fr.none).op = 3 then (0, 0) else ((l.getD (l.length - 1 - n.toNat) Fr.none).re, 0)

theorem valid_yes {h : Int} {l : List Fr} (hv : valid h l = true) : 0 ≤ h ∧ h ≤ 1073741824 ∧ l ≠ [] ∧ l.length ≤ 1000 := by
  unfold valid at hv
  simp only [Bool.and_eq_true, decide_eq_true_eq, Bool.not_eq_true'] at hv
  obtain ⟨⟨h1, h2⟩, h3⟩ := hv
  cases l with
  | nil => simp [badAll] at h3
  | cons f l =>
    simp only [badAll, Bool.or_eq_false_iff, decide_eq_false_iff_not] at h3
    exact ⟨h1, h2, by simp, by simp; omega⟩
theorem badF_no {h b : Int} {f : Fr} (hv : badF h b f = false) : opens f.op = true ∧ b ≤ f.ba ∧ f.ba ≤ h ∧ 0 ≤ f.re ∧ f.re ≤ 1 := by
  unfold badF wrongRe at hv
  simp only [Bool.or_eq_false_iff, decide_eq_false_iff_not, Bool.not_eq_false', Int.not_lt] at hv
  obtain ⟨⟨⟨h1, h2⟩, h3⟩, h4, h5⟩ := hv
  exact ⟨h1, h2, h3, h4, h5⟩
/-- What each frame of a list that may be is. -/
def fine (h : Int) (f : Fr) : Prop := 0 ≤ f.ba ∧ f.ba ≤ h ∧ 0 ≤ f.re ∧ f.re ≤ 1
theorem badL_no {h : Int} : ∀ {b : Int} {l : List Fr}, 0 ≤ b → badL h b l = false → ∀ f ∈ l, fine h f
  | _, [], _, _, f, hf => by simp at hf
  | b, g :: l, hb, hv, f, hf => by
    simp only [badL, Bool.or_eq_false_iff] at hv
    obtain ⟨h1, h2, h3, h4, h5⟩ := badF_no hv.1
    rcases List.mem_cons.1 hf with rfl | hf
    · exact ⟨by omega, h3, h4, h5⟩
    · exact badL_no (by omega) hv.2 f hf
theorem valid_fine {h : Int} {l : List Fr} (hv : valid h l = true) : ∀ f ∈ l, fine h f := by
  have ⟨h1, _⟩ := valid_yes hv
  unfold valid at hv
  simp only [Bool.and_eq_true, decide_eq_true_eq, Bool.not_eq_true'] at hv
  obtain ⟨_, h3⟩ := hv
  cases l with
  | nil => simp
  | cons g l =>
    simp only [badAll, Bool.or_eq_false_iff, badFirst, wrongRe, decide_eq_false_iff_not, Int.not_lt, ne_eq, Decidable.not_not] at h3
    obtain ⟨_, ⟨⟨h4, h5⟩, h6, h7⟩, h8⟩ := h3
    intro f hf
    rcases List.mem_cons.1 hf with rfl | hf
    · exact ⟨by omega, by omega, h6, h7⟩
    · exact badL_no (by omega) h8 f hf
theorem lastF_mem {l : List Fr} (h : l ≠ []) : lastF l ∈ l := by
  have hl : 0 < l.length := List.length_pos_iff.2 h
  unfold lastF
  rw [List.getD_eq_getElem?_getD, List.getElem?_eq_getElem (by omega)]
  exact List.getElem_mem _
theorem lastF_fine {h : Int} {l : List Fr} (hv : valid h l = true) : fine h (lastF l) := valid_fine hv _ (lastF_mem (valid_yes hv).2.2.1)
/-- From the k-th one on. -/
theorem badL_at {h b : Int} {l : List Fr} {k : Nat} (hk : k < l.length) : badL h b (l.drop k) = (badF h b l[k] || badL h l[k].ba (l.drop (k + 1))) := by
  rw [List.drop_eq_getElem_cons hk]; rfl
end Go.Proofs.YtdljneclfgneoaaGreatDoor.Stk

namespace Go.Proofs.YtdljneclfgneoaaGreatDoor.Instr
open Go.RowKit

def takesTab : List Int := [0, 0, 0, 0, 0, 0, 0, 0, 0, 0, 0, 0, 0, 0, 0, 0, 0, 0, 0, 0, 0, 0, 0, 0, 0, 0, 1, 3, 0, 0, 0, 0, 0, 1, 1, 0, 1, 0, 0, 0, 1, 0, 0, 0, 1, 1, 1, 1, 0, 0, 0, 0, 0, 0, 2, 0, 0, 0, 2, 2, 0, 0, 0, 0, 1, 0]
def leavesTab : List Int := [0, 0, 0, 0, 0, 0, 0, 0, 0, 0, 0, 0, 0, 0, 0, 0, 0, 0, 0, 0, 0, 0, 0, 0, 0, 0, 0, 1, 0, 0, 0, 0, 1, 0, 1, 1, 0, 0, 0, 0, 1, 0, 0, 0, 1, 1, 1, 1, 0, 0, 0, 0, 0, 0, 0, 0, 0, 0, 0, 0, 0, 0, 0, 1, 1, 1]
def knownTab : List Bool := [false, true, false, false, false, false, false, false, false, false, false, false, false, false, false, false, false, false, false, false, false, false, false, false, false, false, true, true, false, false, false, false, true, true, true, true, true, false, false, false, true, false, false, false, true, true, true, true, false, false, false, false, false, false, true, false, false, false, true, true, false, false, false, true, true, true]
def shapeCells : List Value := (List.range 66).flatMap fun j => [.int .u8 (takesTab.getD j 0), .int .u8 (leavesTab.getD j 0), .bool (knownTab.getD j false)]
def shapeParts : List (Nat × Value) := [(1, .agg #[.int .u8 0, .int .u8 0, .bool true]), (26, .agg #[.int .u8 1, .int .u8 0, .bool true]), (27, .agg #[.int .u8 3, .int .u8 1, .bool true]), (32, .agg #[.int .u8 0, .int .u8 1, .bool true]), (33, .agg #[.int .u8 1, .int .u8 0, .bool true]), (34, .agg #[.int .u8 1, .int .u8 1, .bool true]), (35, .agg #[.int .u8 0, .int .u8 1, .bool true]), (36, .agg #[.int .u8 1, .int .u8 0, .bool true]), (40, .agg #[.int .u8 1, .int .u8 1, .bool true]), (44, .agg #[.int .u8 1, .int .u8 1, .bool true]), (45, .agg #[.int .u8 1, .int .u8 1, .bool true]), (46, .agg #[.int .u8 1, .int .u8 1, .bool true]), (47, .agg #[.int .u8 1, .int .u8 1, .bool true]), (54, .agg #[.int .u8 2, .int .u8 0, .bool true]), (58, .agg #[.int .u8 2, .int .u8 0, .bool true]), (59, .agg #[.int .u8 2, .int .u8 0, .bool true]), (63, .agg #[.int .u8 0, .int .u8 1, .bool true]), (64, .agg #[.int .u8 1, .int .u8 1, .bool true]), (65, .agg #[.int .u8 0, .int .u8 1, .bool true])]
theorem shape_built : Tryz.prog.built 395 shapeParts = some shapeCells.toArray := by kernel_rfl
theorem shapeCells_all : ((List.range 66).map fun j => (shapeCells[j * 3]?, shapeCells[j * 3 + 1]?, shapeCells[j * 3 + 2]?)) = (List.range 66).map fun j => (some (.int .u8 (takesTab.getD j 0)), some (.int .u8 (leavesTab.getD j 0)), some (.bool (knownTab.getD j false))) := by kernel_rfl
theorem shapeCells_at (j : Nat) (h : j < 66) : shapeCells[j * 3]? = some (.int .u8 (takesTab.getD j 0)) ∧ shapeCells[j * 3 + 1]? = some (.int .u8 (leavesTab.getD j 0)) ∧ shapeCells[j * 3 + 2]? = some (.bool (knownTab.getD j false)) := by
  have h1 := (List.map_inj_left.1 shapeCells_all) j (List.mem_range.2 h)
  simp only [Prod.mk.injEq] at h1
  exact h1
/-- What an operation that is not of num takes and leaves, and whether it has a shape. -/
def takesO (op : Int) : Int := if 0 ≤ op ∧ op < 66 then takesTab.getD op.toNat 0 else 0
def leavesO (op : Int) : Int := if 0 ≤ op ∧ op < 66 then leavesTab.getD op.toNat 0 else 0
def knownO (op : Int) : Bool := if 0 ≤ op ∧ op < 66 then knownTab.getD op.toNat false else false

section
variable {ops : Array Oper} {rest : List Oper} {o : Oper} {act : Act} {w : World} {Q : Exit → Act → World → Prop}
theorem build_shapes (hgd : o.guard = none) (parts : Array (Nat × Operand)) (ho : o.op = .build 395 parts) (he : (parts.map fun (i, x) => (i, act.eval x)).toList = shapeParts)
    (h : ∀ C : Array Value, C = shapeCells.toArray → wpList Tryz.prog ops Q rest (act.put o.dst (.agg C)) w) : wpList Tryz.prog ops Q (o :: rest) act w := by
  refine wpList_build hgd 395 parts ho ?_ ?_
  · rw [he, shape_built]; rfl
  · rw [he, shape_built]; exact h _ rfl
end
theorem zero56 : Tryz.zeroCells395.size = 198 := by kernel_rfl
theorem info56 : (Tryz.prog.info? 395).map (·.size) = some 198 := by kernel_rfl
theorem all56 : shapeCells.toArray.all (·.oneCell') = true := by kernel_rfl

set_option maxRecDepth 100000 in
set_option maxHeartbeats 2000000 in
theorem shapeOf_in (op : Int) (w : World) (h0 : 0 ≤ op) (h1 : op < 66) (x y : Int) (z : Bool) (hx : takesTab.getD op.toNat 0 = x) (hy : leavesTab.getD op.toNat 0 = y) (hz : knownTab.getD op.toNat false = z) :
    Calls Tryz.prog 324 #[.int .i64 op] w fun e w' => e = .returned (.agg #[.int .u8 x, .int .u8 y, .bool z]) ∧ Below w.heap.size w w' := by
  have hc := shapeCells_at op.toNat (by omega)
  simp only [hx, hy, hz] at hc
  have HC := hid hc
  clear hc hx hy hz
  go_enter Tryz.func324, Tryz.ntmps324
  go_wp2_with (refine build_shapes rfl _ rfl (by simp [shapeParts, go_sem]) ?_; intro C hC; replace hC := hid hC; refine Hid.out ?_)
  refine hid ?_
  have hs : C.size = 198 := by rw [hC.out]; kernel_rfl
  have ha : C.all (·.oneCell') = true := by rw [hC.out]; exact all56
  have hc0 : C[op.toNat * 3]? = some (.int .u8 x) := by rw [hC.out]; simpa using HC.out.1
  have hc1 : C[op.toNat * 3 + 1]? = some (.int .u8 y) := by rw [hC.out]; simpa using HC.out.2.1
  have hc2 : C[op.toNat * 3 + 2]? = some (.bool z) := by rw [hC.out]; simpa using HC.out.2.2
  clear HC hC
  have hst := run_storeAt_new (P := Tryz.prog) (w.alloc (.cells #[.int .u8 0, .int .u8 0, .bool false] 376)) 395 Tryz.zeroCells395 C (by rw [info56, hs]) (by rw [zero56, hs]) ha
  have hst2 := run_storeCells_new (P := Tryz.prog) (w.alloc (.cells #[.int .u8 0, .int .u8 0, .bool false] 376)) 395 Tryz.zeroCells395 C (by rw [info56, hs]) (by rw [zero56, hs]) ha
  rw [World.size_alloc] at hst hst2
  clear ha
  go_wp2
  refine bodyPost_ret (v := .agg #[.int .u8 x, .int .u8 y, .bool z]) (by simp [results, Tryz.f324, go_sem]) rfl ?_
  exact ⟨rfl, thenA (thenA (Below.refl _ _) _) _⟩
set_option maxRecDepth 100000 in
set_option maxHeartbeats 4000000 in
theorem shapeOf_out (op : Int) (w : World) (h : op < 0 ∨ 66 ≤ op) :
    Calls Tryz.prog 324 #[.int .i64 op] w fun e w' => e = .returned (.agg #[.int .u8 0, .int .u8 0, .bool false]) ∧ Below w.heap.size w w' := by
  rcases h with h | h
  all_goals
    go_enter Tryz.func324, Tryz.ntmps324
    go_wp2_with (refine build_shapes rfl _ rfl (by simp [shapeParts, go_sem]) ?_; intro C hC; replace hC := hid hC; refine Hid.out ?_)
    refine hid ?_
    have hs : C.size = 198 := by rw [hC.out]; kernel_rfl
    have ha : C.all (·.oneCell') = true := by rw [hC.out]; exact all56
    clear hC
    have hst := run_storeAt_new (P := Tryz.prog) (w.alloc (.cells #[.int .u8 0, .int .u8 0, .bool false] 376)) 395 Tryz.zeroCells395 C (by rw [info56, hs]) (by rw [zero56, hs]) ha
    have hst2 := run_storeCells_new (P := Tryz.prog) (w.alloc (.cells #[.int .u8 0, .int .u8 0, .bool false] 376)) 395 Tryz.zeroCells395 C (by rw [info56, hs]) (by rw [zero56, hs]) ha
    rw [World.size_alloc] at hst hst2
    clear ha
    go_wp2
    refine bodyPost_ret (v := .agg #[.int .u8 0, .int .u8 0, .bool false]) (by simp [results, Tryz.f324, go_sem]) rfl ?_
    exact ⟨rfl, thenA (thenA (Below.refl _ _) _) _⟩
theorem shapeOf_any (op : Int) (w : World) :
    Calls Tryz.prog 324 #[.int .i64 op] w fun e w' => e = .returned (.agg #[.int .u8 (takesO op), .int .u8 (leavesO op), .bool (knownO op)]) ∧ Below w.heap.size w w' := by
  unfold takesO leavesO knownO
  by_cases h : 0 ≤ op ∧ op < 66
  · rw [if_pos h, if_pos h, if_pos h]
    exact shapeOf_in op w h.1 h.2 _ _ _ rfl rfl rfl
  · rw [if_neg h, if_neg h, if_neg h]
    exact shapeOf_out op w (by omega)
def takesP (op : Int) : Int := if 0 < Num.arity op then Num.arity op else takesO op
def leavesP (op : Int) : Int := if 0 < Num.arity op then 1 else leavesO op
def knownP (op : Int) : Bool := if 0 < Num.arity op then true else knownO op
theorem takesO_range (op : Int) : 0 ≤ takesO op ∧ takesO op ≤ 3 := by
  unfold takesO
  split
  · have : ∀ j : Fin 66, 0 ≤ takesTab.getD j.val 0 ∧ takesTab.getD j.val 0 ≤ 3 := by decide +kernel
    exact this ⟨op.toNat, by omega⟩
  · omega
theorem leavesO_range (op : Int) : 0 ≤ leavesO op ∧ leavesO op ≤ 1 := by
  unfold leavesO
  split
  · have : ∀ j : Fin 66, 0 ≤ leavesTab.getD j.val 0 ∧ leavesTab.getD j.val 0 ≤ 1 := by decide +kernel
    exact this ⟨op.toNat, by omega⟩
  · omega
set_option maxHeartbeats 1000000 in
theorem Shape_any (op : Int) (w : World) (hT : Num.Arit w) :
    Calls Tryz.prog 286 #[.int .i64 op] w fun e w' => e = .returned (.tuple #[.int .i64 (takesP op), .int .i64 (leavesP op), .bool (knownP op)]) ∧ Below w.heap.size w w' := by
  have CN := Num.Arity_any op w hT
  have CS := shapeOf_any op w
  have hr := takesO_range op
  have hr2 := leavesO_range op
  unfold takesP leavesP knownP
  obtain ⟨n, hn⟩ : ∃ n, Num.arity op = n := ⟨_, rfl⟩
  obtain ⟨x, hx⟩ : ∃ x, takesO op = x := ⟨_, rfl⟩
  obtain ⟨y, hy⟩ : ∃ y, leavesO op = y := ⟨_, rfl⟩
  obtain ⟨z, hz⟩ : ∃ z, knownO op = z := ⟨_, rfl⟩
  rw [hn] at CN
  rw [hx, hy, hz] at CS
  rw [hx] at hr
  rw [hy] at hr2
  rw [hn, hx, hy, hz]
  obtain ⟨r0, r1⟩ := hr
  obtain ⟨r2, r3⟩ := hr2
  clear hn hx hy hz hT
  have C := hid CN
  have D := hid CS
  clear CN CS
  by_cases h : 0 < n
  · rw [if_pos h, if_pos h, if_pos h]
    clear D
    go_enter Tryz.func286, Tryz.ntmps286
    go_wp2_with fail
    refine C.out.mono ?_
    clear C
    rintro e w1 ⟨rfl, rfl⟩
    go_wp2
    go_ret3
    exact ⟨rfl, Below.refl _ _⟩
  · rw [if_neg h, if_neg h, if_neg h]
    have h' : n ≤ 0 := by omega
    clear h
    go_enter Tryz.func286, Tryz.ntmps286
    go_wp2_with fail
    refine C.out.mono ?_
    clear C
    rintro e w1 ⟨rfl, rfl⟩
    go_wp2_with fail
    refine D.out.mono ?_
    clear D
    rintro e w1 ⟨rfl, hb⟩
    go_wp2_with fail
    go_quiet (fail)
    go_wp2
    go_ret3
    exact ⟨rfl, drewN (thenA hb _)⟩
end Go.Proofs.YtdljneclfgneoaaGreatDoor.Instr

namespace Go.Proofs.YtdljneclfgneoaaGreatDoor.Val
open Go.RowKit Go.Proofs.YtdljneclfgneoaaGreatDoor.Instr Go.Proofs.YtdljneclfgneoaaGreatDoor.Mod
open Go.Proofs.YtdljneclfgneoaaGreatDoor.Stk (Fr R pushR popR deadR enterR leaveR labelR newR)

/-- A checker's own: the stand, how many instructions have been begun, which one is checked, the first error. -/
structure St where
  h : Int
  l : List Fr
  cnt : Int
  at_ : Int
  er : Int
def St.put (s : St) (r : R) : St := ⟨r.h, r.l, s.cnt, s.at_, r.e⟩
def failS (e : Int) (s : St) : St := if s.er = 0 then ⟨s.h, s.l, s.cnt, s.at_, e⟩ else s
def pushS (n : Int) (s : St) : St := if s.er = 0 then s.put (pushR s.h s.l n) else s
def popS (n : Int) (s : St) : St := if s.er = 0 then s.put (popR s.h s.l n) else s
def deadS (s : St) : St := if s.er = 0 then s.put (deadR s.h s.l) else s
def enterS (op re : Int) (s : St) : St := if s.er = 0 then s.put (enterR s.h s.l op re) else s
def leaveS (own : Int) (s : St) : St := if s.er = 0 then St.put ⟨s.h, s.l, s.cnt, own, s.er⟩ (leaveR s.h s.l) else s
def labelS (n : Int) (s : St) : Int × St := if s.er = 0 then ((labelR s.h s.l n).1, failS (labelR s.h s.l n).2 s) else (0, s)
def tagsS (k : Int) : List Int → Bool → St → Bool × St
  | [], b, s => (b, s)
  | t :: r, b, s => tagsS k r (decide ((labelS t s).1 = k) && b) (labelS t s).2
def tableS (tags : List Int) (last : Int) (s : St) : St :=
  if (tagsS (labelS last s).1 tags true (labelS last s).2).1 then (tagsS (labelS last s).1 tags true (labelS last s).2).2 else failS 214 (tagsS (labelS last s).1 tags true (labelS last s).2).2
def brS (a : Int) (s : St) : St := deadS (popS (labelS a s).1 (labelS a s).2)
def brIfS (a : Int) (s : St) : St := pushS (labelS a s).1 (popS (labelS a s).1 (popS 1 (labelS a s).2))
/-- What an instruction calls. -/
def calleeP (m : Md) (x : Ix) : (Int × Int) × Bool :=
  if x.op = 16 then m.typeOf x.a.toNat else if m.tb.length = 0 ∨ (m.ty.length : Int) ≤ x.a then ((0, 0), false) else (m.ty.getD x.a.toNat (0, 0), true)
def lacksP (m : Md) (lo : Int) (x : Ix) : Int :=
  if x.op = 16 ∨ x.op = 17 then (if (calleeP m x).2 then 0 else 6)
  else if x.op = 32 ∨ x.op = 33 ∨ x.op = 34 then (if x.a < lo then 0 else 6)
  else if x.op = 35 ∨ x.op = 36 then (if x.a < (m.gl.length : Int) then (if x.op = 36 ∧ (m.gl.map (·.mu)).getD x.a.toNat false = false then 212 else 0) else 6)
  else if storedP x.op then (if m.me.length = 0 then 6 else if alignP x.op < x.a then 211 else 0)
  else if x.op = 63 ∨ x.op = 64 then (if m.me.length = 0 then 6 else 0) else 0
def callS (t : Int × Int) (s : St) : St := pushS t.2 (popS t.1 s)
def St.back (s b : St) : St := ⟨b.h, b.l, s.cnt, s.at_, s.er⟩
def eitherS (re : Int) (L E : St → St) (s : St) : St := E (enterS 5 re ((L (enterS 4 re (popS 1 s))).back (popS 1 s)))
/-- One instruction, behind what it lacks. -/
def opS (m : Md) (re : Int) (x : Ix) (L E : St → St) (s : St) : St :=
  if x.op = 0 then deadS s
  else if x.op = 2 ∨ x.op = 3 then L (enterS x.op x.res s)
  else if x.op = 4 then eitherS x.res L E s
  else if x.op = 14 then brS x.a (popS 1 (tableS x.tags x.a s))
  else if x.op = 12 then brS x.a s
  else if x.op = 13 then brIfS x.a s
  else if x.op = 15 then deadS (popS re s)
  else if x.op = 17 then callS (calleeP m x).1 (popS 1 s)
  else if x.op = 16 then callS (calleeP m x).1 s
  else pushS (leavesP x.op) (popS (takesP x.op) s)
def insS (m : Md) (lo re : Int) (x : Ix) (L E : St → St) (s : St) : St := opS m re x L E (failS (lacksP m lo x) s)
def St.next (s : St) : St := ⟨s.h, s.l, s.cnt + 1, s.cnt + 1, s.er⟩
/-- A list, but for its end. -/
def runS (m : Md) (lo re : Int) : Il → St → St
  | .nil, s => s
  | .cons x l e r, s => if s.er = 0 then runS m lo re r (insS m lo re x (fun s => leaveS s.at_ (runS m lo re l s)) (fun s => leaveS s.at_ (runS m lo re e s)) s.next) else s
def listS (m : Md) (lo re : Int) (t : Il) (s : St) : St := leaveS s.at_ (runS m lo re t s)
theorem runS_cons (m : Md) (lo re : Int) (x : Ix) (l e r : Il) (s : St) : runS m lo re (.cons x l e r) s = if s.er = 0 then runS m lo re r (insS m lo re x (listS m lo re l) (listS m lo re e) s.next) else s := rfl
theorem runS_er (m : Md) (lo re : Int) (t : Il) (s : St) (h : s.er ≠ 0) : runS m lo re t s = s := by
  cases t with
  | nil => rfl
  | cons x l e r => rw [runS_cons, if_neg h]
def startS (re : Int) : St := ⟨(newR re).h, (newR re).l, 0, 0, (newR re).e⟩
/-- The first error of a function, and where. -/
def Md.bodyP (m : Md) (n : Nat) : Int × Int :=
  if (m.typeOf (m.im.length + n)).2 = false then (6, 0)
  else
    let f := m.fu.getD n ⟨0, 0, ⟨none, 0, .nil⟩⟩
    let t := (m.typeOf (m.im.length + n)).1
    let s := listS m (t.1 + f.lo) t.2 f.l.t (startS t.2)
    (s.er, s.at_)
def Md.body (m : Md) (n : Int) : Int × Int := if m.check ≠ 0 then (m.check, 0) else if n < 0 ∨ (m.fu.length : Int) ≤ n then (6, 0) else bodyP m n.toNat
/-- How many have been begun, behind each step: as many as there are. -/
theorem failS_cnt (e : Int) (s : St) : (failS e s).cnt = s.cnt := by unfold failS; split <;> rfl
theorem pushS_cnt (e : Int) (s : St) : (pushS e s).cnt = s.cnt := by unfold pushS; split <;> rfl
theorem popS_cnt (e : Int) (s : St) : (popS e s).cnt = s.cnt := by unfold popS; split <;> rfl
theorem deadS_cnt (s : St) : (deadS s).cnt = s.cnt := by unfold deadS; split <;> rfl
theorem enterS_cnt (o e : Int) (s : St) : (enterS o e s).cnt = s.cnt := by unfold enterS; split <;> rfl
theorem leaveS_cnt (e : Int) (s : St) : (leaveS e s).cnt = s.cnt := by unfold leaveS; split <;> rfl
theorem labelS_cnt (n : Int) (s : St) : (labelS n s).2.cnt = s.cnt := by unfold labelS; split <;> simp [failS_cnt]
theorem tagsS_cnt (k : Int) : ∀ (l : List Int) (b : Bool) (s : St), (tagsS k l b s).2.cnt = s.cnt
  | [], _, _ => rfl
  | t :: r, b, s => by rw [tagsS, tagsS_cnt k r, labelS_cnt]
theorem tableS_cnt (tags : List Int) (last : Int) (s : St) : (tableS tags last s).cnt = s.cnt := by unfold tableS; split <;> simp [failS_cnt, tagsS_cnt, labelS_cnt]
theorem brS_cnt (a : Int) (s : St) : (brS a s).cnt = s.cnt := by simp [brS, deadS_cnt, popS_cnt, labelS_cnt]
theorem brIfS_cnt (a : Int) (s : St) : (brIfS a s).cnt = s.cnt := by simp [brIfS, pushS_cnt, popS_cnt, labelS_cnt]
theorem callS_cnt (t : Int × Int) (s : St) : (callS t s).cnt = s.cnt := by simp [callS, pushS_cnt, popS_cnt]
theorem opS_cnt {m : Md} {re : Int} {x : Ix} {L E : St → St} {a b : Int} (ha : 0 ≤ a) (hb : 0 ≤ b) (hL : ∀ s, s.cnt ≤ (L s).cnt ∧ (L s).cnt ≤ s.cnt + a) (hE : ∀ s, s.cnt ≤ (E s).cnt ∧ (E s).cnt ≤ s.cnt + b) (s : St) : s.cnt ≤ (opS m re x L E s).cnt ∧ (opS m re x L E s).cnt ≤ s.cnt + a + b := by
  have h0 : ∀ s' : St, s'.cnt = s.cnt → s.cnt ≤ s'.cnt ∧ s'.cnt ≤ s.cnt + a + b := fun s' h => by omega
  unfold opS
  split; · exact h0 _ (deadS_cnt _)
  split
  · have := hL (enterS x.op x.res s); rw [enterS_cnt] at this; omega
  split
  · unfold eitherS
    have h1 := hE (enterS 5 x.res ((L (enterS 4 x.res (popS 1 s))).back (popS 1 s)))
    have h2 := hL (enterS 4 x.res (popS 1 s))
    rw [enterS_cnt] at h1 h2
    rw [popS_cnt] at h2
    have h3 : ((L (enterS 4 x.res (popS 1 s))).back (popS 1 s)).cnt = (L (enterS 4 x.res (popS 1 s))).cnt := rfl
    omega
  split; · exact h0 _ (by rw [brS_cnt, popS_cnt, tableS_cnt])
  split; · exact h0 _ (brS_cnt _ _)
  split; · exact h0 _ (brIfS_cnt _ _)
  split; · exact h0 _ (by rw [deadS_cnt, popS_cnt])
  split; · exact h0 _ (by rw [callS_cnt, popS_cnt])
  split; · exact h0 _ (callS_cnt _ _)
  exact h0 _ (by rw [pushS_cnt, popS_cnt])
theorem runS_cnt (m : Md) (lo re : Int) : ∀ (t : Il) (s : St), s.cnt ≤ (runS m lo re t s).cnt ∧ (runS m lo re t s).cnt ≤ s.cnt + t.count
  | .nil, s => by simp [runS, Il.count]
  | .cons x l e r, s => by
    rw [runS_cons]
    split
    · have hL : ∀ s, s.cnt ≤ (listS m lo re l s).cnt ∧ (listS m lo re l s).cnt ≤ s.cnt + l.count := fun s => by unfold listS; rw [leaveS_cnt]; exact runS_cnt m lo re l s
      have hE : ∀ s, s.cnt ≤ (listS m lo re e s).cnt ∧ (listS m lo re e s).cnt ≤ s.cnt + e.count := fun s => by unfold listS; rw [leaveS_cnt]; exact runS_cnt m lo re e s
      have h1 := runS_cnt m lo re r (insS m lo re x (listS m lo re l) (listS m lo re e) s.next)
      have h2 := opS_cnt (m := m) (re := re) (x := x) (by omega) (by omega) hL hE (failS (lacksP m lo x) s.next)
      rw [failS_cnt] at h2
      have h3 : s.next.cnt = s.cnt + 1 := rfl
      unfold insS at h1 ⊢
      simp only [Il.count]
      omega
    · simp only [Il.count]; omega
theorem listS_cnt (m : Md) (lo re : Int) (t : Il) (s : St) : s.cnt ≤ (listS m lo re t s).cnt ∧ (listS m lo re t s).cnt ≤ s.cnt + t.count := by
  unfold listS; rw [leaveS_cnt]; exact runS_cnt m lo re t s
end Go.Proofs.YtdljneclfgneoaaGreatDoor.Val

namespace Go.Proofs.YtdljneclfgneoaaGreatDoor.Mod
open Go.RowKit Go.Proofs.YtdljneclfgneoaaGreatDoor.Instr

/-- From address a on lie these rows, each of sz cells; below block n₀. -/
def Rows (n₀ : Nat) (w : World) (a : Option Addr) (sz : Nat) (rs : List (List Value)) : Prop :=
  rs = [] ∨ ∃ b off, a = some ⟨b, off, none⟩ ∧ b < n₀ ∧ ∀ i, i < rs.length → ∀ j, j < sz → ∀ v, (rs.getD i [])[j]? = some v → w.cell? ⟨b, off + i * sz + j, none⟩ = some v
theorem Rows.below {n₀ sz : Nat} {w w' : World} {a : Option Addr} {rs : List (List Value)} (hb : Below n₀ w w') (h : Rows n₀ w a sz rs) : Rows n₀ w' a sz rs := by
  rcases h with h | ⟨b, off, ha, hl, hc⟩
  · exact .inl h
  · exact .inr ⟨b, off, ha, hl, fun i hi j hj v hv => (hb.cell (p := ⟨b, off + i * sz + j, none⟩) hl).trans (hc i hi j hj v hv)⟩
theorem Rows.more {n₀ n₁ sz : Nat} {w : World} {a : Option Addr} {rs : List (List Value)} (hn : n₀ ≤ n₁) (h : Rows n₀ w a sz rs) : Rows n₁ w a sz rs := by
  rcases h with h | ⟨b, off, ha, hl, hc⟩
  · exact .inl h
  · exact .inr ⟨b, off, ha, by omega, hc⟩
/-- Where the k-th of them lies. -/
theorem Rows.get {α : Type} {f : α → List Value} {l : List α} {n₀ sz : Nat} {w : World} {a : Option Addr} (h : Rows n₀ w a sz (l.map f)) {k : Nat} (hk : k < l.length) :
    ∃ b off, a = some ⟨b, off, none⟩ ∧ b < n₀ ∧ ∀ j, j < sz → ∀ v, (f l[k])[j]? = some v → w.cell? ⟨b, off + k * sz + j, none⟩ = some v := by
  rcases h with h | ⟨b, off, ha, hl, hc⟩
  · rw [List.map_eq_nil_iff] at h; subst h; simp at hk
  · refine ⟨b, off, ha, hl, fun j hj v hv => hc k (by simpa using hk) j hj v ?_⟩
    rw [List.getD_eq_getElem?_getD, List.getElem?_map, List.getElem?_eq_getElem hk]
    exact hv
/-- Bytes in memory below block n₀. -/
def BytesAt (n₀ : Nat) (w : World) (a : Option Addr) (zs : List Int) : Prop :=
  zs = [] ∨ ∃ b off, a = some ⟨b, off, none⟩ ∧ b < n₀ ∧ ∀ i, i < zs.length → w.cell? ⟨b, off + i, none⟩ = some (.int .u8 (zs.getD i 0))
theorem BytesAt.below {n₀ : Nat} {w w' : World} {a : Option Addr} {zs : List Int} (hb : Below n₀ w w') (h : BytesAt n₀ w a zs) : BytesAt n₀ w' a zs := by
  rcases h with h | ⟨b, off, ha, hl, hc⟩
  · exact .inl h
  · exact .inr ⟨b, off, ha, hl, fun i hi => (hb.cell (p := ⟨b, off + i, none⟩) hl).trans (hc i hi)⟩
theorem BytesAt.more {n₀ n₁ : Nat} {w : World} {a : Option Addr} {zs : List Int} (hn : n₀ ≤ n₁) (h : BytesAt n₀ w a zs) : BytesAt n₁ w a zs := by
  rcases h with h | ⟨b, off, ha, hl, hc⟩
  · exact .inl h
  · exact .inr ⟨b, off, ha, by omega, hc⟩

/-- A module in memory, below block n₀. -/
structure ModAt (n₀ : Nat) (w : World) (m : Md) : Prop where
  ty : Rows n₀ w m.ty'.a 2 (m.ty.map tyV)
  im : Rows n₀ w m.im'.a 3 (m.im.map Imp.v)
  fu : Rows n₀ w m.fu'.a 3 (m.fu.map Fn.v)
  tb : Rows n₀ w m.tb'.a 3 (m.tb.map Li.v)
  me : Rows n₀ w m.me'.a 3 (m.me.map Li.v)
  gl : Rows n₀ w m.gl'.a 2 (m.gl.map Gl.v)
  ex : Rows n₀ w m.ex'.a 3 (m.ex.map Ex.v)
  el : Rows n₀ w m.el'.a 2 (m.el.map El.v)
  da : Rows n₀ w m.da'.a 2 (m.da.map Da.v)
  ls : ∀ l ∈ m.codes, ListAt n₀ w l.a l.t.len l.t
  fs : ∀ e ∈ m.el, TagsAt n₀ w e.fa e.fs
  bs : ∀ d ∈ m.da, BytesAt n₀ w d.ba d.bs
theorem ModAt.below {n₀ : Nat} {w w' : World} {m : Md} (hb : Below n₀ w w') (h : ModAt n₀ w m) : ModAt n₀ w' m :=
  ⟨h.ty.below hb, h.im.below hb, h.fu.below hb, h.tb.below hb, h.me.below hb, h.gl.below hb, h.ex.below hb, h.el.below hb, h.da.below hb, fun l hl => (h.ls l hl).below hb, fun e he => (h.fs e he).below hb, fun d hd => (h.bs d hd).below hb⟩
theorem ModAt.more {n₀ n₁ : Nat} {w : World} {m : Md} (hn : n₀ ≤ n₁) (h : ModAt n₀ w m) : ModAt n₁ w m :=
  ⟨h.ty.more hn, h.im.more hn, h.fu.more hn, h.tb.more hn, h.me.more hn, h.gl.more hn, h.ex.more hn, h.el.more hn, h.da.more hn, fun l hl => (h.ls l hl).more hn, fun e he => (h.fs e he).more hn, fun d hd => (h.bs d hd).more hn⟩
theorem ModAt.on {w w' : World} {m : Md} (h : ModAt w.heap.size w m) (hb : Below w.heap.size w w') : ModAt w'.heap.size w' m := (h.below hb).more hb.size

/-- Sizes that any machine has. -/
structure Md.fits (m : Md) : Prop where
  ty : m.ty.length ≤ 140737488351232
  im : m.im.length ≤ 140737488351232
  fu : m.fu.length ≤ 140737488351232
  tb : m.tb.length ≤ 140737488351232
  me : m.me.length ≤ 140737488351232
  gl : m.gl.length ≤ 140737488351232
  ex : m.ex.length ≤ 140737488351232
  el : m.el.length ≤ 140737488351232
  da : m.da.length ≤ 140737488351232
  ls : ∀ l ∈ m.codes, l.t.len ≤ 140737488351232
  fs : ∀ e ∈ m.el, e.fs.length ≤ 140737488351232
  bs : ∀ d ∈ m.da, d.bs.length ≤ 140737488351232
  iS : ∀ i ∈ m.im, i.mo.size ≤ 140737488351232 ∧ i.na.size ≤ 140737488351232
  eS : ∀ e ∈ m.ex, e.na.size ≤ 140737488351232
/-- Of which all parts together are few. -/
structure Md.few (m : Md) : Prop where
  fit : m.fits
  cs : ∀ l ∈ m.codes, l.t.count ≤ 1000000
  lens : m.ty.length ≤ 1000000 ∧ m.im.length ≤ 1000000 ∧ m.fu.length ≤ 1000000 ∧ m.tb.length ≤ 1000000 ∧ m.me.length ≤ 1000000 ∧ m.gl.length ≤ 1000000 ∧ m.ex.length ≤ 1000000 ∧ m.el.length ≤ 1000000 ∧ m.da.length ≤ 1000000

/-- The box that a module lies in: cell by cell. -/
def BoxAt (w : World) (g : Nat) (v : Array Value) : Prop := ∀ j x, v[j]? = some x → w.cell? ⟨g, j, none⟩ = some x
theorem BoxAt.made (w : World) (v : Array Value) (t : TypeId) : BoxAt (w.alloc (.cells v t)) w.heap.size v := by
  intro j x h
  simp [go_sem, h]
theorem BoxAt.keep {w w' : World} {g : Nat} {v : Array Value} (hb : Below w.heap.size w w') (h : BoxAt w g v) : BoxAt w' g v := fun j x hj => Go.Proofs.YtdljneclfgneoaaGreatDoor.keep hb (h j x hj)
end Go.Proofs.YtdljneclfgneoaaGreatDoor.Mod

namespace Go.Proofs.YtdljneclfgneoaaGreatDoor.Stk
open Go.RowKit
set_option linter.unusedVariables false

def wrongH (h : Int) : Bool := decide (h < 0) || decide (1073741824 < h)
theorem wrongHeight_any (h : Int) (w : World) : Calls Tryz.prog 364 #[.int .i64 h] w fun e w' => e = .returned (.bool (wrongH h)) ∧ w = w' := by
  have H : Hid (wrongH h = (decide (h < 0) || decide (1073741824 < h))) := rfl
  by_cases g : h < 0
  · have HE : Hid (wrongH h = true) := by show _ = _; rw [H.out]; simp [g]
    go_enter Tryz.func364, Tryz.ntmps364
    go_wp2
    go_ret
    exact ⟨ret_bool HE.out.symm, rfl⟩
  · have h' : decide (h < 0) = false := by simpa using g
    have HE : Hid (wrongH h = decide (1073741824 < h)) := by show _ = _; rw [H.out, h', Bool.false_or]
    clear H
    go_enter Tryz.func364, Tryz.ntmps364
    go_wp2
    go_ret
    exact ⟨ret_bool HE.out.symm, rfl⟩
theorem wrongResults_any (h : Int) (w : World) : Calls Tryz.prog 241 #[.int .i64 h] w fun e w' => e = .returned (.bool (wrongRe h)) ∧ w = w' := by
  have H : Hid (wrongRe h = (decide (h < 0) || decide (1 < h))) := rfl
  by_cases g : h < 0
  · have HE : Hid (wrongRe h = true) := by show _ = _; rw [H.out]; simp [g]
    go_enter Tryz.func241, Tryz.ntmps241
    go_wp2
    go_ret
    exact ⟨ret_bool HE.out.symm, rfl⟩
  · have h' : decide (h < 0) = false := by simpa using g
    have HE : Hid (wrongRe h = decide (1 < h)) := by show _ = _; rw [H.out, h', Bool.false_or]
    clear H
    go_enter Tryz.func241, Tryz.ntmps241
    go_wp2
    go_ret
    exact ⟨ret_bool HE.out.symm, rfl⟩
theorem opensList_any (op : Int) (w : World) : Calls Tryz.prog 342 #[.int .i64 op] w fun e w' => e = .returned (.bool (opens op)) ∧ w = w' := by
  have H : Hid (opens op = (decide (op = 2) || decide (op = 3) || decide (op = 4) || decide (op = 5))) := rfl
  by_cases g2 : op = 2
  · have HE : Hid (opens op = true) := by show _ = _; rw [H.out]; simp [g2]
    subst g2
    clear H
    go_enter Tryz.func342, Tryz.ntmps342
    go_wp2
    go_ret
    exact ⟨ret_bool HE.out.symm, rfl⟩
  by_cases g3 : op = 3
  · have HE : Hid (opens op = true) := by show _ = _; rw [H.out]; simp [g3]
    subst g3
    clear H
    go_enter Tryz.func342, Tryz.ntmps342
    go_wp2
    go_ret
    exact ⟨ret_bool HE.out.symm, rfl⟩
  by_cases g4 : op = 4
  · have HE : Hid (opens op = true) := by show _ = _; rw [H.out]; simp [g4]
    subst g4
    clear H
    go_enter Tryz.func342, Tryz.ntmps342
    go_wp2
    go_ret
    exact ⟨ret_bool HE.out.symm, rfl⟩
  by_cases g5 : op = 5
  · have HE : Hid (opens op = true) := by show _ = _; rw [H.out]; simp [g5]
    subst g5
    clear H
    go_enter Tryz.func342, Tryz.ntmps342
    go_wp2
    go_ret
    exact ⟨ret_bool HE.out.symm, rfl⟩
  have HE : Hid (opens op = false) := by show _ = _; rw [H.out]; simp [g2, g3, g4, g5]
  have q2 : (op == 2) = false := by simp [g2]
  have q3 : (op == 3) = false := by simp [g3]
  have q4 : (op == 4) = false := by simp [g4]
  have q5 : (op == 5) = false := by simp [g5]
  clear H
  go_enter Tryz.func342, Tryz.ntmps342
  go_wp2
  go_ret
  exact ⟨ret_bool HE.out.symm, rfl⟩
theorem s64_in {x : Int} (h0 : -9223372036854775808 ≤ x) (h1 : x ≤ 9223372036854775807) : IntKind.i64.wrap x = x := by rw [IntKind.wrap_i64]; omega
/-- What is left when n words are taken in a frame. -/
theorem without_any (h n : Int) (f : Fr) (w : World) (h0 : 0 ≤ h) (h1 : h ≤ 1073741824) (b0 : 0 ≤ f.ba) (b1 : f.ba ≤ h) (n0 : 0 ≤ n) (n1 : n ≤ 9223372036854775807) :
    Calls Tryz.prog 326 #[.int .i64 h, .int .i64 n, .agg #[.int .i64 f.op, .int .i64 f.ba, .int .i64 f.re, .bool f.de]] w fun e w' => e = .returned (.tuple #[.int .i64 (without h n f).1, .int .i64 (without h n f).2]) ∧ Below w.heap.size w w' := by
  have HW : Hid (without h n f = if h - f.ba < n ∧ f.de = false then (0, 200) else (if f.ba ≤ h - n then h - n else f.ba, 0)) := rfl
  generalize hR : without h n f = R at HW ⊢
  obtain ⟨op, ba, re, de⟩ := f
  dsimp only at *
  clear hR
  have k1 : IntKind.i64.wrap (h - ba) = h - ba := s64_in (by omega) (by omega)
  have k2 : IntKind.i64.wrap (h - n) = h - n := s64_in (by omega) (by omega)
  by_cases g1 : h - ba < n
  · cases de with
    | false =>
      have HR : Hid (R = (0, 200)) := by show _ = _; rw [HW.out]; simp [g1]
      clear HW
      go_enter Tryz.func326, Tryz.ntmps326
      go_wp2
      go_ret2
      exact ⟨by rw [HR.out]; rfl, (Below.refl _ _).alloc (Nat.le_refl _) _⟩
    | true =>
      have HR : Hid (R = (ba, 0)) := by show _ = _; rw [HW.out]; simp; omega
      clear HW
      go_enter Tryz.func326, Tryz.ntmps326
      go_wp2
      go_ret2
      exact ⟨by rw [HR.out]; simp <;> omega, (Below.refl _ _).alloc (Nat.le_refl _) _⟩
  · have HR : Hid (R = (h - n, 0)) := by show _ = _; rw [HW.out, if_neg (fun h => g1 h.1), if_pos (by omega)]
    clear HW
    go_enter Tryz.func326, Tryz.ntmps326
    go_wp2
    go_ret2
    exact ⟨by rw [HR.out]; simp <;> omega, (Below.refl _ _).alloc (Nat.le_refl _) _⟩
end Go.Proofs.YtdljneclfgneoaaGreatDoor.Stk

namespace Go.Proofs.YtdljneclfgneoaaGreatDoor.Stk
open Go.RowKit
set_option linter.unusedVariables false

theorem drewn {B : Nat} {a w : World} (h : Below B a w) (n : Nat) : Below B a (w.drewN n) := ⟨h.os, h.tape, h.output, h.size, h.block⟩
/-- A stand in memory, below block n₀. -/
structure StAt (n₀ : Nat) (w : World) (a : Option Addr) (n c : Nat) (l : List Fr) : Prop where
  rows : Rows n₀ w a 4 (l.map Fr.v)
  len : l.length = n
  cap : n ≤ c
  fit : n ≤ 140737488351232
theorem StAt.below {n₀ : Nat} {w w' : World} {a : Option Addr} {n c : Nat} {l : List Fr} (hb : Below n₀ w w') (h : StAt n₀ w a n c l) : StAt n₀ w' a n c l := ⟨h.rows.below hb, h.len, h.cap, h.fit⟩
theorem StAt.more {n₀ n₁ : Nat} {w : World} {a : Option Addr} {n c : Nat} {l : List Fr} (hn : n₀ ≤ n₁) (h : StAt n₀ w a n c l) : StAt n₁ w a n c l := ⟨h.rows.more hn, h.len, h.cap, h.fit⟩
theorem StAt.on {w w' : World} {a : Option Addr} {n c : Nat} {l : List Fr} (h : StAt w.heap.size w a n c l) (hb : Below w.heap.size w w') : StAt w'.heap.size w' a n c l := (h.below hb).more hb.size
/-- Where the k-th frame lies. -/
theorem StAt.get {n₀ : Nat} {w : World} {a : Option Addr} {n c : Nat} {l : List Fr} (h : StAt n₀ w a n c l) (h0 : 0 < n) : ∃ b off, a = some ⟨b, off, none⟩ ∧ b < n₀ ∧ ∀ k (hk : k < l.length),
    w.cell? ⟨b, off + k * 4, none⟩ = some (.int .i64 l[k].op) ∧ w.cell? ⟨b, off + k * 4 + 1, none⟩ = some (.int .i64 l[k].ba) ∧ w.cell? ⟨b, off + k * 4 + 2, none⟩ = some (.int .i64 l[k].re) ∧ w.cell? ⟨b, off + k * 4 + 3, none⟩ = some (.bool l[k].de) := by
  have hl := h.len
  rcases h.rows with h1 | ⟨b, off, ha, hb, hc⟩
  · rw [List.map_eq_nil_iff] at h1; subst h1; simp at hl; omega
  · refine ⟨b, off, ha, hb, fun k hk => ?_⟩
    have key : ∀ j, j < 4 → ∀ v, (l[k].v)[j]? = some v → w.cell? ⟨b, off + k * 4 + j, none⟩ = some v := fun j hj v hv => hc k (by simpa using hk) j hj v (by
      rw [List.getD_eq_getElem?_getD, List.getElem?_map, List.getElem?_eq_getElem hk]; exact hv)
    exact ⟨key 0 (by omega) _ rfl, key 1 (by omega) _ rfl, key 2 (by omega) _ rfl, key 3 (by omega) _ rfl⟩

set_option maxRecDepth 100000 in
set_option maxHeartbeats 2000000 in
theorem wrongFrames_any (h : Int) (a : Option Addr) (n c : Nat) (l : List Fr) (w : World) (hs : StAt w.heap.size w a n c l) :
    Calls Tryz.prog 365 #[.agg #[.int .i64 h, .slice a n c]] w fun e w' => e = .returned (.bool (badAll h l)) ∧ Below w.heap.size w w' := by
  have HL := hid hs.len
  have HB1 := hid ((Below.refl w.heap.size w).alloc (Nat.le_refl _) (.cells #[.int .i64 h, .slice a n c] 254))
  have x0 : (w.alloc (.cells #[.int .i64 h, .slice a n c] 254)).cell? ⟨w.heap.size, 0, none⟩ = some (.int .i64 h) := by go_simp
  have x1 : (w.alloc (.cells #[.int .i64 h, .slice a n c] 254)).cell? ⟨w.heap.size, 1, none⟩ = some (.slice a n c) := by go_simp
  by_cases h0 : n = 0
  · subst h0
    have HE : Hid (badAll h l = true) := by show _ = _; rw [List.eq_nil_of_length_eq_zero HL.out]; rfl
    clear hs
    go_enter Tryz.func365, Tryz.ntmps365
    go_wp2
    go_ret
    exact ⟨ret_bool HE.out.symm, HB1.out⟩
  by_cases h1 : 1000 < n
  · have HE : Hid (badAll h l = true) := by
      show _ = _
      cases l with
      | nil => rfl
      | cons f l => have hl := HL.out; simp only [List.length_cons] at hl; simp only [badAll, Bool.or_eq_true, decide_eq_true_eq]; left; omega
    have h1i : (1000 : Int) < (n : Int) := by omega
    have h0i : ((n : Int) == 0) = false := by simp; omega
    clear hs
    go_enter Tryz.func365, Tryz.ntmps365
    go_wp2
    go_ret
    exact ⟨ret_bool HE.out.symm, HB1.out⟩
  have HN1 := hid h1
  obtain ⟨b, off, rfl, hb, hc⟩ := hs.get (Nat.pos_of_ne_zero h0)
  have HC := hid hc
  cases l with
  | nil => exact absurd HL.out (by simp; omega)
  | cons f l' =>
  obtain ⟨op, ba, re, de⟩ := f
  obtain ⟨c0, c1, c2, c3⟩ := HC.out 0 (by simp)
  simp only [List.getElem_cons_zero, Nat.zero_mul, Nat.add_zero] at c0 c1 c2 c3
  have h1i : ¬ (1000 : Int) < (n : Int) := by omega
  have h0i : ((n : Int) == 0) = false := by simp; omega
  have h0j : (0 : Int) < (n : Int) := by omega
  have HW1 := hid hs.cap
  have HE0 : Hid (badAll h (⟨op, ba, re, de⟩ :: l') = (badFirst ⟨op, ba, re, de⟩ || badL h 0 l')) := by
    show _ = _
    have hl := HL.out
    simp only [List.length_cons] at hl
    simp only [badAll]
    rw [show decide (1000 < l'.length + 1) = false by simp; omega, Bool.false_or]
  have CR := hid (fun W => wrongResults_any re W)
  obtain ⟨W1, hW1⟩ : ∃ W1, W1 = ((w.alloc (.cells #[.int .i64 h, .slice (some ⟨b, off, none⟩) n c] 254)).alloc (.cells #[.int .i64 op, .int .i64 ba, .int .i64 re, .bool de] 305)) := ⟨_, rfl⟩
  have HBW := hid (show Below w.heap.size w W1 by rw [hW1]; exact HB1.out.alloc (by simp) _)
  have y0 : W1.cell? ⟨w.heap.size, 0, none⟩ = some (.int .i64 h) := by rw [hW1]; go_simp
  have y1 : W1.cell? ⟨w.heap.size, 1, none⟩ = some (.slice (some ⟨b, off, none⟩) n c) := by rw [hW1]; go_simp
  have HSZ := hid (show w.heap.size + 2 = W1.heap.size by rw [hW1]; simp)
  have HW := hid hW1
  clear hc hs h1 hW1
  by_cases g0 : op = 0
  rotate_left
  · have HE : Hid (badAll h (⟨op, ba, re, de⟩ :: l') = true) := by show _ = _; rw [HE0.out]; simp [badFirst, g0]
    have q0 : (op != 0) = true := by simp [g0]
    clear HE0 HC
    go_enter Tryz.func365, Tryz.ntmps365
    go_wp2_with fail
    go_ret
    exact ⟨ret_bool HE.out.symm, by rw [← HW.out]; exact HBW.out⟩
  subst g0
  by_cases g1 : ba = 0
  rotate_left
  · have HE : Hid (badAll h (⟨0, ba, re, de⟩ :: l') = true) := by show _ = _; rw [HE0.out]; simp [badFirst, g1]
    have q0 : (ba != 0) = true := by simp [g1]
    clear HE0 HC
    go_enter Tryz.func365, Tryz.ntmps365
    go_wp2_with fail
    go_ret
    exact ⟨ret_bool HE.out.symm, by rw [← HW.out]; exact HBW.out⟩
  subst g1
  obtain ⟨q, hq⟩ : ∃ q, wrongRe re = q := ⟨_, rfl⟩
  rw [hq] at CR
  have HE1 : Hid (badAll h (⟨0, 0, re, de⟩ :: l') = (q || badL h 0 l')) := by show _ = _; rw [HE0.out]; simp [badFirst, hq]
  obtain ⟨R, hR⟩ : ∃ R, badAll h (⟨0, 0, re, de⟩ :: l') = R := ⟨_, rfl⟩
  rw [hR] at HE1 ⊢
  clear hq HE0 hR
  cases q with
  | true =>
    have HE : Hid (R = true) := HE1.out
    clear HE1 HC
    go_enter Tryz.func365, Tryz.ntmps365
    go_wp2_with fail
    refine (CR.out _).mono ?_
    rintro e w1 ⟨rfl, rfl⟩
    rw [← HW.out]
    go_wp2
    go_ret
    exact ⟨ret_bool HE.out.symm, HBW.out⟩
  | false =>
    go_enter Tryz.func365, Tryz.ntmps365
    go_wp2_with fail
    refine (CR.out _).mono ?_
    rintro e w1 ⟨rfl, rfl⟩
    rw [← HW.out]
    clear CR HW
    by_cases hcc : c = 1
    · subst hcc
      obtain rfl : n = 1 := by have := HW1.out; omega
      have hl0 : l' = [] := List.eq_nil_of_length_eq_zero (by have := HL.out; simpa using this)
      subst hl0
      have HE : Hid (R = false) := HE1.out
      clear HE1 HC
      go_wp2
      go_loopw [4, 5, 37] (fun _ _ vi wr => vi = .int .i64 0 ∧ wr = W1) (fun _ _ _ _ => 0)
      case atStart => exact ⟨rfl, rfl⟩
      case round =>
        obtain ⟨rfl, rfl⟩ := hrel
        go_wp2
        go_ret
        exact ⟨ret_bool HE.out.symm, HBW.out⟩
    · obtain ⟨m, rfl⟩ : ∃ m, n = m + 1 := ⟨n - 1, by omega⟩
      have hc1 : 1 ≤ m + 1 := by omega
      have hc2 : m + 1 ≤ c := HW1.out
      have hc3 : ¬ ((c : Int) = 1) := by omega
      have HLM : Hid (l'.length = m) := hid (by have := HL.out; simpa using this)
      have HE2 : Hid (R = badL h 0 l') := HE1.out
      clear HE1 HL
      have HCC := hid (fun (W : World) (hW : Below W1.heap.size W1 W) k (hk : k < l'.length + 1) => (by
        obtain ⟨g0, g1, g2, g3⟩ := HC.out k (by simpa using hk)
        have hbw := HBW.out.trans (hW.mono HBW.out.size)
        exact ⟨(hbw.cell (p := ⟨b, off + k * 4, none⟩) hb).trans g0, (hbw.cell (p := ⟨b, off + k * 4 + 1, none⟩) hb).trans g1, (hbw.cell (p := ⟨b, off + k * 4 + 2, none⟩) hb).trans g2, (hbw.cell (p := ⟨b, off + k * 4 + 3, none⟩) hb).trans g3⟩ :
        W.cell? ⟨b, off + k * 4, none⟩ = some (.int .i64 ((⟨0, 0, re, de⟩ :: l' : List Fr)[k]'(by simpa using hk)).op) ∧ W.cell? ⟨b, off + k * 4 + 1, none⟩ = some (.int .i64 ((⟨0, 0, re, de⟩ :: l' : List Fr)[k]'(by simpa using hk)).ba) ∧ W.cell? ⟨b, off + k * 4 + 2, none⟩ = some (.int .i64 ((⟨0, 0, re, de⟩ :: l' : List Fr)[k]'(by simpa using hk)).re) ∧ W.cell? ⟨b, off + k * 4 + 3, none⟩ = some (.bool ((⟨0, 0, re, de⟩ :: l' : List Fr)[k]'(by simpa using hk)).de)))
      clear HC c0 c1 c2 c3
      go_wp2
      go_loopw [4, 5, 37] (fun _ _ vi wr => ∃ k : Nat, vi = .int .i64 k ∧ k ≤ m ∧ Hid (Below W1.heap.size W1 wr) ∧ Hid (R = badL h ((⟨0, 0, re, de⟩ :: l' : List Fr).getD k Fr.none).ba (l'.drop k))) (fun _ _ vi _ => m - (intOf vi).toNat)
      case atStart => exact ⟨0, rfl, Nat.zero_le _, Below.refl _ _, HE2.out⟩
      case round =>
        obtain ⟨k, rfl, hk, HB, HI⟩ := hrel
        by_cases hlt : k < m
        · have hkl : k < l'.length := by rw [HLM.out]; exact hlt
          obtain ⟨g0, g1, g2, g3⟩ := HCC.out wr HB.out (k + 1) (by omega)
          obtain ⟨-, e1, -, -⟩ := HCC.out wr HB.out k (by omega)
          have hy : (⟨0, 0, re, de⟩ :: l' : List Fr)[k + 1]'(by simpa using hkl) = l'[k] := rfl
          have HS : Hid (R = (badF h ((⟨0, 0, re, de⟩ :: l' : List Fr).getD k Fr.none).ba l'[k] || badL h l'[k].ba (l'.drop (k + 1)))) := hid (by rw [HI.out, badL_at hkl])
          have hgd : ((⟨0, 0, re, de⟩ :: l' : List Fr).getD k Fr.none) = (⟨0, 0, re, de⟩ :: l' : List Fr)[k]'(by simp; omega) := by rw [List.getD_eq_getElem?_getD, List.getElem?_eq_getElem (by simp; omega)]; rfl
          have hgd1 : ((⟨0, 0, re, de⟩ :: l' : List Fr).getD (k + 1) Fr.none) = l'[k] := by rw [List.getD_eq_getElem?_getD, List.getElem?_eq_getElem (by simpa using hkl)]; rfl
          have HG1 := hid hgd1
          rw [hgd] at HS
          rw [hy] at g0 g1 g2 g3
          obtain ⟨b0, hb0⟩ : ∃ b0, ((⟨0, 0, re, de⟩ :: l' : List Fr)[k]'(by simp; omega)).ba = b0 := ⟨_, rfl⟩
          rw [hb0] at e1 HS
          obtain ⟨y, hye⟩ : ∃ y, l'[k] = y := ⟨_, rfl⟩
          rw [hye] at g0 g1 g2 g3 HS HG1
          obtain ⟨yo, yb, yr, yd⟩ := y
          dsimp only at g0 g1 g2 g3 HS HG1
          have ad : off + (k + 1) * 4 = off + 4 + k * 4 := by omega
          rw [ad] at g0 g1 g2 g3
          have hki : (k : Int) < (m : Int) := by omega
          clear hye hb0 hgd hgd1 hy ad HI
          have hks : k < m + 1 := by omega
          have hkj : (k : Int) < (m : Int) + 1 := by omega
          have t0 : wr.cell? ⟨w.heap.size, 0, none⟩ = some (.int .i64 h) := (HB.out.cell (p := ⟨w.heap.size, 0, none⟩) (by have := HSZ.out; show w.heap.size < _; omega)).trans y0
          have t1 : wr.cell? ⟨w.heap.size, 1, none⟩ = some (.slice (some ⟨b, off, none⟩) (m + 1) c) := (HB.out.cell (p := ⟨w.heap.size, 1, none⟩) (by have := HSZ.out; show w.heap.size < _; omega)).trans y1
          obtain ⟨W2, hW2⟩ : ∃ W2, W2 = wr.alloc (.cells #[.int .i64 yo, .int .i64 yb, .int .i64 yr, .bool yd] 305) := ⟨_, rfl⟩
          have HW2 := hid hW2
          have hA := (Below.refl wr.heap.size wr).alloc (Nat.le_refl _) (.cells #[.int .i64 yo, .int .i64 yb, .int .i64 yr, .bool yd] 305)
          rw [← hW2] at hA
          have HB2 := hid (HB.out.trans (hA.mono HB.out.size))
          have z0 : W2.cell? ⟨wr.heap.size, 0, none⟩ = some (.int .i64 yo) := by rw [hW2]; go_simp
          have z1 : W2.cell? ⟨wr.heap.size, 1, none⟩ = some (.int .i64 yb) := by rw [hW2]; go_simp
          have z2 : W2.cell? ⟨wr.heap.size, 2, none⟩ = some (.int .i64 yr) := by rw [hW2]; go_simp
          have t0' := keep hA t0
          have t1' := keep hA t1
          have e1' := keep hA e1
          clear hA hW2 y0 y1
          obtain ⟨q, hq⟩ : ∃ q, opens yo = q := ⟨_, rfl⟩
          have CO := hid (fun W => opensList_any yo W)
          rw [hq] at CO
          cases q with
          | false =>
            have HF : Hid (R = true) := hid (by rw [HS.out]; simp [badF, hq])
            clear hq HS HE2 HG1 HCC HLM
            go_wp2
            rw [← HW2.out]
            go_quiet ((go_at_call 342; exact Calls.quiet_of_same ((CO.out _).mono fun e w' h => ⟨h.1, h.2.symm⟩)))
            go_wp2
            go_ret
            exact ⟨ret_bool HF.out.symm, HBW.out.trans ((drewn HB2.out _).mono HBW.out.size)⟩
          | true =>
            have CR2 := hid (fun W => wrongResults_any yr W)
            by_cases d1 : yb < b0
            · have HF : Hid (R = true) := hid (by rw [HS.out]; simp [badF, hq, d1])
              clear hq HS HE2 HG1 HCC HLM
              go_wp2
              rw [← HW2.out]
              go_quiet (first | (go_at_call 342; exact Calls.quiet_of_same ((CO.out _).mono fun e w' h => ⟨h.1, h.2.symm⟩)) | (go_at_call 241; exact Calls.quiet_of_same ((CR2.out _).mono fun e w' h => ⟨h.1, h.2.symm⟩)))
              go_wp2
              go_ret
              exact ⟨ret_bool HF.out.symm, HBW.out.trans ((drewn HB2.out _).mono HBW.out.size)⟩
            have d1' : decide (yb < b0) = false := by simpa using d1
            by_cases d2 : h < yb
            · have HF : Hid (R = true) := hid (by rw [HS.out]; simp [badF, hq, d1, d2])
              clear hq HS HE2 HG1 HCC HLM d1
              go_wp2
              rw [← HW2.out]
              go_quiet (first | (go_at_call 342; exact Calls.quiet_of_same ((CO.out _).mono fun e w' h => ⟨h.1, h.2.symm⟩)) | (go_at_call 241; exact Calls.quiet_of_same ((CR2.out _).mono fun e w' h => ⟨h.1, h.2.symm⟩)))
              go_wp2
              go_ret
              exact ⟨ret_bool HF.out.symm, HBW.out.trans ((drewn HB2.out _).mono HBW.out.size)⟩
            have d2' : decide (h < yb) = false := by simpa using d2
            obtain ⟨q2, hq2⟩ : ∃ q, wrongRe yr = q := ⟨_, rfl⟩
            rw [hq2] at CR2
            have HX : Hid (R = (q2 || badL h yb (l'.drop (k + 1)))) := hid (by rw [HS.out]; simp [badF, hq, d1, d2, hq2])
            clear hq HS hq2 d1 d2
            cases q2 with
            | true =>
              have HF : Hid (R = true) := HX.out
              clear HX HE2 HG1 HCC HLM
              go_wp2
              rw [← HW2.out]
              go_quiet (first | (go_at_call 342; exact Calls.quiet_of_same ((CO.out _).mono fun e w' h => ⟨h.1, h.2.symm⟩)) | (go_at_call 241; exact Calls.quiet_of_same ((CR2.out _).mono fun e w' h => ⟨h.1, h.2.symm⟩)))
              go_wp2
              go_ret
              exact ⟨ret_bool HF.out.symm, HBW.out.trans ((drewn HB2.out _).mono HBW.out.size)⟩
            | false =>
              have HF : Hid (R = badL h yb (l'.drop (k + 1))) := HX.out
              clear HX HE2
              go_wp2
              rw [← HW2.out]
              go_quiet (first | (go_at_call 342; exact Calls.quiet_of_same ((CO.out _).mono fun e w' h => ⟨h.1, h.2.symm⟩)) | (go_at_call 241; exact Calls.quiet_of_same ((CR2.out _).mono fun e w' h => ⟨h.1, h.2.symm⟩)))
              go_wp2
              go_roundw
              case rel => exact ⟨k + 1, by go_num, by omega, drewn HB2.out _, by rw [HG1.out]; exact HF.out⟩
              case measure => simp [intOf]; omega
        · obtain rfl : k = m := by omega
          have HF : Hid (R = false) := hid (by rw [HI.out, List.drop_eq_nil_of_le (by rw [HLM.out]; exact Nat.le_refl _)]; rfl)
          clear HI HE2
          go_wp2
          go_ret
          exact ⟨ret_bool HF.out.symm, HBW.out.trans (HB.out.mono HBW.out.size)⟩
end Go.Proofs.YtdljneclfgneoaaGreatDoor.Stk

namespace Go.Proofs.YtdljneclfgneoaaGreatDoor.Stk
open Go.RowKit
set_option linter.unusedVariables false

theorem chk_low {h : Int} {l : List Fr} (g : h < 0) : chk h l = 2 := by unfold chk valid; rw [show decide (0 ≤ h) = false by simp; omega]; simp
theorem chk_high {h : Int} {l : List Fr} (g : 1073741824 < h) : chk h l = 2 := by unfold chk valid; rw [show decide (h ≤ 1073741824) = false by simp; omega]; simp
theorem chk_in {h : Int} {l : List Fr} (g0 : ¬ h < 0) (g1 : ¬ 1073741824 < h) : chk h l = if badAll h l then 2 else 0 := by
  unfold chk valid
  rw [show decide (0 ≤ h) = true by simp; omega, show decide (h ≤ 1073741824) = true by simp; omega]
  cases badAll h l <;> rfl
set_option maxHeartbeats 2000000 in
theorem check_any (h : Int) (a : Option Addr) (n c : Nat) (l : List Fr) (w : World) (hs : StAt w.heap.size w a n c l) :
    Calls Tryz.prog 343 #[.agg #[.int .i64 h, .slice a n c]] w fun e w' => e = .returned (.int .i64 (chk h l)) ∧ Below w.heap.size w w' := by
  have HB1 := hid ((Below.refl w.heap.size w).alloc (Nat.le_refl _) (.cells #[.int .i64 h, .slice a n c] 254))
  have CW := hid (wrongFrames_any h a n c l (w.alloc (.cells #[.int .i64 h, .slice a n c] 254)) (hs.on HB1.out))
  have CH := hid (fun W => wrongHeight_any h W)
  obtain ⟨q, hq⟩ : ∃ q, wrongH h = q := ⟨_, rfl⟩
  rw [hq] at CH
  have x0 : (w.alloc (.cells #[.int .i64 h, .slice a n c] 254)).cell? ⟨w.heap.size, 0, none⟩ = some (.int .i64 h) := by go_simp
  have x1 : (w.alloc (.cells #[.int .i64 h, .slice a n c] 254)).cell? ⟨w.heap.size, 1, none⟩ = some (.slice a n c) := by go_simp
  have HQ := hid hq
  have HI := hid (fun g0 g1 => chk_in (h := h) (l := l) g0 g1)
  have HT := hid (fun g => chk_low (h := h) (l := l) g)
  have HT2 := hid (fun g => chk_high (h := h) (l := l) g)
  obtain ⟨B, hB⟩ : ∃ B, badAll h l = B := ⟨_, rfl⟩
  obtain ⟨R, hR⟩ : ∃ R, chk h l = R := ⟨_, rfl⟩
  rw [hB] at CW HI
  rw [hR] at HI HT HT2 ⊢
  clear hq hs hB hR
  cases q with
  | true =>
    have HR : Hid (R = 2) := hid (by
      have h := HQ.out
      simp only [wrongH, Bool.or_eq_true, decide_eq_true_eq] at h
      exact h.elim HT.out HT2.out)
    clear HQ HI HT HT2 CW
    go_enter Tryz.func343, Tryz.ntmps343
    go_wp2_with fail
    refine (CH.out _).mono ?_
    rintro e w1 ⟨rfl, rfl⟩
    go_wp2
    go_ret
    exact ⟨ret_int HR.out.symm, HB1.out⟩
  | false =>
    have HR : Hid (R = if B then 2 else 0) := hid (by
      have h := HQ.out
      simp only [wrongH, Bool.or_eq_false_iff, decide_eq_false_iff_not] at h
      exact HI.out h.1 h.2)
    clear HQ HI HT HT2
    cases B with
    | true =>
      have HF : Hid (R = 2) := HR.out
      clear HR
      go_enter Tryz.func343, Tryz.ntmps343
      go_wp2_with fail
      refine (CH.out _).mono ?_
      rintro e w1 ⟨rfl, rfl⟩
      go_wp2_with fail
      refine CW.out.mono ?_
      rintro e w1 ⟨rfl, hb⟩
      have HB := hid (HB1.out.trans (hb.mono HB1.out.size))
      clear hb
      go_wp2
      go_ret
      exact ⟨ret_int HF.out.symm, HB.out⟩
    | false =>
      have HF : Hid (R = 0) := HR.out
      clear HR
      go_enter Tryz.func343, Tryz.ntmps343
      go_wp2_with fail
      refine (CH.out _).mono ?_
      rintro e w1 ⟨rfl, rfl⟩
      go_wp2_with fail
      refine CW.out.mono ?_
      rintro e w1 ⟨rfl, hb⟩
      have HB := hid (HB1.out.trans (hb.mono HB1.out.size))
      clear hb
      go_wp2
      go_ret
      exact ⟨ret_int HF.out.symm, HB.out⟩

end Go.Proofs.YtdljneclfgneoaaGreatDoor.Stk

namespace Go.Proofs.YtdljneclfgneoaaGreatDoor.Stk
open Go.RowKit
set_option linter.unusedVariables false

theorem infoFr : (Tryz.prog.info? 305).map (fun i => (i.zero, i.size, i.bytes)) = some (some (.agg #[.int .i64 0, .int .i64 0, .int .i64 0, .bool false]), 4, 32) := by kernel_rfl
/-- A box that holds a stand. -/
def Bx (W : World) (g : Nat) (x y : Value) : Prop := W.heap[g]? = some (.cells #[x, y] 254 (0, 0))
theorem Bx.lt {W : World} {g : Nat} {x y : Value} (h : Bx W g x y) : g < W.heap.size := (Array.getElem?_eq_some_iff.1 h).1
theorem Bx.made (W : World) (x y : Value) : Bx (W.alloc (.cells #[x, y] 254)) W.heap.size x y := heap_alloc_new W _
theorem Bx.belowB {B : Nat} {W W' : World} {g : Nat} {x y : Value} (h : Bx W g x y) (hb : Below B W W') (hg : g < B) : Bx W' g x y := (hb.block g hg).trans h
theorem Bx.below {W W' : World} {g : Nat} {x y : Value} (h : Bx W g x y) (hb : Below W.heap.size W W') : Bx W' g x y := h.belowB hb h.lt
theorem Bx.c0 {W : World} {g : Nat} {x y : Value} (h : Bx W g x y) : W.cell? ⟨g, 0, none⟩ = some x := cell_of_row W g 0 _ _ _ h
theorem Bx.c1 {W : World} {g : Nat} {x y : Value} (h : Bx W g x y) : W.cell? ⟨g, 1, none⟩ = some y := cell_of_row W g 1 _ _ _ h
theorem Bx.f {W : World} {g : Nat} {x y : Value} (h : Bx W g x y) (j : Nat) : W.frozen? ⟨g, j, none⟩ = false := frozen_of_row W g j _ _ h
theorem Bx.set0 {W : World} {g : Nat} {x y : Value} (h : Bx W g x y) (u : Value) : Bx (W.setCell ⟨g, 0, none⟩ u) g u y := heap_setCell_same W g 0 _ _ u h
theorem Bx.set1 {W : World} {g : Nat} {x y : Value} (h : Bx W g x y) (u : Value) : Bx (W.setCell ⟨g, 1, none⟩ u) g x u := heap_setCell_same W g 1 _ _ u h
theorem Bx.far {W : World} {g : Nat} {x y : Value} (h : Bx W g x y) {p : Addr} (hp : g ≠ p.block) (u : Value) : Bx (W.setCell p u) g x y := (Below.heap_setCell W p u g hp).trans h

theorem four (f : Fr) : f.v.length = 4 := rfl
theorem fours (l : List Fr) : ∀ r ∈ l.map Fr.v, r.length = 4 := by
  intro r hr
  obtain ⟨f, _, rfl⟩ := List.mem_map.1 hr
  rfl
theorem ones (l : List Fr) : ∀ r ∈ l.map Fr.v, ∀ u ∈ r, u.oneCell' = true := by
  intro r hr u hu
  obtain ⟨f, _, rfl⟩ := List.mem_map.1 hr
  simp only [Fr.v, List.mem_cons, List.not_mem_nil, or_false] at hu
  rcases hu with rfl | rfl | rfl | rfl <;> rfl
/-- Frames that a call made itself. -/
def OwnF (base : Nat) (w : World) (v : Value) (l : List Fr) : Prop := OwnR 305 4 base w v (l.map Fr.v)
theorem OwnF.slice {base : Nat} {w : World} {v : Value} {l : List Fr} (h : OwnF base w v l) (hl : l.length ≤ 1000000) : ∃ a c, v = .slice a l.length c ∧ StAt w.heap.size w a l.length c l := by
  obtain ⟨a, c, hv, hr, _⟩ := OwnR.rows h
  rw [List.length_map] at hv
  refine ⟨a, c, hv, ⟨hr, rfl, ?_, by omega⟩⟩
  · rcases h.row.2 with ⟨h1, h0⟩ | ⟨g, cap, cur, h1, _, _, hc, _⟩
    · rw [List.length_map] at h0; omega
    · rw [hv] at h1
      simp only [Value.slice.injEq] at h1
      rw [List.length_map] at hc
      omega
/-- Two stores, and what they leave. -/
theorem box2 {W : World} {g : Nat} {x y : Value} (h : Bx W g x y) (u v : Value) : Bx ((W.setCell ⟨g, 0, none⟩ u).setCell ⟨g, 1, none⟩ v) g u v := (h.set0 u).set1 v
theorem OwnF.set {base : Nat} {w : World} {v : Value} {l : List Fr} (h : OwnF base w v l) {p : Addr} (hp : p.block < base) (u : Value) : OwnF base (w.setCell p u) v l := OwnR.setCell h hp u
theorem OwnF.mono {base base' : Nat} {w : World} {v : Value} {l : List Fr} (h : OwnF base w v l) (hb : base' ≤ base) : OwnF base' w v l := OwnR.mono h hb
theorem OwnF.below {base : Nat} {w w' : World} {v : Value} {l : List Fr} (h : OwnF base w v l) (hb : Below w.heap.size w w') : OwnF base w' v l := OwnR.below h hb
theorem ownF_nil (base : Nat) (w : World) : OwnF base w (.slice none 0 0) [] := OwnR.start _ _ _ _
set_option maxHeartbeats 1000000 in
theorem clone_any (w : World) (a : Option Addr) (n c : Nat) (l : List Fr) (hn : l.length = n) (hr : Rows w.heap.size w a 4 (l.map Fr.v)) (hl : n ≤ 1000000) :
    Calls Tryz.prog 344 #[.slice a n c] w fun e w' => ∃ v, e = .returned v ∧ OwnF w.heap.size w' v l ∧ Below w.heap.size w w' := by
  unfold OwnF
  have HL := hid (fours l)
  have H1 := hid (ones l)
  have HN0 : Hid (l = [] ∨ (l.map Fr.v).length = n) := hid (.inr (by simpa using hn))
  have HE := hid (fun (h : l.map Fr.v = []) => h)
  obtain ⟨ys, hys⟩ : ∃ ys, l.map Fr.v = ys := ⟨_, rfl⟩
  have HN := hid (show ys.length = n by rw [← hys]; simpa using hn)
  rw [hys] at hr HL H1 ⊢
  have HR := hid hr
  have HM := hid (show ys.length ≤ 1000000000 by rw [HN.out]; omega)
  clear hn hr hl HN0 HE hys
  cases a with
  | none =>
    have HY : Hid (ys = []) := hid (HR.out.elim id (fun ⟨b, off, h, _⟩ => by cases h))
    have qn := Lib.run_eql_slice_nil (P := Tryz.prog) w 252 305 Option.none n c 0 0 Tryz.underlying252
    rw [Option.isNone_none] at qn
    go_enter Tryz.func344, Tryz.ntmps344
    go_wp2
    go_ret
    exact ⟨_, rfl, by rw [HY.out]; exact OwnR.start _ _ _ _, Below.refl _ _⟩
  | some ad =>
    have qn := Lib.run_eql_slice_nil (P := Tryz.prog) w 252 305 (some ad) n c 0 0 Tryz.underlying252
    rw [Option.isNone_some] at qn
    go_enter Tryz.func344, Tryz.ntmps344
    go_wp2_with (at_builtin; refine append_list infoFr rfl (by omega) (by omega) Tryz.underlying252 rfl (.tmp 5) (.tmp 6) rfl rfl (OwnR.madeG 305 4 _ rfl) (by simp) _ _ _ rfl ys HN.out ((HR.out.below ((Below.refl _ _).alloc (Nat.le_refl _) _)).more (by simp)) HL.out H1.out HM.out ?_; intro v1 u1 ho hb hsz)
    go_ret
    exact ⟨_, rfl, ho, (((Below.refl w.heap.size w).alloc (Nat.le_refl _) _).trans hb)⟩
end Go.Proofs.YtdljneclfgneoaaGreatDoor.Stk

namespace Go.Proofs.YtdljneclfgneoaaGreatDoor.Stk
set_option linter.unusedVariables false

theorem badF_shift {h h' b : Int} {f : Fr} (hv : badF h b f = false) (hb : f.ba ≤ h') : badF h' b f = false := by
  unfold badF at hv ⊢
  simp only [Bool.or_eq_false_iff, decide_eq_false_iff_not] at hv ⊢
  exact ⟨⟨hv.1.1, by omega⟩, hv.2⟩
theorem badL_shift {h h' : Int} : ∀ {b : Int} {l : List Fr}, badL h b l = false → (∀ f ∈ l, f.ba ≤ h') → badL h' b l = false
  | _, [], _, _ => rfl
  | b, g :: l, hv, hb => by
    simp only [badL, Bool.or_eq_false_iff] at hv ⊢
    exact ⟨badF_shift hv.1 (hb g (by simp)), badL_shift hv.2 (fun f hf => hb f (by simp [hf]))⟩
theorem valid_parts {h : Int} {l : List Fr} (hv : valid h l = true) : ∃ g r, l = g :: r ∧ 0 ≤ h ∧ h ≤ 1073741824 ∧ r.length + 1 ≤ 1000 ∧ badFirst g = false ∧ badL h 0 r = false := by
  unfold valid at hv
  simp only [Bool.and_eq_true, decide_eq_true_eq, Bool.not_eq_true'] at hv
  obtain ⟨⟨h1, h2⟩, h3⟩ := hv
  cases l with
  | nil => simp [badAll] at h3
  | cons g r =>
    simp only [badAll, Bool.or_eq_false_iff, decide_eq_false_iff_not] at h3
    exact ⟨g, r, rfl, h1, h2, by omega, h3.2.1, h3.2.2⟩
theorem valid_of {h : Int} {g : Fr} {r : List Fr} (h1 : 0 ≤ h) (h2 : h ≤ 1073741824) (h3 : r.length + 1 ≤ 1000) (h4 : badFirst g = false) (h5 : badL h 0 r = false) : valid h (g :: r) = true := by
  unfold valid
  simp only [badAll, h4, h5, Bool.or_false, Bool.and_eq_true, decide_eq_true_eq, Bool.not_eq_true', decide_eq_false_iff_not]
  exact ⟨⟨h1, h2⟩, by omega⟩
theorem valid_shift {h h' : Int} {l : List Fr} (hv : valid h l = true) (h0 : 0 ≤ h') (h1 : h' ≤ 1073741824) (hb : ∀ f ∈ l, f.ba ≤ h') : valid h' l = true := by
  obtain ⟨g, r, rfl, _, _, h3, h4, h5⟩ := valid_parts hv
  exact valid_of h0 h1 h3 h4 (badL_shift h5 (fun f hf => hb f (by simp [hf])))
theorem lastF_cons (f g : Fr) (l : List Fr) : lastF (f :: g :: l) = lastF (g :: l) := by
  unfold lastF
  simp
theorem lastF_snoc (l : List Fr) (f : Fr) : lastF (l ++ [f]) = f := by
  unfold lastF
  simp
theorem last_most {h : Int} : ∀ (r : List Fr) (g : Fr), badL h g.ba r = false → g.ba ≤ (lastF (g :: r)).ba ∧ ∀ f ∈ r, f.ba ≤ (lastF (g :: r)).ba
  | [], g, _ => ⟨by simp [lastF], by simp⟩
  | f :: r, g, hv => by
    simp only [badL, Bool.or_eq_false_iff] at hv
    obtain ⟨_, h2, _⟩ := badF_no hv.1
    obtain ⟨h3, h4⟩ := last_most r f hv.2
    rw [lastF_cons]
    refine ⟨by omega, fun x hx => ?_⟩
    rcases List.mem_cons.1 hx with rfl | hx
    · exact h3
    · exact h4 x hx
theorem bases_last {h : Int} {l : List Fr} (hv : valid h l = true) : ∀ f ∈ l, f.ba ≤ (lastF l).ba := by
  obtain ⟨g, r, rfl, _, _, h3, h4, h5⟩ := valid_parts hv
  have hg : g.ba = 0 := by
    unfold badFirst at h4
    simp only [Bool.or_eq_false_iff, decide_eq_false_iff_not, ne_eq, Decidable.not_not] at h4
    exact h4.1.2
  rw [← hg] at h5
  obtain ⟨h6, h7⟩ := last_most r g h5
  intro f hf
  rcases List.mem_cons.1 hf with rfl | hf
  · exact h6
  · exact h7 f hf
theorem badL_snoc {h : Int} : ∀ (r : List Fr) (g f : Fr), badL h g.ba (r ++ [f]) = (badL h g.ba r || badF h (lastF (g :: r)).ba f)
  | [], g, f => by simp [badL, lastF]
  | x :: r, g, f => by
    rw [List.cons_append]
    simp only [badL]
    rw [badL_snoc r x f, lastF_cons, Bool.or_assoc]
/-- A list that is entered. -/
theorem valid_enter {h : Int} {l : List Fr} {op re : Int} (d : Bool) (hv : valid h l = true) (ho : opens op = true) (hr : wrongRe re = false) (hl : l.length < 1000) : valid h (l ++ [⟨op, h, re, d⟩]) = true := by
  have hlast := lastF_fine hv
  obtain ⟨g, r, rfl, h1, h2, h3, h4, h5⟩ := valid_parts hv
  have hg : g.ba = 0 := by
    unfold badFirst at h4
    simp only [Bool.or_eq_false_iff, decide_eq_false_iff_not, ne_eq, Decidable.not_not] at h4
    exact h4.1.2
  simp only [List.length_cons] at hl
  refine valid_of h1 h2 (by simp; omega) h4 ?_
  show badL h 0 (r ++ [_]) = false
  rw [← hg, badL_snoc, hg, h5, Bool.false_or]
  unfold badF
  simp only [ho, hr, Bool.not_true, Bool.or_false, Bool.false_or, Bool.or_eq_false_iff, decide_eq_false_iff_not]
  exact ⟨by have := hlast.2.1; omega, by omega⟩
end Go.Proofs.YtdljneclfgneoaaGreatDoor.Stk

namespace Go.Proofs.YtdljneclfgneoaaGreatDoor.Mod
open Go.RowKit Go.Proofs.YtdljneclfgneoaaGreatDoor.Instr

def sHost : ByteArray := ⟨#[104, 111, 115, 116]⟩
end Go.Proofs.YtdljneclfgneoaaGreatDoor.Mod

namespace Go.Proofs.YtdljneclfgneoaaGreatDoor.Instr
open Go.RowKit
set_option linter.unusedVariables false

/-- What lies behind a list's own row: labels and lists. -/
def Nest (n₀ : Nat) (w : World) : Il → Prop
  | .nil => True
  | .cons x l e r => x.ok ∧ TagsAt n₀ w x.ta x.tags ∧ (l.len = x.ln ∧ (l = .nil ∨ ∃ b' o', x.la = some ⟨b', o', none⟩ ∧ Items n₀ w b' o' l)) ∧ (e.len = x.en ∧ (e = .nil ∨ ∃ b' o', x.ea = some ⟨b', o', none⟩ ∧ Items n₀ w b' o' e)) ∧ Nest n₀ w r
def Il.rows : Il → List (List Value)
  | .nil => []
  | .cons x _ _ r => x.vals.toList :: r.rows
theorem Nest.more {n₀ n₁ : Nat} {w : World} (hn : n₀ ≤ n₁) : ∀ {t : Il}, Nest n₀ w t → Nest n₁ w t
  | .nil, _ => trivial
  | .cons x l e r, ⟨hx, ht, ⟨l1, l2⟩, ⟨e1, e2⟩, hr⟩ => by
    refine ⟨hx, ht.more hn, ⟨l1, ?_⟩, ⟨e1, ?_⟩, Nest.more hn hr⟩
    · rcases l2 with h | ⟨b', o', ha, hi⟩
      · exact .inl h
      · exact .inr ⟨b', o', ha, Items.more hn hi⟩
    · rcases e2 with h | ⟨b', o', ha, hi⟩
      · exact .inl h
      · exact .inr ⟨b', o', ha, Items.more hn hi⟩
end Go.Proofs.YtdljneclfgneoaaGreatDoor.Instr
