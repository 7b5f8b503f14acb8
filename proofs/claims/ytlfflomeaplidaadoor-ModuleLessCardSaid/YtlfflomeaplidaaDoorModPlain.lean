/-
  MODULE: modules as plain data: what their lists hold and where these lie; whether they may be; their functions' types, exports, sizes. It imports nothing of any translation.
-/
import Derived.Test.YtlfflomeaplidaaDoorInstrPlain
import Derived.Test.YtlfflomeaplidaaDoorKindPlain
import Derived.Test.YtlfflomeaplidaaDoorUtfPlain
import Derived.Test.YtlfflomeaplidaaDoorStrs
namespace Go.Proofs.YtlfflomeaplidaaDoor.Mod
open Go.RowKit Go.Proofs.YtlfflomeaplidaaDoor.Instr

/-- A list of instructions: where it lies, how far it reaches, what it is. -/
structure Lst where
  a : Option Addr
  c : Nat
  t : Il
structure Imp where
  mo : ByteArray
  na : ByteArray
  ty : Int
structure Fn where
  ty : Int
  lo : Int
  l : Lst
structure Li where
  n : Int
  x : Int
  c : Bool
structure Gl where
  mu : Bool
  l : Lst
structure Ex where
  na : ByteArray
  k : Int
  i : Int
structure El where
  l : Lst
  fa : Option Addr
  fc : Nat
  fs : List Int
structure Da where
  l : Lst
  ba : Option Addr
  bc : Nat
  bs : List Int
/-- Where a slice lies, and how far it reaches. -/
structure Sl where
  a : Option Addr
  c : Nat
structure Md where
  ty : List (Int × Int)
  im : List Imp
  fu : List Fn
  tb : List Li
  me : List Li
  gl : List Gl
  ex : List Ex
  st : Bool
  sn : Int
  el : List El
  da : List Da
  ty' : Sl
  im' : Sl
  fu' : Sl
  tb' : Sl
  me' : Sl
  gl' : Sl
  ex' : Sl
  el' : Sl
  da' : Sl

def Lst.val (l : Lst) : Value := .slice l.a l.t.len l.c
def tyV (x : Int × Int) : List Value := [.int .i64 x.1, .int .i64 x.2]
def Imp.v (x : Imp) : List Value := [.string x.mo, .string x.na, .int .i64 x.ty]
def Fn.v (x : Fn) : List Value := [.int .i64 x.ty, .int .i64 x.lo, x.l.val]
def Li.v (x : Li) : List Value := [.int .u32 x.n, .int .u32 x.x, .bool x.c]
def Gl.v (x : Gl) : List Value := [.bool x.mu, x.l.val]
def Ex.v (x : Ex) : List Value := [.string x.na, .int .i64 x.k, .int .u32 x.i]
def El.v (x : El) : List Value := [x.l.val, .slice x.fa x.fs.length x.fc]
def Da.v (x : Da) : List Value := [x.l.val, .slice x.ba x.bs.length x.bc]
/-- A module's cells. -/
def Md.v (m : Md) : Array Value := #[.slice m.ty'.a m.ty.length m.ty'.c, .slice m.im'.a m.im.length m.im'.c, .slice m.fu'.a m.fu.length m.fu'.c, .slice m.tb'.a m.tb.length m.tb'.c, .slice m.me'.a m.me.length m.me'.c,
  .slice m.gl'.a m.gl.length m.gl'.c, .slice m.ex'.a m.ex.length m.ex'.c, .bool m.st, .int .u32 m.sn, .slice m.el'.a m.el.length m.el'.c, .slice m.da'.a m.da.length m.da'.c]

/-- All lists of instructions, in order. -/
def Md.codes (m : Md) : List Lst := m.fu.map (·.l) ++ (m.gl.map (·.l) ++ (m.el.map (·.l) ++ m.da.map (·.l)))
/-- What is told of them all: too many ahead of wrong. -/
def codeP : List Lst → Int
  | [] => 0
  | l :: r => if checkP l.t = 141 then 141 else if codeP r = 141 then 141 else if checkP l.t = 0 then codeP r else 2
theorem checkP_cases (t : Il) : checkP t = 0 ∨ checkP t = 141 ∨ checkP t = 2 := by
  unfold checkP; split
  · split <;> simp
  · simp
theorem codeP_cons (l : Lst) (r : List Lst) : codeP (l :: r) = if checkP l.t = 141 then 141 else if codeP r = 141 then 141 else if checkP l.t = 0 then codeP r else 2 := rfl
theorem codeP_cases : ∀ l : List Lst, codeP l = 0 ∨ codeP l = 141 ∨ codeP l = 2
  | [] => .inl rfl
  | l :: r => by
    rw [codeP_cons]
    have := codeP_cases r
    split
    · simp
    · split
      · simp
      · split
        · exact this
        · simp
def worstP : List Lst → Int → Int
  | [], x => x
  | l :: r, x => worstP r (if checkP l.t = 0 then x else checkP l.t)
theorem worstP_append : ∀ (l r : List Lst) (x : Int), worstP (l ++ r) x = worstP r (worstP l x)
  | [], _, _ => rfl
  | a :: l, r, x => by simp only [List.cons_append, worstP]; exact worstP_append l r _
/-- As the program goes: no list has too many, and what the last wrong one told. -/
theorem codeP_none : ∀ (l : List Lst) (x : Int), (∀ y ∈ l, checkP y.t ≠ 141) → (x = 0 ∨ x = 2) → worstP l x = (if x = 2 then 2 else codeP l) ∧ codeP l ≠ 141
  | [], x, _, hx => by
    simp only [worstP, codeP]
    split <;> omega
  | l :: r, x, h, hx => by
    have h0 := h l (by simp)
    have hr : ∀ y ∈ r, checkP y.t ≠ 141 := fun y hy => h y (by simp [hy])
    have hc := checkP_cases l.t
    simp only [worstP]
    by_cases h1 : checkP l.t = 0
    · obtain ⟨i1, i2⟩ := codeP_none r x hr hx
      have e : codeP (l :: r) = codeP r := by rw [codeP_cons, if_neg h0, if_neg i2, if_pos h1]
      rw [if_pos h1, i1, e]
      exact ⟨rfl, i2⟩
    · have h2 : checkP l.t = 2 := by omega
      obtain ⟨i1, i2⟩ := codeP_none r 2 hr (.inr rfl)
      have e : codeP (l :: r) = 2 := by rw [codeP_cons, if_neg h0, if_neg i2, if_neg h1]
      rw [if_neg h1, h2, i1, if_pos rfl, e]
      exact ⟨by split <;> rfl, by omega⟩
theorem codeP_many : ∀ (l : List Lst) (y : Lst), y ∈ l → checkP y.t = 141 → codeP l = 141
  | [], y, h, _ => by simp at h
  | l :: r, y, h, h1 => by
    rw [codeP_cons]
    rcases List.mem_cons.1 h with rfl | h
    · rw [if_pos h1]
    · split
      · rfl
      · rw [if_pos (codeP_many r y h h1)]
theorem codeP_of_many : ∀ (l : List Lst), codeP l = 141 → ∃ y ∈ l, checkP y.t = 141
  | [], h => by simp [codeP] at h
  | l :: r, h => by
    rw [codeP_cons] at h
    split at h
    · exact ⟨l, by simp, by assumption⟩
    · split at h
      · obtain ⟨y, hy, h1⟩ := codeP_of_many r (by assumption)
        exact ⟨y, by simp [hy], h1⟩
      · split at h
        · contradiction
        · omega
theorem codeP_zero : ∀ (l : List Lst), codeP l = 0 ↔ ∀ y ∈ l, checkP y.t = 0
  | [] => by simp [codeP]
  | l :: r => by
    rw [codeP_cons, List.forall_mem_cons, ← codeP_zero r]
    have := checkP_cases l.t
    have := codeP_cases r
    (repeat' split) <;> omega

/-- The place of the first item of which p holds; -1 if there is none. -/
def idxP {α : Type} (p : α → Bool) (l : List α) : Int := match l.findIdx? p with
  | some i => (i : Int)
  | none => -1
theorem idxP_hit {α : Type} {p : α → Bool} {l : List α} {k : Nat} (hk : k < l.length) (h : p l[k] = true) (hb : ∀ j (hj : j < l.length), j < k → p l[j] = false) : idxP p l = k := by
  have : l.findIdx? p = some k := List.findIdx?_eq_some_iff_getElem.2 ⟨hk, h, fun j hj => by rw [hb j (by omega) hj]; simp⟩
  unfold idxP; rw [this]
theorem idxP_miss {α : Type} {p : α → Bool} {l : List α} (hb : ∀ j (hj : j < l.length), p l[j] = false) : idxP p l = -1 := by
  have : l.findIdx? p = none := List.findIdx?_eq_none_iff.2 fun x hx => by
    obtain ⟨j, hj, rfl⟩ := List.mem_iff_getElem.1 hx
    exact hb j hj
  unfold idxP; rw [this]
theorem idxP_any {α : Type} (p : α → Bool) (l : List α) : decide (0 ≤ idxP p l) = l.any p := by
  cases h : l.findIdx? p with
  | none =>
    have h1 := List.findIdx?_eq_none_iff.1 h
    have : l.any p = false := by rw [List.any_eq_false]; intro x hx; rw [h1 x hx]; simp
    rw [this]; unfold idxP; rw [h]; simp
  | some i =>
    obtain ⟨hi, h1, _⟩ := List.findIdx?_eq_some_iff_getElem.1 h
    have : l.any p = true := List.any_eq_true.2 ⟨l[i], List.getElem_mem hi, h1⟩
    rw [this]; unfold idxP; rw [h]; simp
theorem idxP_bounds {α : Type} (p : α → Bool) (l : List α) : -1 ≤ idxP p l ∧ idxP p l < l.length := by
  unfold idxP
  cases h : l.findIdx? p with
  | none => simp; omega
  | some i =>
    obtain ⟨hi, _, _⟩ := List.findIdx?_eq_some_iff_getElem.1 h
    simp; omega

/-- Has a list too many items? -/
def Md.crowded (m : Md) : Bool :=
  decide (16384 < m.ty.length) || decide (16384 < m.im.length) || decide (16384 < m.fu.length) || decide (16384 < m.gl.length) || decide (16384 < m.ex.length) || decide (16384 < m.el.length) || decide (16384 < m.da.length) ||
    (m.el.any fun e => decide (16384 < e.fs.length)) || decide (1 < m.tb.length) || decide (1 < m.me.length)
/-- The longest of these lists of functions, and of what is longest besides. -/
def longP (l : List El) (x : Int) : Int := l.foldl (fun x e => max x (e.fs.length : Int)) x
theorem longP_snoc (l : List El) (e : El) (x : Int) : longP (l ++ [e]) x = max (longP l x) (e.fs.length : Int) := by simp [longP, List.foldl_append]
theorem longP_gt : ∀ (l : List El) (x : Int), decide (16384 < longP l x) = (decide (16384 < x) || l.any fun e => decide (16384 < e.fs.length))
  | [], x => (Bool.or_false _).symm
  | e :: l, x => by
    have := longP_gt l (max x (e.fs.length : Int))
    unfold longP at this ⊢
    rw [List.foldl_cons, this, List.any_cons, ← Bool.or_assoc]
    congr 1
    rw [Bool.eq_iff_iff]
    simp only [Bool.or_eq_true, decide_eq_true_eq]
    omega
def Md.max7 (m : Md) : Int := max (max (max (max (max (max (m.ty.length : Int) m.im.length) m.fu.length) m.gl.length) m.ex.length) m.el.length) m.da.length
theorem crowded_eq (m : Md) : m.crowded = (decide (16384 < longP m.el m.max7) || (decide (1 < m.tb.length) || decide (1 < m.me.length))) := by
  rw [longP_gt]
  have : decide (16384 < m.max7) = (decide (16384 < m.ty.length) || decide (16384 < m.im.length) || decide (16384 < m.fu.length) || decide (16384 < m.gl.length) || decide (16384 < m.ex.length) || decide (16384 < m.el.length) || decide (16384 < m.da.length)) := by
    unfold Md.max7
    rw [Bool.eq_iff_iff]
    simp only [Bool.or_eq_true, decide_eq_true_eq]
    omega
  rw [this]
  unfold Md.crowded
  simp only [Bool.or_assoc]
def longS (s : ByteArray) : Bool := decide (1000 < s.size)
def noText (s : ByteArray) : Bool := decide (0 ≤ Utf.badL (numsOf s))
def Md.anyName (m : Md) (p : ByteArray → Bool) : Bool := (m.im.any fun i => p i.mo || p i.na) || (m.ex.any fun e => p e.na)
def sumB : List Da → Nat
  | [] => 0
  | d :: r => d.bs.length + sumB r
theorem sumB_append : ∀ (l r : List Da), sumB (l ++ r) = sumB l + sumB r
  | [], r => by simp [sumB]
  | d :: l, r => by simp only [List.cons_append, sumB, sumB_append l r]; omega
theorem sumB_take (l : List Da) (k : Nat) : sumB (l.take k) ≤ sumB l := by
  have := sumB_append (l.take k) (l.drop k)
  rw [List.take_append_drop] at this
  omega
theorem sumB_step {l : List Da} {k : Nat} (hk : k < l.length) : sumB (l.take (k + 1)) = sumB (l.take k) + l[k].bs.length := by
  rw [List.take_succ_eq_append_getElem hk, sumB_append]; rfl
def Md.heavy (m : Md) : Bool := decide (1048576 < sumB m.da)
def wrongN (n : Int) : Bool := decide (n < 0) || decide (2147483647 < n)
def wrongT (t : Int × Int) : Bool := !Kind.okType t.1 t.2
def wrongI (i : Imp) : Bool := wrongN i.ty
def wrongF (f : Fn) : Bool := wrongN f.ty || (decide (f.lo < 0) || decide (50000 < f.lo))
def wrongE (e : Ex) : Bool := decide (e.k < 0) || decide (3 < e.k)
def beyond (most : Int) (l : Li) : Bool := !Kind.okLim l.n l.x l.c most
/-- What else is wrong. -/
def Md.wrong (m : Md) : Bool :=
  m.anyName noText || m.ty.any wrongT || m.im.any wrongI || m.fu.any wrongF || m.ex.any wrongE || m.tb.any (beyond 1048576) || m.me.any (beyond 65536) || (!m.st && decide (m.sn ≠ 0))
/-- P7.1. -/
def Md.check (m : Md) : Int :=
  if m.crowded then 141 else if codeP m.codes = 141 then 141 else if m.anyName longS then 3 else if m.heavy then 3 else if codeP m.codes = 2 then 2 else if m.wrong then 2 else 0

/-- The number of a function's type; -1 if there is no such function. -/
def Md.typeN (m : Md) (n : Nat) : Int :=
  if n < m.im.length then ((m.im.map (·.ty)).getD n 0) else if n < m.im.length + m.fu.length then ((m.fu.map (·.ty)).getD (n - m.im.length) 0) else -1
/-- P7.2: a function's type, and whether it is there. -/
def Md.typeOf (m : Md) (n : Nat) : (Int × Int) × Bool :=
  if m.typeN n < 0 ∨ (m.ty.length : Int) ≤ m.typeN n then ((0, 0), false) else (m.ty.getD (m.typeN n).toNat (0, 0), true)
def Md.find (m : Md) (na : ByteArray) (k : Int) : Int × Bool :=
  match m.ex.find? (fun e => decide (e.na = na) && decide (e.k = k)) with
  | some e => (e.i, true)
  | none => (0, false)
def countL : List Lst → Nat
  | [] => 0
  | l :: r => l.t.count + countL r
def Md.size (m : Md) : Nat := countL m.codes
end Go.Proofs.YtlfflomeaplidaaDoor.Mod
