/-
  STACK: stands as plain data; what each call makes of one.
-/
import Derived.Test.YtnfpfagojeieeaaStkRows
namespace Go.Proofs.Ytnfpfagojeieeaa.Stk
open Go.RowKit
set_option linter.unusedVariables false

/-- A frame. -/
structure Fr where
  (op ba re : Int)
  de : Bool
def Fr.v (f : Fr) : List Value := [.int .i64 f.op, .int .i64 f.ba, .int .i64 f.re, .bool f.de]
def Fr.none : Fr := ⟨0, 0, 0, false⟩
def opens (op : Int) : Bool := decide (op = 2) || decide (op = 3) || decide (op = 4) || decide (op = 5)
def wrongRe (r : Int) : Bool := decide (r < 0) || decide (1 < r)
/-- Is a frame behind one of base b wrong? -/
def badF (h b : Int) (f : Fr) : Bool := !opens f.op || decide (f.ba < b) || decide (h < f.ba) || wrongRe f.re
def badL (h : Int) : Int → List Fr → Bool
  | _, [] => false
  | b, f :: l => badF h b f || badL h f.ba l
def badFirst (f : Fr) : Bool := decide (f.op ≠ 0) || decide (f.ba ≠ 0) || wrongRe f.re
def badAll (h : Int) : List Fr → Bool
  | [] => true
  | f :: l => decide (1000 < l.length + 1) || (badFirst f || badL h 0 l)
def valid (h : Int) (l : List Fr) : Bool := decide (0 ≤ h) && decide (h ≤ 1073741824) && !badAll h l
def chk (h : Int) (l : List Fr) : Int := if valid h l then 0 else 2
def lastF (l : List Fr) : Fr := l.getD (l.length - 1) Fr.none
/-- A stand, and an error. -/
structure R where
  h : Int
  l : List Fr
  e : Int
def bad (e : Int) : R := ⟨0, [], e⟩
def newR (r : Int) : R := if wrongRe r then bad 2 else ⟨0, [⟨0, 0, r, false⟩], 0⟩
def pushR (h : Int) (l : List Fr) (n : Int) : R := if valid h l = false then bad 2 else if n < 0 then bad 2 else if 1073741824 - h < n then bad 8 else ⟨h + n, l, 0⟩
/-- What stands when n words have been taken in a frame. -/
def without (h n : Int) (f : Fr) : Int × Int := if h - f.ba < n ∧ f.de = false then (0, 200) else (if f.ba ≤ h - n then h - n else f.ba, 0)
def popR (h : Int) (l : List Fr) (n : Int) : R := if valid h l = false then bad 2 else if n < 0 then bad 2 else if (without h n (lastF l)).2 = 0 then ⟨(without h n (lastF l)).1, l, 0⟩ else bad (without h n (lastF l)).2
def deadR (h : Int) (l : List Fr) : R := if valid h l = false then bad 2 else ⟨(lastF l).ba, l.set (l.length - 1) { lastF l with de := true }, 0⟩
def enterR (h : Int) (l : List Fr) (op r : Int) : R := if valid h l = false then bad 2 else if opens op = false ∨ wrongRe r = true then bad 2 else if l.length = 1000 then bad 8 else ⟨h, l ++ [⟨op, h, r, false⟩], 0⟩
def leaveR (h : Int) (l : List Fr) : R :=
  if valid h l = false then bad 2 else if (without h (lastF l).re (lastF l)).2 ≠ 0 then bad (without h (lastF l).re (lastF l)).2 else if (lastF l).ba < (without h (lastF l).re (lastF l)).1 then bad 201
  else ⟨(without h (lastF l).re (lastF l)).1 + (lastF l).re, l.take (l.length - 1), 0⟩
def labelR (h : Int) (l : List Fr) (n : Int) : Int × Int :=
  if valid h l = false then (0, 2) else if n < 0 ∨ (l.length : Int) ≤ n then (0, 6) else if (l.getD (l.length - 1 - n.toNat) Fr.none).op = 3 then (0, 0) else ((l.getD (l.length - 1 - n.toNat) Fr.none).re, 0)

theorem valid_yes {h : Int} {l : List Fr} (hv : valid h l = true) : 0 ≤ h ∧ h ≤ 1073741824 ∧ l ≠ [] ∧ l.length ≤ 1000 := by
  unfold valid at hv
  simp only [Bool.and_eq_true, decide_eq_true_eq, Bool.not_eq_true'] at hv
  obtain ⟨⟨h1, h2⟩, h3⟩ := hv
  cases l with
  | nil => simp [badAll] at h3
  | cons f l =>
    simp only [badAll, Bool.or_eq_false_iff, decide_eq_false_iff_not] at h3
    exact ⟨h1, h2, by simp, by simp; omega⟩
theorem badF_no {h b : Int} {f : Fr} (hv : badF h b f = false) : opens f.op = true ∧ b ≤ f.ba ∧ f.ba ≤ h ∧ 0 ≤ f.re ∧ f.re ≤ 1 := by
  unfold badF wrongRe at hv
  simp only [Bool.or_eq_false_iff, decide_eq_false_iff_not, Bool.not_eq_false', Int.not_lt] at hv
  obtain ⟨⟨⟨h1, h2⟩, h3⟩, h4, h5⟩ := hv
  exact ⟨h1, h2, h3, h4, h5⟩
/-- What each frame of a list that may be is. -/
def fine (h : Int) (f : Fr) : Prop := 0 ≤ f.ba ∧ f.ba ≤ h ∧ 0 ≤ f.re ∧ f.re ≤ 1
theorem badL_no {h : Int} : ∀ {b : Int} {l : List Fr}, 0 ≤ b → badL h b l = false → ∀ f ∈ l, fine h f
  | _, [], _, _, f, hf => by simp at hf
  | b, g :: l, hb, hv, f, hf => by
    simp only [badL, Bool.or_eq_false_iff] at hv
    obtain ⟨h1, h2, h3, h4, h5⟩ := badF_no hv.1
    rcases List.mem_cons.1 hf with rfl | hf
    · exact ⟨by omega, h3, h4, h5⟩
    · exact badL_no (by omega) hv.2 f hf
theorem valid_fine {h : Int} {l : List Fr} (hv : valid h l = true) : ∀ f ∈ l, fine h f := by
  have ⟨h1, _⟩ := valid_yes hv
  unfold valid at hv
  simp only [Bool.and_eq_true, decide_eq_true_eq, Bool.not_eq_true'] at hv
  obtain ⟨_, h3⟩ := hv
  cases l with
  | nil => simp
  | cons g l =>
    simp only [badAll, Bool.or_eq_false_iff, badFirst, wrongRe, decide_eq_false_iff_not, Int.not_lt, ne_eq, Decidable.not_not] at h3
    obtain ⟨_, ⟨⟨h4, h5⟩, h6, h7⟩, h8⟩ := h3
    intro f hf
    rcases List.mem_cons.1 hf with rfl | hf
    · exact ⟨by omega, by omega, h6, h7⟩
    · exact badL_no (by omega) h8 f hf
theorem lastF_mem {l : List Fr} (h : l ≠ []) : lastF l ∈ l := by
  have hl : 0 < l.length := List.length_pos_iff.2 h
  unfold lastF
  rw [List.getD_eq_getElem?_getD, List.getElem?_eq_getElem (by omega)]
  exact List.getElem_mem _
theorem lastF_fine {h : Int} {l : List Fr} (hv : valid h l = true) : fine h (lastF l) := valid_fine hv _ (lastF_mem (valid_yes hv).2.2.1)
/-- From the k-th one on. -/
theorem badL_at {h b : Int} {l : List Fr} {k : Nat} (hk : k < l.length) : badL h b (l.drop k) = (badF h b l[k] || badL h l[k].ba (l.drop (k + 1))) := by
  rw [List.drop_eq_getElem_cons hk]; rfl
end Go.Proofs.Ytnfpfagojeieeaa.Stk
