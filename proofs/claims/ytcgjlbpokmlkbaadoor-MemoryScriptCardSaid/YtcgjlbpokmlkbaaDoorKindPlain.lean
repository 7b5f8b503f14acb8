/-
  Types of functions and limits as bytes, as plain functions on lists of integers: what is put, what is got, and how the two go together. It imports nothing of any translation.
-/
import Derived.Test.YtcgjlbpokmlkbaaDoorLebPlain
namespace Go.Proofs.YtcgjlbpokmlkbaaDoor.Kind
open Go.Proofs.YtcgjlbpokmlkbaaDoor.Leb

def okType (p r : Int) : Bool := decide (0 ≤ p) && decide (p ≤ 255) && decide (0 ≤ r) && decide (r ≤ 1)
def okLim (n x : Int) (c : Bool) (most : Int) : Bool := decide (n ≤ most) && (if c then decide (n ≤ x) && decide (x ≤ most) else decide (x = 0))
def wordsL (n : Int) : List Int := encU n ++ List.replicate n.toNat 127
def typeL (p r : Int) : List Int := 96 :: (wordsL p ++ wordsL r)
def limL (n x : Int) (c : Bool) : List Int := if c then 1 :: (encU n ++ encU x) else 0 :: encU n

/-- A reader: its place, its error, the place of that. -/
abbrev Rd := Int × Int × Int
def startR (zs : List Int) (p : Int) : Rd := if p < 0 ∨ (zs.length : Int) < p then (p, 5, 0) else (p, 0, 0)
def refuseR (s : Rd) (e f : Int) : Rd := if s.2.1 = 0 then (s.1, e, f) else s
/-- A byte that must be one of those that are allowed. -/
def oneR (zs : List Int) (ok : Int → Bool) (s : Rd) : Int × Rd :=
  if s.2.1 = 0 then
    if s.1 = zs.length then (0, s.1, 4, s.1)
    else if ok (zs.getD s.1.toNat 0) then (zs.getD s.1.toNat 0, s.1 + 1, 0, 0) else (0, s.1, 140, s.1)
  else (0, s)
def numR (zs : List Int) (s : Rd) : Int × Rd :=
  if s.2.1 = 0 then
    if (getL false zs s.1).2.2.1 = 0 then ((getL false zs s.1).1, (getL false zs s.1).2.1, 0, 0) else (0, s.1, (getL false zs s.1).2.2.1, (getL false zs s.1).2.2.2)
  else (0, s)
def is127 (c : Int) : Bool := decide (c = 127)
def is96 (c : Int) : Bool := decide (c = 96)
def is01 (c : Int) : Bool := decide (c = 0) || decide (c = 1)
/-- So many bytes 127. -/
def runR (zs : List Int) : Nat → Rd → Rd
  | 0, s => s
  | k + 1, s => runR zs k (oneR zs is127 s).2
def wordsR (zs : List Int) (most : Int) (s : Rd) : Int × Rd :=
  if most < (numR zs s).1 then (0, refuseR (numR zs s).2 141 s.1)
  else ((numR zs s).1, runR zs (numR zs s).1.toNat (numR zs s).2)
/-- What Get tells: words taken, told, the place behind, the error, its place. -/
def getT (zs : List Int) (p : Int) : Int × Int × Int × Int × Int :=
  let s1 := (oneR zs is96 (startR zs p)).2
  let a := wordsR zs 255 s1
  let b := wordsR zs 1 a.2
  if b.2.2.1 = 0 then (a.1, b.1, b.2.1, 0, b.2.2.2) else (0, 0, 0, b.2.2.1, b.2.2.2)
/-- What GetLimits tells: least, most, capped, the place behind, the error, its place. -/
def getLim (zs : List Int) (p most : Int) : Int × Int × Bool × Int × Int × Int :=
  let c := oneR zs is01 (startR zs p)
  let n := numR zs c.2
  let x := if c.1 = 1 then numR zs n.2 else (0, n.2)
  let s4 := if most < n.1 then refuseR x.2 141 c.2.1 else x.2
  let s5 := if c.1 = 1 ∧ (most < x.1 ∨ x.1 < n.1) then refuseR s4 141 n.2.1 else s4
  if s5.2.1 = 0 then (n.1, x.1, decide (c.1 = 1), s5.1, 0, s5.2.2) else (0, 0, false, 0, s5.2.1, s5.2.2)

/-- A reader that stands where one may. -/
def Good (zs : List Int) (s : Rd) : Prop := s.2.1 = 0 → 0 ≤ s.1 ∧ s.1 ≤ zs.length ∧ s.2.2 = 0
theorem startR_good (zs : List Int) (p : Int) : Good zs (startR zs p) := by
  unfold startR Good; split <;> simp; omega
theorem oneR_good {zs : List Int} {ok : Int → Bool} {s : Rd} (h : Good zs s) : Good zs (oneR zs ok s).2 := by
  unfold oneR
  by_cases h0 : s.2.1 = 0
  · obtain ⟨h1, h2, h3⟩ := h h0
    rw [if_pos h0]
    split
    · intro h; simp at h
    · split
      · intro _; simp; omega
      · intro h; simp at h
  · rw [if_neg h0]; exact h
theorem goL_next (s : Bool) : ∀ (l : List Int) (k : Nat) (u p x q e f : Int), goL s k u l p = (x, q, e, f) → e = 0 → p < q ∧ q ≤ p + l.length ∧ f = 0
  | [], k, u, p, x, q, e, f, h, he => by simp [goL] at h; omega
  | c :: r, k, u, p, x, q, e, f, h, he => by
    simp only [goL] at h
    split at h
    · simp at h; omega
    · split at h
      · simp only [Prod.mk.injEq] at h
        simp; omega
      · have := goL_next s r _ _ _ _ _ _ _ h he
        simp; omega
theorem getL_next {s : Bool} {l : List Int} {a x q e f : Int} (h : getL s l a = (x, q, e, f)) (he : e = 0) : 0 ≤ a ∧ a < q ∧ q ≤ l.length ∧ f = 0 := by
  unfold getL at h
  split at h
  · simp at h; omega
  · have := goL_next s _ _ _ _ _ _ _ _ h he
    simp at this
    omega
theorem numR_good {zs : List Int} {s : Rd} (h : Good zs s) : Good zs (numR zs s).2 := by
  unfold numR
  by_cases h0 : s.2.1 = 0
  · rw [if_pos h0]
    split
    · rename_i he
      have := getL_next (x := (getL false zs s.1).1) (q := (getL false zs s.1).2.1) (e := (getL false zs s.1).2.2.1) (f := (getL false zs s.1).2.2.2) rfl he
      exact fun _ => ⟨show 0 ≤ (getL false zs s.1).2.1 by omega, show (getL false zs s.1).2.1 ≤ _ by omega, rfl⟩
    · rename_i he
      intro h; exact absurd h he
  · rw [if_neg h0]; exact h
theorem refuseR_good {zs : List Int} {s : Rd} {e f : Int} (he : e ≠ 0) (h : Good zs s) : Good zs (refuseR s e f) := by
  unfold refuseR
  split
  · intro h; exact absurd h he
  · exact h
theorem runR_good {zs : List Int} : ∀ (k : Nat) {s : Rd}, Good zs s → Good zs (runR zs k s)
  | 0, _, h => h
  | k + 1, _, h => runR_good k (oneR_good h)
theorem runR_bad {zs : List Int} : ∀ (k : Nat) {s : Rd}, s.2.1 ≠ 0 → runR zs k s = s
  | 0, _, _ => rfl
  | k + 1, s, h => by
    have : (oneR zs is127 s).2 = s := by unfold oneR; rw [if_neg h]
    rw [runR, this]; exact runR_bad k h
theorem runR_succ {zs : List Int} : ∀ (k : Nat) (s : Rd), runR zs (k + 1) s = (oneR zs is127 (runR zs k s)).2
  | 0, _ => rfl
  | k + 1, s => by
    rw [runR, runR_succ k, ← runR]
theorem numR_bounds {zs : List Int} {s : Rd} (hz : ∀ c ∈ zs, 0 ≤ c ∧ c < 256) : 0 ≤ (numR zs s).1 ∧ (numR zs s).1 < 4294967296 := by
  unfold numR
  split
  · split
    · rename_i he
      have := getL_shortU hz (x := (getL false zs s.1).1) (q := (getL false zs s.1).2.1) (e := (getL false zs s.1).2.2.1) (f := (getL false zs s.1).2.2.2) rfl he
      exact ⟨this.1, this.2.1⟩
    · simp
  · simp
end Go.Proofs.YtcgjlbpokmlkbaaDoor.Kind
