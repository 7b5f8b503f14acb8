/-
  NAME: plain functions: which name bytes begin with, at a place; and that what is put is got.
-/
import Derived.Test.YtgmcknblfgealaaDoorUtfPlain
import Derived.Test.YtgmcknblfgealaaDoorLebPlain
namespace Go.Proofs.YtgmcknblfgealaaDoor.Utf
open Leb

theorem goL_place (s : Bool) : ∀ (l : List Int) (k : Nat) (u p x q e f : Int), goL s k u l p = (x, q, e, f) → e = 0 → p < q ∧ q ≤ p + l.length
  | [], k, u, p, x, q, e, f, h, he => by simp [goL] at h; omega
  | c :: r, k, u, p, x, q, e, f, h, he => by
    simp only [goL] at h
    split at h
    · simp at h; omega
    · split at h
      · simp at h
        simp; omega
      · have := goL_place s r _ _ _ x q e f h he
        simp; omega
theorem getL_place {s : Bool} {l : List Int} {a x q e f : Int} (h : getL s l a = (x, q, e, f)) (he : e = 0) : 0 ≤ a ∧ a < q ∧ q ≤ l.length := by
  unfold getL at h
  split at h
  · simp at h; omega
  · have := goL_place s _ _ _ _ x q e f h he
    simp at this
    omega

/-- The bytes of the name that a list begins with at a place; the place behind it; the error; its place. -/
def nameL (zs : List Int) (p : Int) : List Int × Int × Int × Int :=
  if (getL false zs p).2.2.1 ≠ 0 then ([], 0, (getL false zs p).2.2.1, (getL false zs p).2.2.2)
  else if (zs.length : Int) - (getL false zs p).2.1 < (getL false zs p).1 then ([], 0, 4, zs.length)
  else if (scan ((zs.drop (getL false zs p).2.1.toNat).take (getL false zs p).1.toNat)).2 ≠ ((zs.drop (getL false zs p).2.1.toNat).take (getL false zs p).1.toNat).length then
    ([], 0, 4, (getL false zs p).2.1 + (scan ((zs.drop (getL false zs p).2.1.toNat).take (getL false zs p).1.toNat)).2)
  else ((zs.drop (getL false zs p).2.1.toNat).take (getL false zs p).1.toNat, (getL false zs p).2.1 + (getL false zs p).1, 0, 0)

/-- What is put is got. -/
theorem nameL_put {ys : List Int} (hy : (scan ys).2 = ys.length) (hl : ys.length < 4294967296) (l r : List Int) :
    nameL (l ++ (encU ys.length ++ ys) ++ r) (l.length : Int) = (ys, (l.length : Int) + ((encU ys.length).length + ys.length : Nat), 0, 0) := by
  have hg := getL_encU (n := (ys.length : Int)) (by omega) (by omega) l (ys ++ r)
  have e : l ++ (encU ys.length ++ ys) ++ r = l ++ encU ys.length ++ (ys ++ r) := by simp
  rw [e]
  unfold nameL
  rw [hg]
  simp only
  have hq : ((l.length : Int) + (sizeU ys.length : Int)).toNat = (l ++ encU (ys.length : Int)).length := by
    rw [List.length_append, encU_length]; omega
  rw [if_neg (by simp), hq, List.drop_left, Int.toNat_natCast, List.take_left]
  rw [if_neg (by simp only [List.length_append, encU_length]; omega), if_neg (by rw [hy]; simp)]
  rw [encU_length]
  simp only [Prod.mk.injEq, true_and, and_true]
  omega
end Go.Proofs.YtgmcknblfgealaaDoor.Utf
