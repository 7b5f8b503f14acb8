/-
  MEMORY: the document's memory as plain data: cells by rising places.
-/
import Derived.Test.YtcgjlbpokmlkbaaDoorMemPlain
namespace Go.Proofs.YtcgjlbpokmlkbaaDoor.Mem
open Go.RowKit
set_option linter.unusedVariables false

/-- The byte at a place, as far as it was written. -/
def valL : List (Nat × Int) → Nat → Int
  | [], _ => 0
  | c :: r, a => if c.1 = a then c.2 else valL r a
def Rising (L : List (Nat × Int)) : Prop := L.Pairwise (fun c d => c.1 < d.1)
theorem valL_none : ∀ {L : List (Nat × Int)} {a : Nat}, (∀ c ∈ L, c.1 ≠ a) → valL L a = 0
  | [], _, _ => rfl
  | c :: r, a, h => by
    simp only [valL]
    rw [if_neg (h c (by simp)), valL_none (fun d hd => h d (by simp [hd]))]
theorem valL_append : ∀ {L M : List (Nat × Int)} {a : Nat}, (∀ c ∈ L, c.1 ≠ a) → valL (L ++ M) a = valL M a
  | [], _, _, _ => rfl
  | c :: r, M, a, h => by
    simp only [List.cons_append, valL]
    rw [if_neg (h c (by simp)), valL_append (fun d hd => h d (by simp [hd]))]
theorem valL_append_left : ∀ {L M : List (Nat × Int)} {a : Nat}, (∀ c ∈ M, c.1 ≠ a) → valL (L ++ M) a = valL L a
  | [], M, a, h => by simp only [List.nil_append]; rw [valL_none h]; rfl
  | c :: r, M, a, h => by
    simp only [List.cons_append, valL]
    rw [valL_append_left (L := r) h]
/-- The part ahead decides. -/
theorem valL_ahead : ∀ {T M N : List (Nat × Int)} {x : Nat}, (∃ c ∈ T, c.1 = x) → valL (T ++ M) x = valL (T ++ N) x
  | [], _, _, _, ⟨_, hc, _⟩ => by cases hc
  | t :: r, M, N, x, ⟨c, hc, hx⟩ => by
    simp only [List.cons_append, valL]
    by_cases ht : t.1 = x
    · rw [if_pos ht, if_pos ht]
    · rw [if_neg ht, if_neg ht]
      refine valL_ahead ⟨c, ?_, hx⟩
      rcases List.mem_cons.1 hc with h | h
      · rw [h] at hx; exact absurd hx ht
      · exact h
/-- Where a place stands, or would. -/
structure Spot (L : List (Nat × Int)) (a i : Nat) : Prop where
  le : i ≤ L.length
  low : ∀ j, j < i → (L.getD j (0, 0)).1 < a
  high : ∀ j, i ≤ j → j < L.length → a ≤ (L.getD j (0, 0)).1
def isAt (L : List (Nat × Int)) (a i : Nat) : Bool := decide (i < L.length) && decide ((L.getD i (0, 0)).1 = a)
theorem mem_take_getD {L : List (Nat × Int)} {c : Nat × Int} {i : Nat} (h : c ∈ L.take i) : ∃ j, j < i ∧ j < L.length ∧ L.getD j (0, 0) = c := by
  obtain ⟨j, hj, e⟩ := List.mem_iff_getElem.1 h
  rw [List.length_take] at hj
  refine ⟨j, by omega, by omega, ?_⟩
  rw [List.getElem_take] at e
  rw [List.getD_eq_getElem?_getD, List.getElem?_eq_getElem (by omega)]
  exact e
theorem mem_drop_getD {L : List (Nat × Int)} {c : Nat × Int} {i : Nat} (h : c ∈ L.drop i) : ∃ j, i ≤ j ∧ j < L.length ∧ L.getD j (0, 0) = c := by
  obtain ⟨j, hj, e⟩ := List.mem_iff_getElem.1 h
  rw [List.length_drop] at hj
  refine ⟨i + j, by omega, by omega, ?_⟩
  rw [List.getElem_drop] at e
  rw [List.getD_eq_getElem?_getD, List.getElem?_eq_getElem (by omega)]
  exact e
theorem getD_lt2 {L : List (Nat × Int)} {i : Nat} (h : i < L.length) : L.getD i (0, 0) = L[i] := by simp [h]
theorem Rising.lt {L : List (Nat × Int)} (h : Rising L) {i j : Nat} (hij : i < j) (hj : j < L.length) : (L.getD i (0, 0)).1 < (L.getD j (0, 0)).1 := by
  rw [getD_lt2 hj, getD_lt2 (by omega)]
  exact List.pairwise_iff_getElem.1 h i j (by omega) hj hij
theorem Spot.val {L : List (Nat × Int)} {a i : Nat} (h : Spot L a i) (hr : Rising L) : valL L a = if isAt L a i then (L.getD i (0, 0)).2 else 0 := by
  rw [← List.take_append_drop i L]
  rw [valL_append (fun c hc => by obtain ⟨j, h1, _, rfl⟩ := mem_take_getD hc; have := h.low j h1; omega)]
  rw [List.take_append_drop i L]
  unfold isAt
  by_cases hi : i < L.length
  · rw [List.drop_eq_getElem_cons hi]
    simp only [valL, getD_lt2 hi, hi, decide_true, Bool.true_and, decide_eq_true_eq]
    by_cases he : L[i].1 = a
    · rw [if_pos he, if_pos he]
    · rw [if_neg he, if_neg he]
      refine valL_none (fun c hc => ?_)
      obtain ⟨j, h1, h2, rfl⟩ := mem_drop_getD hc
      have := hr.lt (i := i) (j := j) (by omega) h2
      have h3 := h.high i (Nat.le_refl _) hi
      rw [getD_lt2 hi] at this h3
      omega
  · rw [List.drop_of_length_le (by omega)]
    simp [hi, valL]
/-- The list with a byte laid at a place. -/
def setL (L : List (Nat × Int)) (a i : Nat) (b : Int) : List (Nat × Int) := if isAt L a i then L.set i (a, b) else L.take i ++ (a, b) :: L.drop i
theorem set_split {L : List (Nat × Int)} {i : Nat} (h : i < L.length) (c : Nat × Int) : L.set i c = L.take i ++ c :: L.drop (i + 1) := by
  rw [List.set_eq_take_append_cons_drop, if_pos h]
theorem setL_length {L : List (Nat × Int)} {a i : Nat} {b : Int} (h : Spot L a i) : (setL L a i b).length ≤ L.length + 1 := by
  unfold setL
  have := h.le
  split
  · simp
  · simp; omega
theorem setL_val {L : List (Nat × Int)} {a i : Nat} {b : Int} (h : Spot L a i) (hr : Rising L) : valL (setL L a i b) = putF (valL L) a [b] := by
  funext x
  have hp : putF (valL L) a [b] x = if x = a then b else valL L x := by
    unfold putF
    by_cases e : x = a
    · subst e; rw [if_pos (by simp), if_pos rfl]; simp
    · rw [if_neg (by simp; omega), if_neg e]
  rw [hp]
  have low : ∀ c ∈ L.take i, c.1 < a := fun c hc => by obtain ⟨j, h1, _, rfl⟩ := mem_take_getD hc; exact h.low j h1
  by_cases e : x = a
  · subst e
    rw [if_pos rfl]
    unfold setL
    split
    · rename_i hi
      have hi2 : i < L.length := by simp [isAt] at hi; exact hi.1
      rw [set_split hi2, valL_append (fun c hc => by have := low c hc; omega)]
      simp [valL]
    · rw [valL_append (fun c hc => by have := low c hc; omega)]
      simp [valL]
  · rw [if_neg e]
    unfold setL
    split
    · rename_i hi
      have hi2 : i < L.length ∧ (L.getD i (0, 0)).1 = a := by simpa [isAt] using hi
      rw [set_split hi2.1]
      by_cases hlow : ∃ c ∈ L.take i, c.1 = x
      · conv => rhs; rw [← List.take_append_drop i L]
        exact valL_ahead hlow
      · have hne : ∀ c ∈ L.take i, c.1 ≠ x := fun c hc he => hlow ⟨c, hc, he⟩
        conv => rhs; rw [← List.take_append_drop i L]
        rw [valL_append hne, valL_append hne, List.drop_eq_getElem_cons hi2.1]
        have := hi2.2
        rw [getD_lt2 hi2.1] at this
        simp only [valL]
        rw [if_neg (by omega), if_neg (by omega)]
    · by_cases hlow : ∃ c ∈ L.take i, c.1 = x
      · conv => rhs; rw [← List.take_append_drop i L]
        exact valL_ahead hlow
      · have hne : ∀ c ∈ L.take i, c.1 ≠ x := fun c hc he => hlow ⟨c, hc, he⟩
        conv => rhs; rw [← List.take_append_drop i L]
        rw [valL_append hne, valL_append hne]
        simp only [valL]
        rw [if_neg (by omega)]
theorem Rising.nil : Rising [] := List.Pairwise.nil
theorem setL_rising {L : List (Nat × Int)} {a i : Nat} {b : Int} (h : Spot L a i) (hr : Rising L) : Rising (setL L a i b) := by
  have low : ∀ c ∈ L.take i, c.1 < a := fun c hc => by obtain ⟨j, h1, _, rfl⟩ := mem_take_getD hc; exact h.low j h1
  have hs := hr
  unfold Rising at hs
  rw [← List.take_append_drop i L] at hs
  obtain ⟨h1, h2, h3⟩ := List.pairwise_append.1 hs
  unfold setL
  split
  · rename_i hi
    have hi2 : i < L.length ∧ (L.getD i (0, 0)).1 = a := by simpa [isAt] using hi
    rw [set_split hi2.1]
    rw [List.drop_eq_getElem_cons hi2.1] at h2 h3
    obtain ⟨h4, h5⟩ := List.pairwise_cons.1 h2
    have he := hi2.2
    rw [getD_lt2 hi2.1] at he
    refine List.pairwise_append.2 ⟨h1, List.pairwise_cons.2 ⟨fun d hd => by rw [← he]; exact h4 d hd, h5⟩, fun c hc d hd => ?_⟩
    rcases List.mem_cons.1 hd with rfl | hd
    · exact low c hc
    · exact h3 c hc d (List.mem_cons_of_mem _ hd)
  · rename_i hi
    have high : ∀ d ∈ L.drop i, a < d.1 := fun d hd => by
      obtain ⟨j, h4, h5, rfl⟩ := mem_drop_getD hd
      have h6 := h.high j h4 h5
      rcases Nat.lt_or_ge a (L.getD j (0, 0)).1 with h7 | h7
      · exact h7
      · have h8 : (L.getD j (0, 0)).1 = a := by omega
        rcases Nat.lt_or_ge i j with h9 | h9
        · have := hr.lt h9 h5
          have := h.high i (Nat.le_refl _) (by omega)
          omega
        · have : j = i := by omega
          subst this
          exact absurd (show isAt L a j = true by simp only [isAt, h8, decide_true, Bool.and_true]; exact decide_eq_true h5) hi
    refine List.pairwise_append.2 ⟨h1, List.pairwise_cons.2 ⟨high, h2⟩, fun c hc d hd => ?_⟩
    rcases List.mem_cons.1 hd with rfl | hd
    · exact low c hc
    · have := low c hc; have := high d hd; omega
/-- The cells up to one: one more. -/
theorem valL_take {L : List (Nat × Int)} {i : Nat} (hr : Rising L) (hi : i < L.length) (x : Nat) : valL (L.take (i + 1)) x = if x = (L.getD i (0, 0)).1 then (L.getD i (0, 0)).2 else valL (L.take i) x := by
  rw [List.take_succ_eq_append_getElem hi, getD_lt2 hi]
  by_cases e : x = L[i].1
  · rw [if_pos e, valL_append]
    · simp [valL, e]
    · intro c hc
      obtain ⟨j, h1, h2, rfl⟩ := mem_take_getD hc
      have := hr.lt h1 hi
      rw [getD_lt2 hi] at this
      omega
  · rw [if_neg e, valL_append_left]
    intro c hc
    simp at hc
    subst hc
    exact fun h => e h.symm
theorem valL_take_end {L : List (Nat × Int)} {i x : Nat} (h : ∀ j, i ≤ j → j < L.length → x < (L.getD j (0, 0)).1) : valL (L.take i) x = valL L x := by
  conv => rhs; rw [← List.take_append_drop i L]
  rw [valL_append_left]
  intro c hc
  obtain ⟨j, h1, h2, rfl⟩ := mem_drop_getD hc
  have := h j h1 h2
  omega
theorem valL_take_low {L : List (Nat × Int)} {i x : Nat} (h : ∀ j, j < i → j < L.length → (L.getD j (0, 0)).1 < x) : valL (L.take i) x = 0 := by
  refine valL_none (fun c hc => ?_)
  obtain ⟨j, h1, h2, rfl⟩ := mem_take_getD hc
  have := h j h1 h2
  omega
end Go.Proofs.YtcgjlbpokmlkbaaDoor.Mem
