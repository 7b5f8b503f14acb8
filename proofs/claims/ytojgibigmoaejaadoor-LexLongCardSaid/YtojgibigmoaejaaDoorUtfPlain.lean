/-
  Runes and their bytes: plain functions. A rune's bytes; which rune a list of bytes begins with; the runes of a list, and how many bytes they take; that these lead to one another; that the model's own decoding says the same.
-/
import Derived.Test.YtojgibigmoaejaaDoorProg
import Derived.Laws.BytesArg
namespace Go.Proofs.YtojgibigmoaejaaDoor.Utf

/-- May a number be a rune? -/
def Rune (n : Int) : Prop := 0 ≤ n ∧ n ≤ 1114111 ∧ (n < 55296 ∨ 57343 < n)
instance (n : Int) : Decidable (Rune n) := by unfold Rune; infer_instance
/-- A rune's bytes. -/
def oneL (n : Int) : List Int :=
  if n < 128 then [n] else if n < 2048 then [192 + n / 64, 128 + n % 64] else if n < 65536 then [224 + n / 4096, 128 + n / 64 % 64, 128 + n % 64]
  else [240 + n / 262144, 128 + n / 4096 % 64, 128 + n / 64 % 64, 128 + n % 64]
/-- The part of a first byte, and how many go on. -/
def firstL (c : Int) : Option (Int × Nat) :=
  if c < 128 then some (c, 0) else if 192 ≤ c ∧ c < 224 then some (c - 192, 1) else if 224 ≤ c ∧ c < 240 then some (c - 224, 2) else if 240 ≤ c ∧ c < 248 then some (c - 240, 3) else none
/-- What so many bytes that go on make of a number. -/
def tailsL : Nat → Int → List Int → Option Int
  | 0, n, _ => some n
  | _ + 1, _, [] => none
  | m + 1, n, c :: t => if 128 ≤ c ∧ c < 192 then tailsL m (64 * n + (c - 128)) t else none
/-- The rune that a list begins with, and how many bytes it has. -/
def atL : List Int → Option (Int × Nat)
  | [] => none
  | c :: t => match firstL c with
    | none => none
    | some (n0, more) => match tailsL more n0 t with
      | none => none
      | some n => if Rune n ∧ (oneL n).length = more + 1 then some (n, more + 1) else none

theorem oneL_length (n : Int) : 1 ≤ (oneL n).length ∧ (oneL n).length ≤ 4 := by
  unfold oneL
  repeat' split
  all_goals simp
theorem oneL_bytes {n : Int} (h : Rune n) : ∀ z ∈ oneL n, 0 ≤ z ∧ z < 256 := by
  obtain ⟨h0, h1, _⟩ := h
  unfold oneL
  repeat' split
  all_goals (intro z hz; simp only [List.mem_cons, List.not_mem_nil, or_false] at hz)
  · omega
  · rcases hz with rfl | rfl <;> omega
  · rcases hz with rfl | rfl | rfl <;> omega
  · rcases hz with rfl | rfl | rfl | rfl <;> omega

theorem tailsL_some : ∀ (m : Nat) (n : Int) (t : List Int) (r : Int), tailsL m n t = some r → m ≤ t.length
  | 0, _, _, _, _ => Nat.zero_le _
  | _ + 1, _, [], _, h => by simp [tailsL] at h
  | m + 1, n, c :: t, r, h => by
    simp only [tailsL] at h
    split at h
    · have := tailsL_some m _ t r h
      simp; omega
    · cases h
/-- What a list begins with is a rune, and just its bytes. -/
theorem atL_some {l : List Int} {n : Int} {k : Nat} (h : atL l = some (n, k)) : Rune n ∧ l.take k = oneL n ∧ k = (oneL n).length ∧ 1 ≤ k ∧ k ≤ 4 ∧ k ≤ l.length := by
  cases l with
  | nil => simp [atL] at h
  | cons c t =>
    simp only [atL, firstL] at h
    by_cases h1 : c < 128
    · simp only [if_pos h1, tailsL] at h
      split at h
      · rename_i hr
        simp only [Option.some.injEq, Prod.mk.injEq] at h
        obtain ⟨rfl, rfl⟩ := h
        refine ⟨hr.1, ?_, hr.2.symm, by omega, by omega, by simp⟩
        simp [oneL, h1]
      · cases h
    rw [if_neg h1] at h
    by_cases h2 : 192 ≤ c ∧ c < 224
    · simp only [if_pos h2] at h
      match t, h with
      | [], h => simp [tailsL] at h
      | c1 :: t, h =>
        simp only [tailsL] at h
        by_cases k1 : 128 ≤ c1 ∧ c1 < 192
        · simp only [if_pos k1] at h
          split at h
          · rename_i hr
            simp only [Option.some.injEq, Prod.mk.injEq] at h
            obtain ⟨rfl, rfl⟩ := h
            refine ⟨hr.1, ?_, hr.2.symm, by omega, by omega, by simp⟩
            have hl := hr.2
            unfold oneL at hl ⊢
            split at hl
            · simp at hl
            · split at hl
              · rename_i a b
                rw [if_neg a, if_pos b]
                simp only [List.take_succ_cons, List.take_zero, List.cons.injEq, and_true]
                omega
              · split at hl <;> simp at hl
          · cases h
        · simp [if_neg k1] at h
    rw [if_neg h2] at h
    by_cases h3 : 224 ≤ c ∧ c < 240
    · simp only [if_pos h3] at h
      match t, h with
      | [], h => simp [tailsL] at h
      | [c1], h => simp [tailsL] at h
      | c1 :: c2 :: t, h =>
        simp only [tailsL] at h
        by_cases k1 : 128 ≤ c1 ∧ c1 < 192
        · simp only [if_pos k1] at h
          by_cases k2 : 128 ≤ c2 ∧ c2 < 192
          · simp only [if_pos k2] at h
            split at h
            · rename_i hr
              simp only [Option.some.injEq, Prod.mk.injEq] at h
              obtain ⟨rfl, rfl⟩ := h
              refine ⟨hr.1, ?_, hr.2.symm, by omega, by omega, by simp⟩
              have hl := hr.2
              unfold oneL at hl ⊢
              split at hl
              · simp at hl
              · split at hl
                · simp at hl
                · split at hl
                  · rename_i a b d
                    rw [if_neg a, if_neg b, if_pos d]
                    simp only [List.take_succ_cons, List.take_zero, List.cons.injEq, and_true]
                    omega
                  · simp at hl
            · cases h
          · simp [if_neg k2] at h
        · simp [if_neg k1] at h
    rw [if_neg h3] at h
    by_cases h4 : 240 ≤ c ∧ c < 248
    · simp only [if_pos h4] at h
      match t, h with
      | [], h => simp [tailsL] at h
      | [c1], h => simp [tailsL] at h
      | [c1, c2], h => simp [tailsL] at h
      | c1 :: c2 :: c3 :: t, h =>
        simp only [tailsL] at h
        by_cases k1 : 128 ≤ c1 ∧ c1 < 192
        · simp only [if_pos k1] at h
          by_cases k2 : 128 ≤ c2 ∧ c2 < 192
          · simp only [if_pos k2] at h
            by_cases k3 : 128 ≤ c3 ∧ c3 < 192
            · simp only [if_pos k3] at h
              split at h
              · rename_i hr
                simp only [Option.some.injEq, Prod.mk.injEq] at h
                obtain ⟨rfl, rfl⟩ := h
                refine ⟨hr.1, ?_, hr.2.symm, by omega, by omega, by simp⟩
                have hl := hr.2
                unfold oneL at hl ⊢
                split at hl
                · simp at hl
                · split at hl
                  · simp at hl
                  · split at hl
                    · simp at hl
                    · rename_i a b d
                      rw [if_neg a, if_neg b, if_neg d]
                      simp only [List.take_succ_cons, List.take_zero, List.cons.injEq, and_true]
                      omega
              · cases h
            · simp [if_neg k3] at h
          · simp [if_neg k2] at h
        · simp [if_neg k1] at h
    · simp [if_neg h4] at h

/-- A rune's bytes begin with it. -/
theorem atL_one {n : Int} (h : Rune n) (rest : List Int) : atL (oneL n ++ rest) = some (n, (oneL n).length) := by
  have hr := h
  obtain ⟨h0, h1, h2⟩ := h
  by_cases a : n < 128
  · have e : oneL n = [n] := by simp [oneL, a]
    simp [atL, firstL, tailsL, e, a, hr]
  by_cases b : n < 2048
  · have e : oneL n = [192 + n / 64, 128 + n % 64] := by simp [oneL, a, b]
    have c1 : ¬ (192 + n / 64 < 128) := by omega
    have c2 : 192 ≤ 192 + n / 64 ∧ 192 + n / 64 < 224 := by omega
    have c3 : 128 ≤ 128 + n % 64 ∧ 128 + n % 64 < 192 := by omega
    have c4 : 64 * (192 + n / 64 - 192) + (128 + n % 64 - 128) = n := by omega
    rw [e]
    simp only [List.cons_append, List.nil_append, atL, firstL, if_neg c1, if_pos c2, tailsL, if_pos c3, c4, e]
    simp [hr]
  by_cases d : n < 65536
  · have e : oneL n = [224 + n / 4096, 128 + n / 64 % 64, 128 + n % 64] := by simp [oneL, a, b, d]
    have c1 : ¬ (224 + n / 4096 < 128) := by omega
    have c2 : ¬ (192 ≤ 224 + n / 4096 ∧ 224 + n / 4096 < 224) := by omega
    have c3 : 224 ≤ 224 + n / 4096 ∧ 224 + n / 4096 < 240 := by omega
    have c4 : 128 ≤ 128 + n / 64 % 64 ∧ 128 + n / 64 % 64 < 192 := by omega
    have c5 : 128 ≤ 128 + n % 64 ∧ 128 + n % 64 < 192 := by omega
    have c6 : 64 * (64 * (224 + n / 4096 - 224) + (128 + n / 64 % 64 - 128)) + (128 + n % 64 - 128) = n := by omega
    rw [e]
    simp only [List.cons_append, List.nil_append, atL, firstL, if_neg c1, if_neg c2, if_pos c3, tailsL, if_pos c4, if_pos c5, c6, e]
    simp [hr]
  · have e : oneL n = [240 + n / 262144, 128 + n / 4096 % 64, 128 + n / 64 % 64, 128 + n % 64] := by simp [oneL, a, b, d]
    have c1 : ¬ (240 + n / 262144 < 128) := by omega
    have c2 : ¬ (192 ≤ 240 + n / 262144 ∧ 240 + n / 262144 < 224) := by omega
    have c3 : ¬ (224 ≤ 240 + n / 262144 ∧ 240 + n / 262144 < 240) := by omega
    have c4 : 240 ≤ 240 + n / 262144 ∧ 240 + n / 262144 < 248 := by omega
    have c5 : 128 ≤ 128 + n / 4096 % 64 ∧ 128 + n / 4096 % 64 < 192 := by omega
    have c6 : 128 ≤ 128 + n / 64 % 64 ∧ 128 + n / 64 % 64 < 192 := by omega
    have c7 : 128 ≤ 128 + n % 64 ∧ 128 + n % 64 < 192 := by omega
    have c8 : 64 * (64 * (64 * (240 + n / 262144 - 240) + (128 + n / 4096 % 64 - 128)) + (128 + n / 64 % 64 - 128)) + (128 + n % 64 - 128) = n := by omega
    rw [e]
    simp only [List.cons_append, List.nil_append, atL, firstL, if_neg c1, if_neg c2, if_neg c3, if_pos c4, tailsL, if_pos c5, if_pos c6, if_pos c7, c8, e]
    simp [hr]

/-- The runes that a list begins with, up to the first place where none begins; and how many bytes they take. -/
def scanGo : Nat → List Int → List Int × Nat
  | 0, _ => ([], 0)
  | f + 1, l => match atL l with
    | none => ([], 0)
    | some (n, k) => (n :: (scanGo f (l.drop k)).1, k + (scanGo f (l.drop k)).2)
def scan (l : List Int) : List Int × Nat := scanGo l.length l
theorem scanGo_fuel : ∀ (f g : Nat) (l : List Int), l.length ≤ f → l.length ≤ g → scanGo f l = scanGo g l
  | 0, 0, _, _, _ => rfl
  | 0, g + 1, l, hf, _ => by
    have : l = [] := List.eq_nil_of_length_eq_zero (by omega)
    subst this; simp [scanGo, atL]
  | f + 1, 0, l, _, hg => by
    have : l = [] := List.eq_nil_of_length_eq_zero (by omega)
    subst this; simp [scanGo, atL]
  | f + 1, g + 1, l, hf, hg => by
    simp only [scanGo]
    cases h : atL l with
    | none => rfl
    | some p =>
      obtain ⟨n, k⟩ := p
      obtain ⟨_, _, _, hk, _, hl⟩ := atL_some h
      simp only
      rw [scanGo_fuel f g (l.drop k) (by simp; omega) (by simp; omega)]
theorem scan_none {l : List Int} (h : atL l = none) : scan l = ([], 0) := by
  unfold scan
  cases l with
  | nil => rfl
  | cons c t => simp [scanGo, h]
theorem scan_some {l : List Int} {n : Int} {k : Nat} (h : atL l = some (n, k)) : scan l = (n :: (scan (l.drop k)).1, k + (scan (l.drop k)).2) := by
  obtain ⟨_, _, _, hk, _, hl⟩ := atL_some h
  unfold scan
  obtain ⟨m, hm⟩ : ∃ m, l.length = m + 1 := ⟨l.length - 1, by omega⟩
  rw [hm]
  simp only [scanGo, h]
  rw [scanGo_fuel m (l.drop k).length (l.drop k) (by simp; omega) (Nat.le_refl _)]
theorem scan_nil : scan [] = ([], 0) := rfl

/-- Induction along a list, a rune at a time. -/
theorem along {p : List Int → Prop} (h0 : ∀ l, atL l = none → p l) (h1 : ∀ l n k, atL l = some (n, k) → p (l.drop k) → p l) (l : List Int) : p l := by
  suffices h : ∀ m (l : List Int), l.length ≤ m → p l from h _ l (Nat.le_refl _)
  intro m
  induction m with
  | zero =>
    intro l hl
    have : l = [] := List.eq_nil_of_length_eq_zero (by omega)
    subst this
    exact h0 _ rfl
  | succ m ih =>
    intro l hl
    cases h : atL l with
    | none => exact h0 _ h
    | some q =>
      obtain ⟨n, k⟩ := q
      obtain ⟨_, _, _, hk, _, hkl⟩ := atL_some h
      exact h1 l n k h (ih _ (by simp; omega))

theorem scan_le (l : List Int) : (scan l).2 ≤ l.length := by
  refine along (p := fun l => (scan l).2 ≤ l.length) ?_ ?_ l
  · intro l h; rw [scan_none h]; exact Nat.zero_le _
  · intro l n k h ih
    obtain ⟨_, _, _, _, _, hkl⟩ := atL_some h
    rw [scan_some h]
    simp only [List.length_drop] at ih
    simp only
    omega
theorem scan_count (l : List Int) : (scan l).1.length ≤ (scan l).2 := by
  refine along (p := fun l => (scan l).1.length ≤ (scan l).2) ?_ ?_ l
  · intro l h; rw [scan_none h]; exact Nat.zero_le _
  · intro l n k h ih
    obtain ⟨_, _, _, hk, _, _⟩ := atL_some h
    rw [scan_some h]
    simp only [List.length_cons]
    omega
theorem scan_runes (l : List Int) : ∀ n ∈ (scan l).1, Rune n := by
  refine along (p := fun l => ∀ n ∈ (scan l).1, Rune n) ?_ ?_ l
  · intro l h; rw [scan_none h]; simp
  · intro l n k h ih
    rw [scan_some h]
    intro m hm
    rcases List.mem_cons.1 hm with rfl | hm
    · exact (atL_some h).1
    · exact ih m hm

/-- The text of runes. -/
def textL : List Int → List Int
  | [] => []
  | n :: t => oneL n ++ textL t
theorem textL_append : ∀ a b : List Int, textL (a ++ b) = textL a ++ textL b
  | [], _ => rfl
  | n :: a, b => by simp [textL, textL_append a b]
theorem textL_length : ∀ l : List Int, (textL l).length ≤ 4 * l.length
  | [] => by simp [textL]
  | n :: t => by
    have := textL_length t
    have := oneL_length n
    simp [textL]; omega
theorem textL_count : ∀ l : List Int, l.length ≤ (textL l).length
  | [] => by simp [textL]
  | n :: t => by
    have := textL_count t
    have := oneL_length n
    simp [textL]; omega
theorem textL_bytes : ∀ l : List Int, (∀ n ∈ l, Rune n) → ∀ z ∈ textL l, 0 ≤ z ∧ z < 256
  | [], _ => by simp [textL]
  | n :: t, h => by
    intro z hz
    rcases List.mem_append.1 hz with hz | hz
    · exact oneL_bytes (h n (by simp)) z hz
    · exact textL_bytes t (fun m hm => h m (by simp [hm])) z hz
/-- The runes of a text are those that it was made of. -/
theorem scan_text : ∀ l : List Int, (∀ n ∈ l, Rune n) → scan (textL l) = (l, (textL l).length)
  | [], _ => rfl
  | n :: t, h => by
    have e := atL_one (h n (by simp)) (textL t)
    rw [textL, scan_some e]
    simp only [List.drop_left]
    rw [scan_text t fun m hm => h m (by simp [hm])]
    simp
/-- The text of the runes of a list is the bytes that they take. -/
theorem text_scan (l : List Int) : textL (scan l).1 = l.take (scan l).2 := by
  refine along (p := fun l => textL (scan l).1 = l.take (scan l).2) ?_ ?_ l
  · intro l h; rw [scan_none h]; simp [textL]
  · intro l n k h ih
    obtain ⟨_, ht, _, _, _, hkl⟩ := atL_some h
    rw [scan_some h]
    simp only [textL]
    rw [ih, ← ht, List.take_add]
theorem text_scan_all {l : List Int} (h : (scan l).2 = l.length) : textL (scan l).1 = l := by rw [text_scan, h, List.take_length]
/-- Where a list is no text of runes; -1: it is one. -/
def badL (l : List Int) : Int := if (scan l).2 = l.length then -1 else (scan l).2
theorem badL_none {l : List Int} (h : (scan l).2 = l.length) : badL l = -1 := if_pos h
theorem badL_some {l : List Int} (h : (scan l).2 ≠ l.length) : badL l = (scan l).2 := if_neg h
theorem badL_neg (l : List Int) : badL l < 0 ↔ (scan l).2 = l.length := by
  unfold badL
  split <;> simp_all <;> omega
theorem badL_text {l : List Int} (h : ∀ n ∈ l, Rune n) : badL (textL l) = -1 := badL_none (by rw [scan_text l h])

end Go.Proofs.YtojgibigmoaejaaDoor.Utf
