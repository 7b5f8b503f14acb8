/-
  LEX: plain: what is written is read as it was; what is read may be written, and how long that is.
-/
import Derived.Test.YtojgibigmoaejaaDoorLexPlain
namespace Go.Proofs.YtojgibigmoaejaaDoor.Lex
open Go.Proofs.YtojgibigmoaejaaDoor.Utf
set_option linter.unusedSimpArgs false
set_option linter.unusedVariables false

/-- What stands behind a word that was written: nothing, or a blank. -/
def Tail (r : List Int) : Prop := r = [] ∨ ∃ t, r = 32 :: t
theorem takeWhile_tail {p : Int → Bool} (h32 : p 32 = false) {s r : List Int} (hs : s.takeWhile p = s) (hr : Tail r) : (s ++ r).takeWhile p = s := by
  have ha := takeWhile_all p s
  rw [hs] at ha
  rw [List.takeWhile_append_of_pos ha]
  rcases hr with rfl | ⟨t, rfl⟩
  · simp
  · simp [h32]
theorem letter32 : letterB 32 = false := by decide
theorem digit32 : digitB 32 = false := by decide
theorem head_app {s : List Int} (r : List Int) (h : s.length ≠ 0) : (s ++ r).getD 0 0 = s.getD 0 0 := by
  cases s with
  | nil => simp at h
  | cons c t => rfl

theorem numGo_snoc : ∀ (xs : List Int) (a d : Int), numGo a (xs ++ [d]) = (numGo a xs).bind fun n => if 10 * n + (d - 48) > 2147483647 then none else some (10 * n + (d - 48))
  | [], a, d => by simp [numGo]
  | c :: t, a, d => by
    simp only [List.cons_append, numGo]
    split
    · rfl
    · exact numGo_snoc t _ d
theorem decGo_num : ∀ (f n : Nat), n < 10 ^ f → n ≤ 2147483647 → numGo 0 (decGo f n) = some (n : Int)
  | 0, n, h, _ => by simp at h; subst h; rfl
  | f + 1, n, h, hn => by
    unfold decGo
    split
    · simp [numGo]; omega
    · rw [numGo_snoc, decGo_num f (n / 10) (by rw [Nat.pow_succ] at h; omega) (by omega)]
      simp only [Option.bind_some]
      rw [if_neg (by omega)]
      congr 1
      omega
theorem decGo_digits : ∀ (f n : Nat), (decGo f n).takeWhile digitB = decGo f n
  | 0, _ => rfl
  | f + 1, n => by
    unfold decGo
    split
    · have : digitB (48 + (n : Int)) = true := by unfold digitB; simp; omega
      simp [this]
    · have ha := takeWhile_all digitB (decGo f (n / 10))
      rw [decGo_digits f (n / 10)] at ha
      have : digitB (48 + ((n % 10 : Nat) : Int)) = true := by unfold digitB; simp; omega
      rw [List.takeWhile_append_of_pos ha]
      simp only [List.takeWhile_cons, this, if_true, List.takeWhile_nil]
theorem decGo_len : ∀ (f n : Nat), 0 < f → 1 ≤ (decGo f n).length ∧ (decGo f n).length ≤ f
  | f + 1, n, _ => by
    unfold decGo
    split
    · simp
    · rcases Nat.eq_zero_or_pos f with rfl | hf
      · simp [decGo]
      · have := decGo_len f (n / 10) hf
        simp; omega
theorem decGo_len10 (n : Nat) (h : n ≤ 2147483647) : (decGo 20 n).length ≤ 10 := by
  have : ∀ (f n k : Nat), n < 10 ^ k → 0 < k → (decGo f n).length ≤ k := by
    intro f
    induction f with
    | zero => intro n k _ _; simp [decGo]
    | succ f ih =>
      intro n k hn hk
      unfold decGo
      split
      · simp; omega
      · obtain ⟨k, rfl⟩ : ∃ j, k = j + 1 := ⟨k - 1, by omega⟩
        rcases Nat.eq_zero_or_pos k with rfl | hk'
        · simp at hn; omega
        · have := ih (n / 10) k (by rw [Nat.pow_succ] at hn; omega) hk'
          simp; omega
  exact this 20 n 10 (by omega) (by omega)

theorem quote_back : ∀ (s r : List Int), (∀ z ∈ s, 0 ≤ z ∧ z < 256) → textGo 0 ((s.map quoteB).flatten ++ 34 :: r) = some (s, (s.map quoteB).flatten.length + 1)
  | [], r, _ => by simp [textGo]
  | c :: t, r, h => by
    have ih := quote_back t r fun z hz => h z (by simp [hz])
    have hc := h c (by simp)
    simp only [List.map_cons, List.flatten_cons, List.append_assoc, List.length_append]
    generalize (t.map quoteB).flatten ++ 34 :: r = tl at *
    generalize ((t.map quoteB).flatten).length = tn at *
    unfold quoteB
    split
    · have h1 : ¬ (48 + c / 100 = 110) := by omega
      have h2 : ¬ (48 + c / 100 = 116) := by omega
      have h3 : ¬ (48 + c / 100 = 34 ∨ 48 + c / 100 = 92) := by omega
      have d1 : digitB (48 + c / 100) = true := by unfold digitB; simp; omega
      have d2 : digitB (48 + c / 10 % 10) = true := by unfold digitB; simp; omega
      have d3 : digitB (48 + c % 10) = true := by unfold digitB; simp; omega
      have hv : 100 * (48 + c / 100 - 48) + 10 * (48 + c / 10 % 10 - 48) + (48 + c % 10 - 48) = c := by omega
      have hle : c ≤ 255 := by omega
      simp only [List.cons_append, List.nil_append, textGo, escL, if_neg h1, if_neg h2, if_neg h3, d1, d2, d3, hv, hle, decide_true, Bool.and_true, if_true, ih, Option.map_some]
      simp; omega
    · split
      · rename_i hn hq
        have h1 : ¬ (c = 110) := by omega
        have h2 : ¬ (c = 116) := by omega
        simp only [List.cons_append, List.nil_append, textGo, escL, if_neg h1, if_neg h2, if_pos hq, ih, Option.map_some]
        simp; omega
      · rename_i hn hq
        have h1 : ¬ (c = 34) := by omega
        have h2 : ¬ (c = 92) := by omega
        have h3 : ¬ (c < 32 ∨ c = 127) := by omega
        simp only [List.cons_append, List.nil_append, textGo, if_neg h1, if_neg h2, if_neg h3, ih, Option.map_some]
        simp; omega

theorem signs_all : ∀ p ∈ signsL, digitB (p.getD 0 0) = false ∧ p.getD 0 0 ≠ 34 ∧ p.getD 0 0 ≠ 39 ∧ greatB (p.getD 0 0) = false ∧ (beginsB (p.getD 0 0) = true → p = [95]) ∧ p.length ≠ 0 ∧ blankB (p.getD 0 0) = false ∧ (p.getD 0 0 = 40 → p = [40]) := by decide
theorem sign_back {p r : List Int} (hp : p ∈ signsL) (hr : Tail r) : cutSign (p ++ r) = ⟨7, 0, p, p.length, 0⟩ := by
  simp only [signsL, List.mem_cons, List.not_mem_nil, or_false] at hp
  rcases hr with rfl | ⟨t, rfl⟩
  · rcases hp with rfl | rfl | rfl | rfl | rfl | rfl | rfl | rfl | rfl | rfl | rfl | rfl | rfl | rfl | rfl | rfl | rfl <;> rfl
  · rcases hp with rfl | rfl | rfl | rfl | rfl | rfl | rfl | rfl | rfl | rfl | rfl | rfl | rfl | rfl | rfl | rfl | rfl <;> rfl
theorem keys_all : ∀ p ∈ keysL, p.takeWhile letterB = p ∧ p.length ≠ 0 ∧ p ≠ [95] ∧ smallB (p.getD 0 0) = true ∧ p.length ≤ 9 := by decide

theorem small_not {c : Int} (h : smallB c = true) : digitB c = false ∧ c ≠ 34 ∧ c ≠ 39 ∧ greatB c = false ∧ blankB c = false ∧ c ≠ 40 ∧ beginsB c = true := by
  unfold smallB at h
  simp at h
  unfold digitB greatB blankB beginsB smallB
  simp
  omega
theorem begins_not {c : Int} (h : beginsB c = true) : digitB c = false ∧ c ≠ 34 ∧ c ≠ 39 ∧ greatB c = false ∧ blankB c = false ∧ c ≠ 40 := by
  unfold beginsB at h
  rw [Bool.or_eq_true] at h
  rcases h with h | h
  · obtain ⟨a, b, c, d, e, f, _⟩ := small_not h
    exact ⟨a, b, c, d, e, f⟩
  · simp at h; subst h; decide
theorem great_not {c : Int} (h : greatB c = true) : digitB c = false ∧ c ≠ 34 ∧ c ≠ 39 ∧ blankB c = false ∧ c ≠ 40 := by
  unfold greatB at h
  simp at h
  unfold digitB blankB
  simp
  omega
theorem digit_not {c : Int} (h : digitB c = true) : blankB c = false ∧ c ≠ 40 := by
  unfold digitB at h
  simp at h
  unfold blankB
  simp
  omega
theorem noteB_not {zs : List Int} (h : zs.getD 0 0 ≠ 40) : noteB zs = false := by
  cases zs with
  | nil => rfl
  | cons c t =>
    unfold noteB
    simp only [List.getD_cons_zero] at h
    simp [h]
theorem name_parts {b : Int → Bool} {s : List Int} (h : nameB b s = true) : s.length ≠ 0 ∧ s.length ≤ 64 ∧ b (s.getD 0 0) = true ∧ s.takeWhile letterB = s := by
  unfold nameB at h
  simp only [Bool.and_eq_true, decide_eq_true_eq] at h
  exact ⟨h.1.1.1, h.1.1.2, h.1.2, h.2⟩

/-- A word that may be, written, is read as it was. -/
theorem word_back {w : Wd} (hm : mayB w = true) (hb : ∀ z ∈ w.s, 0 ≤ z ∧ z < 256) {r : List Int} (hr : Tail r) :
    cutOne (written w ++ r) = ⟨w.k, w.n, w.s, (written w).length, 0⟩ ∧ (written w).length ≠ 0 ∧ blankB ((written w ++ r).getD 0 0) = false ∧ noteB (written w ++ r) = false := by
  obtain ⟨k, n, a, s⟩ := w
  unfold mayB at hm
  unfold written
  dsimp only at hm hb ⊢
  by_cases k1 : k = 1
  · subst k1
    simp only [if_true, Bool.and_eq_true, decide_eq_true_eq] at hm ⊢
    obtain ⟨⟨h0, h1⟩, h2⟩ := hm
    obtain rfl : s = [] := List.eq_nil_of_length_eq_zero h0
    obtain ⟨m, hmn⟩ : ∃ m : Nat, (if n < 0 then n + 2147483648 else n) = (m : Int) := ⟨(if n < 0 then n + 2147483648 else n).toNat, by split <;> omega⟩
    have hmle : m ≤ 2147483647 := by split at hmn <;> omega
    have hw : wordN (m : Int) = n := by unfold wordN; split at hmn <;> split <;> omega
    have e : decL (m : Int) = decGo 20 m := rfl
    have hd := decGo_digits 20 m
    have hl := decGo_len 20 m (by omega)
    have hn := decGo_num 20 m (by omega) hmle
    rw [hmn, e]
    have hc : digitB ((decGo 20 m).getD 0 0) = true := by
      have ha := takeWhile_all digitB (decGo 20 m)
      rw [hd] at ha
      cases hdd : decGo 20 m with
      | nil => rw [hdd] at hl; simp at hl
      | cons c t => rw [hdd] at ha; exact ha c (by simp)
    have ht := takeWhile_tail digit32 hd hr
    have hh := head_app r (s := decGo 20 m) (by omega)
    obtain ⟨b1, b2⟩ := digit_not hc
    refine ⟨?_, by omega, by rw [hh]; exact b1, noteB_not (by rw [hh]; exact b2)⟩
    unfold cutOne cutInt
    rw [hh, hc, ht, hn]
    simp [hw]
  rw [if_neg k1] at hm ⊢
  by_cases hn : n ≠ 0
  · rw [if_pos hn] at hm; cases hm
  rw [if_neg hn] at hm
  obtain rfl : n = 0 := by simpa using hn
  by_cases k2 : k = 2
  · subst k2
    simp only [if_true, decide_eq_true_eq] at hm ⊢
    refine ⟨?_, by simp [quoted], rfl, by simp [noteB, quoted]⟩
    unfold cutOne cutText quoted
    have h1 : digitB 34 = false := by decide
    have hq := quote_back s r hb
    have e : (34 :: (s.map quoteB).flatten ++ [34] ++ r).drop 1 = (s.map quoteB).flatten ++ 34 :: r := by simp
    rw [e, hq]
    have hs : ¬ s.length > 4096 := by omega
    simp [h1, hs]
    omega
  rw [if_neg k2] at hm ⊢
  by_cases k3 : k = 3
  · subst k3
    simp only [if_true, Bool.and_eq_true, decide_eq_true_eq] at hm
    obtain ⟨⟨h0, h1⟩, h2⟩ := hm
    obtain ⟨p0, p1, p2, p3⟩ := name_parts h2
    obtain ⟨b0, b1, b2, b3, b4, b5⟩ := begins_not p2
    have hh := head_app r p0
    rw [if_neg (by omega)]
    refine ⟨?_, p0, by rw [hh]; exact b4, noteB_not (by rw [hh]; exact b5)⟩
    unfold cutOne cutName
    have ht := takeWhile_tail letter32 p3 hr
    rw [hh, b0, b3, p2, ht]
    have h1' : keysL.contains s = false := by simpa using h1
    simp only [b1, b2, h0, h1', show ¬ s.length > 64 by omega, if_false, if_true, Bool.false_eq_true]
  rw [if_neg k3] at hm
  by_cases k4 : k = 4
  · subst k4
    simp only [if_true] at hm
    obtain ⟨p0, p1, p2, p3⟩ := name_parts hm
    obtain ⟨b0, b1, b2, b4, b5⟩ := great_not p2
    have hh := head_app r p0
    rw [if_neg (by omega)]
    refine ⟨?_, p0, by rw [hh]; exact b4, noteB_not (by rw [hh]; exact b5)⟩
    unfold cutOne cutCon
    have ht := takeWhile_tail letter32 p3 hr
    rw [hh, b0, p2, ht]
    simp only [b1, b2, show ¬ s.length > 64 by omega, if_false, if_true, Bool.false_eq_true]
  rw [if_neg k4] at hm
  by_cases k5 : k = 5
  · subst k5
    simp only [if_true] at hm ⊢
    obtain ⟨p0, p1, p2, p3⟩ := name_parts hm
    refine ⟨?_, by simp, rfl, by simp [noteB]⟩
    unfold cutOne cutVar
    have ht := takeWhile_tail letter32 p3 hr
    have h1 : digitB 39 = false := by decide
    simp only [List.cons_append, List.getD_cons_zero, h1, List.drop_succ_cons, List.drop_zero, ht]
    have h39 : (39 :: (s ++ r)).getD 0 0 = 39 := rfl
    simp only [p0, p2, show ¬ s.length > 64 by omega, show ¬ ((39 : Int) = 34) by omega, if_false, if_true, Bool.false_eq_true, or_self, Bool.true_eq_false]
    simp only [List.length_cons, Cut.mk.injEq, true_and, and_true]
    omega
  rw [if_neg k5] at hm ⊢
  by_cases k6 : k = 6
  · subst k6
    simp only [if_true] at hm
    have hk : s ∈ keysL := by simpa using hm
    obtain ⟨p3, p0, p1, p2, _⟩ := keys_all s hk
    obtain ⟨b0, b1, b2, b3, b4, b5, b6⟩ := small_not p2
    have hh := head_app r p0
    refine ⟨?_, p0, by rw [hh]; exact b4, noteB_not (by rw [hh]; exact b5)⟩
    unfold cutOne cutName
    have ht := takeWhile_tail letter32 p3 hr
    rw [hh, b0, b3, b6, ht]
    simp only [b1, b2, p1, hk, if_false, if_true, Bool.false_eq_true, List.contains_iff_mem]
  rw [if_neg k6] at hm
  by_cases k7 : k = 7
  · subst k7
    simp only [if_true] at hm
    have hk : s ∈ signsL := by simpa using hm
    obtain ⟨b0, b1, b2, b3, b6, p0, b4, b5⟩ := signs_all s hk
    have hh := head_app r p0
    refine ⟨?_, p0, by rw [hh]; exact b4, ?_⟩
    · unfold cutOne
      rw [hh, b0, b3]
      cases hbg : beginsB (s.getD 0 0) with
      | false => simp only [b1, b2, if_false, Bool.false_eq_true]; exact sign_back hk hr
      | true =>
        obtain rfl := b6 hbg
        have ht := takeWhile_tail letter32 (s := [95]) (by decide) hr
        unfold cutName
        rw [ht]
        simp only [b1, b2, if_false, if_true, Bool.false_eq_true]
        exact sign_back hk hr
    · by_cases h40 : s.getD 0 0 = 40
      · obtain rfl := b5 h40
        rcases hr with rfl | ⟨t, rfl⟩
        · rfl
        · rfl
      · exact noteB_not (by rw [hh]; exact h40)
  rw [if_neg k7] at hm
  cases hm

def core (w : Wd) : Int × Int × List Int := (w.k, w.n, w.s)
/-- Words that may be, written with blanks between, are read as they were, but for where they begin. -/
theorem joined_back : ∀ (l : List Wd) (a : Int), (∀ w ∈ l, mayB w = true) → (∀ w ∈ l, ∀ z ∈ w.s, 0 ≤ z ∧ z < 256) →
    ∃ m, lexA (joined l) a = .ok m ∧ m.map core = l.map core ∧ (∀ w ∈ m, a ≤ w.at_) ∧ m.Pairwise (fun x y => x.at_ < y.at_)
  | [], a, _, _ => ⟨[], rfl, rfl, by simp, .nil⟩
  | [w], a, hm, hb => by
    obtain ⟨h1, h2, h3, h4⟩ := word_back (hm w (by simp)) (hb w (by simp)) (r := []) (.inl rfl)
    rw [List.append_nil] at h1 h3 h4
    refine ⟨[⟨w.k, w.n, a, w.s⟩], ?_, rfl, by simp, by simp⟩
    show lexA (written w) a = _
    cases hw : written w with
    | nil => rw [hw] at h2; simp at h2
    | cons c t =>
      rw [hw] at h1 h3 h4
      rw [List.getD_cons_zero] at h3
      rw [lexA_word a h3 h4 (by rw [h1]), h1]
      simp only [List.drop_length]
      rfl
  | w :: v :: t, a, hm, hb => by
    obtain ⟨h1, h2, h3, h4⟩ := word_back (hm w (by simp)) (hb w (by simp)) (r := 32 :: joined (v :: t)) (.inr ⟨_, rfl⟩)
    obtain ⟨m, e1, e2, e3, e4⟩ := joined_back (v :: t) (a + (written w).length + 1) (fun x hx => hm x (List.mem_cons_of_mem _ hx)) (fun x hx => hb x (List.mem_cons_of_mem _ hx))
    refine ⟨⟨w.k, w.n, a, w.s⟩ :: m, ?_, by simp only [List.map_cons] at e2 ⊢; rw [e2]; rfl, ?_, ?_⟩
    · show lexA (written w ++ 32 :: joined (v :: t)) a = _
      cases hw : written w with
      | nil => rw [hw] at h2; simp at h2
      | cons c u =>
        rw [hw] at h1 h3 h4 e1
        simp only [List.cons_append] at h1 h3 h4 ⊢
        rw [List.getD_cons_zero] at h3
        rw [lexA_word a h3 h4 (by rw [h1]), h1]
        simp only
        rw [show (c :: (u ++ 32 :: joined (v :: t))).drop (c :: u).length = 32 :: joined (v :: t) from by rw [← List.cons_append, List.drop_left], lexA_blank _ _ (by decide), e1]
        rfl
    · intro x hx
      rcases List.mem_cons.1 hx with rfl | hx
      · exact Int.le_refl _
      · have := e3 x hx; omega
    · refine .cons (fun x hx => ?_) e4
      have := e3 x hx
      have : 0 < (written w).length := by omega
      show a < x.at_
      omega
end Go.Proofs.YtojgibigmoaejaaDoor.Lex
