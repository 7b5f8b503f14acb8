/-
  LEX: plain: what is read may be written; how long that is; what is written is valid text; where faults are.
-/
import Derived.Test.YtojgibigmoaejaaDoorLexBackP
namespace Go.Proofs.YtojgibigmoaejaaDoor.Lex
open Go.Proofs.YtojgibigmoaejaaDoor.Utf
set_option linter.unusedSimpArgs false
set_option linter.unusedVariables false

def Bytes8 (zs : List Int) : Prop := ∀ z ∈ zs, 0 ≤ z ∧ z < 256
theorem Bytes8.drop {zs : List Int} (h : Bytes8 zs) (i : Nat) : Bytes8 (zs.drop i) := fun z hz => h z (List.mem_of_mem_drop hz)
theorem Bytes8.tw {zs : List Int} (h : Bytes8 zs) (p : Int → Bool) : Bytes8 (zs.takeWhile p) := fun z hz => h z ((List.takeWhile_sublist p).subset hz)
theorem takeWhile_idem (p : Int → Bool) (zs : List Int) : (zs.takeWhile p).takeWhile p = zs.takeWhile p := by
  have h := takeWhile_all p zs
  generalize zs.takeWhile p = l at *
  induction l with
  | nil => rfl
  | cons c t ih =>
    have := h c (by simp)
    rw [List.takeWhile_cons, if_pos this, ih fun z hz => h z (by simp [hz])]
theorem numGo_range : ∀ (l : List Int) (a n : Int), numGo a l = some n → 0 ≤ a → a ≤ 2147483647 → (∀ z ∈ l, 48 ≤ z) → 0 ≤ n ∧ n ≤ 2147483647
  | [], a, n, h, h0, h1, _ => by simp [numGo] at h; omega
  | c :: t, a, n, h, h0, h1, hd => by
    simp only [numGo] at h
    split at h
    · cases h
    · have := hd c (by simp)
      exact numGo_range t _ n h (by omega) (by omega) fun z hz => hd z (by simp [hz])
theorem escL_byte {l : List Int} {b : Int} {k : Nat} (h : escL l = some (b, k)) : 0 ≤ b ∧ b < 256 := by
  cases l with
  | nil => simp [escL] at h
  | cons c t =>
    simp only [escL] at h
    split at h
    · simp at h; omega
    · split at h
      · simp at h; omega
      · split at h
        · simp at h; omega
        · split at h
          · split at h
            · rename_i hd
              simp only [Bool.and_eq_true, decide_eq_true_eq] at hd
              obtain ⟨⟨⟨h1, h2⟩, h3⟩, h4⟩ := hd
              unfold digitB at h1 h2 h3
              simp at h1 h2 h3 h
              omega
            · cases h
          · cases h
theorem textGo_bytes : ∀ (k : Nat) (l : List Int) (s : List Int) (n : Nat), textGo k l = some (s, n) → Bytes8 l → Bytes8 s
  | _, [], _, _, h, _ => by simp [textGo] at h
  | k + 1, c :: t, s, n, h, hb => by
    simp only [textGo, Option.map_eq_some_iff] at h
    obtain ⟨⟨s', n'⟩, h, he⟩ := h
    simp only [Prod.mk.injEq] at he
    obtain ⟨rfl, rfl⟩ := he
    exact textGo_bytes k t _ _ h fun z hz => hb z (by simp [hz])
  | 0, c :: t, s, n, h, hb => by
    simp only [textGo] at h
    split at h
    · simp only [Option.some.injEq, Prod.mk.injEq] at h
      obtain ⟨rfl, rfl⟩ := h
      intro z hz; simp at hz
    · split at h
      · split at h
        · cases h
        · rename_i b k he'
          rw [Option.map_eq_some_iff] at h
          obtain ⟨⟨s', n'⟩, h, he⟩ := h
          simp only [Prod.mk.injEq] at he
          obtain ⟨rfl, rfl⟩ := he
          have := textGo_bytes k t _ _ h fun z hz => hb z (by simp [hz])
          intro z hz
          rcases List.mem_cons.1 hz with rfl | hz
          · exact escL_byte he'
          · exact this z hz
      · split at h
        · cases h
        · rw [Option.map_eq_some_iff] at h
          obtain ⟨⟨s', n'⟩, h, he⟩ := h
          simp only [Prod.mk.injEq] at he
          obtain ⟨rfl, rfl⟩ := he
          have := textGo_bytes 0 t _ _ h fun z hz => hb z (by simp [hz])
          intro z hz
          rcases List.mem_cons.1 hz with rfl | hz
          · exact hb z (by simp)
          · exact this z hz
theorem quoted_len (s : List Int) : (quoted s).length ≤ 4 * s.length + 2 := by
  have : ((s.map quoteB).flatten).length ≤ 4 * s.length := by
    induction s with
    | nil => simp
    | cons c t ih =>
      have : (quoteB c).length ≤ 4 := by unfold quoteB; split <;> (try split) <;> simp
      simp only [List.map_cons, List.flatten_cons, List.length_append, List.length_cons]
      omega
  unfold quoted
  simp only [List.cons_append, List.length_cons, List.length_append, List.length_nil]
  omega

/-- What is cut off may be a word; it is written in not much more. -/
theorem cutOne_may {zs : List Int} (hb : Bytes8 zs) (h0 : zs ≠ []) (he : (cutOne zs).e = 0) (a : Int) :
    mayB ⟨(cutOne zs).k, (cutOne zs).n, a, (cutOne zs).s⟩ = true ∧ Bytes8 (cutOne zs).s ∧ (written ⟨(cutOne zs).k, (cutOne zs).n, a, (cutOne zs).s⟩).length + 1 ≤ 11 * (cutOne zs).size := by
  have hsz := (cutOne_size h0 he).1
  have sign : (cutSign zs).e = 0 → 1 ≤ (cutSign zs).size → mayB ⟨(cutSign zs).k, (cutSign zs).n, a, (cutSign zs).s⟩ = true ∧ Bytes8 (cutSign zs).s ∧ (written ⟨(cutSign zs).k, (cutSign zs).n, a, (cutSign zs).s⟩).length + 1 ≤ 11 * (cutSign zs).size := by
    intro h hsz
    unfold cutSign at h hsz ⊢
    cases hf : signsL.find? (fun p => decide (zs.take p.length = p)) with
    | none => rw [hf] at h; simp [Cut.bad] at h
    | some p =>
      obtain ⟨h1, h2, h3, h4⟩ := sign_size hf
      have : ∀ p ∈ signsL, ∀ z ∈ p, 0 ≤ z ∧ z < 256 := by decide
      refine ⟨by simp [mayB, h4], this p h4, ?_⟩
      simp [written]
      omega
  have nm : ∀ (xs : List Int) (p : Int → Bool), 1 ≤ xs.length → xs.length ≤ 64 → p (xs.getD 0 0) = true → nameB p (xs) = true ∨ xs.takeWhile letterB ≠ xs := by
    intro xs p h1 h2 h3
    by_cases h : xs.takeWhile letterB = xs
    · left
      unfold nameB
      simp only [h3, h, decide_true, Bool.and_true, show decide (xs.length ≠ 0) = true from decide_eq_true (by omega), show decide (xs.length ≤ 64) = true from decide_eq_true h2]
    · exact .inr h
  have hd0 : ∀ (p : Int → Bool), p (zs.getD 0 0) = true → (∀ c, p c = true → letterB c = true) → (zs.takeWhile letterB).getD 0 0 = zs.getD 0 0 := by
    intro p hp hl
    cases zs with
    | nil => simp at h0
    | cons c t =>
      have : letterB c = true := hl c (by simpa using hp)
      simp [this]
  have hidem := takeWhile_idem letterB zs
  unfold cutOne at he hsz ⊢
  split
  · rename_i hd
    rw [if_pos hd] at he hsz
    unfold cutInt at he hsz ⊢
    split
    · rename_i hn; rw [hn] at he; simp [Cut.bad] at he
    · rename_i n hn
      rw [hn] at hsz
      have hr := numGo_range _ 0 n hn (by omega) (by omega) (fun z hz => by have := takeWhile_all digitB zs z hz; unfold digitB at this; simp at this; omega)
      have h1 : -1073741824 ≤ wordN n ∧ wordN n ≤ 1073741823 := by unfold wordN; split <;> omega
      have hw : (if wordN n < 0 then wordN n + 2147483648 else wordN n) = n := by unfold wordN; split <;> split <;> omega
      refine ⟨by simp [mayB, h1], fun z hz => by simp at hz, ?_⟩
      simp only [written, if_true, hw]
      have := decGo_len10 n.toNat (by omega)
      simp only at hsz
      unfold decL
      omega
  · rename_i hd
    rw [if_neg hd] at he hsz
    split
    · rename_i hq
      rw [if_pos hq] at he hsz
      unfold cutText at he hsz ⊢
      split
      · rename_i hn; rw [hn] at he; simp [Cut.bad] at he
      · rename_i s k hn
        rw [hn] at he hsz
        have h1 := textGo_size _ _ _ _ hn
        have h2 := textGo_bytes _ _ _ _ hn (hb.drop 1)
        split
        · rename_i hl; simp [Cut.bad, hl] at he
        · rename_i hl
          refine ⟨by simp [mayB]; omega, h2, ?_⟩
          have := quoted_len s
          simp only [written, show ¬ ((2 : Int) = 1) by omega, if_false, if_true]
          omega
    · rename_i hq
      rw [if_neg hq] at he hsz
      split
      · rename_i hv
        rw [if_pos hv] at he hsz
        unfold cutVar at he hsz ⊢
        split
        · rename_i hn; rw [if_pos hn] at he; simp [Cut.bad] at he
        · rename_i hn
          rw [if_neg hn] at he hsz
          split
          · rename_i hl; rw [if_pos hl] at he; simp [Cut.bad] at he
          · rename_i hl
            have hn1 : ¬ ((zs.drop 1).takeWhile letterB).length = 0 := fun h => hn (.inl h)
            have hn2 : smallB (((zs.drop 1).takeWhile letterB).getD 0 0) = true := by
              cases h : smallB (((zs.drop 1).takeWhile letterB).getD 0 0) with
              | true => rfl
              | false => exact absurd (.inr h) hn
            have := (nm _ smallB (by omega) (by omega) hn2).resolve_right (fun h => h (takeWhile_idem letterB _))
            refine ⟨by simp only [mayB, this]; simp, (hb.drop 1).tw _, ?_⟩
            simp only [written, show ¬ ((5 : Int) = 1) by omega, show ¬ ((5 : Int) = 2) by omega, if_false, if_true, List.length_cons]
            omega
      · rename_i hv
        rw [if_neg hv] at he hsz
        split
        · rename_i hg
          rw [if_pos hg] at he hsz
          have h1 := head_takeWhile h0 (letter_great hg)
          have h2 := hd0 greatB hg (fun c hc => letter_great hc)
          unfold cutCon at he hsz ⊢
          split
          · rename_i hl; rw [if_pos hl] at he; simp [Cut.bad] at he
          · rename_i hl
            rw [if_neg hl] at hsz
            have := (nm _ greatB h1 (by omega) (by rw [h2]; exact hg)).resolve_right (fun h => h hidem)
            refine ⟨by simp only [mayB, this]; simp, hb.tw _, ?_⟩
            simp only [written, show ¬ ((4 : Int) = 1) by omega, show ¬ ((4 : Int) = 2) by omega, show ¬ ((4 : Int) = 5) by omega, if_false]
            omega
        · rename_i hg
          rw [if_neg hg] at he hsz
          split
          · rename_i hbg
            rw [if_pos hbg] at he hsz
            have h1 := head_takeWhile h0 (letter_begins hbg)
            have h2 := hd0 beginsB hbg (fun c hc => letter_begins hc)
            unfold cutName at he hsz ⊢
            split
            · rename_i hl; rw [if_pos hl] at he hsz; exact sign he hsz
            · rename_i hl
              rw [if_neg hl] at he hsz
              split
              · rename_i hk
                rw [if_pos hk] at hsz
                refine ⟨by simp only [mayB, hk]; simp, hb.tw _, ?_⟩
                simp only [written, show ¬ ((6 : Int) = 1) by omega, show ¬ ((6 : Int) = 2) by omega, show ¬ ((6 : Int) = 5) by omega, if_false]
                omega
              · rename_i hk
                rw [if_neg hk] at he hsz
                split
                · rename_i hl; rw [if_pos hl] at he; simp [Cut.bad] at he
                · rename_i hl'
                  rw [if_neg hl'] at hsz
                  have := (nm _ beginsB h1 (by omega) (by rw [h2]; exact hbg)).resolve_right (fun h => h hidem)
                  have hk' : keysL.contains (zs.takeWhile letterB) = false := by simpa using hk
                  refine ⟨by simp only [mayB, this, hk']; simp [hl], hb.tw _, ?_⟩
                  simp only [written, show ¬ ((3 : Int) = 1) by omega, show ¬ ((3 : Int) = 2) by omega, show ¬ ((3 : Int) = 5) by omega, if_false]
                  omega
          · rename_i hbg
            rw [if_neg hbg] at he hsz
            exact sign he hsz

theorem joined_len : ∀ (w : Wd) (l : List Wd), (joined (w :: l)).length ≤ (written w).length + 1 + (joined l).length
  | w, [] => by simp [joined]
  | w, v :: t => by simp [joined]; omega
/-- What is read may be written, in not much more. -/
theorem lexA_may : ∀ (m : Nat) (zs : List Int) (a : Int) (ws : List Wd), zs.length ≤ m → Bytes8 zs → lexA zs a = .ok ws → (∀ w ∈ ws, mayB w = true ∧ Bytes8 w.s) ∧ (joined ws).length ≤ 11 * zs.length
  | _, [], a, ws, _, _, h => by
    simp [lexA_nil] at h
    subst h
    simp [joined]
  | m + 1, c :: t, a, ws, hl, hb, h => by
    simp only [List.length_cons] at hl
    have ht : Bytes8 t := fun z hz => hb z (by simp [hz])
    by_cases h1 : blankB c = true
    · rw [lexA_blank t a h1] at h
      obtain ⟨i1, i2⟩ := lexA_may m t _ ws (by omega) ht h
      exact ⟨i1, by simp; omega⟩
    · have h1' : blankB c = false := by simpa using h1
      by_cases h2 : noteB (c :: t) = true
      · cases hn : noteGo 0 0 (c :: t) with
        | none => rw [lexA_note_bad a h1' h2 hn] at h; cases h
        | some k =>
          rw [lexA_note a h1' h2 hn] at h
          have := noteGo_size _ _ _ _ hn
          obtain ⟨i1, i2⟩ := lexA_may m _ _ ws (by simp; omega) (hb.drop k) h
          refine ⟨i1, ?_⟩
          simp only [List.length_drop, List.length_cons] at i2 ⊢
          omega
      · have h2' : noteB (c :: t) = false := by simpa using h2
        by_cases h3 : (cutOne (c :: t)).e = 0
        · rw [lexA_word a h1' h2' h3] at h
          have hs := cutOne_size (zs := c :: t) (by simp) h3
          obtain ⟨m1, m2, m3⟩ := cutOne_may hb (by simp) h3 a
          cases hr : lexA ((c :: t).drop (cutOne (c :: t)).size) (a + (cutOne (c :: t)).size) with
          | bad e p => rw [hr] at h; cases h
          | ok vs =>
            rw [hr] at h
            simp only [Told.cons, Told.ok.injEq] at h
            subst h
            obtain ⟨i1, i2⟩ := lexA_may m _ _ vs (by simp only [List.length_drop, List.length_cons]; omega) (hb.drop _) hr
            refine ⟨fun w hw => ?_, ?_⟩
            · rcases List.mem_cons.1 hw with rfl | hw
              · exact ⟨m1, m2⟩
              · exact i1 w hw
            · have := joined_len ⟨(cutOne (c :: t)).k, (cutOne (c :: t)).n, a, (cutOne (c :: t)).s⟩ vs
              simp only [List.length_drop, List.length_cons] at i2 hs ⊢
              omega
        · rw [lexA_bad a h1' h2' h3] at h; cases h
/-- An error's place is in the text. -/
theorem lexA_place : ∀ (m : Nat) (zs : List Int) (a e p : Int), zs.length ≤ m → lexA zs a = .bad e p → e ≠ 0 ∧ a ≤ p ∧ p ≤ a + zs.length
  | _, [], a, e, p, _, h => by simp [lexA_nil] at h
  | m + 1, c :: t, a, e, p, hl, h => by
    simp only [List.length_cons] at hl
    by_cases h1 : blankB c = true
    · rw [lexA_blank t a h1] at h
      obtain ⟨i1, i2, i3⟩ := lexA_place m t _ e p (by omega) h
      exact ⟨i1, by omega, by simp; omega⟩
    · have h1' : blankB c = false := by simpa using h1
      by_cases h2 : noteB (c :: t) = true
      · cases hn : noteGo 0 0 (c :: t) with
        | none =>
          rw [lexA_note_bad a h1' h2 hn] at h
          simp only [Told.bad.injEq] at h
          obtain ⟨rfl, rfl⟩ := h
          simp; omega
        | some k =>
          rw [lexA_note a h1' h2 hn] at h
          have := noteGo_size _ _ _ _ hn
          obtain ⟨i1, i2, i3⟩ := lexA_place m _ _ e p (by simp; omega) h
          refine ⟨i1, by omega, ?_⟩
          simp only [List.length_drop, List.length_cons] at i3 this ⊢
          omega
      · have h2' : noteB (c :: t) = false := by simpa using h2
        by_cases h3 : (cutOne (c :: t)).e = 0
        · rw [lexA_word a h1' h2' h3] at h
          have hs := cutOne_size (zs := c :: t) (by simp) h3
          cases hr : lexA ((c :: t).drop (cutOne (c :: t)).size) (a + (cutOne (c :: t)).size) with
          | ok vs => rw [hr] at h; cases h
          | bad e' p' =>
            rw [hr] at h
            simp only [Told.cons, Told.bad.injEq] at h
            obtain ⟨rfl, rfl⟩ := h
            obtain ⟨i1, i2, i3⟩ := lexA_place m _ _ e' p' (by simp only [List.length_drop, List.length_cons]; omega) hr
            simp only [List.length_drop, List.length_cons] at i3 hs ⊢
            exact ⟨i1, by omega, by omega⟩
        · rw [lexA_bad a h1' h2' h3] at h
          simp only [Told.bad.injEq] at h
          obtain ⟨rfl, rfl⟩ := h
          exact ⟨h3, by omega, by simp; omega⟩

/-- Bytes below 128 are valid text. -/
theorem scan_low : ∀ (zs : List Int), (∀ z ∈ zs, 0 ≤ z ∧ z < 128) → scan zs = (zs, zs.length)
  | zs, h => by
    have ht : ∀ l : List Int, (∀ z ∈ l, 0 ≤ z ∧ z < 128) → textL l = l := by
      intro l
      induction l with
      | nil => intro _; rfl
      | cons c t ih =>
        intro hl
        have hc := hl c (by simp)
        rw [textL, ih fun z hz => hl z (by simp [hz])]
        simp [oneL, hc.2]
    have := scan_text zs fun n hn => ⟨(h n hn).1, by have := (h n hn).2; omega, by have := (h n hn).2; omega⟩
    rw [ht zs h] at this
    exact this
theorem letter_range {c : Int} (h : letterB c = true) : 0 ≤ c ∧ c < 128 := by
  unfold letterB smallB greatB digitB at h; simp at h; omega
theorem written_low {w : Wd} (hm : mayB w = true) (hb : Bytes8 w.s) : ∀ z ∈ written w, 0 ≤ z ∧ z < 128 := by
  obtain ⟨k, n, a, s⟩ := w
  have names : ∀ p, nameB p s = true → ∀ z ∈ s, 0 ≤ z ∧ z < 128 := fun p h z hz => by
    obtain ⟨_, _, _, h3⟩ := name_parts h
    have := takeWhile_all letterB s
    rw [h3] at this
    exact letter_range (this z hz)
  unfold mayB at hm
  unfold written
  dsimp only at hm hb ⊢
  by_cases k1 : k = 1
  · rw [if_pos k1]
    intro z hz
    unfold decL at hz
    have := takeWhile_all digitB (decGo 20 (if n < 0 then n + 2147483648 else n).toNat)
    rw [decGo_digits] at this
    have := this z hz
    unfold digitB at this
    simp at this
    omega
  rw [if_neg k1] at hm ⊢
  by_cases hn : n ≠ 0
  · rw [if_pos hn] at hm; cases hm
  rw [if_neg hn] at hm
  by_cases k2 : k = 2
  · rw [if_pos k2]
    intro z hz
    unfold quoted at hz
    simp only [List.cons_append, List.mem_cons, List.mem_append, List.not_mem_nil, or_false] at hz
    rcases hz with rfl | hz | rfl
    · omega
    · obtain ⟨q, hq, hz⟩ := List.mem_flatten.1 hz
      obtain ⟨c, hc, rfl⟩ := List.mem_map.1 hq
      have := hb c hc
      unfold quoteB at hz
      split at hz
      · simp at hz; omega
      · split at hz
        · simp at hz; omega
        · simp at hz; omega
    · omega
  rw [if_neg k2] at hm ⊢
  by_cases k3 : k = 3
  · subst k3
    simp only [if_true, Bool.and_eq_true] at hm
    rw [if_neg (by omega)]
    exact names _ hm.2
  rw [if_neg k3] at hm
  by_cases k4 : k = 4
  · subst k4
    rw [if_pos rfl] at hm
    rw [if_neg (by omega)]
    exact names _ hm
  rw [if_neg k4] at hm
  by_cases k5 : k = 5
  · rw [if_pos k5] at hm ⊢
    intro z hz
    rcases List.mem_cons.1 hz with rfl | hz
    · omega
    · exact names _ hm z hz
  rw [if_neg k5] at hm ⊢
  by_cases k6 : k = 6
  · rw [if_pos k6] at hm
    have hk : s ∈ keysL := by simpa using hm
    have : ∀ p ∈ keysL, ∀ z ∈ p, 0 ≤ z ∧ z < 128 := by decide
    exact this s hk
  rw [if_neg k6] at hm
  by_cases k7 : k = 7
  · rw [if_pos k7] at hm
    have hk : s ∈ signsL := by simpa using hm
    have : ∀ p ∈ signsL, ∀ z ∈ p, 0 ≤ z ∧ z < 128 := by decide
    exact this s hk
  rw [if_neg k7] at hm
  cases hm
theorem joined_low : ∀ l : List Wd, (∀ w ∈ l, mayB w = true ∧ Bytes8 w.s) → ∀ z ∈ joined l, 0 ≤ z ∧ z < 128
  | [], _, z, hz => by simp [joined] at hz
  | [w], h, z, hz => written_low (h w (by simp)).1 (h w (by simp)).2 z hz
  | w :: v :: t, h, z, hz => by
    rcases List.mem_append.1 (show z ∈ written w ++ 32 :: joined (v :: t) from hz) with hz | hz
    · exact written_low (h w (by simp)).1 (h w (by simp)).2 z hz
    · rcases List.mem_cons.1 hz with rfl | hz
      · omega
      · exact joined_low (v :: t) (fun x hx => h x (List.mem_cons_of_mem _ hx)) z hz
/-- What is written is read as it was, if it is not too long. -/
theorem lexP_joined {l : List Wd} (h : ∀ w ∈ l, mayB w = true ∧ Bytes8 w.s) (hl : (joined l).length ≤ 65536) :
    ∃ m, lexP (joined l) = .ok m ∧ m.map core = l.map core ∧ m.Pairwise (fun x y => x.at_ < y.at_) := by
  obtain ⟨m, h1, h2, _, h4⟩ := joined_back l 0 (fun w hw => (h w hw).1) (fun w hw => (h w hw).2)
  refine ⟨m, ?_, h2, h4⟩
  unfold lexP
  rw [if_neg (by omega), scan_low _ (joined_low l h), if_neg (by simp), h1]
theorem lexP_long {zs : List Int} (h : zs.length > 65536) : lexP zs = .bad 3 0 := by unfold lexP; rw [if_pos h]
/-- What is read, written, is read as it was. -/
theorem lexP_again {zs : List Int} (hb : Bytes8 zs) (hl : zs.length ≤ 3000) {ws : List Wd} (h : lexP zs = .ok ws) :
    (∀ w ∈ ws, mayB w = true ∧ Bytes8 w.s) ∧ (joined ws).length ≤ 33000 := by
  unfold lexP at h
  rw [if_neg (by omega)] at h
  split at h
  · cases h
  · obtain ⟨h1, h2⟩ := lexA_may _ zs 0 ws (Nat.le_refl _) hb h
    exact ⟨h1, by omega⟩
theorem lexP_place {zs : List Int} {e p : Int} (h : lexP zs = .bad e p) : e ≠ 0 ∧ 0 ≤ p ∧ p ≤ zs.length := by
  unfold lexP at h
  split at h
  · simp only [Told.bad.injEq] at h; omega
  · split at h
    · simp only [Told.bad.injEq] at h
      have := scan_le zs
      omega
    · have := lexA_place _ zs 0 e p (Nat.le_refl _) h
      omega
end Go.Proofs.YtojgibigmoaejaaDoor.Lex
