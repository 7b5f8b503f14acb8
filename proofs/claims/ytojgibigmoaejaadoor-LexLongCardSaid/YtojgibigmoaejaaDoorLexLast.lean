/-
  LEX: plain: what is behind a word, or a note, is valid text again: its last byte is below 128.
-/
import Derived.Test.YtojgibigmoaejaaDoorLexText
namespace Go.Proofs.YtojgibigmoaejaaDoor.Lex
open Go.Proofs.YtojgibigmoaejaaDoor.Utf
set_option linter.unusedSimpArgs false
set_option linter.unusedVariables false

theorem getD_dropJ (zs : List Int) (i j : Nat) : (zs.drop i).getD j 0 = zs.getD (i + j) 0 := (getD_drop0 zs i j).symm
theorem valid_low {zs : List Int} : Valid zs → ∀ k, 1 ≤ k → k ≤ zs.length → zs.getD (k - 1) 0 < 128 → Valid (zs.drop k) := by
  refine along (p := fun zs => Valid zs → ∀ k, 1 ≤ k → k ≤ zs.length → zs.getD (k - 1) 0 < 128 → Valid (zs.drop k)) ?_ ?_ zs
  · intro l h hv k h1 h2 _
    unfold Valid at hv
    rw [scan_none h] at hv
    simp at hv
    omega
  · intro l n m ha ih hv k h1 h2 h3
    obtain ⟨hr, ht, hk, hm1, _, hml⟩ := atL_some ha
    have hv' : Valid (l.drop m) := by
      unfold Valid at hv ⊢
      rw [scan_some ha] at hv
      simp only at hv
      rw [List.length_drop]; omega
    rcases Nat.lt_trichotomy k m with hlt | rfl | hgt
    · exfalso
      have hn : 128 ≤ n := by
        by_cases h' : n < 128
        · have : (oneL n).length = 1 := by simp [oneL, h']
          omega
        · omega
      obtain ⟨g0, gj⟩ := oneL_head hr hn
      have e : l.getD (k - 1) 0 = (oneL n).getD (k - 1) 0 := by
        rw [← ht, List.getD_eq_getElem?_getD, List.getD_eq_getElem?_getD, List.getElem?_take_of_lt (by omega)]
      rw [e] at h3
      rcases Nat.eq_zero_or_pos (k - 1) with h0 | h0
      · rw [h0] at h3; omega
      · have := gj (k - 1) h0 (by omega); omega
    · exact hv'
    · have := ih hv' (k - m) (by omega) (by rw [List.length_drop]; omega) (by rw [getD_dropJ, show m + (k - m - 1) = k - 1 by omega]; exact h3)
      rw [List.drop_drop, show m + (k - m) = k by omega] at this
      exact this

theorem takeWhile_last {p : Int → Bool} {zs : List Int} (h : 1 ≤ (zs.takeWhile p).length) : p (zs.getD ((zs.takeWhile p).length - 1) 0) = true := by
  have ha := takeWhile_all p zs
  have ht := takeWhile_take p zs
  have hle := takeWhile_le p zs
  generalize (zs.takeWhile p).length = n at *
  have hm : zs.getD (n - 1) 0 ∈ zs.takeWhile p := by
    rw [ht, getD_lt (show n - 1 < zs.length by omega)]
    rw [List.mem_take_iff_getElem]
    exact ⟨n - 1, by omega, rfl⟩
  exact ha _ hm
theorem text_last : ∀ (k : Nat) (l : List Int) (s : List Int) (n : Nat), textGo k l = some (s, n) → l.getD (n - 1) 0 = 34
  | _, [], _, _, h => by simp [textGo] at h
  | k + 1, c :: t, s, n, h => by
    simp only [textGo, Option.map_eq_some_iff] at h
    obtain ⟨⟨s', n'⟩, h, he⟩ := h
    simp only [Prod.mk.injEq] at he
    obtain ⟨rfl, rfl⟩ := he
    have h1 := (textGo_size _ _ _ _ h).1
    have := text_last k t _ _ h
    rw [show n' + 1 - 1 = (n' - 1) + 1 by omega, List.getD_cons_succ]; exact this
  | 0, c :: t, s, n, h => by
    simp only [textGo] at h
    split at h
    · simp only [Option.some.injEq, Prod.mk.injEq] at h
      obtain ⟨rfl, rfl⟩ := h
      simpa
    · split at h
      · split at h
        · cases h
        · rw [Option.map_eq_some_iff] at h
          obtain ⟨⟨s', n'⟩, h, he⟩ := h
          simp only [Prod.mk.injEq] at he
          obtain ⟨rfl, rfl⟩ := he
          have h1 := (textGo_size _ _ _ _ h).1
          have := text_last _ t _ _ h
          rw [show n' + 1 - 1 = (n' - 1) + 1 by omega, List.getD_cons_succ]; exact this
      · split at h
        · cases h
        · rw [Option.map_eq_some_iff] at h
          obtain ⟨⟨s', n'⟩, h, he⟩ := h
          simp only [Prod.mk.injEq] at he
          obtain ⟨rfl, rfl⟩ := he
          have h1 := (textGo_size _ _ _ _ h).1
          have := text_last _ t _ _ h
          rw [show n' + 1 - 1 = (n' - 1) + 1 by omega, List.getD_cons_succ]; exact this
theorem note_last : ∀ (d : Int) (k : Nat) (l : List Int) (n : Nat), noteGo d k l = some n → l.getD (n - 1) 0 = 41
  | _, _, [], _, h => by simp [noteGo] at h
  | d, k + 1, c :: t, n, h => by
    simp only [noteGo, Option.map_eq_some_iff] at h
    obtain ⟨n', h, rfl⟩ := h
    have h1 := (noteGo_size _ _ _ _ h).1
    have := note_last d 0 t _ h
    rw [show n' + 1 - 1 = (n' - 1) + 1 by omega, List.getD_cons_succ]; exact this
  | d, 0, c :: t, n, h => by
    simp only [noteGo] at h
    split at h
    · rw [Option.map_eq_some_iff] at h
      obtain ⟨n', h, rfl⟩ := h
      have h1 := (noteGo_size _ _ _ _ h).1
      have := note_last _ _ t _ h
      rw [show n' + 1 - 1 = (n' - 1) + 1 by omega, List.getD_cons_succ]; exact this
    · split at h
      · rename_i hc
        split at h
        · simp only [Option.some.injEq] at h
          subst h
          cases t with
          | nil => simp at hc
          | cons b u => simp at hc; simpa using hc.2
        · rw [Option.map_eq_some_iff] at h
          obtain ⟨n', h, rfl⟩ := h
          have h1 := (noteGo_size _ _ _ _ h).1
          have := note_last _ _ t _ h
          rw [show n' + 1 - 1 = (n' - 1) + 1 by omega, List.getD_cons_succ]; exact this
      · rw [Option.map_eq_some_iff] at h
        obtain ⟨n', h, rfl⟩ := h
        have h1 := (noteGo_size _ _ _ _ h).1
        have := note_last _ _ t _ h
        rw [show n' + 1 - 1 = (n' - 1) + 1 by omega, List.getD_cons_succ]; exact this
theorem sign_last {zs : List Int} (h : (cutSign zs).e = 0) : zs.getD ((cutSign zs).size - 1) 0 < 128 := by
  unfold cutSign at h ⊢
  cases hf : signsL.find? (fun p => decide (zs.take p.length = p)) with
  | none => rw [hf] at h; simp [Cut.bad] at h
  | some p =>
    obtain ⟨h1, _, h3, h4⟩ := sign_size hf
    simp only
    have hb : ∀ q ∈ signsL, q.getD (q.length - 1) 0 < 128 := by decide
    have := hb p h4
    generalize hn : p.length = n at *
    rw [← h3, List.getD_eq_getElem?_getD, List.getElem?_take_of_lt (by omega), ← List.getD_eq_getElem?_getD] at this
    exact this
theorem cutOne_last {zs : List Int} (h0 : zs ≠ []) (h : (cutOne zs).e = 0) : zs.getD ((cutOne zs).size - 1) 0 < 128 := by
  have hsz := (cutOne_size h0 h).1
  unfold cutOne at h hsz ⊢
  split
  · rename_i hd
    rw [if_pos hd] at h hsz
    unfold cutInt at h hsz ⊢
    split
    · rename_i hn; rw [hn] at h; simp [Cut.bad] at h
    · rename_i n hn
      rw [hn] at hsz
      exact digit_low (takeWhile_last hsz)
  · rename_i hd
    rw [if_neg hd] at h hsz
    split
    · rename_i hq
      rw [if_pos hq] at h hsz
      unfold cutText at h hsz ⊢
      split
      · rename_i hn; rw [hn] at h; simp [Cut.bad] at h
      · rename_i s k hn
        rw [hn] at h hsz
        have h1 := (textGo_size _ _ _ _ hn).1
        have h2 := text_last _ _ _ _ hn
        split
        · rename_i hl; simp [Cut.bad, hl] at h
        · simp only
          rw [getD_dropJ, show 1 + (k - 1) = 1 + k - 1 by omega] at h2
          omega
    · rename_i hq
      rw [if_neg hq] at h hsz
      split
      · rename_i hv
        rw [if_pos hv] at h hsz
        unfold cutVar at h hsz ⊢
        split
        · rename_i hn; rw [if_pos hn] at h; simp [Cut.bad] at h
        · rename_i hn
          rw [if_neg hn] at h hsz
          split
          · rename_i hl; rw [if_pos hl] at h; simp [Cut.bad] at h
          · simp only
            have h1 : 1 ≤ ((zs.drop 1).takeWhile letterB).length := by
              rcases Nat.eq_zero_or_pos ((zs.drop 1).takeWhile letterB).length with h0 | h0
              · exact absurd (.inl h0) hn
              · exact h0
            have := letter_low (takeWhile_last h1)
            rw [getD_dropJ] at this
            generalize ((zs.drop 1).takeWhile letterB).length = m at *
            rw [show 1 + m - 1 = 1 + (m - 1) by omega]
            exact this
      · rename_i hv
        rw [if_neg hv] at h hsz
        split
        · rename_i hg
          rw [if_pos hg] at h hsz
          unfold cutCon at h hsz ⊢
          split
          · rename_i hl; rw [if_pos hl] at h; simp [Cut.bad] at h
          · rename_i hl
            rw [if_neg hl] at hsz
            exact letter_low (takeWhile_last hsz)
        · rename_i hg
          rw [if_neg hg] at h hsz
          split
          · rename_i hbg
            rw [if_pos hbg] at h hsz
            unfold cutName at h hsz ⊢
            split
            · rename_i hl; rw [if_pos hl] at h; exact sign_last h
            · rename_i hl
              rw [if_neg hl] at h hsz
              split
              · rename_i hk; rw [if_pos hk] at hsz; exact letter_low (takeWhile_last hsz)
              · rename_i hk
                rw [if_neg hk] at h hsz
                split
                · rename_i hl; rw [if_pos hl] at h; simp [Cut.bad] at h
                · rename_i hl'; rw [if_neg hl'] at hsz; exact letter_low (takeWhile_last hsz)
          · rename_i hbg
            rw [if_neg hbg] at h
            exact sign_last h
end Go.Proofs.YtojgibigmoaejaaDoor.Lex
