/-
  LEX: texts cut off: by contract.
-/
import Derived.Test.YtojgibigmoaejaaDoorLexEsc
import Derived.Test.YtojgibigmoaejaaDoorAppend
import Derived.Test.YtojgibigmoaejaaDoorStrs
import Derived.Test.YtojgibigmoaejaaDoorLexBackQ
namespace Go.Proofs.YtojgibigmoaejaaDoor.Lex
open Go.RowKit Go.Proofs.YtojgibigmoaejaaDoor.Utf
set_option linter.unusedSimpArgs false
set_option linter.unusedVariables false

theorem rune_cells {n : Int} (h : Rune n) : Lib.runeCells n = (oneL n).map (Value.int .u8) := by
  obtain ⟨h0, h1, h2⟩ := h
  unfold Lib.runeCells oneL
  by_cases a : n < 128
  · rw [if_pos a, Lib.encodeRuneZ_one h0 (by omega)]
  by_cases b : n < 2048
  · rw [if_neg a, if_pos b, Lib.encodeRuneZ_two (by omega) (by omega)]
  by_cases d : n < 65536
  · rw [if_neg a, if_neg b, if_pos d, Lib.encodeRuneZ_three (by omega)]
  · rw [if_neg a, if_neg b, if_neg d, Lib.encodeRuneZ_four (by omega) h1]
theorem append_rune {base : Nat} {w : World} {v : Value} {acc : List Int} (n : Int) (hr : Rune n) (hown : Own base w v acc) (hl : acc.length ≤ 100000) (hbase : base ≤ w.heap.size) :
    Calls Tryd.prog 51 #[v, .int .i32 n] w fun e w' => ∃ v', e = .returned v' ∧ Own base w' v' (acc ++ oneL n) ∧ Below base w w' ∧ base ≤ w'.heap.size := by
  have hr' := hr
  obtain ⟨h0, h1, _⟩ := hr'
  refine (Tryd.utf8_AppendRune_plain base v acc.length (acc.map (Value.int .u8)) n (by omega) (by omega) w hown (by omega) hbase).mono ?_
  rintro e w' ⟨v', rfl, ho, o, hg⟩
  have hb := below_append (base := base) (w := w) hown (Below.refl _ _) o hbase hg
  refine ⟨v', rfl, ?_, hb, Nat.le_trans hbase hb.size⟩
  unfold Own
  rw [rune_cells hr, List.length_map] at ho
  rw [List.length_append, List.map_append]
  exact ho
theorem Own.iter {base b : Nat} {w : World} {v : Value} {zs : List Int} (h : Own base w v zs) (hb : b < base) (s : ByteArray) (p : Nat) : Own base (w.iterAt b s p) v zs := by
  refine ⟨h.1, ?_⟩
  rcases h.2 with h0 | ⟨g, cap, cur, hv, hg, hh, rest⟩
  · exact .inl h0
  · exact .inr ⟨g, cap, cur, hv, hg, (Lib.iterAt_other w b g s p (by omega)).trans hh, rest⟩
theorem WBox.iter {w : World} {b k : Nat} (h : WBox w b) (hb : b ≠ k) (s : ByteArray) (p : Nat) : WBox (w.iterAt k s p) b := ⟨(Lib.iterAt_other w k b s p hb).trans h.row⟩
theorem Own.none (base : Nat) (w : World) : Own base w (.slice none 0 0) [] := World.ownsRow_nil _ _ _ _

theorem escL_parts {l : List Int} {b : Int} {k : Nat} (h : escL l = some (b, k)) : 1 ≤ k ∧ k ≤ 3 ∧ k ≤ l.length ∧ ∀ j, j < k → l.getD j 0 < 128 := by
  cases l with
  | nil => simp [escL] at h
  | cons c t =>
    simp only [escL] at h
    split at h
    · simp at h; obtain ⟨_, rfl⟩ := h
      refine ⟨by omega, by omega, by simp, fun j hj => ?_⟩
      obtain rfl : j = 0 := by omega
      simp; omega
    · split at h
      · simp at h; obtain ⟨_, rfl⟩ := h
        refine ⟨by omega, by omega, by simp, fun j hj => ?_⟩
        obtain rfl : j = 0 := by omega
        simp; omega
      · split at h
        · simp at h; obtain ⟨_, rfl⟩ := h
          refine ⟨by omega, by omega, by simp, fun j hj => ?_⟩
          obtain rfl : j = 0 := by omega
          simp; omega
        · split at h
          · split at h
            · rename_i hd
              simp only [Bool.and_eq_true, decide_eq_true_eq] at hd
              obtain ⟨⟨⟨h1, h2⟩, h3⟩, h4⟩ := hd
              simp at h; obtain ⟨_, rfl⟩ := h
              have := digit_low h1
              have := digit_low h2
              have := digit_low h3
              refine ⟨by omega, by omega, by simp, fun j hj => ?_⟩
              obtain rfl | rfl | rfl : j = 0 ∨ j = 1 ∨ j = 2 := by omega
              · simpa
              · simpa
              · simpa
            · cases h
          · cases h
/-- Bytes from 128 on go by. -/
theorem text_pass : ∀ (xs r : List Int), (∀ z ∈ xs, 128 ≤ z) → textGo 0 (xs ++ r) = (textGo 0 r).map fun q => (xs ++ q.1, q.2 + xs.length)
  | [], r, _ => by simp
  | x :: xs, r, h => by
    have hx := h x (by simp)
    have ih := text_pass xs r fun z hz => h z (by simp [hz])
    simp only [List.cons_append, textGo, if_neg (show ¬ x = 34 by omega), if_neg (show ¬ x = 92 by omega), if_neg (show ¬ (x < 32 ∨ x = 127) by omega), ih]
    cases textGo 0 r with
    | none => rfl
    | some q => simp; omega
def Adv (acc : List Int) (p : Nat) (x : Option (List Int × Nat)) : Option (List Int × Nat) := x.map fun r => (acc ++ r.1, r.2 + p)
theorem adv_map (acc xs : List Int) (p k : Nat) (x : Option (List Int × Nat)) : Adv acc p (x.map fun r => (xs ++ r.1, r.2 + k)) = Adv (acc ++ xs) (p + k) x := by
  cases x with
  | none => rfl
  | some r => simp [Adv]; omega
theorem adv_cons (acc : List Int) (c : Int) (p : Nat) (x : Option (List Int × Nat)) : Adv acc p (x.map fun r => (c :: r.1, r.2 + 1)) = Adv (acc ++ [c]) (p + 1) x := adv_map acc [c] p 1 x
theorem adv_skip (acc : List Int) (p : Nat) (x : Option (List Int × Nat)) : Adv acc p (x.map fun r => (r.1, r.2 + 1)) = Adv acc (p + 1) x := by
  cases x with
  | none => rfl
  | some r => simp [Adv]; omega
theorem text_skip {zs : List Int} (k : Nat) (h0 : zs ≠ []) : textGo (k + 1) zs = (textGo k (zs.drop 1)).map fun r => (r.1, r.2 + 1) := by
  cases zs with
  | nil => simp at h0
  | cons a t => simp [textGo]
/-- A whole character goes by. -/
theorem text_rune {zs : List Int} {n : Int} {k : Nat} (ha : atL zs = some (n, k)) (h1 : n ≠ 34) (h2 : n ≠ 92) (h3 : ¬ (n < 32 ∨ n = 127)) : textGo 0 zs = (textGo 0 (zs.drop k)).map fun r => (oneL n ++ r.1, r.2 + k) := by
  obtain ⟨hr, ht, hk, hk1, _, hkl⟩ := atL_some ha
  have hz : zs = oneL n ++ zs.drop k := by rw [← ht, List.take_append_drop]
  by_cases hn : n < 128
  · have e : oneL n = [n] := by simp [oneL, hn]
    rw [e] at hz hk ⊢
    simp at hk
    subst hk
    conv => lhs; rw [hz]
    simp only [List.cons_append, List.nil_append, textGo, if_neg h1, if_neg h2, if_neg h3]
  · conv => lhs; rw [hz]
    rw [text_pass, hk]
    intro z hz'
    obtain ⟨i, hi, rfl⟩ := List.getElem_of_mem hz'
    obtain ⟨g0, gj⟩ := oneL_head hr (by omega)
    rcases Nat.eq_zero_or_pos i with rfl | h0
    · rw [List.getD_eq_getElem?_getD, List.getElem?_eq_getElem hi] at g0; simp at g0; omega
    · have := gj i h0 hi
      rw [List.getD_eq_getElem?_getD, List.getElem?_eq_getElem hi] at this; simpa using this
/-- Text that is valid begins with a character, and what is behind it is valid. -/
def Valid (zs : List Int) : Prop := (scan zs).2 = zs.length
theorem Valid.head {zs : List Int} (h : Valid zs) (h0 : zs ≠ []) : ∃ n k, atL zs = some (n, k) ∧ Valid (zs.drop k) := by
  cases ha : atL zs with
  | none =>
    unfold Valid at h
    rw [scan_none ha] at h
    exact absurd (List.eq_nil_of_length_eq_zero h.symm) h0
  | some q =>
    obtain ⟨n, k⟩ := q
    obtain ⟨_, _, _, _, _, hkl⟩ := atL_some ha
    refine ⟨n, k, rfl, ?_⟩
    unfold Valid at h ⊢
    rw [scan_some ha] at h
    simp only at h
    rw [List.length_drop]; omega
theorem Valid.byte {zs : List Int} (h : Valid zs) (hb : ∀ z ∈ zs, 0 ≤ z ∧ z < 256) (h0 : zs ≠ []) (h1 : zs.getD 0 0 < 128) : Valid (zs.drop 1) := by
  obtain ⟨n, k, ha, hv⟩ := h.head h0
  cases zs with
  | nil => simp at h0
  | cons c t =>
    rw [atL_low t (hb c (by simp)).1 (by simpa using h1)] at ha
    simp only [Option.some.injEq, Prod.mk.injEq] at ha
    obtain ⟨_, rfl⟩ := ha
    exact hv
end Go.Proofs.YtojgibigmoaejaaDoor.Lex
