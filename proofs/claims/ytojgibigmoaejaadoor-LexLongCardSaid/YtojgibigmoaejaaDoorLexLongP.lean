/-
  LEX: texts that are just too long, or just not: plain.
-/
import Derived.Test.YtojgibigmoaejaaDoorLexTells
import Derived.Test.YtojgibigmoaejaaDoorLexBackQ
namespace Go.Proofs.YtojgibigmoaejaaDoor.Lex
open Go.RowKit Go.Proofs.YtojgibigmoaejaaDoor.Utf
set_option linter.unusedSimpArgs false
set_option linter.unusedVariables false

theorem lexP_low {zs : List Int} (h : ∀ z ∈ zs, 0 ≤ z ∧ z < 128) (hl : ¬ zs.length > 65536) : lexP zs = lexA zs 0 := by
  unfold lexP
  rw [if_neg hl, scan_low zs h, if_neg (by simp)]
theorem blanks_word : ∀ (n : Nat) (a : Int), lexA (List.replicate n 32 ++ [97]) a = .ok [⟨3, 0, a + n, [97]⟩]
  | 0, a => by
    show lexA [97] a = _
    rw [lexA_word (c := 97) (t := []) a rfl rfl (by decide +kernel)]
    rw [show (cutOne [97]) = ⟨3, 0, [97], 1, 0⟩ by decide +kernel]
    show Told.cons _ (lexA [] _) = _
    rw [lexA_nil]
    simp [Told.cons]
  | n + 1, a => by
    rw [List.replicate_succ, List.cons_append, lexA_blank _ _ rfl, blanks_word n (a + 1)]
    simp; omega
theorem tlong_0 (n : Nat) : (n + 1 > 65536 → lexP (List.replicate n 32 ++ [97]) = .bad 3 0) ∧ (¬ n + 1 > 65536 → (lexP (List.replicate n 32 ++ [97])).e = 0) := by
  have hl : (List.replicate n (32 : Int) ++ [97]).length = n + 1 := by simp
  refine ⟨fun h => lexP_long (by rw [hl]; exact h), fun h => ?_⟩
  rw [lexP_low (fun z hz => by
    rcases List.mem_append.1 hz with hz | hz
    · rw [(List.mem_replicate.1 hz).2]; omega
    · rw [List.mem_singleton.1 hz]; omega) (by rw [hl]; exact h), blanks_word]
  rfl
theorem tlong_1 : ∀ k : Fin 5, (lexP (List.replicate (62 + k) 97)).e = if k.val > 2 then 255 else 0 := by decide +kernel
theorem tlong_2 : ∀ k : Fin 5, (lexP (List.replicate (62 + k) 65)).e = if k.val > 2 then 255 else 0 := by decide +kernel
theorem tlong_3 : ∀ k : Fin 5, (lexP (39 :: List.replicate (62 + k) 97)).e = if k.val > 2 then 255 else 0 := by decide +kernel
theorem text_esc1 : ∀ n : Nat, textGo 0 ((List.replicate n ([92, 48, 48, 49] : List Int)).flatten ++ [34]) = some (List.replicate n 1, 4 * n + 1)
  | 0 => rfl
  | n + 1 => by
    rw [List.replicate_succ, List.flatten_cons, List.append_assoc]
    show textGo 0 (92 :: 48 :: 48 :: 49 :: ((List.replicate n ([92, 48, 48, 49] : List Int)).flatten ++ [34])) = _
    have he : escL (48 :: 48 :: 49 :: ((List.replicate n ([92, 48, 48, 49] : List Int)).flatten ++ [34])) = some (1, 3) := rfl
    simp only [textGo, show ¬ (92 : Int) = 34 by decide, if_false, if_true, he, text_esc1 n, Option.map_some, Option.some.injEq, Prod.mk.injEq, List.replicate_succ, true_and]
    omega
theorem tlong_4 (n : Nat) (h9 : n ≤ 5000) : (lexP (34 :: ((List.replicate n ([92, 48, 48, 49] : List Int)).flatten ++ [34]))).e = if n > 4096 then 255 else 0 := by
  have hf : ((List.replicate n ([92, 48, 48, 49] : List Int)).flatten).length = 4 * n := by
    induction n with
    | zero => rfl
    | succ n ih => rw [List.replicate_succ, List.flatten_cons, List.length_append, ih (by omega)]; simp; omega
  obtain ⟨t, ht⟩ : ∃ t, t = (List.replicate n ([92, 48, 48, 49] : List Int)).flatten ++ [34] := ⟨_, rfl⟩
  have hlt : t.length = 4 * n + 1 := by rw [ht, List.length_append, hf]; rfl
  have hlow : ∀ z ∈ (34 :: t : List Int), 0 ≤ z ∧ z < 128 := fun z hz => by
    rw [ht] at hz
    simp only [List.mem_cons, List.mem_append, List.mem_flatten, List.mem_replicate, List.not_mem_nil, or_false] at hz
    rcases hz with rfl | ⟨l, ⟨_, rfl⟩, hz⟩ | rfl
    · omega
    · simp at hz; omega
    · omega
  have hg : textGo 0 t = some (List.replicate n 1, 4 * n + 1) := by rw [ht]; exact text_esc1 n
  rw [← ht]
  rw [lexP_low hlow (by simp only [List.length_cons, hlt]; omega)]
  have hone : cutOne (34 :: t) = cutText (34 :: t) := one_text rfl
  have hnb : noteB (34 :: t) = false := by
    unfold noteB
    refine decide_eq_false fun hh => ?_
    rw [List.take_succ_cons] at hh
    have := (List.cons.inj hh).1
    omega
  by_cases h : n > 4096
  · have hc : cutOne (34 :: t) = .bad 255 := hone.trans (ctext_long (z := 34 :: t) (s := List.replicate n 1) (k := 4 * n + 1) hg (by simpa using h))
    rw [lexA_bad _ rfl hnb (by rw [hc]; decide), hc, if_pos h]
    rfl
  · have hc : cutOne (34 :: t) = ⟨2, 0, List.replicate n 1, 1 + (4 * n + 1), 0⟩ := hone.trans (ctext_ok (z := 34 :: t) (s := List.replicate n 1) (k := 4 * n + 1) hg (by simpa using h))
    rw [lexA_word _ rfl hnb (by rw [hc]), hc, if_neg h]
    simp only
    rw [List.drop_eq_nil_of_le (by simp only [List.length_cons, hlt]; omega), lexA_nil]
    rfl
end Go.Proofs.YtojgibigmoaejaaDoor.Lex
