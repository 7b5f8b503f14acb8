/-
  STACK: what is pushed is popped; a list that is entered is left: as plain facts on stands.
-/
import Derived.Test.YtnfpfagojeieeaaStkPlain
namespace Go.Proofs.Ytnfpfagojeieeaa.Stk
set_option linter.unusedVariables false

theorem badF_shift {h h' b : Int} {f : Fr} (hv : badF h b f = false) (hb : f.ba ≤ h') : badF h' b f = false := by
  unfold badF at hv ⊢
  simp only [Bool.or_eq_false_iff, decide_eq_false_iff_not] at hv ⊢
  exact ⟨⟨hv.1.1, by omega⟩, hv.2⟩
theorem badL_shift {h h' : Int} : ∀ {b : Int} {l : List Fr}, badL h b l = false → (∀ f ∈ l, f.ba ≤ h') → badL h' b l = false
  | _, [], _, _ => rfl
  | b, g :: l, hv, hb => by
    simp only [badL, Bool.or_eq_false_iff] at hv ⊢
    exact ⟨badF_shift hv.1 (hb g (by simp)), badL_shift hv.2 (fun f hf => hb f (by simp [hf]))⟩
theorem valid_parts {h : Int} {l : List Fr} (hv : valid h l = true) : ∃ g r, l = g :: r ∧ 0 ≤ h ∧ h ≤ 1073741824 ∧ r.length + 1 ≤ 1000 ∧ badFirst g = false ∧ badL h 0 r = false := by
  unfold valid at hv
  simp only [Bool.and_eq_true, decide_eq_true_eq, Bool.not_eq_true'] at hv
  obtain ⟨⟨h1, h2⟩, h3⟩ := hv
  cases l with
  | nil => simp [badAll] at h3
  | cons g r =>
    simp only [badAll, Bool.or_eq_false_iff, decide_eq_false_iff_not] at h3
    exact ⟨g, r, rfl, h1, h2, by omega, h3.2.1, h3.2.2⟩
theorem valid_of {h : Int} {g : Fr} {r : List Fr} (h1 : 0 ≤ h) (h2 : h ≤ 1073741824) (h3 : r.length + 1 ≤ 1000) (h4 : badFirst g = false) (h5 : badL h 0 r = false) : valid h (g :: r) = true := by
  unfold valid
  simp only [badAll, h4, h5, Bool.or_false, Bool.and_eq_true, decide_eq_true_eq, Bool.not_eq_true', decide_eq_false_iff_not]
  exact ⟨⟨h1, h2⟩, by omega⟩
theorem valid_shift {h h' : Int} {l : List Fr} (hv : valid h l = true) (h0 : 0 ≤ h') (h1 : h' ≤ 1073741824) (hb : ∀ f ∈ l, f.ba ≤ h') : valid h' l = true := by
  obtain ⟨g, r, rfl, _, _, h3, h4, h5⟩ := valid_parts hv
  exact valid_of h0 h1 h3 h4 (badL_shift h5 (fun f hf => hb f (by simp [hf])))
theorem lastF_cons (f g : Fr) (l : List Fr) : lastF (f :: g :: l) = lastF (g :: l) := by
  unfold lastF
  simp
theorem lastF_snoc (l : List Fr) (f : Fr) : lastF (l ++ [f]) = f := by
  unfold lastF
  simp
theorem last_most {h : Int} : ∀ (r : List Fr) (g : Fr), badL h g.ba r = false → g.ba ≤ (lastF (g :: r)).ba ∧ ∀ f ∈ r, f.ba ≤ (lastF (g :: r)).ba
  | [], g, _ => ⟨by simp [lastF], by simp⟩
  | f :: r, g, hv => by
    simp only [badL, Bool.or_eq_false_iff] at hv
    obtain ⟨_, h2, _⟩ := badF_no hv.1
    obtain ⟨h3, h4⟩ := last_most r f hv.2
    rw [lastF_cons]
    refine ⟨by omega, fun x hx => ?_⟩
    rcases List.mem_cons.1 hx with rfl | hx
    · exact h3
    · exact h4 x hx
theorem bases_last {h : Int} {l : List Fr} (hv : valid h l = true) : ∀ f ∈ l, f.ba ≤ (lastF l).ba := by
  obtain ⟨g, r, rfl, _, _, h3, h4, h5⟩ := valid_parts hv
  have hg : g.ba = 0 := by
    unfold badFirst at h4
    simp only [Bool.or_eq_false_iff, decide_eq_false_iff_not, ne_eq, Decidable.not_not] at h4
    exact h4.1.2
  rw [← hg] at h5
  obtain ⟨h6, h7⟩ := last_most r g h5
  intro f hf
  rcases List.mem_cons.1 hf with rfl | hf
  · exact h6
  · exact h7 f hf
theorem badL_snoc {h : Int} : ∀ (r : List Fr) (g f : Fr), badL h g.ba (r ++ [f]) = (badL h g.ba r || badF h (lastF (g :: r)).ba f)
  | [], g, f => by simp [badL, lastF]
  | x :: r, g, f => by
    rw [List.cons_append]
    simp only [badL]
    rw [badL_snoc r x f, lastF_cons, Bool.or_assoc]
/-- A list that is entered. -/
theorem valid_enter {h : Int} {l : List Fr} {op re : Int} (d : Bool) (hv : valid h l = true) (ho : opens op = true) (hr : wrongRe re = false) (hl : l.length < 1000) : valid h (l ++ [⟨op, h, re, d⟩]) = true := by
  have hlast := lastF_fine hv
  obtain ⟨g, r, rfl, h1, h2, h3, h4, h5⟩ := valid_parts hv
  have hg : g.ba = 0 := by
    unfold badFirst at h4
    simp only [Bool.or_eq_false_iff, decide_eq_false_iff_not, ne_eq, Decidable.not_not] at h4
    exact h4.1.2
  simp only [List.length_cons] at hl
  refine valid_of h1 h2 (by simp; omega) h4 ?_
  show badL h 0 (r ++ [_]) = false
  rw [← hg, badL_snoc, hg, h5, Bool.false_or]
  unfold badF
  simp only [ho, hr, Bool.not_true, Bool.or_false, Bool.false_or, Bool.or_eq_false_iff, decide_eq_false_iff_not]
  exact ⟨by have := hlast.2.1; omega, by omega⟩
theorem without_push {h n : Int} {f : Fr} (h0 : f.ba ≤ h) : without (h + n) n f = (h, 0) := by
  unfold without
  rw [if_neg (fun hh => by have := hh.1; omega), if_pos (by omega)]
  simp only [Prod.mk.injEq, and_true]
  omega
/-- What is pushed is popped. -/
theorem pop_push {h n : Int} {l : List Fr} (hv : valid h l = true) (h0 : 0 ≤ n) (h1 : h + n ≤ 1073741824) : popR (h + n) l n = ⟨h, l, 0⟩ := by
  have hf := lastF_fine hv
  have ⟨hh, _⟩ := valid_yes hv
  have hv2 : valid (h + n) l = true := valid_shift hv (by omega) h1 (fun f hm => by have := (valid_fine hv f hm).2.1; omega)
  unfold popR
  rw [if_neg (by simp [hv2]), if_neg (by omega), without_push hf.2.1]
  rfl
/-- What is popped may be. -/
theorem pop_valid {h n x : Int} {l : List Fr} (hv : valid h l = true) (h0 : 0 ≤ n) (hw : without h n (lastF l) = (x, 0)) : valid x l = true ∧ x ≤ h := by
  have hf := lastF_fine hv
  obtain ⟨hh0, hh1, _⟩ := valid_yes hv
  obtain ⟨g0, g1, _⟩ := hf
  have hx : (lastF l).ba ≤ x ∧ x ≤ h := by
    unfold without at hw
    split at hw
    · simp at hw
    · split at hw
      · simp only [Prod.mk.injEq, and_true] at hw; omega
      · simp only [Prod.mk.injEq, and_true] at hw; omega
  exact ⟨valid_shift hv (by omega) (by omega) (fun f hm => by have := bases_last hv f hm; omega), hx.2⟩
end Go.Proofs.Ytnfpfagojeieeaa.Stk
