/-
  STACK: Check, the program's and the document's, by contract.
-/
import Derived.Test.YtnfpfagojeieeaaStkCheck
namespace Go.Proofs.Ytnfpfagojeieeaa.Stk
open Go.RowKit
set_option linter.unusedVariables false

theorem chk_low {h : Int} {l : List Fr} (g : h < 0) : chk h l = 2 := by unfold chk valid; rw [show decide (0 ≤ h) = false by simp; omega]; simp
theorem chk_high {h : Int} {l : List Fr} (g : 1073741824 < h) : chk h l = 2 := by unfold chk valid; rw [show decide (h ≤ 1073741824) = false by simp; omega]; simp
theorem chk_in {h : Int} {l : List Fr} (g0 : ¬ h < 0) (g1 : ¬ 1073741824 < h) : chk h l = if badAll h l then 2 else 0 := by
  unfold chk valid
  rw [show decide (0 ≤ h) = true by simp; omega, show decide (h ≤ 1073741824) = true by simp; omega]
  cases badAll h l <;> rfl
set_option maxHeartbeats 2000000 in
theorem check_any (h : Int) (a : Option Addr) (n c : Nat) (l : List Fr) (w : World) (hs : StAt w.heap.size w a n c l) :
    Calls Try.prog 23 #[.agg #[.int .i64 h, .slice a n c]] w fun e w' => e = .returned (.int .i64 (chk h l)) ∧ Below w.heap.size w w' := by
  have HB1 := hid ((Below.refl w.heap.size w).alloc (Nat.le_refl _) (.cells #[.int .i64 h, .slice a n c] 24))
  have CW := hid (wrongFrames_any h a n c l (w.alloc (.cells #[.int .i64 h, .slice a n c] 24)) (hs.on HB1.out))
  have CH := hid (fun W => wrongHeight_any h W)
  obtain ⟨q, hq⟩ : ∃ q, wrongH h = q := ⟨_, rfl⟩
  rw [hq] at CH
  have x0 : (w.alloc (.cells #[.int .i64 h, .slice a n c] 24)).cell? ⟨w.heap.size, 0, none⟩ = some (.int .i64 h) := by go_simp
  have x1 : (w.alloc (.cells #[.int .i64 h, .slice a n c] 24)).cell? ⟨w.heap.size, 1, none⟩ = some (.slice a n c) := by go_simp
  have HQ := hid hq
  have HI := hid (fun g0 g1 => chk_in (h := h) (l := l) g0 g1)
  have HT := hid (fun g => chk_low (h := h) (l := l) g)
  have HT2 := hid (fun g => chk_high (h := h) (l := l) g)
  obtain ⟨B, hB⟩ : ∃ B, badAll h l = B := ⟨_, rfl⟩
  obtain ⟨R, hR⟩ : ∃ R, chk h l = R := ⟨_, rfl⟩
  rw [hB] at CW HI
  rw [hR] at HI HT HT2 ⊢
  clear hq hs hB hR
  cases q with
  | true =>
    have HR : Hid (R = 2) := hid (by
      have h := HQ.out
      simp only [wrongH, Bool.or_eq_true, decide_eq_true_eq] at h
      exact h.elim HT.out HT2.out)
    clear HQ HI HT HT2 CW
    go_enter Try.func23, Try.ntmps23
    go_wp2_with fail
    refine (CH.out _).mono ?_
    rintro e w1 ⟨rfl, rfl⟩
    go_wp2
    go_ret
    exact ⟨ret_int HR.out.symm, HB1.out⟩
  | false =>
    have HR : Hid (R = if B then 2 else 0) := hid (by
      have h := HQ.out
      simp only [wrongH, Bool.or_eq_false_iff, decide_eq_false_iff_not] at h
      exact HI.out h.1 h.2)
    clear HQ HI HT HT2
    cases B with
    | true =>
      have HF : Hid (R = 2) := HR.out
      clear HR
      go_enter Try.func23, Try.ntmps23
      go_wp2_with fail
      refine (CH.out _).mono ?_
      rintro e w1 ⟨rfl, rfl⟩
      go_wp2_with fail
      refine CW.out.mono ?_
      rintro e w1 ⟨rfl, hb⟩
      have HB := hid (HB1.out.trans (hb.mono HB1.out.size))
      clear hb
      go_wp2
      go_ret
      exact ⟨ret_int HF.out.symm, HB.out⟩
    | false =>
      have HF : Hid (R = 0) := HR.out
      clear HR
      go_enter Try.func23, Try.ntmps23
      go_wp2_with fail
      refine (CH.out _).mono ?_
      rintro e w1 ⟨rfl, rfl⟩
      go_wp2_with fail
      refine CW.out.mono ?_
      rintro e w1 ⟨rfl, hb⟩
      have HB := hid (HB1.out.trans (hb.mono HB1.out.size))
      clear hb
      go_wp2
      go_ret
      exact ⟨ret_int HF.out.symm, HB.out⟩

/-- What is left to look at from the k-th frame on. -/
def restP (h : Int) (l : List Fr) (k : Nat) : Bool := if k = 0 then (match l with | [] => false | f :: l' => wrongRe f.re || badL h 0 l') else badL h (l.getD (k - 1) Fr.none).ba (l.drop k)
theorem restP_end {h : Int} {l : List Fr} : restP h l l.length = false := by
  unfold restP
  cases l with
  | nil => rfl
  | cons f l => simp [badL]
theorem restP_step {h : Int} {l : List Fr} {k : Nat} (hk : k + 1 < l.length) : restP h l (k + 1) = (badF h (l.getD k Fr.none).ba l[k + 1] || restP h l (k + 2)) := by
  unfold restP
  rw [if_neg (by omega), if_neg (by omega), badL_at hk]
  simp [List.getElem?_eq_getElem hk]
theorem restP_first {h : Int} {l : List Fr} (hk : 0 < l.length) (h0 : l[0].ba = 0) : restP h l 0 = (wrongRe l[0].re || restP h l 1) := by
  cases l with
  | nil => simp at hk
  | cons f l =>
    simp only [List.getElem_cons_zero] at h0
    simp [restP, h0]
theorem badAll_rest {h : Int} {l : List Fr} (h0 : 0 < l.length) (h1 : l.length ≤ 1000) (h2 : l[0].op = 0) (h3 : l[0].ba = 0) : badAll h l = restP h l 0 := by
  cases l with
  | nil => simp at h0
  | cons f l =>
    simp only [List.length_cons] at h1
    simp only [List.getElem_cons_zero] at h2 h3
    simp only [badAll, restP, badFirst, h2, h3, if_pos]
    rw [show decide (1000 < l.length + 1) = false by simp; omega]
    simp
theorem badAll_first {h : Int} {l : List Fr} (h0 : 0 < l.length) (h2 : l[0].op ≠ 0 ∨ l[0].ba ≠ 0) : badAll h l = true := by
  cases l with
  | nil => simp at h0
  | cons f l =>
    simp only [List.getElem_cons_zero] at h2
    rcases h2 with h | h <;> simp [badAll, badFirst, h]
theorem badAll_many {h : Int} {l : List Fr} (h0 : 1000 < l.length) : badAll h l = true := by
  cases l with
  | nil => simp at h0
  | cons f l =>
    simp only [List.length_cons] at h0
    simp only [badAll, Bool.or_eq_true, decide_eq_true_eq]
    exact .inl h0
end Go.Proofs.Ytnfpfagojeieeaa.Stk
