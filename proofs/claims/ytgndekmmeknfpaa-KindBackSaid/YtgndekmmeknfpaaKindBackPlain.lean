/-
  Types and limits as bytes, plain: what is put is got, whatever stands behind it; what is got is put in no more bytes. It imports nothing of any translation.
-/
import Derived.Test.YtgndekmmeknfpaaKindPlain
namespace Go.Proofs.Ytgndekmmeknfpaa.Kind
open Go.Proofs.Ytgndekmmeknfpaa.Leb

theorem getD_mid (l r : List Int) (c : Int) : (l ++ c :: r).getD l.length 0 = c := by simp
theorem oneR_hit (l r : List Int) (c : Int) (ok : Int → Bool) (h : ok c = true) : oneR (l ++ c :: r) ok ((l.length : Int), 0, 0) = (c, (l.length : Int) + 1, 0, 0) := by
  unfold oneR
  have h1 : ¬ (l.length : Int) = ((l ++ c :: r).length : Int) := by simp; omega
  have h2 : (l ++ c :: r).getD (l.length : Int).toNat 0 = c := by rw [Int.toNat_natCast]; exact getD_mid l r c
  simp only [if_true]
  rw [if_neg h1, h2, if_pos h]
theorem numR_put (l r : List Int) (n : Int) (h0 : 0 ≤ n) (h1 : n < 4294967296) : numR (l ++ (encU n ++ r)) ((l.length : Int), 0, 0) = (n, (l.length : Int) + (sizeU n : Int), 0, 0) := by
  have h := getL_encU h0 h1 l r
  rw [List.append_assoc] at h
  unfold numR
  simp only [if_true]
  rw [h]
  rfl
theorem runR_put : ∀ (k : Nat) (l r : List Int), runR (l ++ (List.replicate k 127 ++ r)) k ((l.length : Int), 0, 0) = ((l.length : Int) + k, 0, 0)
  | 0, l, r => by simp [runR]
  | k + 1, l, r => by
    have h1 : l ++ (List.replicate (k + 1) 127 ++ r) = l ++ 127 :: (List.replicate k 127 ++ r) := by simp [List.replicate_succ]
    have h2 : l ++ 127 :: (List.replicate k 127 ++ r) = (l ++ [127]) ++ (List.replicate k 127 ++ r) := by simp
    rw [runR, h1, oneR_hit l _ 127 is127 (by decide)]
    have ih := runR_put k (l ++ [127]) r
    rw [h2]
    have h3 : ((l ++ [127]).length : Int) = (l.length : Int) + 1 := by simp
    rw [h3] at ih
    show runR _ k ((l.length : Int) + 1, 0, 0) = _
    rw [ih]
    simp only [Prod.mk.injEq, and_true]
    omega
theorem wordsR_put (l r : List Int) (n : Nat) (most : Int) (h : (n : Int) ≤ most) (hn : n < 4294967296) : wordsR (l ++ (wordsL n ++ r)) most ((l.length : Int), 0, 0) = ((n : Int), (l.length : Int) + ((wordsL n).length : Int), 0, 0) := by
  have e1 : l ++ (wordsL n ++ r) = l ++ (encU n ++ (List.replicate n 127 ++ r)) := by unfold wordsL; simp
  have e2 : l ++ (encU n ++ (List.replicate n 127 ++ r)) = (l ++ encU n) ++ (List.replicate n 127 ++ r) := by simp
  have hl : ((wordsL n).length : Int) = (sizeU n : Int) + n := by unfold wordsL; simp [encU_length]
  rw [hl, e1]
  unfold wordsR
  rw [numR_put l _ n (by omega) (by omega)]
  simp only
  rw [if_neg (by omega), Int.toNat_natCast, e2]
  have h3 := runR_put n (l ++ encU n) r
  have h4 : ((l ++ encU n).length : Int) = (l.length : Int) + (sizeU n : Int) := by simp [encU_length]
  rw [h4] at h3
  rw [h3]
  simp only [Prod.mk.injEq, and_true, true_and]
  omega
theorem getT_put (p r : Nat) (hp : p ≤ 255) (hr : r ≤ 1) (b : List Int) : getT (typeL p r ++ b) 0 = ((p : Int), (r : Int), ((typeL p r).length : Int), 0, 0) := by
  have e1 : typeL p r ++ b = [] ++ 96 :: (wordsL p ++ (wordsL r ++ b)) := by unfold typeL; simp
  have e2 : [] ++ 96 :: (wordsL (p : Int) ++ (wordsL r ++ b)) = [96] ++ (wordsL p ++ (wordsL r ++ b)) := by simp
  have e3 : [96] ++ (wordsL (p : Int) ++ (wordsL r ++ b)) = ([96] ++ wordsL p) ++ (wordsL r ++ b) := by simp
  have hs : startR (typeL p r ++ b) 0 = (0, 0, 0) := by unfold startR; rw [if_neg (by omega)]
  have h1 := oneR_hit [] (wordsL (p : Int) ++ (wordsL r ++ b)) 96 is96 (by decide)
  have h2 := wordsR_put [96] (wordsL (r : Int) ++ b) p 255 (by omega) (by omega)
  have h3 := wordsR_put ([96] ++ wordsL p) b r 1 (by omega) (by omega)
  rw [← e3, ← e2, ← e1] at h3
  rw [← e2, ← e1] at h2
  rw [← e1] at h1
  have l1 : (([96] ++ wordsL (p : Int)).length : Int) = 1 + ((wordsL p).length : Int) := by simp; omega
  rw [l1] at h3
  unfold getT
  rw [hs]
  have h1' : (oneR (typeL p r ++ b) is96 (0, 0, 0)).2 = (1, 0, 0) := by
    have : (([] : List Int).length : Int) = 0 := rfl
    rw [this] at h1; rw [h1]; rfl
  have h2' : wordsR (typeL p r ++ b) 255 (1, 0, 0) = ((p : Int), 1 + ((wordsL p).length : Int), 0, 0) := h2
  simp only [h1', h2', h3, if_true]
  unfold typeL
  simp
  omega

/-- What the way to no fault is. -/
theorem oneR_ok {zs : List Int} {ok : Int → Bool} {s : Rd} (h : (oneR zs ok s).2.2.1 = 0) : s.2.1 = 0 ∧ (oneR zs ok s).2.1 = s.1 + 1 ∧ ok (oneR zs ok s).1 = true := by
  unfold oneR at h ⊢
  by_cases h0 : s.2.1 = 0
  · rw [if_pos h0] at h ⊢
    split at h
    · simp at h
    · rename_i h1
      rw [if_neg h1]
      split at h
      · rename_i h2
        rw [if_pos h2]
        exact ⟨h0, rfl, h2⟩
      · simp at h
  · rw [if_neg h0] at h; exact absurd h h0
theorem numR_ok {zs : List Int} {s : Rd} (hz : ∀ c ∈ zs, 0 ≤ c ∧ c < 256) (h : (numR zs s).2.2.1 = 0) : s.2.1 = 0 ∧ s.1 + (sizeU (numR zs s).1 : Int) ≤ (numR zs s).2.1 := by
  unfold numR at h ⊢
  by_cases h0 : s.2.1 = 0
  · rw [if_pos h0] at h ⊢
    split at h
    · rename_i h1
      rw [if_pos h1]
      have := getL_shortU hz (x := (getL false zs s.1).1) (q := (getL false zs s.1).2.1) (e := (getL false zs s.1).2.2.1) (f := (getL false zs s.1).2.2.2) rfl h1
      exact ⟨h0, by show s.1 + (sizeU (getL false zs s.1).1 : Int) ≤ (getL false zs s.1).2.1; omega⟩
    · rename_i h1; exact absurd h h1
  · rw [if_neg h0] at h; exact absurd h h0
theorem runR_ok {zs : List Int} : ∀ (k : Nat) {s : Rd}, (runR zs k s).2.1 = 0 → s.2.1 = 0 ∧ (runR zs k s).1 = s.1 + k
  | 0, s, h => ⟨h, by simp [runR]⟩
  | k + 1, s, h => by
    rw [runR] at h ⊢
    obtain ⟨h1, h2⟩ := runR_ok k h
    obtain ⟨h3, h4, _⟩ := oneR_ok h1
    exact ⟨h3, by rw [h2, h4]; omega⟩
theorem refuseR_ok {s : Rd} {e f : Int} (he : e ≠ 0) (h : (refuseR s e f).2.1 = 0) : False := by
  unfold refuseR at h
  split at h
  · exact he h
  · rename_i h0; exact h0 h
theorem wordsR_ok {zs : List Int} {most : Int} {s : Rd} (hz : ∀ c ∈ zs, 0 ≤ c ∧ c < 256) (h : (wordsR zs most s).2.2.1 = 0) :
    s.2.1 = 0 ∧ ∃ n : Nat, (wordsR zs most s).1 = n ∧ (n : Int) ≤ most ∧ s.1 + ((wordsL n).length : Int) ≤ (wordsR zs most s).2.1 := by
  obtain ⟨b0, b1⟩ := numR_bounds (s := s) hz
  obtain ⟨n, hn⟩ := Int.eq_ofNat_of_zero_le b0
  unfold wordsR at h ⊢
  split at h
  · exact (refuseR_ok (by decide) h).elim
  · rename_i h1
    rw [if_neg h1]
    rw [hn, Int.toNat_natCast] at h ⊢
    obtain ⟨h2, h3⟩ := runR_ok _ h
    obtain ⟨h4, h5⟩ := numR_ok hz h2
    rw [hn] at h5
    refine ⟨h4, n, rfl, by omega, ?_⟩
    have hl : ((wordsL n).length : Int) = (sizeU n : Int) + n := by unfold wordsL; simp [encU_length]
    show s.1 + ((wordsL n).length : Int) ≤ (runR zs n (numR zs s).2).1
    rw [hl, h3]; omega
theorem getT_short {zs : List Int} {p a b q e f : Int} (hz : ∀ c ∈ zs, 0 ≤ c ∧ c < 256) (h : getT zs p = (a, b, q, e, f)) (he : e = 0) :
    ∃ m n : Nat, a = m ∧ b = n ∧ m ≤ 255 ∧ n ≤ 1 ∧ p + ((typeL m n).length : Int) ≤ q := by
  unfold getT at h
  simp only at h
  split at h
  · rename_i h0
    obtain ⟨h1, n, hn, hn1, hn2⟩ := wordsR_ok hz h0
    obtain ⟨h2, m, hm, hm1, hm2⟩ := wordsR_ok hz h1
    obtain ⟨h3, h4, _⟩ := oneR_ok h2
    have hs : (startR zs p).1 = p := by unfold startR; split <;> rfl
    rw [hs] at h4
    simp only [Prod.mk.injEq] at h
    obtain ⟨rfl, rfl, rfl, _, _⟩ := h
    refine ⟨m, n, hm, hn, by omega, by omega, ?_⟩
    have hl : ((typeL m n).length : Int) = 1 + ((wordsL m).length : Int) + ((wordsL n).length : Int) := by unfold typeL; simp; omega
    rw [hl]; omega
  · simp only [Prod.mk.injEq] at h
    rename_i h0
    omega

theorem getLim_put (n x : Int) (c : Bool) (most : Int) (h : okLim n x c most = true) (h0 : 0 ≤ n ∧ n < 4294967296) (h1 : 0 ≤ x ∧ x < 4294967296) (b : List Int) : getLim (limL n x c ++ b) 0 most = (n, x, c, ((limL n x c).length : Int), 0, 0) := by
  have hs : startR (limL n x c ++ b) 0 = (0, 0, 0) := by unfold startR; rw [if_neg (by omega)]
  cases c
  · obtain ⟨k1, rfl⟩ : n ≤ most ∧ x = 0 := by unfold okLim at h; simpa using h
    have e1 : limL n 0 false ++ b = [] ++ 0 :: (encU n ++ b) := by simp [limL]
    have e2 : [] ++ 0 :: (encU n ++ b) = [0] ++ (encU n ++ b) := by simp
    have g1 := oneR_hit [] (encU n ++ b) 0 is01 (by decide)
    have g2 := numR_put [0] b n h0.1 h0.2
    rw [← e2, ← e1] at g2
    rw [← e1] at g1
    have g1' : oneR (limL n 0 false ++ b) is01 (0, 0, 0) = (0, 1, 0, 0) := g1
    have g2' : numR (limL n 0 false ++ b) (1, 0, 0) = (n, 1 + (sizeU n : Int), 0, 0) := g2
    unfold getLim
    rw [hs]
    simp only [g1', g2']
    have hn : ¬ most < n := by omega
    simp [hn, limL, encU_length]
    omega
  · obtain ⟨k1, k2, k3⟩ : n ≤ most ∧ n ≤ x ∧ x ≤ most := by unfold okLim at h; simpa using h
    have e1 : limL n x true ++ b = [] ++ 1 :: (encU n ++ (encU x ++ b)) := by simp [limL]
    have e2 : [] ++ 1 :: (encU n ++ (encU x ++ b)) = [1] ++ (encU n ++ (encU x ++ b)) := by simp
    have e3 : [1] ++ (encU n ++ (encU x ++ b)) = ([1] ++ encU n) ++ (encU x ++ b) := by simp
    have g1 := oneR_hit [] (encU n ++ (encU x ++ b)) 1 is01 (by decide)
    have g2 := numR_put [1] (encU x ++ b) n h0.1 h0.2
    have g3 := numR_put ([1] ++ encU n) b x h1.1 h1.2
    rw [← e3, ← e2, ← e1] at g3
    rw [← e2, ← e1] at g2
    rw [← e1] at g1
    have l1 : (([1] ++ encU n).length : Int) = 1 + (sizeU n : Int) := by simp [encU_length]; omega
    rw [l1] at g3
    have g1' : oneR (limL n x true ++ b) is01 (0, 0, 0) = (1, 1, 0, 0) := g1
    have g2' : numR (limL n x true ++ b) (1, 0, 0) = (n, 1 + (sizeU n : Int), 0, 0) := g2
    unfold getLim
    rw [hs]
    simp only [g1', g2', if_true, g3]
    have hn : ¬ most < n := by omega
    have hx : ¬ (most < x ∨ x < n) := by omega
    simp [hn, hx, limL, encU_length]
    omega

def finP (n x : Int) (c : Bool) (s : Rd) : Int × Int × Bool × Int × Int × Int := if s.2.1 = 0 then (n, x, c, s.1, 0, s.2.2) else (0, 0, false, 0, s.2.1, s.2.2)
theorem getLim_eq (zs : List Int) (p most : Int) (c6 n x : Int) (q6 q7 q8 : Rd) (e6 : oneR zs is01 (startR zs p) = (c6, q6)) (e7 : numR zs q6 = (n, q7)) (e8 : numR zs q7 = (x, q8)) :
    getLim zs p most = finP n (if c6 = 1 then x else 0) (decide (c6 = 1)) (
      (fun s4 => if c6 = 1 ∧ (most < (if c6 = 1 then x else 0) ∨ (if c6 = 1 then x else 0) < n) then refuseR s4 141 q7.1 else s4) (if most < n then refuseR (if c6 = 1 then q8 else q7) 141 q6.1 else (if c6 = 1 then q8 else q7))) := by
  unfold getLim finP
  simp only [e6, e7, e8]
  by_cases hc : c6 = 1 <;> simp [hc]
theorem finP_ok {n x a b q e f : Int} {c d : Bool} {s : Rd} (h : finP n x c s = (a, b, d, q, e, f)) (he : e = 0) : s.2.1 = 0 ∧ a = n ∧ b = x ∧ d = c ∧ q = s.1 := by
  unfold finP at h
  by_cases h0 : s.2.1 = 0
  · rw [if_pos h0] at h
    simp only [Prod.mk.injEq] at h
    exact ⟨h0, h.1.symm, h.2.1.symm, h.2.2.1.symm, h.2.2.2.1.symm⟩
  · rw [if_neg h0] at h
    simp only [Prod.mk.injEq] at h
    omega
theorem finP_no {n x a b q e f : Int} {c d : Bool} {s : Rd} (h : finP n x c s = (a, b, d, q, e, f)) (he : e ≠ 0) : a = 0 ∧ b = 0 ∧ d = false := by
  unfold finP at h
  by_cases h0 : s.2.1 = 0
  · rw [if_pos h0] at h
    simp only [Prod.mk.injEq] at h
    omega
  · rw [if_neg h0] at h
    simp only [Prod.mk.injEq] at h
    exact ⟨h.1.symm, h.2.1.symm, h.2.2.1.symm⟩
theorem getLim_zero {zs : List Int} {p most a b q e f : Int} {c : Bool} (h : getLim zs p most = (a, b, c, q, e, f)) (he : e ≠ 0) : a = 0 ∧ b = 0 ∧ c = false := by
  rw [getLim_eq zs p most _ _ _ _ _ _ rfl rfl rfl] at h
  exact finP_no h he
theorem getLim_short {zs : List Int} {p most a b q e f : Int} {c : Bool} (hz : ∀ c ∈ zs, 0 ≤ c ∧ c < 256) (h : getLim zs p most = (a, b, c, q, e, f)) (he : e = 0) :
    okLim a b c most = true ∧ p + ((limL a b c).length : Int) ≤ q ∧ (0 ≤ a ∧ a ≤ 4294967295) ∧ (0 ≤ b ∧ b ≤ 4294967295) := by
  obtain ⟨c6, q6, e6⟩ : ∃ c6 q6, oneR zs is01 (startR zs p) = (c6, q6) := ⟨_, _, rfl⟩
  obtain ⟨n, q7, e7⟩ : ∃ n q7, numR zs q6 = (n, q7) := ⟨_, _, rfl⟩
  obtain ⟨x, q8, e8⟩ : ∃ x q8, numR zs q7 = (x, q8) := ⟨_, _, rfl⟩
  rw [getLim_eq zs p most c6 n x q6 q7 q8 e6 e7 e8] at h
  have hs : (startR zs p).1 = p := by unfold startR; split <;> rfl
  have bn : 0 ≤ n ∧ n < 4294967296 := by have := numR_bounds (s := q6) hz; rw [e7] at this; exact this
  have bx : 0 ≤ x ∧ x < 4294967296 := by have := numR_bounds (s := q7) hz; rw [e8] at this; exact this
  obtain ⟨h0, rfl, rfl, rfl, rfl⟩ := finP_ok h he
  have one : q6.2.1 = 0 → q6.1 = p + 1 := fun k => by
    have := oneR_ok (zs := zs) (ok := is01) (s := startR zs p) (by rw [e6]; exact k)
    rw [e6, hs] at this; exact this.2.1
  have two : q7.2.1 = 0 → q6.2.1 = 0 ∧ q6.1 + (sizeU a : Int) ≤ q7.1 := fun k => by
    have := numR_ok hz (s := q6) (by rw [e7]; exact k)
    rw [e7] at this; exact this
  have three : q8.2.1 = 0 → q7.2.1 = 0 ∧ q7.1 + (sizeU x : Int) ≤ q8.1 := fun k => by
    have := numR_ok hz (s := q7) (by rw [e8]; exact k)
    rw [e8] at this; exact this
  by_cases hc : c6 = 1
  · by_cases hn : most < a
    · exfalso
      by_cases hx : most < x ∨ x < a
      · simp [hc, hn, hx] at h0
        exact refuseR_ok (by decide) h0
      · omega
    · by_cases hx : most < x ∨ x < a
      · exfalso
        simp [hc, hn, hx] at h0
        exact refuseR_ok (by decide) h0
      · simp only [hc, if_true, true_and, hn, hx, if_false, decide_true] at h0 ⊢
        obtain ⟨h1, h2⟩ := three h0
        obtain ⟨h3, h4⟩ := two h1
        have h5 := one h3
        refine ⟨?_, ?_, by omega, by omega⟩
        · unfold okLim; simp; omega
        · have hl : ((limL a x true).length : Int) = 1 + (sizeU a : Int) + (sizeU x : Int) := by unfold limL; simp [encU_length]; omega
          rw [hl]; omega
  · by_cases hn : most < a
    · exfalso
      simp [hc, hn] at h0
      exact refuseR_ok (by decide) h0
    · simp only [hc, if_false, false_and, hn, decide_false] at h0 ⊢
      obtain ⟨h3, h4⟩ := two h0
      have h5 := one h3
      refine ⟨?_, ?_, by omega, by omega⟩
      · unfold okLim; simp; omega
      · have hl : ((limL a 0 false).length : Int) = 1 + (sizeU a : Int) := by unfold limL; simp [encU_length]; omega
        rw [hl]; omega
end Go.Proofs.Ytgndekmmeknfpaa.Kind
