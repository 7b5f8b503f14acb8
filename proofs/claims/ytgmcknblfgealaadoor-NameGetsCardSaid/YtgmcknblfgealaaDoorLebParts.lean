/-
  LEB: the document's own answer GetU, by contracts: parts, sum.
-/
import Derived.Test.YtgmcknblfgealaaDoorLebCalls
import Derived.Test.YtgmcknblfgealaaDoorKitLent
import Derived.RegionTactic
import Derived.ChangeAlike
namespace Go.Proofs.YtgmcknblfgealaaDoor.Leb
open Go.RowKit

/-- What parts are together. -/
def sumL : List Int → Int
  | [] => 0
  | x :: t => 128 * sumL t + x
theorem sumL_snoc : ∀ (l : List Int) (x : Int), sumL (l ++ [x]) = sumL l + x * 128 ^ l.length
  | [], x => by simp [sumL]
  | y :: t, x => by
    simp only [List.cons_append, sumL, sumL_snoc t x, List.length_cons, Int.pow_succ]
    rw [Int.mul_add, Int.mul_comm (128 ^ t.length) 128, ← Int.mul_assoc, ← Int.mul_assoc, Int.mul_comm 128 x]
    omega
theorem sumL_bounds : ∀ l : List Int, (∀ x ∈ l, 0 ≤ x ∧ x < 128) → 0 ≤ sumL l ∧ sumL l < 128 ^ l.length
  | [], _ => by simp [sumL]
  | x :: t, h => by
    have := sumL_bounds t fun y hy => h y (by simp [hy])
    have := h x (by simp)
    simp only [sumL, List.length_cons, Int.pow_succ]
    omega
/-- The parts of the number that bytes begin with: behind these parts, at this place. Parts, next place, error, its place. -/
def partsGo : List Int → List Int → Int → List Int × Int × Int × Int
  | _, [], p => ([], 0, 4, p)
  | acc, c :: r, p =>
    if acc.length = 4 ∧ 128 ≤ c then ([], 0, 4, p)
    else if c < 128 then (acc ++ [c % 128], p + 1, 0, 0)
    else partsGo (acc ++ [c % 128]) r (p + 1)
def partsL (l : List Int) (p : Int) : List Int × Int × Int × Int := if p < 0 ∨ (l.length : Int) < p then ([], 0, 5, 0) else partsGo [] (l.drop p.toNat) p
/-- What GetU makes of the parts. -/
def fromParts (r : List Int × Int × Int × Int) : Int × Int × Int × Int :=
  if r.2.2.1 ≠ 0 then (0, 0, r.2.2.1, r.2.2.2) else if r.1.length = 5 ∧ 15 < r.1.getD 4 0 then (0, 0, 4, r.2.1 - 1) else (sumL r.1, r.2.1, 0, 0)

theorem goL_parts : ∀ (l acc : List Int) (p : Int), (∀ c ∈ l, 0 ≤ c ∧ c < 256) → acc.length ≤ 4 → fromParts (partsGo acc l p) = goL false acc.length (sumL acc) l p
  | [], acc, p, _, _ => by simp [partsGo, goL, fromParts]
  | c :: r, acc, p, hl, hk => by
    have hc := hl c (by simp)
    have hs := sumL_snoc acc (c % 128)
    simp only [partsGo, goL]
    by_cases h4 : acc.length = 4
    · by_cases h128 : 128 ≤ c
      · rw [if_pos ⟨h4, h128⟩, if_pos ⟨h4, by simp [okFifth]; omega⟩]
        simp [fromParts]
      · rw [if_neg (by omega), if_pos (by omega)]
        have hm : c % 128 = c := by omega
        rw [hm] at hs ⊢
        have hlen : (acc ++ [c]).length = 5 := by simp [h4]
        have hget : (acc ++ [c]).getD 4 0 = c := by simp [← h4]
        by_cases hf : c < 16
        · rw [if_neg (by simp [okFifth, hf]), if_pos (by omega), ext_false]
          unfold fromParts
          simp only
          rw [if_neg (by simp), if_neg (by rw [hget]; omega), hs]
        · rw [if_pos ⟨h4, by simp [okFifth]; omega⟩]
          unfold fromParts
          simp only
          rw [if_neg (by simp), if_pos ⟨hlen, by rw [hget]; omega⟩]
          simp
    · rw [if_neg (fun h : acc.length = 4 ∧ 128 ≤ c => h4 h.1), if_neg (fun h : acc.length = 4 ∧ okFifth false c = false => h4 h.1)]
      by_cases h128 : c < 128
      · rw [if_pos h128, if_pos h128, ext_false]
        unfold fromParts
        simp only
        rw [if_neg (by simp), if_neg (by simp; omega), hs]
      · rw [if_neg h128, if_neg h128, goL_parts r (acc ++ [c % 128]) (p + 1) (fun z hz => hl z (by simp [hz])) (by simp; omega), hs]
        simp
theorem getL_parts {l : List Int} (hl : ∀ c ∈ l, 0 ≤ c ∧ c < 256) (p : Int) : fromParts (partsL l p) = getL false l p := by
  unfold partsL getL
  by_cases h : p < 0 ∨ (l.length : Int) < p
  · rw [if_pos h, if_pos h]; simp [fromParts]
  · rw [if_neg h, if_neg h]
    exact goL_parts _ [] p (fun c hc => hl c (List.mem_of_mem_drop hc)) (by simp)
theorem partsGo_bytes : ∀ (l acc : List Int) (p : Int), (∀ x ∈ acc, 0 ≤ x ∧ x < 128) → acc.length ≤ 4 → (∀ x ∈ (partsGo acc l p).1, 0 ≤ x ∧ x < 128) ∧ (partsGo acc l p).1.length ≤ 5
  | [], acc, p, _, _ => by simp [partsGo]
  | c :: r, acc, p, h, hk => by
    have h' : ∀ x ∈ acc ++ [c % 128], 0 ≤ x ∧ x < 128 := fun x hx => by
      rcases List.mem_append.1 hx with hx | hx
      · exact h x hx
      · rw [List.mem_singleton] at hx; omega
    simp only [partsGo]
    split
    · simp
    · split
      · exact ⟨h', by simp; omega⟩
      · exact partsGo_bytes r _ _ h' (by simp; omega)

theorem sum_any (a : Option Addr) (len cap : Nat) (zs : List Int) (w : World) (hlen : zs.length = len) (hz : Nums .i64 w a zs) (hb : ∀ x ∈ zs, 0 ≤ x ∧ x < 128) (h5 : len ≤ 5) :
    Calls Tryd.prog 42 #[.slice a len cap] w fun e w' => e = .returned (.int .i64 (sumL zs)) ∧ w = w' := by
  have HL := hid hlen
  have HB := hid hb
  clear hlen hb
  go_enter Tryd.func42, Tryd.ntmps42
  go_wp2
  go_loop [3, 4] (fun vn vi => ∃ j : Nat, j ≤ len ∧ vi = .int .i64 ((j : Int) - 1) ∧ vn = .int .i64 (sumL (zs.drop j))) (fun _ vi => (intOf vi + 1).toNat)
  case atStart => exact ⟨len, Nat.le_refl _, rfl, by rw [List.drop_eq_nil_of_le (by have := HL.out; omega)]; rfl⟩
  case round =>
    obtain ⟨j, hj, rfl, rfl⟩ := hrel
    obtain ⟨s0, s1⟩ := sumL_bounds (zs.drop j) (fun x hx => HB.out x (List.mem_of_mem_drop hx))
    cases j with
    | zero =>
      have HF := hid (show sumL (zs.drop 0) = sumL zs by rw [List.drop_zero])
      generalize sumL (zs.drop 0) = s at *
      go_wp2
      go_ret
      exact ⟨ret_int HF.out, rfl⟩
    | succ j =>
      have hjl : j < zs.length := by have := HL.out; omega
      obtain ⟨b, off, rfl, hcell⟩ := hz.at (by omega)
      have hc := hcell j hjl
      have hx : 0 ≤ zs.getD j 0 ∧ zs.getD j 0 < 128 := by rw [getD_lt hjl]; exact HB.out _ (List.getElem_mem hjl)
      have HD := hid (drop_at hjl)
      have hs2 : sumL (zs.drop (j + 1)) < 34359738368 := by
        have h1 : (zs.drop (j + 1)).length ≤ 5 := by rw [List.length_drop]; have := HL.out; omega
        have h2 : (zs.drop (j + 1)).length = 0 ∨ (zs.drop (j + 1)).length = 1 ∨ (zs.drop (j + 1)).length = 2 ∨ (zs.drop (j + 1)).length = 3 ∨ (zs.drop (j + 1)).length = 4 ∨ (zs.drop (j + 1)).length = 5 := by omega
        rcases h2 with h2 | h2 | h2 | h2 | h2 | h2 <;> rw [h2] at s1 <;> simp at s1 <;> omega
      have HS : Hid (sumL (zs.drop j) = 128 * sumL (zs.drop (j + 1)) + zs.getD j 0) := by
        show _ = _
        rw [HD.out]; rfl
      clear hcell hjl HD s1
      generalize zs.getD j 0 = x at *
      generalize sumL (zs.drop (j + 1)) = s at *
      obtain ⟨x0, x1⟩ := hx
      go_wp2
      go_round
      case rel => exact ⟨j, by omega, by go_num, by rw [HS.out]⟩
      case measure => simp [intOf]
end Go.Proofs.YtgmcknblfgealaaDoor.Leb
