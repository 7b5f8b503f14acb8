/-
  LEX: the document's writer: Letter, In, Keys, Signs, Named: by contract.
-/
import Derived.Test.YtojgibigmoaejaaDoorLexWord
import Derived.Test.YtojgibigmoaejaaDoorLexChar
namespace Go.Proofs.YtojgibigmoaejaaDoor.Lex
open Go.RowKit Go.Proofs.YtojgibigmoaejaaDoor.Utf
set_option linter.unusedSimpArgs false
set_option linter.unusedVariables false

set_option maxHeartbeats 1000000 in
theorem letter_c (c : Int) (w : World) : Calls Tryd.prog 39 #[.int .u8 c] w fun e w' => e = .returned (.bool (letterB c)) ∧ w' = w := by
  have W1 := hid (fun W => within_c c 97 122 W)
  have W2 := hid (fun W => within_c c 65 90 W)
  have W3 := hid (fun W => within_c c 48 57 W)
  have HL : Hid (letterB c = ((decide (97 ≤ c) && decide (c ≤ 122)) || (decide (65 ≤ c) && decide (c ≤ 90)) || (decide (48 ≤ c) && decide (c ≤ 57)) || decide (c = 95) || decide (c = 39))) := rfl
  generalize letterB c = q at *
  generalize (decide (97 ≤ c) && decide (c ≤ 122)) = q1 at *
  generalize (decide (65 ≤ c) && decide (c ≤ 90)) = q2 at *
  generalize (decide (48 ≤ c) && decide (c ≤ 57)) = q3 at *
  cases q1 with
  | true =>
    obtain rfl : q = true := by rw [HL.out]; simp
    clear HL W2 W3
    go_enter Tryd.func39, Tryd.ntmps39
    go_wp2_with (go_at_call 17; refine (W1.out _).mono ?_; rintro e w' ⟨rfl, rfl⟩)
    go_ret
    exact ⟨rfl, rfl⟩
  | false =>
  cases q2 with
  | true =>
    obtain rfl : q = true := by rw [HL.out]; simp
    clear HL W3
    go_enter Tryd.func39, Tryd.ntmps39
    go_wp2_with fail
    refine (W1.out _).mono ?_
    rintro e w' ⟨rfl, rfl⟩
    go_wp2_with fail
    refine (W2.out _).mono ?_
    rintro e w' ⟨rfl, rfl⟩
    go_wp2
    go_ret
    exact ⟨rfl, rfl⟩
  | false =>
  cases q3 with
  | true =>
    obtain rfl : q = true := by rw [HL.out]; simp
    clear HL
    go_enter Tryd.func39, Tryd.ntmps39
    go_wp2_with fail
    refine (W1.out _).mono ?_
    rintro e w' ⟨rfl, rfl⟩
    go_wp2_with fail
    refine (W2.out _).mono ?_
    rintro e w' ⟨rfl, rfl⟩
    go_wp2_with fail
    refine (W3.out _).mono ?_
    rintro e w' ⟨rfl, rfl⟩
    go_wp2
    go_ret
    exact ⟨rfl, rfl⟩
  | false =>
    by_cases h1 : c = 95
    · obtain rfl : q = true := by rw [HL.out]; simp [h1]
      subst h1
      clear HL
      go_enter Tryd.func39, Tryd.ntmps39
      go_wp2_with fail
      refine (W1.out _).mono ?_
      rintro e w' ⟨rfl, rfl⟩
      go_wp2_with fail
      refine (W2.out _).mono ?_
      rintro e w' ⟨rfl, rfl⟩
      go_wp2_with fail
      refine (W3.out _).mono ?_
      rintro e w' ⟨rfl, rfl⟩
      go_wp2
      go_ret
      exact ⟨rfl, rfl⟩
    · have hq : Hid (q = decide (c = 39)) := by show _ = _; rw [HL.out]; simp [h1]
      have e1 : (c == 95) = false := by simpa using h1
      clear HL h1
      go_enter Tryd.func39, Tryd.ntmps39
      go_wp2_with fail
      refine (W1.out _).mono ?_
      rintro e w' ⟨rfl, rfl⟩
      go_wp2_with fail
      refine (W2.out _).mono ?_
      rintro e w' ⟨rfl, rfl⟩
      go_wp2_with fail
      refine (W3.out _).mono ?_
      rintro e w' ⟨rfl, rfl⟩
      go_wp2
      go_ret
      exact ⟨ret_bool (by rw [hq.out, Bool.eq_iff_iff]; simp), rfl⟩
set_option maxHeartbeats 1000000 in
theorem in_any {ks : List (List Int)} (hk : ∀ p ∈ ks, ∀ z ∈ p, 0 ≤ z ∧ z < 256) (hn : ks.length ≤ 100) (xs : List Int) (hx : ∀ z ∈ xs, 0 ≤ z ∧ z < 256) (b off n c : Nat) (hnn : ks.length = n) (w : World) (hc : ∀ j, j < n → w.cell? ⟨b, off + j, none⟩ = some (.string (strOfNums (ks.getD j [])))) :
    Calls Tryd.prog 40 #[.string (strOfNums xs), .slice (some ⟨b, off, none⟩) n c] w fun e w' => e = .returned (.bool (ks.contains xs)) ∧ Below w.heap.size w w' := by
  have HC := hid hc
  have HN := hid hnn
  have hnb : n ≤ 100 := by omega
  have HE := hid (fun j (hj : j < ks.length) => (show ((strOfNums (ks.getD j [])).toList == (strOfNums xs).toList) = decide (ks.getD j [] = xs) from str_eq (by
    have : ks.getD j [] ∈ ks := by
      rw [List.getD_eq_getElem?_getD, List.getElem?_eq_getElem hj]
      exact List.getElem_mem hj
    exact hk _ this) hx))
  have HV := hid (show ∀ b : Bool, (b = true → ∃ j, j < ks.length ∧ ks.getD j [] = xs) → (b = false → ∀ j, j < ks.length → ks.getD j [] ≠ xs) → ks.contains xs = b from fun b h1 h2 => by
    have hg : ∀ j (hj : j < ks.length), ks.getD j [] = ks[j] := fun j hj => by simp [List.getD_eq_getElem?_getD, hj]
    cases b with
    | true =>
      obtain ⟨j, hj, he⟩ := h1 rfl
      rw [hg j hj] at he
      subst he
      simp
    | false =>
      rw [Bool.eq_false_iff]
      intro hcon
      rw [List.contains_iff_mem] at hcon
      obtain ⟨j, hj, he⟩ := List.getElem_of_mem hcon
      exact h2 rfl j hj (by rw [hg j hj, he]))
  generalize ks.contains xs = r at *
  generalize strOfNums xs = s at *
  clear hk hn hx hc hnn
  go_enter Tryd.func40, Tryd.ntmps40
  go_wp2
  go_loopw [5] (fun iv wr => ∃ k nq : Nat, iv = .int .i64 k ∧ k ≤ n ∧ wr = w.drewN nq ∧ Hid (∀ j, j < k → ks.getD j [] ≠ xs)) (fun iv _ => n - (intOf iv).toNat)
  case atStart => exact ⟨0, 0, rfl, Nat.zero_le _, rfl, hid fun j h => absurd h (Nat.not_lt_zero _)⟩
  case round =>
    obtain ⟨k, mq, rfl, hk, rfl, HA⟩ := hrel
    by_cases hlt : k < n
    · have hcell := HC.out k hlt
      have hkl : k < ks.length := by rw [HN.out]; exact hlt
      have he := HE.out k hkl
      have hki : (k : Int) < (n : Int) := by omega
      by_cases hx : ks.getD k [] = xs
      · rw [decide_eq_true hx] at he
        have HF := hid (HV.out true (fun _ => ⟨k, hkl, hx⟩) (fun h => by cases h))
        clear HV HA hx HE
        generalize strOfNums (ks.getD k []) = t at *
        go_wp2
        go_ret
        exact ⟨by rw [HF.out]; rfl, drewL (Below.refl _ _) _⟩
      · rw [decide_eq_false hx] at he
        have HF := hid (show ∀ j, j < k + 1 → ks.getD j [] ≠ xs from fun j hj => by
          by_cases e : j = k
          · subst e; exact hx
          · exact HA.out j (by omega))
        clear HA hx HE
        generalize strOfNums (ks.getD k []) = t at *
        go_wp2
        go_roundw
        case rel => exact ⟨k + 1, mq, by go_num, by omega, rfl, HF⟩
        case measure => simp [intOf]; omega
    · obtain rfl : k = n := by omega
      have HF := hid (HV.out false (fun h => by cases h) (fun _ j hj => HA.out j (by rw [HN.out] at hj; exact hj)))
      go_wp2
      go_ret
      exact ⟨by rw [HF.out]; rfl, drewL (Below.refl _ _) _⟩
/-- A list of texts as it was made. -/
def StrsAt (w : World) (b : Nat) (ks : List (List Int)) : Prop := ∀ j, j < ks.length → w.cell? ⟨b, 0 + j, none⟩ = some (.string (strOfNums (ks.getD j [])))
theorem strs_made (w : World) (cs : Array Value) (ks : List (List Int)) (hc : cs.toList = ks.map fun p => Value.string (strOfNums p)) (t : TypeId) : StrsAt (w.alloc (.cells cs t)) w.heap.size ks := by
  intro j hj
  rw [Lib.cell_of_heap (heap_alloc_new w _), Nat.zero_add]
  have : cs.toList[j]? = some (.string (strOfNums (ks.getD j []))) := by rw [hc]; simp [List.getD_eq_getElem?_getD, hj]
  simpa using this
set_option maxHeartbeats 1000000 in
theorem keys_any (w : World) : Calls Tryd.prog 41 #[] w fun e w' => ∃ b, e = .returned (.slice (some ⟨b, 0, none⟩) 20 20) ∧ StrsAt w' b keysL ∧ Below w.heap.size w w' := by
  go_enter Tryd.func41, Tryd.ntmps41
  go_wp2
  go_ret
  exact ⟨_, rfl, strs_made w _ keysL rfl _, thenA (Below.refl _ w) _⟩
set_option maxHeartbeats 1000000 in
theorem signs_any (w : World) : Calls Tryd.prog 45 #[] w fun e w' => ∃ b, e = .returned (.slice (some ⟨b, 0, none⟩) 17 17) ∧ StrsAt w' b signsL ∧ Below w.heap.size w w' := by
  go_enter Tryd.func45, Tryd.ntmps45
  go_wp2
  go_ret
  exact ⟨_, rfl, strs_made w _ signsL rfl _, thenA (Below.refl _ w) _⟩
end Go.Proofs.YtojgibigmoaejaaDoor.Lex
