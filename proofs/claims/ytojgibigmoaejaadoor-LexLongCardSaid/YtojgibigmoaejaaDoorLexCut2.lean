/-
  LEX: signs, names and numbers cut off: by contract.
-/
import Derived.Test.YtojgibigmoaejaaDoorLexCut
namespace Go.Proofs.YtojgibigmoaejaaDoor.Lex
open Go.RowKit Go.Proofs.YtojgibigmoaejaaDoor.Utf
set_option linter.unusedSimpArgs false
set_option linter.unusedVariables false

theorem find_hit {p : List Int → Bool} {l : List (List Int)} {i : Nat} (hi : i < l.length) (h1 : p (l.getD i []) = true) (h2 : ∀ j, j < i → p (l.getD j []) = false) : l.find? p = some (l.getD i []) := by
  induction l generalizing i with
  | nil => simp at hi
  | cons a t ih =>
    cases i with
    | zero => simp only [List.getD_cons_zero] at h1 ⊢; rw [List.find?_cons_of_pos h1]
    | succ i =>
      have h0 := h2 0 (by omega)
      simp only [List.getD_cons_zero] at h0
      simp only [List.getD_cons_succ] at h1 ⊢
      rw [List.find?_cons_of_neg (by simp [h0]), ih (by simpa using hi) h1 fun j hj => by have := h2 (j + 1) (by omega); simpa using this]
theorem find_miss {p : List Int → Bool} {l : List (List Int)} (h : ∀ j, j < l.length → p (l.getD j []) = false) : l.find? p = none := by
  rw [List.find?_eq_none]
  intro x hx
  obtain ⟨j, hj, rfl⟩ := List.getElem_of_mem hx
  have := h j hj
  rw [List.getD_eq_getElem?_getD, List.getElem?_eq_getElem hj] at this
  simpa using this

set_option maxHeartbeats 1000000 in
theorem cutSign_any (zs : List Int) (hb : ∀ z ∈ zs, 0 ≤ z ∧ z < 256) (w : World) (hT : Words w) :
    Calls Tryd.prog 35 #[.string (strOfNums zs)] w fun e w' => e = .returned (cutSign zs).v ∧ Below w.heap.size w w' := by
  have hsb : ∀ j, j < 17 → ∀ z ∈ signsL.getD j [], 0 ≤ z ∧ z < 256 := by decide
  have P := hid (fun j (hj : j < 17) W => prefix_any zs (signsL.getD j []) hb (hsb j hj) W)
  have HH := hid (fun i (hi : i < 17) => find_hit (p := fun p => decide (zs.take p.length = p)) (l := signsL) (i := i) hi)
  have HM := hid (find_miss (p := fun p => decide (zs.take p.length = p)) (l := signsL))
  have HE : Hid (cutSign zs = match signsL.find? fun p => decide (zs.take p.length = p) with | none => .bad 251 | some p => ⟨7, 0, p, p.length, 0⟩) := rfl
  have HB := hid (thenA (Below.refl _ w) (.cells zeroW 31))
  have HW := hid (WBox.made w)
  obtain ⟨_, b, off, c, hg, hc⟩ := hT.below HB.out
  have HC := hid hc
  clear hsb hb hT hc
  generalize cutSign zs = o at *
  generalize hse : strOfNums zs = s at *
  clear hse
  go_enter Tryd.func35, Tryd.ntmps35
  go_wp2
  obtain ⟨W0, hW0⟩ : ∃ W0, w.alloc (.cells zeroW 31) = W0 := ⟨_, rfl⟩
  rw [hW0] at HB HW hg HC ⊢
  clear hW0
  go_loopw [9] (fun vi wr => wr = W0 ∧ ∃ k : Nat, vi = .int .i64 k ∧ k ≤ 17 ∧ Hid (∀ j, j < k → decide (zs.take (signsL.getD j []).length = signsL.getD j []) = false)) (fun vi _ => 17 - (intOf vi).toNat)
  case atStart => exact ⟨rfl, 0, rfl, Nat.zero_le _, hid fun j h => absurd h (Nat.not_lt_zero _)⟩
  case round =>
    obtain ⟨rfl, k, rfl, hk, HA⟩ := hrel
    by_cases hlt : k < 17
    · have hc := HC.out k hlt
      have C := hid (fun W => P.out k hlt W)
      have H1 := hid (HH.out k hlt)
      have hs : (strOfNums (signsL.getD k [])).size = (signsL.getD k []).length := strOfNums_size _
      have hki : (k : Int) < 17 := by omega
      have HL := hid (show ∀ q, decide (zs.take (signsL.getD k []).length = signsL.getD k []) = q → q = false → ∀ j, j < k + 1 → decide (zs.take (signsL.getD j []).length = signsL.getD j []) = false from fun q hq hf j hj => by
        by_cases e : j = k
        · subst e; rw [hq, hf]
        · exact HA.out j (by omega))
      generalize signsL.getD k [] = p at *
      generalize hq : decide (zs.take p.length = p) = q at *
      generalize hx : strOfNums p = t at *
      have HX := hid hx
      clear hx
      cases q with
      | true =>
        have HO : Hid (o = ⟨7, 0, p, p.length, 0⟩) := by
          show _ = _
          rw [HE.out, H1.out rfl HA.out]
        obtain ⟨⟨k0, k1, k2, k3⟩, ⟨g0, g1, g2, g3⟩, _⟩ := HW.out.cells
        clear HH HM HE H1 HL P HC HW hq hlt
        go_wp2_with (go_at_call 47; refine (C.out _).mono ?_; rintro e w' ⟨rfl, rfl⟩)
        refine bodyPost_ret (v := Cut.v ⟨7, 0, p, p.length, 0⟩) (by simp [results, Tryd.results35, go_sem, k0, k1, k2, k3, Cut.v, HX.out]) rfl ⟨ret_cut HO.out.symm, set4 HB.out _ _ _ _⟩
      | false =>
        have HL' := hid (HL.out _ rfl rfl)
        clear HH HM HE H1 P HC HL hq hlt
        go_wp2_with (go_at_call 47; refine (C.out _).mono ?_; rintro e w' ⟨rfl, rfl⟩)
        go_roundw
        case rel => exact ⟨trivial, k + 1, by go_num, by omega, HL'⟩
        case measure => simp [intOf]; omega
    · obtain rfl : k = 17 := by omega
      have HO : Hid (o = .bad 251) := by
        show _ = _
        rw [HE.out, HM.out HA.out]
      obtain ⟨⟨k0, k1, k2, k3⟩, ⟨g0, g1, g2, g3⟩, _⟩ := HW.out.cells
      clear HH HM HE P HC HW HA hlt
      go_wp2
      refine bodyPost_ret (v := (Cut.bad 251).v) (by simp [results, Tryd.results35, go_sem, k0, k1, k2, k3, Cut.v, Cut.bad, strOfNums]) rfl ⟨ret_cut HO.out.symm, set4 HB.out _ _ _ _⟩
end Go.Proofs.YtojgibigmoaejaaDoor.Lex
