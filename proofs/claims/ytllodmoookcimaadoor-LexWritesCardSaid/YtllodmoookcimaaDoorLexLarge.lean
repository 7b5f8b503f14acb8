/-
  LEX: LargeWords by contract.
-/
import Derived.Test.YtllodmoookcimaaDoorLexKit
namespace Go.Proofs.YtllodmoookcimaaDoor.Lex
open Go.RowKit Go.Proofs.YtllodmoookcimaaDoor.Utf
set_option linter.unusedSimpArgs false
set_option linter.unusedVariables false

def largeB (l : List Wd) (most : Nat) : Bool := (l.any fun x => decide (200 < x.s.length)) || decide (most < l.length)
theorem large_no {l : List Wd} {most : Nat} (h : largeB l most = false) : (∀ x ∈ l, x.s.length ≤ 200) ∧ l.length ≤ most := by
  unfold largeB at h
  rw [Bool.or_eq_false_iff, List.any_eq_false] at h
  refine ⟨fun x hx => ?_, ?_⟩
  · have := h.1 x hx
    simp at this; omega
  · have := h.2
    simp at this; omega
set_option maxHeartbeats 1000000 in
theorem large_any (l : List Wd) (a : Option Addr) (n c most : Nat) (hn : l.length = n) (hbig : n ≤ 140737488351232) (w : World) (hw : WordsAt w a l) :
    Calls Tryd.prog 15 #[.slice a n c, .int .i64 most] w fun e w' => e = .returned (.bool (largeB l most)) ∧ Below w.heap.size w w' := by
  have HW := hid hw
  have HN := hid hn
  have HV : Hid (largeB l most = ((l.any fun x => decide (200 < x.s.length)) || decide (most < l.length))) := rfl
  generalize largeB l most = r at *
  clear hw hn
  go_enter Tryd.func15, Tryd.ntmps15
  go_wp2
  go_loopw [5] (fun iv wr => ∃ k nq : Nat, iv = .int .i64 k ∧ k ≤ n ∧ wr = w.drewN nq ∧ Hid (∀ j (hj : j < l.length), j < k → l[j].s.length ≤ 200)) (fun iv _ => n - (intOf iv).toNat)
  case atStart => exact ⟨0, 0, rfl, Nat.zero_le _, rfl, hid fun j _ h => absurd h (Nat.not_lt_zero _)⟩
  case round =>
    obtain ⟨k, mq, rfl, hk, rfl, HA⟩ := hrel
    by_cases hlt : k < n
    · have hkl : k < l.length := by rw [HN.out]; exact hlt
      obtain ⟨b2, o2, rfl, -, hc2⟩ := Stk.Rows.get HW.out hkl
      have g3 : w.cell? ⟨b2, o2 + k * 4 + 3, none⟩ = some (.string (strOfNums l[k].s)) := hc2 3 (by omega) _ rfl
      have hki : (k : Int) < (n : Int) := by omega
      have hz : (strOfNums l[k].s).size = l[k].s.length := strOfNums_size _
      by_cases hl : 200 < l[k].s.length
      · have HF : Hid (r = true) := by
          show _ = _
          rw [HV.out]
          have : (l.any fun x => decide (200 < x.s.length)) = true := List.any_eq_true.2 ⟨_, List.getElem_mem hkl, by simpa using hl⟩
          rw [this]; rfl
        have hli : (l[k].s.length : Int) > 200 := by omega
        clear hc2 HV HA
        generalize strOfNums l[k].s = st at *
        generalize l[k].s.length = sl at *
        go_wp2
        go_ret
        exact ⟨by rw [HF.out]; rfl, drewL (Below.refl _ _) _⟩
      · have hli : ¬ (l[k].s.length : Int) > 200 := by omega
        have HF := hid (show ∀ j (hj : j < l.length), j < k + 1 → l[j].s.length ≤ 200 from fun j hj hji => by
          by_cases e : j = k
          · subst e; omega
          · exact HA.out j hj (by omega))
        clear hc2 HA
        generalize strOfNums l[k].s = st at *
        generalize l[k].s.length = sl at *
        go_wp2
        go_roundw
        case rel => exact ⟨k + 1, mq, by go_num, by omega, rfl, HF⟩
        case measure => simp [intOf]; omega
    · obtain rfl : k = n := by omega
      have HF : Hid (r = decide (most < k)) := by
        show _ = _
        rw [HV.out, HN.out]
        have : (l.any fun x => decide (200 < x.s.length)) = false := List.any_eq_false.2 fun x hx => by
          obtain ⟨j, hj, rfl⟩ := List.getElem_of_mem hx
          have := HA.out j hj (by rw [HN.out] at hj; exact hj)
          simp; omega
        rw [this, Bool.false_or]
      go_wp2
      go_ret
      refine ⟨?_, drewL (Below.refl _ _) _⟩
      rw [HF.out]
      simp
end Go.Proofs.YtllodmoookcimaaDoor.Lex
