/-
  NUM: the document's own One by contract; the walks of the statements NumOnes and NumTurns.
-/
import Derived.Test.YtabffkninpikpaaDoorNumCountPlain
import Derived.Test.YtabffkninpikpaaDoorNumRef
namespace Go.Proofs.YtabffkninpikpaaDoor.Num
open Go.RowKit

set_option maxHeartbeats 1600000 in
theorem refOne_eqz (a : Int) (w : World) :
    Calls Tryd.prog 11 #[.int .i64 69, .int .u32 a] w fun e w' => e = .returned (.tuple #[.int .u32 (cnt 69 a), .int .i64 0]) ∧ w = w' := by
  have CA := refArity_any 69 w
  rw [show arity 69 = 1 by decide] at CA
  rw [show cnt 69 a = truth (decide (a = 0)) from rfl]
  have CA := hid CA
  go_enter Tryd.func11, Tryd.ntmps11
  go_wp2_with fail
  refine CA.out.mono ?_
  rintro e w' ⟨rfl, rfl⟩
  go_wp2_with fail
  refine (refTruth_any _ _).mono ?_
  rintro e w' ⟨rfl, rfl⟩
  go_wp2
  go_ret2
  exact ⟨rfl, rfl⟩
set_option maxHeartbeats 1600000 in
theorem refOne_none (op a : Int) (w : World) (ha : arity op ≠ 1) :
    Calls Tryd.prog 11 #[.int .i64 op, .int .u32 a] w fun e w' => e = .returned (.tuple #[.int .u32 0, .int .i64 2]) ∧ w = w' := by
  have CA := refArity_any op w
  have hr := arity_range op
  generalize arity op = c at *
  have hne : (c != 1) = true := by simpa using ha
  clear ha
  have CA := hid CA
  go_enter Tryd.func11, Tryd.ntmps11
  go_wp2_with fail
  refine CA.out.mono ?_
  rintro e w' ⟨rfl, rfl⟩
  go_wp2
  go_ret2
  exact ⟨rfl, rfl⟩
set_option maxHeartbeats 1600000 in
theorem refOne_clz (a : Int) (w : World) (h0 : 0 ≤ a) (h1 : a < 4294967296) :
    Calls Tryd.prog 11 #[.int .i64 103, .int .u32 a] w fun e w' => e = .returned (.tuple #[.int .u32 (cnt 103 a), .int .i64 0]) ∧ w = w' := by
  have CA := refArity_any 103 w
  rw [show arity 103 = 1 by decide] at CA
  have CB := fun i i0 i1 => refBit_any a i w h0 h1 i0 i1
  have K : cnt 103 a = 32 - (Lib.bitLen a.toNat : Int) := rfl
  rw [K]
  have CA := hid CA
  have CB := hid CB
  clear K
  go_enter Tryd.func11, Tryd.ntmps11
  go_wp2_with fail
  refine CA.out.mono ?_
  rintro e w' ⟨rfl, rfl⟩
  go_wp2_with fail
  go_loop [6] (fun n => ∃ k : Nat, k ≤ 32 ∧ a < 2 ^ (32 - k) ∧ n = .int .i64 k) (fun n => 32 - (intOf n).toNat)
  case atStart => exact ⟨0, by omega, by simpa using h1, rfl⟩
  case round =>
    obtain ⟨k, hk, hlt, rfl⟩ := hrel
    have HL := hid hlt
    clear hlt
    by_cases hl : k = 32
    · subst hl
      have hz : a = 0 := by have := HL.out; simp at this; omega
      have HC : Hid (32 - (Lib.bitLen a.toNat : Int) = 32) := hid (by rw [hz]; exact zero_clz)
      clear hk HL hz
      go_wp2_with fail
      go_ret2
      exact ⟨by rw [HC.out]; rfl, rfl⟩
    · have hk' : k < 32 := by omega
      have CJ := CB.out (31 - k) (by omega) (by omega)
      have hr : bitI a (31 - k) = 0 ∨ bitI a (31 - k) = 1 := by unfold bitI; omega
      obtain ⟨z, hz⟩ : ∃ z, bitI a (31 - k) = z := ⟨_, rfl⟩
      rw [hz] at CJ hr
      rcases hr with rfl | rfl
      · have HS := hid (high_step hk' h0 HL.out hz)
        have CJ := hid CJ
        clear hz hl hk
        go_wp2_with fail
        refine CJ.out.mono ?_
        rintro e w' ⟨rfl, rfl⟩
        go_wp2_with fail
        go_round
        case rel => exact ⟨k + 1, by omega, HS.out, by go_num⟩
        case measure => simp [intOf]; omega
      · have HC := hid (clz_at h0 hk' HL.out hz)
        have CJ := hid CJ
        clear hz hl hk
        go_wp2_with fail
        refine CJ.out.mono ?_
        rintro e w' ⟨rfl, rfl⟩
        go_wp2_with fail
        go_ret2
        exact ⟨by rw [HC.out]; rfl, rfl⟩
set_option maxHeartbeats 1600000 in
theorem refOne_ctz (a : Int) (w : World) (h0 : 0 ≤ a) (h1 : a < 4294967296) :
    Calls Tryd.prog 11 #[.int .i64 104, .int .u32 a] w fun e w' => e = .returned (.tuple #[.int .u32 (cnt 104 a), .int .i64 0]) ∧ w = w' := by
  have CA := refArity_any 104 w
  rw [show arity 104 = 1 by decide] at CA
  have CB := fun i i0 i1 => refBit_any a i w h0 h1 i0 i1
  have K : cnt 104 a = (Lib.ctz 32 a.toNat : Int) := rfl
  rw [K]
  have CA := hid CA
  have CB := hid CB
  clear K
  go_enter Tryd.func11, Tryd.ntmps11
  go_wp2_with fail
  refine CA.out.mono ?_
  rintro e w' ⟨rfl, rfl⟩
  go_wp2_with fail
  go_loop [6] (fun n => ∃ k : Nat, k ≤ 32 ∧ a % 2 ^ k = 0 ∧ n = .int .i64 k) (fun n => 32 - (intOf n).toNat)
  case atStart => exact ⟨0, by omega, by simp, rfl⟩
  case round =>
    obtain ⟨k, hk, hlt, rfl⟩ := hrel
    have HL := hid hlt
    clear hlt
    by_cases hl : k = 32
    · subst hl
      have hz : a = 0 := by have := HL.out; simp at this; omega
      have HC : Hid ((Lib.ctz 32 a.toNat : Int) = 32) := hid (by rw [hz]; exact zero_ctz)
      clear hk HL hz
      go_wp2_with fail
      go_ret2
      exact ⟨by rw [HC.out]; rfl, rfl⟩
    · have hk' : k < 32 := by omega
      have CJ := CB.out k (by omega) (by omega)
      have hr : bitI a k = 0 ∨ bitI a k = 1 := by unfold bitI; omega
      obtain ⟨z, hz⟩ : ∃ z, bitI a k = z := ⟨_, rfl⟩
      rw [hz] at CJ hr
      rcases hr with rfl | rfl
      · have HS := hid (low_step HL.out hz)
        have CJ := hid CJ
        clear hz hl hk
        go_wp2_with fail
        refine CJ.out.mono ?_
        rintro e w' ⟨rfl, rfl⟩
        go_wp2_with fail
        go_round
        case rel => exact ⟨k + 1, by omega, HS.out, by go_num⟩
        case measure => simp [intOf]; omega
      · have HC := hid (ctz_at h0 hk' HL.out hz)
        have CJ := hid CJ
        clear hz hl hk
        go_wp2_with fail
        refine CJ.out.mono ?_
        rintro e w' ⟨rfl, rfl⟩
        go_wp2_with fail
        go_ret2
        exact ⟨by rw [HC.out]; rfl, rfl⟩
set_option maxHeartbeats 1600000 in
theorem refOne_pop (a : Int) (w : World) (h0 : 0 ≤ a) (h1 : a < 4294967296) :
    Calls Tryd.prog 11 #[.int .i64 105, .int .u32 a] w fun e w' => e = .returned (.tuple #[.int .u32 (cnt 105 a), .int .i64 0]) ∧ w = w' := by
  have CA := refArity_any 105 w
  rw [show arity 105 = 1 by decide] at CA
  have CB := fun i i0 i1 => refBit_any a i w h0 h1 i0 i1
  have K : cnt 105 a = sumB a 32 := (sumB_ones h0 h1).symm
  rw [K]
  have CA := hid CA
  have CB := hid CB
  clear K
  go_enter Tryd.func11, Tryd.ntmps11
  go_wp2_with fail
  refine CA.out.mono ?_
  rintro e w' ⟨rfl, rfl⟩
  go_wp2_with fail
  go_loop [6, 7] (fun n i => ∃ k : Nat, k ≤ 32 ∧ i = .int .i64 k ∧ n = .int .i64 (sumB a k)) (fun _ i => 32 - (intOf i).toNat)
  case atStart => exact ⟨0, by omega, rfl, rfl⟩
  case round =>
    obtain ⟨k, hk, rfl, rfl⟩ := hrel
    have hs := sumB_range a k
    obtain ⟨s, hsk⟩ : ∃ s, sumB a k = s := ⟨_, rfl⟩
    rw [hsk] at hs ⊢
    by_cases hl : k = 32
    · subst hl
      have HK := hid hsk
      clear hk hsk
      go_wp2_with fail
      go_ret2
      exact ⟨by rw [HK.out]; rfl, rfl⟩
    · have hk' : k < 32 := by omega
      have CJ := CB.out k (by omega) (by omega)
      have hr : 0 ≤ bitI a k ∧ bitI a k ≤ 1 := by unfold bitI; omega
      have HS : Hid (sumB a (k + 1) = s + bitI a k) := hid (by rw [sumB, hsk])
      obtain ⟨z, hz⟩ : ∃ z, bitI a k = z := ⟨_, rfl⟩
      rw [hz] at CJ hr HS
      have CJ := hid CJ
      clear hz hl hk hsk
      go_wp2_with fail
      refine CJ.out.mono ?_
      rintro e w' ⟨rfl, rfl⟩
      go_wp2_with fail
      go_round
      case rel => exact ⟨k + 1, by omega, by go_num, by rw [HS.out]⟩
      case measure => simp [intOf]; omega
theorem refOne_any (op a : Int) (w : World) (h0 : 0 ≤ a) (h1 : a < 4294967296) :
    Calls Tryd.prog 11 #[.int .i64 op, .int .u32 a] w fun e w' => e = .returned (.tuple #[.int .u32 (oneV op a), .int .i64 (oneE op)]) ∧ w = w' := by
  by_cases ha : arity op = 1
  · rw [show oneE op = 0 by unfold oneE; rw [if_pos ha], show oneV op a = cnt op a by unfold oneV; rw [if_pos ha]]
    rcases arity_one ha with rfl | rfl | rfl | rfl
    · exact refOne_eqz a w
    · exact refOne_clz a w h0 h1
    · exact refOne_ctz a w h0 h1
    · exact refOne_pop a w h0 h1
  · rw [show oneE op = 2 by unfold oneE; rw [if_neg ha], show oneV op a = 0 by unfold oneV; rw [if_neg ha]]
    exact refOne_none op a w ha
end Go.Proofs.YtabffkninpikpaaDoor.Num
