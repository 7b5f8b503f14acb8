/-
  NUM: the document's own Two by contract: what the plain functions tell.
-/
import Derived.Test.YtabffkninpikpaaDoorNumBits
import Derived.Test.YtabffkninpikpaaDoorNumBitsPlain
namespace Go.Proofs.YtabffkninpikpaaDoor.Num
open Go.RowKit

theorem bitsF_comb {op a b i : Int} (ho : 113 ≤ op ∧ op ≤ 120) (h0 : 0 ≤ a) (h1 : a < 4294967296) (k0 : 0 ≤ b) (i0 : 0 ≤ i) (i1 : i ≤ 31) : bitsF op a b i = bitI (comb op a b) i := by
  obtain ⟨m, rfl⟩ := Int.eq_ofNat_of_zero_le h0
  obtain ⟨n, rfl⟩ := Int.eq_ofNat_of_zero_le k0
  have hh : op = 113 ∨ op = 114 ∨ op = 115 ∨ op = 116 ∨ op = 117 ∨ op = 118 ∨ op = 119 ∨ op = 120 := by omega
  rcases hh with rfl | rfl | rfl | rfl | rfl | rfl | rfl | rfl
  · exact bits_and m n i
  · exact bits_or m n i
  · exact bits_xor m n i
  · exact bits_shl i0 i1
  · exact bits_shrS (by omega) i0 i1
  · exact bits_shrU (by omega) i0
  · exact bits_rotl (by omega) i0 i1
  · exact bits_rotr (by omega) i0 i1
theorem turn_lt {a : Int} (h0 : 0 ≤ a) (h1 : a < 4294967296) (k : Nat) : 0 ≤ turn a k ∧ turn a k < 4294967296 := by
  obtain ⟨m, rfl⟩ := Int.eq_ofNat_of_zero_le h0
  have := turnN_lt (m := m) (k := k) (by omega)
  rw [turn_nat]; omega
theorem comb_range {op a b : Int} (ho : 113 ≤ op ∧ op ≤ 120) (h0 : 0 ≤ a) (h1 : a < 4294967296) (k1 : b < 4294967296) : 0 ≤ comb op a b ∧ comb op a b < 4294967296 := by
  have hh : op = 113 ∨ op = 114 ∨ op = 115 ∨ op = 116 ∨ op = 117 ∨ op = 118 ∨ op = 119 ∨ op = 120 := by omega
  rcases hh with rfl | rfl | rfl | rfl | rfl | rfl | rfl | rfl
  · exact ⟨Int.natCast_nonneg _, andW_lt (b := b) h1⟩
  · exact ⟨Int.natCast_nonneg _, orW_lt h1 k1⟩
  · exact ⟨Int.natCast_nonneg _, xorW_lt h1 k1⟩
  · show 0 ≤ shlW a b ∧ shlW a b < 4294967296
    unfold shlW; omega
  · show 0 ≤ shrS a b ∧ shrS a b < 4294967296
    unfold shrS; omega
  · show 0 ≤ shrU a b ∧ shrU a b < 4294967296
    unfold shrU
    have := Int.ediv_nonneg h0 (show (0 : Int) ≤ 2 ^ (b % 32).toNat from Int.le_of_lt (Int.pow_pos (by decide)))
    have := Int.ediv_le_self (2 ^ (b % 32).toNat) h0
    omega
  · exact turn_lt h0 h1 _
  · exact turn_lt h0 h1 _

theorem twoV_comb {op a b : Int} (ha : arity op = 2) (hr : refuse op a b = 0) : twoV op a b = comb op a b := by unfold twoV; rw [if_pos ⟨ha, hr⟩]
theorem twoE_zero {op a b : Int} (ha : arity op = 2) (hr : refuse op a b = 0) : twoE op a b = 0 := by unfold twoE; rw [if_pos ha, hr]

set_option maxHeartbeats 3200000 in
theorem refTwo_bits (op a b : Int) (w : World) (ho : 113 ≤ op ∧ op ≤ 120) (h0 : 0 ≤ a) (h1 : a < 4294967296) (k0 : 0 ≤ b) (k1 : b < 4294967296) :
    Calls Tryd.prog 16 #[.int .i64 op, .int .u32 a, .int .u32 b] w fun e w' => e = .returned (.tuple #[.int .u32 (comb op a b), .int .i64 0]) ∧ w = w' := by
  have CA := refArity_any op w
  have ha : arity op = 2 := by unfold arity; rw [if_neg (by omega), if_pos (by omega)]
  rw [ha] at CA
  have hc := comb_range ho h0 h1 k1
  have F := acc_of hc.1 hc.2 (fun i i0 i1 => bitsF_comb ho h0 h1 k0 i0 i1) 32 (by omega)
  have hF : acc (bitsF op a b) 32 = comb op a b := by rw [F]; simp
  have CB := fun i i0 i1 => bits_any op a b i w ho h0 h1 k0 k1 i0 i1
  have S := fun k hk => acc_small (bitsF_range op a b) k hk
  have R := fun i => bitsF_range op a b i
  rw [← hF]
  obtain ⟨f, hf⟩ : ∃ f, bitsF op a b = f := ⟨_, rfl⟩
  rw [hf] at S R ⊢
  have hf' : ∀ i, bitsF op a b i = f i := fun i => by rw [hf]
  simp only [hf'] at CB
  have CA := hid CA
  have CB := hid CB
  have S := hid S
  have R := hid R
  clear hc F hF hf hf' ha
  have hh : op = 113 ∨ op = 114 ∨ op = 115 ∨ op = 116 ∨ op = 117 ∨ op = 118 ∨ op = 119 ∨ op = 120 := by omega
  rcases hh with rfl | rfl | rfl | rfl | rfl | rfl | rfl | rfl
  all_goals
    clear ho
    go_enter Tryd.func16, Tryd.ntmps16
    go_wp2_with fail
    refine CA.out.mono ?_
    rintro e w' ⟨rfl, rfl⟩
    go_wp2_with fail
    go_loop [8, 9] (fun n i => ∃ k : Nat, k ≤ 32 ∧ i = .int .i64 (31 - k) ∧ n = .int .i64 (acc f k)) (fun _ i => (intOf i + 1).toNat)
    case atStart => exact ⟨0, by omega, rfl, rfl⟩
    case round =>
      obtain ⟨k, hk, rfl, rfl⟩ := hrel
      have s := S.out k hk
      obtain ⟨m, hm⟩ : ∃ m, acc f k = m := ⟨_, rfl⟩
      obtain ⟨j, hj⟩ : ∃ j : Int, 31 - (k : Int) = j := ⟨_, rfl⟩
      rw [hm] at s ⊢
      rw [hj]
      by_cases hl : k = 32
      · subst hl
        have hj' : j = -1 := by omega
        subst hj'
        have HM := hid hm
        clear hm hj hk
        go_wp2_with fail
        go_ret2
        exact ⟨by rw [HM.out]; rfl, rfl⟩
      · have CJ := CB.out j (by omega) (by omega)
        have r := R.out j
        obtain ⟨z, hz⟩ : ∃ z, f j = z := ⟨_, rfl⟩
        rw [hz] at CJ r
        have CJ := hid CJ
        have hA : Hid (acc f (k + 1) = 2 * m + z) := hid (by rw [acc, hm, hj, hz])
        have hJ : Hid (31 - ((k + 1 : Nat) : Int) = j - 1) := hid (by omega)
        have j0 : 0 ≤ j := by omega
        have j1 : j ≤ 31 := by omega
        have hK : Hid (k + 1 ≤ 32) := hid (by omega)
        clear hm hj hk hl hz
        go_wp2_with fail
        refine CJ.out.mono ?_
        rintro e w' ⟨rfl, rfl⟩
        go_wp2_with fail
        go_round
        case rel => exact ⟨k + 1, hK.out, by rw [hJ.out], by rw [hA.out]⟩
        case measure => simp [intOf]; omega
set_option maxHeartbeats 3200000 in
theorem refTwo_cmp (op a b : Int) (w : World) (ho : 70 ≤ op ∧ op ≤ 79) (h0 : 0 ≤ a) (h1 : a < 4294967296) (k0 : 0 ≤ b) (k1 : b < 4294967296) :
    Calls Tryd.prog 16 #[.int .i64 op, .int .u32 a, .int .u32 b] w fun e w' => e = .returned (.tuple #[.int .u32 (truth (cmp op a b)), .int .i64 0]) ∧ w = w' := by
  have CA := refArity_any op w
  have ha : arity op = 2 := by unfold arity; rw [if_neg (by omega), if_pos (by omega)]
  rw [ha] at CA
  have CC := compares_any op a b w ho h0 h1 k0 k1
  have SA := refSigned_any a w h0 h1
  have SB := refSigned_any b w k0 k1
  generalize sg a = sa at *
  generalize sg b = sb at *
  have hh : op = 70 ∨ op = 71 ∨ op = 73 ∨ op = 75 ∨ op = 77 ∨ op = 79 ∨ op = 72 ∨ op = 74 ∨ op = 76 ∨ op = 78 := by omega
  have CA := hid CA
  have SA := hid SA
  have SB := hid SB
  clear ha
  rcases hh with rfl | rfl | rfl | rfl | rfl | rfl | rfl | rfl | rfl | rfl
  all_goals
    clear ho
    simp (decide := true) only [if_true, if_false] at CC
    have CC := hid CC
    generalize cmp _ a b = t at *
    go_enter Tryd.func16, Tryd.ntmps16
    go_wp2_with fail
    refine CA.out.mono ?_
    rintro e w' ⟨rfl, rfl⟩
    go_wp2_with fail
    first
      | (refine SA.out.mono ?_
         rintro e w' ⟨rfl, rfl⟩
         go_wp2_with fail
         refine SB.out.mono ?_
         rintro e w' ⟨rfl, rfl⟩
         go_wp2_with fail)
      | skip
    refine CC.out.mono ?_
    rintro e w' ⟨rfl, rfl⟩
    go_wp2_with fail
    refine (refTruth_any t _).mono ?_
    rintro e w' ⟨rfl, rfl⟩
    go_wp2
    go_ret2
    exact ⟨rfl, rfl⟩
theorem mul_le {x y : Int} (hx : -2147483648 ≤ x ∧ x ≤ 2147483647) (hy : -2147483648 ≤ y ∧ y ≤ 2147483647) : -4611686018427387904 ≤ x * y ∧ x * y ≤ 4611686018427387904 := by
  have h : (x * y).natAbs = x.natAbs * y.natAbs := Int.natAbs_mul x y
  have h2 : x.natAbs * y.natAbs ≤ 2147483648 * 2147483648 := Nat.mul_le_mul (by omega) (by omega)
  omega
theorem sg_mod (a : Int) : sg a % 4294967296 = a % 4294967296 := by unfold sg; split <;> omega
theorem word_mul (a b : Int) : word (sg a * sg b) = word (a * b) := by
  unfold word
  rw [Int.mul_emod, sg_mod, sg_mod, ← Int.mul_emod]
set_option maxHeartbeats 1600000 in
theorem refTwo_plain (op a b : Int) (w : World) (ho : 106 ≤ op ∧ op ≤ 108) (h0 : 0 ≤ a) (h1 : a < 4294967296) (k0 : 0 ≤ b) (k1 : b < 4294967296) :
    Calls Tryd.prog 16 #[.int .i64 op, .int .u32 a, .int .u32 b] w fun e w' => e = .returned (.tuple #[.int .u32 (comb op a b), .int .i64 0]) ∧ w = w' := by
  have CA := refArity_any op w
  have ha : arity op = 2 := by unfold arity; rw [if_neg (by omega), if_pos (by omega)]
  rw [ha] at CA
  have hh : op = 106 ∨ op = 107 ∨ op = 108 := by omega
  have CA := hid CA
  clear ha
  rcases hh with rfl | rfl | rfl
  · rw [show comb 106 a b = word (a + b) from rfl]
    clear ho
    go_enter Tryd.func16, Tryd.ntmps16
    go_wp2_with fail
    refine CA.out.mono ?_
    rintro e w' ⟨rfl, rfl⟩
    go_wp2_with fail
    refine (refWord_any _ _).mono ?_
    rintro e w' ⟨rfl, rfl⟩
    go_wp2
    go_ret2
    exact ⟨rfl, rfl⟩
  · rw [show comb 107 a b = word (a - b) from rfl]
    clear ho
    go_enter Tryd.func16, Tryd.ntmps16
    go_wp2_with fail
    refine CA.out.mono ?_
    rintro e w' ⟨rfl, rfl⟩
    go_wp2_with fail
    refine (refWord_any _ _).mono ?_
    rintro e w' ⟨rfl, rfl⟩
    go_wp2
    go_ret2
    exact ⟨rfl, rfl⟩
  · rw [show comb 108 a b = word (a * b) from rfl, ← word_mul]
    have SA := refSigned_any a w h0 h1
    have SB := refSigned_any b w k0 k1
    have ma := sg_bounds h0 h1
    have mb := sg_bounds k0 k1
    generalize sg a = sa at *
    generalize sg b = sb at *
    have hm := mul_le ma mb
    obtain ⟨m0, m1⟩ := hm
    have SA := hid SA
    have SB := hid SB
    clear ho
    go_enter Tryd.func16, Tryd.ntmps16
    go_wp2_with fail
    refine CA.out.mono ?_
    rintro e w' ⟨rfl, rfl⟩
    go_wp2_with fail
    refine SA.out.mono ?_
    rintro e w' ⟨rfl, rfl⟩
    go_wp2_with fail
    refine SB.out.mono ?_
    rintro e w' ⟨rfl, rfl⟩
    go_wp2_with fail
    refine (refWord_any _ _).mono ?_
    rintro e w' ⟨rfl, rfl⟩
    go_wp2
    go_ret2
    exact ⟨rfl, rfl⟩
theorem div_u {a b : Int} (h0 : 0 ≤ a) (h1 : a < 4294967296) : word (a.tdiv b) = a / b ∨ b ≤ 0 := by
  by_cases hb : b ≤ 0
  · exact .inr hb
  · refine .inl ?_
    rw [Int.tdiv_eq_ediv_of_nonneg h0]
    have := Int.ediv_nonneg h0 (show 0 ≤ b by omega)
    have := Int.ediv_le_self b h0
    unfold word; omega
theorem rem_u {a b : Int} (h0 : 0 ≤ a) (k0 : 0 ≤ b) (k1 : b < 4294967296) (hb : b ≠ 0) : word (a.tmod b) = a % b := by
  rw [Int.tmod_eq_emod_of_nonneg h0]
  have := Int.emod_nonneg a hb
  have := Int.emod_lt_of_pos a (show 0 < b by omega)
  unfold word; omega
def side (op a : Int) : Int := if op = 109 ∨ op = 111 then sg a else a
theorem divides_two (op a b : Int) (w : World) (ho : 109 ≤ op ∧ op ≤ 112) (h0 : 0 ≤ a) (h1 : a < 4294967296) (k0 : 0 ≤ b) (k1 : b < 4294967296) :
    Calls Tryd.prog 29 #[.int .i64 op, .int .i64 (side op a), .int .i64 (side op b)] w fun e w' => e = .returned (.tuple #[.int .u32 (twoV op a b), .int .i64 (twoE op a b)]) ∧ w = w' := by
  have ha : arity op = 2 := by unfold arity; rw [if_neg (by omega), if_pos (by omega)]
  have ma := sg_bounds h0 h1
  have mb := sg_bounds k0 k1
  have hE : twoE op a b = refuse op a b := by unfold twoE; rw [if_pos ha]
  by_cases hb : b = 0
  · subst hb
    have e1 : side op 0 = 0 := by unfold side sg; split <;> simp
    have e2 : twoV op a 0 = 0 := by unfold twoV; rw [refuse_zero ho, if_neg (by omega)]
    rw [hE, refuse_zero ho, e1, e2]
    exact divides_zero op _ w
  · by_cases h9 : op = 109 ∧ a = 2147483648 ∧ b = 4294967295
    · obtain ⟨rfl, rfl, rfl⟩ := h9
      exact divides_over w
    · have hr : refuse op a b = 0 := by unfold refuse; rw [if_pos ho, if_neg hb, if_neg h9]
      rw [hE, hr, twoV_comb ha hr]
      have hs : side op b ≠ 0 := by
        unfold side
        split
        · exact fun h => hb ((sg_zero k0 k1).1 h)
        · exact hb
      have hn : ¬ (op = 109 ∧ side op a = -2147483648 ∧ side op b = -1) := by
        rintro ⟨rfl, e1, e2⟩
        have e1 : sg a = -2147483648 := e1
        have e2 : sg b = -1 := e2
        apply h9
        unfold sg at e1 e2
        split at e1 <;> split at e2 <;> omega
      have hx : -4294967296 ≤ side op a ∧ side op a ≤ 4294967296 := by unfold side; split <;> omega
      have hv : comb op a b = divV op (side op a) (side op b) := by
        have hh : op = 109 ∨ op = 110 ∨ op = 111 ∨ op = 112 := by omega
        rcases hh with rfl | rfl | rfl | rfl
        · rfl
        · exact ((div_u (b := b) h0 h1).resolve_right (by omega)).symm
        · rfl
        · exact (rem_u h0 k0 k1 hb).symm
      rw [hv]
      exact divides_any op _ _ w ho hx hs hn
set_option maxHeartbeats 1600000 in
theorem refTwo_div (op a b : Int) (w : World) (ho : 109 ≤ op ∧ op ≤ 112) (h0 : 0 ≤ a) (h1 : a < 4294967296) (k0 : 0 ≤ b) (k1 : b < 4294967296) :
    Calls Tryd.prog 16 #[.int .i64 op, .int .u32 a, .int .u32 b] w fun e w' => e = .returned (.tuple #[.int .u32 (twoV op a b), .int .i64 (twoE op a b)]) ∧ w = w' := by
  have CA := refArity_any op w
  have ha : arity op = 2 := by unfold arity; rw [if_neg (by omega), if_pos (by omega)]
  rw [ha] at CA
  have CD := divides_two op a b w ho h0 h1 k0 k1
  have SA := refSigned_any a w h0 h1
  have SB := refSigned_any b w k0 k1
  have e1 : side 109 a = sg a := rfl
  have e2 : side 110 a = a := rfl
  have e3 : side 111 a = sg a := rfl
  have e4 : side 112 a = a := rfl
  have f1 : side 109 b = sg b := rfl
  have f2 : side 110 b = b := rfl
  have f3 : side 111 b = sg b := rfl
  have f4 : side 112 b = b := rfl
  have hh : op = 110 ∨ op = 112 ∨ op = 109 ∨ op = 111 := by omega
  have CA := hid CA
  rcases hh with rfl | rfl | rfl | rfl
  all_goals
    simp only [e1, e2, e3, e4, f1, f2, f3, f4] at CD
    clear ho ha e1 e2 e3 e4 f1 f2 f3 f4
    generalize sg a = sa at *
    generalize sg b = sb at *
    generalize twoV _ a b = v at *
    generalize twoE _ a b = er at *
    have CD := hid CD
    have SA := hid SA
    have SB := hid SB
    go_enter Tryd.func16, Tryd.ntmps16
    go_wp2_with fail
    refine CA.out.mono ?_
    rintro e w' ⟨rfl, rfl⟩
    go_wp2_with fail
    first
      | (refine SA.out.mono ?_
         rintro e w' ⟨rfl, rfl⟩
         go_wp2_with fail
         refine SB.out.mono ?_
         rintro e w' ⟨rfl, rfl⟩
         go_wp2_with fail)
      | skip
    refine CD.out.mono ?_
    rintro e w' ⟨rfl, rfl⟩
    go_wp2
    go_ret2
    exact ⟨rfl, rfl⟩
set_option maxHeartbeats 800000 in
theorem refTwo_none (op a b : Int) (w : World) (ha : arity op ≠ 2) :
    Calls Tryd.prog 16 #[.int .i64 op, .int .u32 a, .int .u32 b] w fun e w' => e = .returned (.tuple #[.int .u32 0, .int .i64 2]) ∧ w = w' := by
  have CA := refArity_any op w
  have hr := arity_range op
  have ha' : arity op < 2 := by omega
  generalize arity op = c at *
  clear ha
  have CA := hid CA
  go_enter Tryd.func16, Tryd.ntmps16
  go_wp2_with fail
  refine CA.out.mono ?_
  rintro e w' ⟨rfl, rfl⟩
  go_wp2
  go_ret2
  exact ⟨rfl, rfl⟩
theorem comb_cmp {op a b : Int} (ho : 70 ≤ op ∧ op ≤ 79) : comb op a b = truth (cmp op a b) := by
  unfold comb
  repeat rw [if_neg (by omega)]
theorem refTwo_any (op a b : Int) (w : World) (h0 : 0 ≤ a) (h1 : a < 4294967296) (k0 : 0 ≤ b) (k1 : b < 4294967296) :
    Calls Tryd.prog 16 #[.int .i64 op, .int .u32 a, .int .u32 b] w fun e w' => e = .returned (.tuple #[.int .u32 (twoV op a b), .int .i64 (twoE op a b)]) ∧ w = w' := by
  by_cases ha : arity op = 2
  · have h := arity_two ha
    by_cases h2 : 109 ≤ op ∧ op ≤ 112
    · exact refTwo_div op a b w h2 h0 h1 k0 k1
    · have hr : refuse op a b = 0 := refuse_out (by omega)
      rw [twoV_comb ha hr, twoE_zero ha hr]
      by_cases h3 : op ≤ 79
      · rw [comb_cmp (by omega)]
        exact refTwo_cmp op a b w (by omega) h0 h1 k0 k1
      · by_cases h4 : op ≤ 108
        · exact refTwo_plain op a b w (by omega) h0 h1 k0 k1
        · exact refTwo_bits op a b w (by omega) h0 h1 k0 k1
  · have V : twoV op a b = 0 := by unfold twoV; rw [if_neg (fun h => ha h.1)]
    have E : twoE op a b = 2 := by unfold twoE; rw [if_neg ha]
    rw [V, E]
    exact refTwo_none op a b w ha
end Go.Proofs.YtabffkninpikpaaDoor.Num
