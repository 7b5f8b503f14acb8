/-
  NUM: the walk of the statement NumDivides: what is divided is quotient times divisor and what is left.
-/
import Derived.Test.YtabffkninpikpaaDoorNumRefTwo
import Derived.Test.YtabffkninpikpaaDoorNumAwake
namespace Go.Proofs.YtabffkninpikpaaDoor
open Go.RowKit Num

theorem back_u {a b : Int} (h0 : 0 ≤ a) (h1 : a < 4294967296) : (a / b * b + a % b) % 4294967296 = a := by
  have := Int.mul_ediv_add_emod a b
  rw [Int.mul_comm] at this
  rw [this]; omega
theorem back_s {a b : Int} (h0 : 0 ≤ a) (h1 : a < 4294967296) : (word ((sg a).tdiv (sg b)) * b % 4294967296 + word ((sg a).tmod (sg b))) % 4294967296 = a := by
  unfold word
  have h := Int.mul_tdiv_add_tmod (sg a) (sg b)
  rw [Int.add_emod, Int.emod_emod_of_dvd _ (Int.dvd_refl _), Int.emod_emod_of_dvd _ (Int.dvd_refl _), Int.mul_emod, Int.emod_emod_of_dvd _ (Int.dvd_refl _), ← sg_mod b, ← Int.mul_emod, ← Int.add_emod, Int.mul_comm, h, sg_mod]
  omega

/-- The two divisions and the two remainders, as they are told. -/
theorem div_told (op a b : Int) (w : World) (hT : Arit w) (ho : 109 ≤ op ∧ op ≤ 112) (h0 : 0 ≤ a) (h1 : a < 4294967296) (k0 : 0 ≤ b) (k1 : b < 4294967296) (hr : refuse op a b = 0) :
    Calls Tryd.prog 15 #[.int .i64 op, .int .u32 a, .int .u32 b] w fun e w' => e = .returned (.tuple #[.int .u32 (comb op a b), .int .i64 0]) ∧ w = w' := by
  have ha : arity op = 2 := by unfold arity; rw [if_neg (by omega), if_pos (by omega)]
  have h := Two_any op a b w h0 h1 k0 k1 hT
  rwa [twoV_comb ha hr, twoE_zero ha hr] at h
theorem div_refused (op a b c : Int) (w : World) (hT : Arit w) (ho : 109 ≤ op ∧ op ≤ 112) (h0 : 0 ≤ a) (h1 : a < 4294967296) (k0 : 0 ≤ b) (k1 : b < 4294967296) (hr : refuse op a b = c) (hc : c ≠ 0) :
    Calls Tryd.prog 15 #[.int .i64 op, .int .u32 a, .int .u32 b] w fun e w' => e = .returned (.tuple #[.int .u32 0, .int .i64 c]) ∧ w = w' := by
  have ha : arity op = 2 := by unfold arity; rw [if_neg (by omega), if_pos (by omega)]
  have h := Two_any op a b w h0 h1 k0 k1 hT
  have V : twoV op a b = 0 := by unfold twoV; rw [if_neg (by rw [hr]; exact fun h => hc h.2)]
  have E : twoE op a b = c := by unfold twoE; rw [if_pos ha, hr]
  rwa [V, E] at h

set_option maxHeartbeats 1600000 in
theorem numDivides_walk (w : World) (a : Int) (ha : 0 ≤ a ∧ a ≤ 4294967295) (b : Int) (hb : 0 ≤ b ∧ b ≤ 4294967295) (hT : Arit w) :
    Calls Tryd.prog 6 #[.int .u32 a, .int .u32 b] w fun e w' => e = .returned (.bool true) ∧ Below w.heap.size w w' := by
  have W := hid (awake_any w hT)
  obtain ⟨h0, h1⟩ := ha
  obtain ⟨k0, k1⟩ := hb
  by_cases hz : b = 0
  · subst hz
    have A := hid (div_refused 110 a 0 130 w hT (by omega) (by omega) (by omega) (by omega) (by omega) (refuse_zero (by omega)) (by omega))
    have B := hid (div_refused 112 a 0 130 w hT (by omega) (by omega) (by omega) (by omega) (by omega) (refuse_zero (by omega)) (by omega))
    have C := hid (div_refused 109 a 0 130 w hT (by omega) (by omega) (by omega) (by omega) (by omega) (refuse_zero (by omega)) (by omega))
    have D := hid (div_refused 111 a 0 130 w hT (by omega) (by omega) (by omega) (by omega) (by omega) (refuse_zero (by omega)) (by omega))
    clear hT
    go_enter Tryd.func6, Tryd.ntmps6
    go_wp2_with fail
    refine W.out.mono ?_
    rintro e w' ⟨rfl, rfl⟩
    go_wp2_with fail
    refine A.out.mono ?_
    rintro e w' ⟨rfl, rfl⟩
    go_wp2_with fail
    refine B.out.mono ?_
    rintro e w' ⟨rfl, rfl⟩
    go_wp2_with fail
    refine C.out.mono ?_
    rintro e w' ⟨rfl, rfl⟩
    go_wp2_with fail
    refine D.out.mono ?_
    rintro e w' ⟨rfl, rfl⟩
    go_wp2
    go_ret
    exact ⟨rfl, Below.refl _ _⟩
  · have hz' : ¬ b = 0 := hz
    have k0' : 0 < b := by omega
    have r0 : refuse 110 a b = 0 := by unfold refuse; rw [if_pos (by omega), if_neg hz, if_neg (by omega)]
    have r1 : refuse 112 a b = 0 := by unfold refuse; rw [if_pos (by omega), if_neg hz, if_neg (by omega)]
    have r2 : refuse 111 a b = 0 := by unfold refuse; rw [if_pos (by omega), if_neg hz, if_neg (by omega)]
    have A := div_told 110 a b w hT (by omega) (by omega) (by omega) (by omega) (by omega) r0
    have B := div_told 112 a b w hT (by omega) (by omega) (by omega) (by omega) (by omega) r1
    have D := div_told 111 a b w hT (by omega) (by omega) (by omega) (by omega) (by omega) r2
    rw [show comb 110 a b = a / b from rfl] at A
    rw [show comb 112 a b = a % b from rfl] at B
    have Q := back_u (b := b) h0 (by omega)
    have q0 := Int.ediv_nonneg h0 k0
    have q1 := Int.ediv_le_self b h0
    have m0 := Int.emod_nonneg a hz
    have m1 := Int.emod_lt_of_pos a k0'
    have S := back_s (b := b) h0 (show a < 4294967296 by omega)
    have s0 : 0 ≤ word ((sg a).tdiv (sg b)) ∧ word ((sg a).tdiv (sg b)) ≤ 4294967295 := by unfold word; omega
    have t0 : 0 ≤ word ((sg a).tmod (sg b)) ∧ word ((sg a).tmod (sg b)) ≤ 4294967295 := by unfold word; omega
    rw [show comb 111 a b = word ((sg a).tmod (sg b)) from rfl] at D
    have C := fun r => div_told 109 a b w hT (by omega) (by omega) (by omega) (by omega) (by omega) r
    rw [show comb 109 a b = word ((sg a).tdiv (sg b)) from rfl] at C
    generalize word ((sg a).tdiv (sg b)) = s at *
    by_cases h9 : a = 2147483648 ∧ b = 4294967295
    · obtain ⟨rfl, rfl⟩ := h9
      have C' := hid (div_refused 109 2147483648 4294967295 131 w hT (by omega) (by omega) (by omega) (by omega) (by omega) rfl (by omega))
      rw [show word ((sg 2147483648).tmod (sg 4294967295)) = 0 by decide] at D
      rw [show (2147483648 : Int) / 4294967295 = 0 by decide] at A
      rw [show (2147483648 : Int) % 4294967295 = 2147483648 by decide] at B
      have A := hid A
      have B := hid B
      have D := hid D
      clear hT C Q S s0 t0 q0 q1 m0 m1 r0 r1 r2 hz hz'
      go_enter Tryd.func6, Tryd.ntmps6
      go_wp2_with fail
      refine W.out.mono ?_
      rintro e w' ⟨rfl, rfl⟩
      go_wp2_with fail
      refine A.out.mono ?_
      rintro e w' ⟨rfl, rfl⟩
      go_wp2_with fail
      refine B.out.mono ?_
      rintro e w' ⟨rfl, rfl⟩
      go_wp2_with fail
      refine C'.out.mono ?_
      rintro e w' ⟨rfl, rfl⟩
      go_wp2_with fail
      refine D.out.mono ?_
      rintro e w' ⟨rfl, rfl⟩
      go_wp2
      go_ret
      exact ⟨rfl, Below.refl _ _⟩
    · have C := hid (C (by unfold refuse; rw [if_pos (by omega), if_neg hz, if_neg (by omega)]))
      generalize word ((sg a).tmod (sg b)) = t at *
      have A := hid A
      have B := hid B
      have D := hid D
      generalize a / b = q at *
      generalize a % b = m at *
      have H9 := hid h9
      obtain ⟨s0, s1⟩ := s0
      obtain ⟨t0, t1⟩ := t0
      clear hT r0 r1 r2 hz h9
      have hh : (a == 2147483648) = false ∨ ((a == 2147483648) = true ∧ (b == 4294967295) = false) := by
        have := H9.out
        simp; omega
      rcases hh with e1 | ⟨e1, e2⟩
      all_goals
        clear H9
        go_enter Tryd.func6, Tryd.ntmps6
        go_wp2_with fail
        refine W.out.mono ?_
        rintro e w' ⟨rfl, rfl⟩
        go_wp2_with fail
        refine A.out.mono ?_
        rintro e w' ⟨rfl, rfl⟩
        go_wp2_with fail
        refine B.out.mono ?_
        rintro e w' ⟨rfl, rfl⟩
        go_wp2_with fail
        refine C.out.mono ?_
        rintro e w' ⟨rfl, rfl⟩
        go_wp2_with fail
        refine D.out.mono ?_
        rintro e w' ⟨rfl, rfl⟩
        go_wp2
        go_ret
        exact ⟨rfl, Below.refl _ _⟩
end Go.Proofs.YtabffkninpikpaaDoor
