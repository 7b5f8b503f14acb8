/-
  NUM: the operations that only reckon, by contracts: truth, Signed, compare, RotateLeft32, combine, refusal.
-/
import Derived.Test.YtabffkninpikpaaDoorBase
import Derived.Test.YtabffkninpikpaaDoorNumPlain
import Derived.Laws.Bits64b
namespace Go.Proofs.YtabffkninpikpaaDoor.Num
open Go.RowKit

theorem wrapU32 (n : Int) : IntKind.u32.wrap n = n % 4294967296 := by simp [IntKind.wrap, IntKind.signed, IntKind.bits]
theorem ofInt32 {a : Int} (h0 : 0 ≤ a) (h1 : a < 4294967296) : (BitVec.ofInt 32 a).toNat = a.toNat := by rw [BitVec.toNat_ofInt]; omega
theorem andW_lt {a b : Int} (h1 : a < 4294967296) : andW a b < 4294967296 := by
  have : a.toNat &&& b.toNat < 2 ^ 32 ∨ a.toNat < 2 ^ 32 := .inr (by omega)
  have := Nat.and_le_left (n := a.toNat) (m := b.toNat)
  unfold andW; omega
theorem orW_lt {a b : Int} (h1 : a < 4294967296) (k1 : b < 4294967296) : orW a b < 4294967296 := by
  have := Nat.or_lt_two_pow (x := a.toNat) (y := b.toNat) (n := 32) (by omega) (by omega)
  unfold orW; omega
theorem xorW_lt {a b : Int} (h1 : a < 4294967296) (k1 : b < 4294967296) : xorW a b < 4294967296 := by
  have := Nat.xor_lt_two_pow (x := a.toNat) (y := b.toNat) (n := 32) (by omega) (by omega)
  unfold xorW; omega
theorem and_u32 {a b : Int} (h0 : 0 ≤ a) (h1 : a < 4294967296) (k0 : 0 ≤ b) (k1 : b < 4294967296) : bits .and .u32 a b = andW a b := by
  have hl := andW_lt (b := b) h1
  show IntKind.u32.wrap ((BitVec.ofInt 32 a &&& BitVec.ofInt 32 b).toNat : Int) = _
  rw [BitVec.toNat_and, ofInt32 h0 h1, ofInt32 k0 k1, wrapU32]
  unfold andW at *; omega
theorem or_u32 {a b : Int} (h0 : 0 ≤ a) (h1 : a < 4294967296) (k0 : 0 ≤ b) (k1 : b < 4294967296) : bits .or .u32 a b = orW a b := by
  have hl := orW_lt h1 k1
  show IntKind.u32.wrap ((BitVec.ofInt 32 a ||| BitVec.ofInt 32 b).toNat : Int) = _
  rw [BitVec.toNat_or, ofInt32 h0 h1, ofInt32 k0 k1, wrapU32]
  unfold orW at *; omega
theorem xor_u32 {a b : Int} (h0 : 0 ≤ a) (h1 : a < 4294967296) (k0 : 0 ≤ b) (k1 : b < 4294967296) : bits .xor .u32 a b = xorW a b := by
  have hl := xorW_lt h1 k1
  show IntKind.u32.wrap ((BitVec.ofInt 32 a ^^^ BitVec.ofInt 32 b).toNat : Int) = _
  rw [BitVec.toNat_xor, ofInt32 h0 h1, ofInt32 k0 k1, wrapU32]
  unfold xorW at *; omega
theorem and31 {b : Int} (k0 : 0 ≤ b) (k1 : b < 4294967296) : bits .and .u32 b 31 = b % 32 := bits_mask .u32 32 (by decide) (fun n h h' => by rw [wrapU32]; omega) 5 (by decide) b k0 (by omega)
theorem and31_64 {b : Int} (k0 : 0 ≤ b) (k1 : b < 18446744073709551616) : bits .and .u64 b 31 = b % 32 := bits_mask .u64 64 (by decide) (fun n h h' => by rw [IntKind.wrap_u64]; omega) 5 (by decide) b k0 (by omega)
theorem wrap32_sg {a : Int} (h0 : 0 ≤ a) (h1 : a < 4294967296) : wrap32 a = sg a := by unfold wrap32 sg; split <;> omega
theorem wrap64_in {a : Int} (h0 : -9223372036854775808 ≤ a) (h1 : a ≤ 9223372036854775807) : wrap64 a = a := by unfold wrap64; omega

theorem truth_any (b : Bool) (w : World) : Calls Tryd.prog 34 #[.bool b] w fun e w' => e = .returned (.int .u32 (truth b)) ∧ w = w' := by
  cases b
  all_goals
    go_enter Tryd.func34, Tryd.ntmps34
    go_wp2
    go_ret
    exact ⟨ret_int rfl, rfl⟩
theorem Signed_any (a : Int) (w : World) (h0 : 0 ≤ a) (h1 : a < 4294967296) : Calls Tryd.prog 19 #[.int .u32 a] w fun e w' => e = .returned (.int .i64 (sg a)) ∧ w = w' := by
  go_enter Tryd.func19, Tryd.ntmps19
  go_wp2
  go_ret
  refine ⟨ret_int ?_, rfl⟩
  have := sg_bounds h0 h1
  rw [wrap32_sg h0 h1, wrap64_in (by omega) (by omega)]
set_option maxHeartbeats 1600000 in
theorem compare_any (op a b : Int) (w : World) (ho : 70 ≤ op ∧ op ≤ 79) (h0 : 0 ≤ a) (h1 : a < 4294967296) (k0 : 0 ≤ b) (k1 : b < 4294967296) :
    Calls Tryd.prog 36 #[.int .i64 op, .int .u32 a, .int .u32 b] w fun e w' => e = .returned (.bool (cmp op a b)) ∧ w = w' := by
  have hh : op = 70 ∨ op = 71 ∨ op = 72 ∨ op = 73 ∨ op = 74 ∨ op = 75 ∨ op = 76 ∨ op = 77 ∨ op = 78 ∨ op = 79 := by omega
  have A := wrap32_sg h0 h1
  have B := wrap32_sg k0 k1
  rcases hh with rfl | rfl | rfl | rfl | rfl | rfl | rfl | rfl | rfl | rfl
  all_goals
    clear ho
    have A' := hid A
    have B' := hid B
    clear A B
    go_enter Tryd.func36, Tryd.ntmps36
    go_wp2
    go_ret
    refine ⟨ret_bool ?_, rfl⟩
    first | rw [A'.out, B'.out] | skip
    first | (simp [cmp]; done) | (simp [cmp]; rfl)
set_option maxHeartbeats 800000 in
theorem RotateLeft32_any (x k : Int) (w : World) (h0 : 0 ≤ x) (h1 : x < 4294967296) :
    Calls Tryd.prog 35 #[.int .u32 x, .int .i64 k] w fun e w' => e = .returned (.int .u32 (turn x (k % 32).toNat)) ∧ w = w' := by
  obtain ⟨c, hc⟩ : ∃ c, k % 32 = c := ⟨_, rfl⟩
  obtain ⟨c0, c1⟩ : 0 ≤ c ∧ c ≤ 31 := by omega
  have hm : bits .and .u64 (IntKind.u64.wrap k) 31 = c := by
    rw [IntKind.wrap_u64]
    rw [and31_64 (by omega) (by omega)]; omega
  rw [hc]
  clear hc
  go_enter Tryd.func35, Tryd.ntmps35
  go_wp2
  go_ret
  refine ⟨ret_int ?_, rfl⟩
  have e : (32 - c).toNat = 32 - c.toNat := by omega
  have d0 : 0 ≤ x / 2 ^ (32 - c.toNat) := Int.ediv_nonneg h0 (Int.le_of_lt (Int.pow_pos (by decide)))
  have d1 : x / 2 ^ (32 - c.toNat) ≤ x := Int.ediv_le_self _ h0
  rw [e, or_u32 (by omega) (by omega) d0 (by omega)]
  rfl
set_option maxHeartbeats 3200000 in
theorem combine_cmp (op a b : Int) (w : World) (ho : 70 ≤ op ∧ op ≤ 79) (h0 : 0 ≤ a) (h1 : a < 4294967296) (k0 : 0 ≤ b) (k1 : b < 4294967296) :
    Calls Tryd.prog 26 #[.int .i64 op, .int .u32 a, .int .u32 b] w fun e w' => e = .returned (.int .u32 (comb op a b)) ∧ w = w' := by
  have C : Hid (comb op a b = truth (cmp op a b)) := by
    have : comb op a b = truth (cmp op a b) := by
      unfold comb
      repeat rw [if_neg (by omega)]
    exact this
  have hh : op = 70 ∨ op = 71 ∨ op = 72 ∨ op = 73 ∨ op = 74 ∨ op = 75 ∨ op = 76 ∨ op = 77 ∨ op = 78 ∨ op = 79 := by omega
  rcases hh with rfl | rfl | rfl | rfl | rfl | rfl | rfl | rfl | rfl | rfl
  all_goals
    clear ho
    rw [C.out]
    go_enter Tryd.func26, Tryd.ntmps26
    go_wp2_with fail
    refine (compare_any _ a b _ (by omega) (by omega) (by omega) (by omega) (by omega)).mono ?_
    rintro e w1 ⟨rfl, rfl⟩
    go_wp2_with fail
    refine (truth_any _ _).mono ?_
    rintro e w1 ⟨rfl, rfl⟩
    go_wp2
    go_ret
    exact ⟨rfl, rfl⟩
theorem refuse_div {op a b : Int} (ho : 109 ≤ op ∧ op ≤ 112) (hr : refuse op a b = 0) : b ≠ 0 ∧ ¬ (op = 109 ∧ a = 2147483648 ∧ b = 4294967295) := by
  unfold refuse at hr
  rw [if_pos ho] at hr
  split at hr
  · omega
  · split at hr
    · omega
    · rename_i h1 h2; exact ⟨h1, h2⟩
theorem wrap32_mod (t : Int) : wrap32 t % 4294967296 = t % 4294967296 := by unfold wrap32; omega
set_option maxHeartbeats 1600000 in
theorem combine_plain (op a b : Int) (w : World) (ho : 106 ≤ op ∧ op ≤ 108 ∨ 113 ≤ op ∧ op ≤ 120) (h0 : 0 ≤ a) (h1 : a < 4294967296) (k0 : 0 ≤ b) (k1 : b < 4294967296) :
    Calls Tryd.prog 26 #[.int .i64 op, .int .u32 a, .int .u32 b] w fun e w' => e = .returned (.int .u32 (comb op a b)) ∧ w = w' := by
  have hm := and31 k0 k1
  have ma := sg_bounds h0 h1
  obtain ⟨sa, A⟩ : ∃ sa, sg a = sa := ⟨_, rfl⟩
  have A' := hid A
  rw [A] at ma
  rw [← wrap32_sg h0 h1] at A
  have hh : op = 106 ∨ op = 107 ∨ op = 108 ∨ op = 113 ∨ op = 114 ∨ op = 115 ∨ op = 116 ∨ op = 117 ∨ op = 118 ∨ op = 119 ∨ op = 120 := by omega
  rcases hh with rfl | rfl | rfl | rfl | rfl | rfl | rfl | rfl | rfl | rfl | rfl
  all_goals
    clear ho
    go_enter Tryd.func26, Tryd.ntmps26
    go_wp2_with (go_at_call 35; refine (RotateLeft32_any _ _ _ (by omega) (by omega)).mono ?_; rintro e w' ⟨rfl, rfl⟩)
    go_ret
    refine ⟨ret_int ?_, rfl⟩
    first
      | (simp [comb, word]; done)
      | (rw [and_u32 h0 h1 k0 k1]; simp [comb]; done)
      | (rw [or_u32 h0 h1 k0 k1]; simp [comb]; done)
      | (rw [xor_u32 h0 h1 k0 k1]; simp [comb]; done)
      | (simp [comb, shlW]; done)
      | (simp [comb, shrS, A'.out]; done)
      | (simp [comb, shrU]; done)
      | (simp [comb, rotl, rotr]; done)
set_option maxHeartbeats 1600000 in
theorem combine_div (op a b : Int) (w : World) (ho : 109 ≤ op ∧ op ≤ 112) (h0 : 0 ≤ a) (h1 : a < 4294967296) (k0 : 0 ≤ b) (k1 : b < 4294967296) (hr : refuse op a b = 0) :
    Calls Tryd.prog 26 #[.int .i64 op, .int .u32 a, .int .u32 b] w fun e w' => e = .returned (.int .u32 (comb op a b)) ∧ w = w' := by
  have ma := sg_bounds h0 h1
  have mb := sg_bounds k0 k1
  have Z := sg_zero k0 k1
  have hb := (refuse_div ho hr).1
  obtain ⟨sa, A⟩ : ∃ sa, sg a = sa := ⟨_, rfl⟩
  obtain ⟨sb, B⟩ : ∃ sb, sg b = sb := ⟨_, rfl⟩
  have A' := hid A
  have B' := hid B
  rw [A] at ma
  rw [B] at mb Z
  have hz : ¬ sb = 0 := by omega
  have hz' : ¬ b = 0 := hb
  have k0' : 0 < b := by omega
  rw [← wrap32_sg h0 h1] at A
  rw [← wrap32_sg k0 k1] at B
  clear Z hb hr
  have hh : op = 109 ∨ op = 110 ∨ op = 111 ∨ op = 112 := by omega
  rcases hh with rfl | rfl | rfl | rfl
  all_goals
    clear ho
    go_enter Tryd.func26, Tryd.ntmps26
    go_wp2_with fail
    go_ret
    refine ⟨ret_int ?_, rfl⟩
    first
      | (simp [comb, word, A'.out, B'.out]; done)
      | (simp [comb]; done)
      | (simp only [comb, word, A'.out, B'.out, wrap32_mod]; rfl)
end Go.Proofs.YtabffkninpikpaaDoor.Num
