/-
  LEB: the functions that only reckon with numbers, by contracts: SizeU, SizeS, fifth, extend.
-/
import Derived.Test.YtlfflomeaplidaaDoorBase
import Derived.Test.YtlfflomeaplidaaDoorShelf
import Derived.Test.YtlfflomeaplidaaDoorLebPlain
namespace Go.Proofs.YtlfflomeaplidaaDoor.Leb
open Go.RowKit

theorem bitLen_small : ∀ n : Fin 128, Lib.bitLen n.val ≤ 7 ∧ (1 ≤ n.val → 1 ≤ Lib.bitLen n.val) ∧ (n.val < 64 → Lib.bitLen n.val ≤ 6) := by decide +kernel
theorem bitLen_7 {x : Nat} (h : x < 128) : Lib.bitLen x ≤ 7 ∧ (1 ≤ x → 1 ≤ Lib.bitLen x) ∧ (x < 64 → Lib.bitLen x ≤ 6) := bitLen_small ⟨x, h⟩
theorem sizeU_len (n : Nat) (h : n < 4294967296) : max 1 ((Lib.bitLen n + 6) / 7) = sizeU n := by
  unfold sizeU
  by_cases h1 : n < 128
  · have := bitLen_7 h1
    rw [if_pos (by omega)]; omega
  · by_cases h2 : n < 16384
    · have := Lib.bitLen_shift 7 n (by omega) (by omega)
      have := bitLen_7 (x := n / 2 ^ 7) (by omega)
      rw [if_neg (by omega), if_pos (by omega)]; omega
    · by_cases h3 : n < 2097152
      · have := Lib.bitLen_shift 14 n (by omega) (by omega)
        have := bitLen_7 (x := n / 2 ^ 14) (by omega)
        rw [if_neg (by omega), if_neg (by omega), if_pos (by omega)]; omega
      · by_cases h4 : n < 268435456
        · have := Lib.bitLen_shift 21 n (by omega) (by omega)
          have := bitLen_7 (x := n / 2 ^ 21) (by omega)
          rw [if_neg (by omega), if_neg (by omega), if_neg (by omega), if_pos (by omega)]; omega
        · have := Lib.bitLen_shift 28 n (by omega) (by omega)
          have := bitLen_7 (x := n / 2 ^ 28) (by omega)
          rw [if_neg (by omega), if_neg (by omega), if_neg (by omega), if_neg (by omega)]; omega

theorem sizeS_len (n : Nat) (h : n < 2147483648) : (Lib.bitLen n + 7) / 7 = sizeS n := by
  unfold sizeS
  by_cases h1 : n < 64
  · have := bitLen_7 (x := n) (by omega)
    rw [if_pos (by omega)]; omega
  · by_cases h2 : n < 8192
    · have := Lib.bitLen_shift 6 n (by omega) (by omega)
      have := bitLen_7 (x := n / 2 ^ 6) (by omega)
      rw [if_neg (by omega), if_pos (by omega)]; omega
    · by_cases h3 : n < 1048576
      · have := Lib.bitLen_shift 13 n (by omega) (by omega)
        have := bitLen_7 (x := n / 2 ^ 13) (by omega)
        rw [if_neg (by omega), if_neg (by omega), if_pos (by omega)]; omega
      · by_cases h4 : n < 134217728
        · have := Lib.bitLen_shift 20 n (by omega) (by omega)
          have := bitLen_7 (x := n / 2 ^ 20) (by omega)
          rw [if_neg (by omega), if_neg (by omega), if_neg (by omega), if_pos (by omega)]; omega
        · have := Lib.bitLen_shift 27 n (by omega) (by omega)
          have := bitLen_7 (x := n / 2 ^ 27) (by omega)
          rw [if_neg (by omega), if_neg (by omega), if_neg (by omega), if_neg (by omega)]; omega
theorem sizeS_neg (n : Int) : sizeS (-n - 1) = sizeS n := by unfold sizeS; (repeat' split) <;> omega
theorem bitLen_le32 (n : Nat) (h : n < 4294967296) : Lib.bitLen n ≤ 35 := by
  by_cases h1 : n < 128
  · have := bitLen_7 h1; omega
  · by_cases h2 : n < 268435456
    · by_cases h3 : n < 16384
      · have := Lib.bitLen_shift 7 n (by omega) (by omega)
        have := bitLen_7 (x := n / 2 ^ 7) (by omega)
        omega
      · by_cases h4 : n < 2097152
        · have := Lib.bitLen_shift 14 n (by omega) (by omega)
          have := bitLen_7 (x := n / 2 ^ 14) (by omega)
          omega
        · have := Lib.bitLen_shift 21 n (by omega) (by omega)
          have := bitLen_7 (x := n / 2 ^ 21) (by omega)
          omega
    · have := Lib.bitLen_shift 28 n (by omega) (by omega)
      have := bitLen_7 (x := n / 2 ^ 28) (by omega)
      omega
theorem and127 {c : Int} (h0 : 0 ≤ c) (h1 : c < 256) : bits .and .u8 c 127 = c % 128 := bits_mask .u8 8 (by decide) wraps_u8 7 (by decide) c h0 h1
theorem and128 {c : Int} (h0 : 0 ≤ c) (h1 : c < 256) : bits .and .u8 c 128 = if c < 128 then 0 else 128 := by
  have hh : ∀ n : Fin 256, bits .and .u8 (n.val : Int) 128 = if (n.val : Int) < 128 then 0 else 128 := by decide +kernel
  obtain ⟨m, rfl⟩ := Int.eq_ofNat_of_zero_le h0
  exact hh ⟨m, by omega⟩
theorem xor_m1 (n : Int) (h0 : -2147483648 ≤ n) (h1 : n < 2147483648) : bits .xor .i32 n (-1) = -n - 1 := by
  show IntKind.i32.wrap ((BitVec.ofInt 32 n ^^^ BitVec.ofInt 32 (-1)).toNat : Int) = _
  have h : BitVec.ofInt 32 (-1) = BitVec.allOnes 32 := by decide
  rw [h, BitVec.xor_allOnes, BitVec.toNat_not, BitVec.toNat_ofInt, IntKind.wrap_i32]
  omega
theorem xor_0 (n : Int) (h0 : -2147483648 ≤ n) (h1 : n < 2147483648) : bits .xor .i32 n 0 = n := by
  show IntKind.i32.wrap ((BitVec.ofInt 32 n ^^^ BitVec.ofInt 32 0).toNat : Int) = _
  have h : BitVec.ofInt 32 0 = 0#32 := by decide
  rw [h, BitVec.xor_zero, BitVec.toNat_ofInt, IntKind.wrap_i32]
  omega

set_option maxHeartbeats 400000 in
theorem sizeU_any (n : Int) (w : World) (h0 : 0 ≤ n) (h1 : n < 4294967296) : Calls Tryd.prog 107 #[.int .u32 n] w fun e w' => e = .returned (.int .i64 (sizeU n)) ∧ w = w' := by
  obtain ⟨m, rfl⟩ := Int.eq_ofNat_of_zero_le h0
  have HL := hid (sizeU_len m (by omega))
  have hb := bitLen_le32 m (by omega)
  go_enter Tryd.func107, Tryd.ntmps107
  go_wp2_with (go_at_call 123; refine (Tryd.bits_Len32 _ _ (by omega) (by omega)).mono ?_; rintro e w' ⟨rfl, rfl⟩)
  go_ret
  exact ⟨ret_int (by have := HL.out; omega), rfl⟩

theorem fifthU_any (n : Int) (w : World) (h0 : 0 ≤ n) (h1 : n < 4294967296) : Calls Tryd.prog 141 #[.int .u32 n] w fun e w' => e = .returned (.int .u8 (n / 268435456)) ∧ w = w' := by
  have hm := and127 (c := n / 268435456) (by omega) (by omega)
  have hm' : n / 268435456 % 128 = n / 268435456 := by omega
  rw [hm'] at hm
  clear hm'
  go_enter Tryd.func141, Tryd.ntmps141
  go_wp2
  go_ret
  exact ⟨ret_int rfl, rfl⟩
theorem m25 : (max (0 : Int) 25).toNat = 25 := rfl
theorem m18 : (max (0 : Int) 18).toNat = 18 := rfl
theorem m11 : (max (0 : Int) 11).toNat = 11 := rfl
theorem m4 : (max (0 : Int) 4).toNat = 4 := rfl
theorem m0 : (max (0 : Int) (-3)).toNat = 0 := rfl
set_option maxHeartbeats 800000 in
theorem extendU_any (n a : Int) (m : Nat) (w : World) (h0 : 0 ≤ n) (h1 : n < 4294967296) (ha : a = 7 * m) (hm : 1 ≤ m ∧ m ≤ 5) (h5 : m ≤ 4 → n < 128 ^ m) :
    Calls Tryd.prog 142 #[.int .u32 n, .int .i64 a] w fun e w' => e = .returned (.int .u32 n) ∧ w = w' := by
  subst ha
  have hh : m = 1 ∨ m = 2 ∨ m = 3 ∨ m = 4 ∨ m = 5 := by omega
  rcases hh with rfl | rfl | rfl | rfl | rfl
  all_goals
    have H5 := hid h5
    clear h5 hm
    go_enter Tryd.func142, Tryd.ntmps142
    go_wp2
    go_ret
    refine ⟨ret_int ?_, rfl⟩
    have h5 := H5.out
    simp at h5
    simp only [m25, m18, m11, m4, m0]
    omega
end Go.Proofs.YtlfflomeaplidaaDoor.Leb
