/-
  LEB, signed: SizeS, fifth, extend by contracts.
-/
import Derived.Test.YtlfflomeaplidaaDoorLebNums
namespace Go.Proofs.YtlfflomeaplidaaDoor.Leb
open Go.RowKit

set_option maxHeartbeats 400000 in
theorem sizeS_any (n : Int) (w : World) (h0 : -2147483648 ≤ n) (h1 : n < 2147483648) : Calls Tryd.prog 121 #[.int .i32 n] w fun e w' => e = .returned (.int .i64 (sizeS n)) ∧ w = w' := by
  by_cases hs : 0 ≤ n
  · obtain ⟨m, rfl⟩ := Int.eq_ofNat_of_zero_le hs
    have HL := hid (sizeS_len m (by omega))
    have hb := bitLen_le32 m (by omega)
    have hd : (m : Int) / 2147483648 = 0 := by omega
    have hx := xor_0 m (by omega) (by omega)
    go_enter Tryd.func121, Tryd.ntmps121
    go_wp2_with (go_at_call 123; refine (Tryd.bits_Len32 _ _ (by omega) (by omega)).mono ?_; rintro e w' ⟨rfl, rfl⟩)
    go_ret
    exact ⟨ret_int (by have := HL.out; omega), rfl⟩
  · obtain ⟨m, hm⟩ := Int.eq_ofNat_of_zero_le (show 0 ≤ -n - 1 by omega)
    obtain rfl : n = -(m : Int) - 1 := by omega
    have HL := hid (sizeS_len m (by omega))
    have HN := hid (sizeS_neg m)
    have hb := bitLen_le32 m (by omega)
    have hd : (-(m : Int) - 1) / 2147483648 = -1 := by omega
    have hx : bits .xor .i32 (-(m : Int) - 1) (-1) = m := by rw [xor_m1 _ (by omega) (by omega)]; omega
    clear hm
    go_enter Tryd.func121, Tryd.ntmps121
    go_wp2_with (go_at_call 123; refine (Tryd.bits_Len32 _ _ (by omega) (by omega)).mono ?_; rintro e w' ⟨rfl, rfl⟩)
    go_ret
    exact ⟨ret_int (by rw [HN.out]; have := HL.out; omega), rfl⟩

theorem fifthS_any (n : Int) (w : World) : Calls Tryd.prog 143 #[.int .i32 n] w fun e w' => e = .returned (.int .u8 (n / 268435456 % 128)) ∧ w = w' := by
  have hm := and127 (c := n / 268435456 % 256) (by omega) (by omega)
  go_enter Tryd.func143, Tryd.ntmps143
  go_wp2
  go_ret
  exact ⟨ret_int (by omega), rfl⟩

set_option maxHeartbeats 800000 in
theorem extendS_any (n a : Int) (m : Nat) (w : World) (h0 : 0 ≤ n) (h1 : n < 4294967296) (ha : a = 7 * m) (hm : 1 ≤ m ∧ m ≤ 5) (h5 : m ≤ 4 → n < 128 ^ m) (v : Int)
    (hv : m ≤ 4 → v = ext true n m) (hv5 : m = 5 → v = wrap32 n) : Calls Tryd.prog 144 #[.int .u32 n, .int .i64 a] w fun e w' => e = .returned (.int .i32 v) ∧ w = w' := by
  subst ha
  have hh : m = 1 ∨ m = 2 ∨ m = 3 ∨ m = 4 ∨ m = 5 := by omega
  rcases hh with rfl | rfl | rfl | rfl | rfl
  all_goals
    have H5 := hid h5
    have HV := hid hv
    have HV5 := hid hv5
    clear hv h5 hm hv5
    go_enter Tryd.func144, Tryd.ntmps144
    go_wp2
    go_ret
    refine ⟨ret_int ?_, rfl⟩
    have h5 := H5.out
    have hv := HV.out
    have hv5 := HV5.out
    simp [ext] at h5 hv hv5
    simp only [m25, m18, m11, m4, m0]
  · rw [hv]; unfold wrap32; split <;> omega
  · rw [hv]; unfold wrap32; split <;> omega
  · rw [hv]; unfold wrap32; split <;> omega
  · rw [hv]; unfold wrap32; split <;> omega
  · rw [hv5]; unfold wrap32; omega

end Go.Proofs.YtlfflomeaplidaaDoor.Leb
