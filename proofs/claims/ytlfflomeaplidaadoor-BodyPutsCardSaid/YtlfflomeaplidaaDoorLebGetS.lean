/-
  LEB: get of signed numbers by a contract: it answers what the plain function 'getL' tells of the bytes.
-/
import Derived.Test.YtlfflomeaplidaaDoorLebGet
import Derived.Test.YtlfflomeaplidaaDoorLebNumsS
namespace Go.Proofs.YtlfflomeaplidaaDoor.Leb
open Go.RowKit

set_option maxHeartbeats 1600000 in
theorem getS_out (a : Option Addr) (len cap : Nat) (p : Int) (w : World) (hp : p < 0 ∨ (len : Int) < p) :
    Calls Tryd.prog 140 #[.slice a len cap, .int .i64 p] w (Got .i32 w (0, 0, 5, 0)) := by
  by_cases h0 : p < 0
  · clear hp
    go_enter Tryd.func140, Tryd.ntmps140
    go_wp2
    refine bodyPost_ret (v := .tuple #[.int .i32 0, .int .i64 0, .agg #[.int .i64 5, .int .i64 0]]) (by simp [results, Tryd.results140, go_sem]) rfl ⟨rfl, ?_⟩
    exact (Below.refl _ _).alloc (Nat.le_refl _) _
  · have h1 : (len : Int) < p := by omega
    clear hp
    go_enter Tryd.func140, Tryd.ntmps140
    go_wp2
    refine bodyPost_ret (v := .tuple #[.int .i32 0, .int .i64 0, .agg #[.int .i64 5, .int .i64 0]]) (by simp [results, Tryd.results140, go_sem]) rfl ⟨rfl, ?_⟩
    exact (Below.refl _ _).alloc (Nat.le_refl _) _

set_option maxHeartbeats 1600000 in
theorem getS_in (a : Option Addr) (cap : Nat) (p0 : Nat) (zs : List Int) (len : Nat) (w : World) (hlen : zs.length = len) (hz : Bytes w a zs) (hp : p0 ≤ len) :
    Calls Tryd.prog 140 #[.slice a len cap, .int .i64 p0] w (Got .i32 w (goL true 0 0 (zs.drop p0) p0)) := by
  have hn0 : ¬ (p0 : Int) < 0 := by omega
  have hn1 : ¬ (len : Int) < (p0 : Int) := by omega
  have hmax := hz.size
  rw [hlen] at hmax
  have HL := hid hlen
  clear hlen
  go_enter Tryd.func140, Tryd.ntmps140
  go_wp2
  go_loop [1, 7, 8] (fun sa su ss => ∃ (k : Nat) (U : Int), k ≤ 4 ∧ p0 + k ≤ len ∧ sa = .int .i64 (p0 + k : Nat) ∧ su = .int .u32 U ∧ ss = .int .i64 (7 * k : Nat) ∧ 0 ≤ U ∧ U < 128 ^ k ∧
      goL true 0 0 (zs.drop p0) p0 = goL true k U (zs.drop (p0 + k)) (p0 + k : Nat)) (fun sa _ _ => len - (intOf sa).toNat)
  case atStart => exact ⟨0, 0, by omega, by omega, rfl, rfl, rfl, by omega, by omega, rfl⟩
  case round =>
    obtain ⟨k, U, hk, hpk, rfl, rfl, rfl, hU0, hU1, hG⟩ := hrel
    have HG := hid hG
    clear hG
    by_cases hend : len ≤ p0 + k
    · obtain rfl : len = p0 + k := by omega
      have HF : Hid (goL true 0 0 (zs.drop p0) p0 = (0, 0, 4, ((p0 + k : Nat) : Int))) := by
        rw [HG.out, List.drop_eq_nil_of_le (by have := HL.out; omega)]; rfl
      clear HG
      go_wp2
      refine bodyPost_ret (v := .tuple #[.int .i32 0, .int .i64 0, .agg #[.int .i64 4, .int .i64 (p0 + k : Nat)]]) (by simp [results, Tryd.results140, go_sem]) rfl ⟨by rw [HF.out], ?_⟩
      exact (Below.refl _ _).alloc (Nat.le_refl _) _
    · have hlt : p0 + k < len := by omega
      have hl' : p0 + k < zs.length := by have := HL.out; omega
      obtain ⟨b, off, rfl, hcell⟩ := hz.at (by omega)
      have hcb := hz.get hl'
      have hd := drop_at hl'
      have hcl : ∀ o, (w.alloc o).cell? ⟨b, off + (p0 + k), none⟩ = some (.int .u8 (zs.getD (p0 + k) 0)) := fun o => (((Below.refl _ _).alloc (Nat.le_refl _) o).cell (World.block_lt_of_cell? w _ (hcell _ hl'))).trans (hcell _ hl')
      generalize zs.getD (p0 + k) 0 = c at hcb hd hcl
      have HD := hid hd
      clear hcell hd hl'
      have hm := and127 hcb.1 hcb.2
      have ha := and128 hcb.1 hcb.2
      by_cases hk4 : k = 4
      · subst hk4
        have hcase : c < 8 ∨ (8 ≤ c ∧ c < 16) ∨ (16 ≤ c ∧ c < 120) ∨ (120 ≤ c ∧ c < 128) ∨ 128 ≤ c := by omega
        rcases hcase with hf | hf | hf | hf | hf
        · have ho := or_low (u := U) (h := c % 128 * 268435456) 28 (by omega) (by simpa using hU1) (by omega) (by omega) (by omega) (by omega)
          have hU2 : U < 268435456 := by simpa using hU1
          have h128 : c < 128 := by omega
          rw [if_pos h128] at ha
          have hok : okFifth true c = true := by simp [okFifth]; omega
          have hne : (c != wrap32 (U + c % 128 * 268435456) / 268435456 % 128) = false := by simp; unfold wrap32; omega
          have HF : Hid (goL true 0 0 (zs.drop p0) p0 = (wrap32 (U + c % 128 * 268435456), ((p0 + 4 : Nat) : Int) + 1, 0, 0)) := by
            have hw : (U + c % 16 * 268435456 + 2147483648) % 4294967296 - 2147483648 = wrap32 (U + c % 128 * 268435456) := by unfold wrap32; omega
            rw [HG.out, HD.out, goL_fifth hok, ext_fifth hU0 hU2 hok hcb.1, hw]; exact rfl
          clear HG hok
          go_wp2_with (first | (go_at_call 143; refine (fifthS_any _ _).mono ?_; rintro e w' ⟨rfl, rfl⟩) | (go_at_call 144; refine (extendS_any _ _ 5 _ (by omega) (by omega) (by omega) (by omega) (by omega) (wrap32 (U + c % 128 * 268435456)) (fun h => by omega) (fun _ => rfl)).mono ?_; rintro e w' ⟨rfl, rfl⟩))
          refine bodyPost_ret (v := .tuple #[.int .i32 (wrap32 (U + c % 128 * 268435456)), .int .i64 (((p0 + 4 : Nat) : Int) + 1), .agg #[.int .i64 0, .int .i64 0]]) (by simp [results, Tryd.results140, go_sem]) rfl ⟨by rw [HF.out], ?_⟩
          exact (Below.refl _ _).alloc (Nat.le_refl _) _
        · have ho := or_low (u := U) (h := c % 128 * 268435456) 28 (by omega) (by simpa using hU1) (by omega) (by omega) (by omega) (by omega)
          have hU2 : U < 268435456 := by simpa using hU1
          have hbad : okFifth true c = false := by simp [okFifth]; omega
          have hne : (c != wrap32 (U + c % 128 * 268435456) / 268435456 % 128) = true := by simp; unfold wrap32; omega
          have HF : Hid (goL true 0 0 (zs.drop p0) p0 = (0, 0, 4, ((p0 + 4 : Nat) : Int))) := by
            rw [HG.out, HD.out, goL_bad hbad]; exact rfl
          clear HG hbad
          go_wp2_with (first | (go_at_call 143; refine (fifthS_any _ _).mono ?_; rintro e w' ⟨rfl, rfl⟩))
          refine bodyPost_ret (v := .tuple #[.int .i32 (0), .int .i64 (0), .agg #[.int .i64 4, .int .i64 (p0 + 4 : Nat)]]) (by simp [results, Tryd.results140, go_sem]) rfl ⟨by rw [HF.out], ?_⟩
          exact (Below.refl _ _).alloc (Nat.le_refl _) _
        · have ho := or_low (u := U) (h := c % 128 * 268435456 % 4294967296) 28 (by omega) (by simpa using hU1) (by omega) (by omega) (by omega) (by omega)
          have hU2 : U < 268435456 := by simpa using hU1
          have hbad : okFifth true c = false := by simp [okFifth]; omega
          have hne : (c != wrap32 (U + c % 128 * 268435456 % 4294967296) / 268435456 % 128) = true := by simp; unfold wrap32; omega
          have HF : Hid (goL true 0 0 (zs.drop p0) p0 = (0, 0, 4, ((p0 + 4 : Nat) : Int))) := by
            rw [HG.out, HD.out, goL_bad hbad]; exact rfl
          clear HG hbad
          go_wp2_with (first | (go_at_call 143; refine (fifthS_any _ _).mono ?_; rintro e w' ⟨rfl, rfl⟩))
          refine bodyPost_ret (v := .tuple #[.int .i32 (0), .int .i64 (0), .agg #[.int .i64 4, .int .i64 (p0 + 4 : Nat)]]) (by simp [results, Tryd.results140, go_sem]) rfl ⟨by rw [HF.out], ?_⟩
          exact (Below.refl _ _).alloc (Nat.le_refl _) _
        · have ho := or_low (u := U) (h := c % 128 * 268435456 % 4294967296) 28 (by omega) (by simpa using hU1) (by omega) (by omega) (by omega) (by omega)
          have hU2 : U < 268435456 := by simpa using hU1
          have h128 : c < 128 := by omega
          rw [if_pos h128] at ha
          have hok : okFifth true c = true := by simp [okFifth]; omega
          have hne : (c != wrap32 (U + c % 128 * 268435456 % 4294967296) / 268435456 % 128) = false := by simp; unfold wrap32; omega
          have HF : Hid (goL true 0 0 (zs.drop p0) p0 = (wrap32 (U + c % 128 * 268435456 % 4294967296), ((p0 + 4 : Nat) : Int) + 1, 0, 0)) := by
            have hw : (U + c % 16 * 268435456 + 2147483648) % 4294967296 - 2147483648 = wrap32 (U + c % 128 * 268435456 % 4294967296) := by unfold wrap32; omega
            rw [HG.out, HD.out, goL_fifth hok, ext_fifth hU0 hU2 hok hcb.1, hw]; exact rfl
          clear HG hok
          go_wp2_with (first | (go_at_call 143; refine (fifthS_any _ _).mono ?_; rintro e w' ⟨rfl, rfl⟩) | (go_at_call 144; refine (extendS_any _ _ 5 _ (by omega) (by omega) (by omega) (by omega) (by omega) (wrap32 (U + c % 128 * 268435456 % 4294967296)) (fun h => by omega) (fun _ => rfl)).mono ?_; rintro e w' ⟨rfl, rfl⟩))
          refine bodyPost_ret (v := .tuple #[.int .i32 (wrap32 (U + c % 128 * 268435456 % 4294967296)), .int .i64 (((p0 + 4 : Nat) : Int) + 1), .agg #[.int .i64 0, .int .i64 0]]) (by simp [results, Tryd.results140, go_sem]) rfl ⟨by rw [HF.out], ?_⟩
          exact (Below.refl _ _).alloc (Nat.le_refl _) _
        · have ho := or_low (u := U) (h := c % 128 * 268435456 % 4294967296) 28 (by omega) (by simpa using hU1) (by omega) (by omega) (by omega) (by omega)
          have hU2 : U < 268435456 := by simpa using hU1
          have hbad : okFifth true c = false := by simp [okFifth]; omega
          have hne : (c != wrap32 (U + c % 128 * 268435456 % 4294967296) / 268435456 % 128) = true := by simp; unfold wrap32; omega
          have HF : Hid (goL true 0 0 (zs.drop p0) p0 = (0, 0, 4, ((p0 + 4 : Nat) : Int))) := by
            rw [HG.out, HD.out, goL_bad hbad]; exact rfl
          clear HG hbad
          go_wp2_with (first | (go_at_call 143; refine (fifthS_any _ _).mono ?_; rintro e w' ⟨rfl, rfl⟩))
          refine bodyPost_ret (v := .tuple #[.int .i32 (0), .int .i64 (0), .agg #[.int .i64 4, .int .i64 (p0 + 4 : Nat)]]) (by simp [results, Tryd.results140, go_sem]) rfl ⟨by rw [HF.out], ?_⟩
          exact (Below.refl _ _).alloc (Nat.le_refl _) _
      · have HP := hid hU1
        have hU1' : U < 268435456 := by
          have hk' : k = 0 ∨ k = 1 ∨ k = 2 ∨ k = 3 := by omega
          rcases hk' with rfl | rfl | rfl | rfl <;> simp at hU1 <;> omega
        by_cases h128 : c < 128
        · rw [if_pos h128] at ha
          have hk' : k = 0 ∨ k = 1 ∨ k = 2 ∨ k = 3 := by omega
          have HF : Hid (goL true 0 0 (zs.drop p0) p0 = (ext true (U + c % 128 * 128 ^ k) (k + 1), ((p0 + k : Nat) : Int) + 1, 0, 0)) := by
            rw [HG.out, HD.out, goL_last hk4 h128]; exact rfl
          clear HG
          rcases hk' with rfl | rfl | rfl | rfl
          · simp only [Nat.add_zero] at hcl
            have ho := or_low (u := U) (h := c % 128) 0 (by omega) (by simpa using HP.out) (by omega) (by omega) (by omega) (by omega)
            have hlt2 : U + c % 128 < 128 ^ 1 := by have := HP.out; simp at this ⊢; omega
            clear hU1
            go_wp2_with (first | (go_at_call 144; refine (extendS_any _ _ 1 _ (by omega) (by omega) (by omega) (by omega) (fun _ => hlt2) _ (fun _ => rfl) (fun h => by omega)).mono ?_; rintro e w' ⟨rfl, rfl⟩))
            have e1 : U + c % 128 * 128 ^ 0 = U + c % 128 := by simp
            rw [e1] at HF
            refine bodyPost_ret (v := .tuple #[.int .i32 (ext true (U + c % 128) 1), .int .i64 (((p0 + 0 : Nat) : Int) + 1), .agg #[.int .i64 0, .int .i64 0]]) (by simp [results, Tryd.results140, go_sem]) rfl ⟨by rw [HF.out], ?_⟩
            exact (Below.refl _ _).alloc (Nat.le_refl _) _
          · have ho := or_low (u := U) (h := c % 128 * 128) 7 (by omega) (by simpa using HP.out) (by omega) (by omega) (by omega) (by omega)
            have hlt2 : U + c % 128 * 128 < 128 ^ 2 := by have := HP.out; simp at this ⊢; omega
            clear hU1
            go_wp2_with (first | (go_at_call 144; refine (extendS_any _ _ 2 _ (by omega) (by omega) (by omega) (by omega) (fun _ => hlt2) _ (fun _ => rfl) (fun h => by omega)).mono ?_; rintro e w' ⟨rfl, rfl⟩))
            have e1 : U + c % 128 * 128 ^ 1 = U + c % 128 * 128 := by simp
            rw [e1] at HF
            refine bodyPost_ret (v := .tuple #[.int .i32 (ext true (U + c % 128 * 128) 2), .int .i64 (((p0 + 1 : Nat) : Int) + 1), .agg #[.int .i64 0, .int .i64 0]]) (by simp [results, Tryd.results140, go_sem]) rfl ⟨by rw [HF.out], ?_⟩
            exact (Below.refl _ _).alloc (Nat.le_refl _) _
          · have ho := or_low (u := U) (h := c % 128 * 16384) 14 (by omega) (by simpa using HP.out) (by omega) (by omega) (by omega) (by omega)
            have hlt2 : U + c % 128 * 16384 < 128 ^ 3 := by have := HP.out; simp at this ⊢; omega
            clear hU1
            go_wp2_with (first | (go_at_call 144; refine (extendS_any _ _ 3 _ (by omega) (by omega) (by omega) (by omega) (fun _ => hlt2) _ (fun _ => rfl) (fun h => by omega)).mono ?_; rintro e w' ⟨rfl, rfl⟩))
            have e1 : U + c % 128 * 128 ^ 2 = U + c % 128 * 16384 := by simp
            rw [e1] at HF
            refine bodyPost_ret (v := .tuple #[.int .i32 (ext true (U + c % 128 * 16384) 3), .int .i64 (((p0 + 2 : Nat) : Int) + 1), .agg #[.int .i64 0, .int .i64 0]]) (by simp [results, Tryd.results140, go_sem]) rfl ⟨by rw [HF.out], ?_⟩
            exact (Below.refl _ _).alloc (Nat.le_refl _) _
          · have ho := or_low (u := U) (h := c % 128 * 2097152) 21 (by omega) (by simpa using HP.out) (by omega) (by omega) (by omega) (by omega)
            have hlt2 : U + c % 128 * 2097152 < 128 ^ 4 := by have := HP.out; simp at this ⊢; omega
            clear hU1
            go_wp2_with (first | (go_at_call 144; refine (extendS_any _ _ 4 _ (by omega) (by omega) (by omega) (by omega) (fun _ => hlt2) _ (fun _ => rfl) (fun h => by omega)).mono ?_; rintro e w' ⟨rfl, rfl⟩))
            have e1 : U + c % 128 * 128 ^ 3 = U + c % 128 * 2097152 := by simp
            rw [e1] at HF
            refine bodyPost_ret (v := .tuple #[.int .i32 (ext true (U + c % 128 * 2097152) 4), .int .i64 (((p0 + 3 : Nat) : Int) + 1), .agg #[.int .i64 0, .int .i64 0]]) (by simp [results, Tryd.results140, go_sem]) rfl ⟨by rw [HF.out], ?_⟩
            exact (Below.refl _ _).alloc (Nat.le_refl _) _
        · have hk' : k = 0 ∨ k = 1 ∨ k = 2 ∨ k = 3 := by omega
          rw [if_neg h128] at ha
          have HF : Hid (goL true 0 0 (zs.drop p0) p0 = goL true (k + 1) (U + c % 128 * 128 ^ k) (zs.drop (p0 + (k + 1))) ((p0 + (k + 1) : Nat) : Int)) := by
            rw [HG.out, HD.out, goL_more hk4 (by omega)]; exact congrArg _ (by omega)
          clear HG
          rcases hk' with rfl | rfl | rfl | rfl
          · simp only [Nat.add_zero] at hcl
            have ho := or_low (u := U) (h := c % 128) 0 (by omega) (by simpa using HP.out) (by omega) (by omega) (by omega) (by omega)
            clear hU1
            go_wp2
            go_round
            case rel => exact ⟨1, _, by omega, by omega, by go_num, rfl, rfl, by omega, by have := HP.out; simp at this ⊢; omega, by rw [HF.out]; simp⟩
            case measure => simp [intOf]; omega
          · have ho := or_low (u := U) (h := c % 128 * 128) 7 (by omega) (by simpa using HP.out) (by omega) (by omega) (by omega) (by omega)
            clear hU1
            go_wp2
            go_round
            case rel => exact ⟨2, _, by omega, by omega, by go_num, rfl, rfl, by omega, by have := HP.out; simp at this ⊢; omega, by rw [HF.out]; simp⟩
            case measure => simp [intOf]; omega
          · have ho := or_low (u := U) (h := c % 128 * 16384) 14 (by omega) (by simpa using HP.out) (by omega) (by omega) (by omega) (by omega)
            clear hU1
            go_wp2
            go_round
            case rel => exact ⟨3, _, by omega, by omega, by go_num, rfl, rfl, by omega, by have := HP.out; simp at this ⊢; omega, by rw [HF.out]; simp⟩
            case measure => simp [intOf]; omega
          · have ho := or_low (u := U) (h := c % 128 * 2097152) 21 (by omega) (by simpa using HP.out) (by omega) (by omega) (by omega) (by omega)
            clear hU1
            go_wp2
            go_round
            case rel => exact ⟨4, _, by omega, by omega, by go_num, rfl, rfl, by omega, by have := HP.out; simp at this ⊢; omega, by rw [HF.out]; simp⟩
            case measure => simp [intOf]; omega
end Go.Proofs.YtlfflomeaplidaaDoor.Leb
