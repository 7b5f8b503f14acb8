/-
  LEB: get, GetU, GetS by contracts: they answer what the plain function 'getL' tells of the bytes.
-/
import Derived.Test.YtlfflomeaplidaaDoorLebPut
namespace Go.Proofs.YtlfflomeaplidaaDoor.Leb
open Go.RowKit

/-- What a read gives back: number, place behind it, error, its place; all that was there stays. -/
def Got (k : IntKind) (w : World) (r : Int × Int × Int × Int) (e : Ending) (w' : World) : Prop :=
  e = .returned (.tuple #[.int k r.1, .int .i64 r.2.1, .agg #[.int .i64 r.2.2.1, .int .i64 r.2.2.2]]) ∧ Below w.heap.size w w'

theorem or_low {u h : Int} (i : Nat) (h0 : 0 ≤ u) (h1 : u < 2 ^ i) (h2 : 0 ≤ h) (h3 : h < 4294967296) (h4 : h % 2 ^ i = 0) (h5 : u < 4294967296) : bits .or .u32 u h = u + h := by
  rw [u32_or u h h0 h5 h2 h3]
  obtain ⟨a, rfl⟩ := Int.eq_ofNat_of_zero_le h0
  obtain ⟨b, rfl⟩ := Int.eq_ofNat_of_zero_le h2
  have e1 : b % 2 ^ i = 0 := by exact_mod_cast h4
  have e2 : a < 2 ^ i := by exact_mod_cast h1
  rw [Int.toNat_natCast, Int.toNat_natCast, Nat.or_comm, nat_join i b a e1 e2]
  omega

set_option maxHeartbeats 1600000 in
theorem getU_out (a : Option Addr) (len cap : Nat) (p : Int) (w : World) (hp : p < 0 ∨ (len : Int) < p) :
    Calls Tryd.prog 139 #[.slice a len cap, .int .i64 p] w (Got .u32 w (0, 0, 5, 0)) := by
  by_cases h0 : p < 0
  · clear hp
    go_enter Tryd.func139, Tryd.ntmps139
    go_wp2
    refine bodyPost_ret (v := .tuple #[.int .u32 0, .int .i64 0, .agg #[.int .i64 5, .int .i64 0]]) (by simp [results, Tryd.results139, go_sem]) rfl ⟨rfl, ?_⟩
    exact (Below.refl _ _).alloc (Nat.le_refl _) _
  · have h1 : (len : Int) < p := by omega
    clear hp
    go_enter Tryd.func139, Tryd.ntmps139
    go_wp2
    refine bodyPost_ret (v := .tuple #[.int .u32 0, .int .i64 0, .agg #[.int .i64 5, .int .i64 0]]) (by simp [results, Tryd.results139, go_sem]) rfl ⟨rfl, ?_⟩
    exact (Below.refl _ _).alloc (Nat.le_refl _) _

set_option maxHeartbeats 1600000 in
theorem getU_in (a : Option Addr) (cap : Nat) (p0 : Nat) (zs : List Int) (len : Nat) (w : World) (hlen : zs.length = len) (hz : Bytes w a zs) (hp : p0 ≤ len) :
    Calls Tryd.prog 139 #[.slice a len cap, .int .i64 p0] w (Got .u32 w (goL false 0 0 (zs.drop p0) p0)) := by
  have hn0 : ¬ (p0 : Int) < 0 := by omega
  have hn1 : ¬ (len : Int) < (p0 : Int) := by omega
  have hmax := hz.size
  rw [hlen] at hmax
  have HL := hid hlen
  clear hlen
  go_enter Tryd.func139, Tryd.ntmps139
  go_wp2
  go_loop [1, 7, 8] (fun sa su ss => ∃ (k : Nat) (U : Int), k ≤ 4 ∧ p0 + k ≤ len ∧ sa = .int .i64 (p0 + k : Nat) ∧ su = .int .u32 U ∧ ss = .int .i64 (7 * k : Nat) ∧ 0 ≤ U ∧ U < 128 ^ k ∧
      goL false 0 0 (zs.drop p0) p0 = goL false k U (zs.drop (p0 + k)) (p0 + k : Nat)) (fun sa _ _ => len - (intOf sa).toNat)
  case atStart => exact ⟨0, 0, by omega, by omega, rfl, rfl, rfl, by omega, by omega, rfl⟩
  case round =>
    obtain ⟨k, U, hk, hpk, rfl, rfl, rfl, hU0, hU1, hG⟩ := hrel
    have HG := hid hG
    clear hG
    by_cases hend : len ≤ p0 + k
    · obtain rfl : len = p0 + k := by omega
      have HF : Hid (goL false 0 0 (zs.drop p0) p0 = (0, 0, 4, ((p0 + k : Nat) : Int))) := by
        rw [HG.out, List.drop_eq_nil_of_le (by have := HL.out; omega)]; rfl
      clear HG
      go_wp2
      refine bodyPost_ret (v := .tuple #[.int .u32 0, .int .i64 0, .agg #[.int .i64 4, .int .i64 (p0 + k : Nat)]]) (by simp [results, Tryd.results139, go_sem]) rfl ⟨by rw [HF.out], ?_⟩
      exact (Below.refl _ _).alloc (Nat.le_refl _) _
    · have hlt : p0 + k < len := by omega
      have hl' : p0 + k < zs.length := by have := HL.out; omega
      obtain ⟨b, off, rfl, hcell⟩ := hz.at (by omega)
      have hcb := hz.get hl'
      have hd := drop_at hl'
      have hcl : ∀ o, (w.alloc o).cell? ⟨b, off + (p0 + k), none⟩ = some (.int .u8 (zs.getD (p0 + k) 0)) := fun o => (((Below.refl _ _).alloc (Nat.le_refl _) o).cell (World.block_lt_of_cell? w _ (hcell _ hl'))).trans (hcell _ hl')
      generalize zs.getD (p0 + k) 0 = c at hcb hd hcl
      have HD := hid hd
      clear hcell hd hl'
      have hm := and127 hcb.1 hcb.2
      have ha := and128 hcb.1 hcb.2
      by_cases hk4 : k = 4
      · subst hk4
        by_cases hf : c < 16
        · have h128 : c < 128 := by omega
          rw [if_pos h128] at ha
          have ho := or_low (u := U) (h := c % 128 * 268435456) 28 (by omega) (by simpa using hU1) (by omega) (by omega) (by omega) (by omega)
          have HF : Hid (goL false 0 0 (zs.drop p0) p0 = (U + c % 128 * 268435456, ((p0 + 4 : Nat) : Int) + 1, 0, 0)) := by
            rw [HG.out, HD.out, goL_fifth (by simp [okFifth, hf]), ext_false]; exact rfl
          clear HG
          go_wp2_with (first | (go_at_call 141; refine (fifthU_any _ _ (by omega) (by omega)).mono ?_; rintro e w' ⟨rfl, rfl⟩) | (go_at_call 142; refine (extendU_any _ _ 5 _ (by omega) (by omega) (by omega) (by omega) (by omega)).mono ?_; rintro e w' ⟨rfl, rfl⟩))
          refine bodyPost_ret (v := .tuple #[.int .u32 (U + c % 128 * 268435456), .int .i64 (((p0 + 4 : Nat) : Int) + 1), .agg #[.int .i64 0, .int .i64 0]]) (by simp [results, Tryd.results139, go_sem]) rfl ⟨by rw [HF.out], ?_⟩
          exact (Below.refl _ _).alloc (Nat.le_refl _) _
        · have ho := or_low (u := U) (h := c % 128 * 268435456 % 4294967296) 28 (by omega) (by simpa using hU1) (by omega) (by omega) (by omega) (by omega)
          have HF : Hid (goL false 0 0 (zs.drop p0) p0 = (0, 0, 4, ((p0 + 4 : Nat) : Int))) := by
            rw [HG.out, HD.out, goL_bad (by simp [okFifth, hf])]; exact rfl
          clear HG
          go_wp2_with (first | (go_at_call 141; refine (fifthU_any _ _ (by omega) (by omega)).mono ?_; rintro e w' ⟨rfl, rfl⟩))
          refine bodyPost_ret (v := .tuple #[.int .u32 (0), .int .i64 (0), .agg #[.int .i64 4, .int .i64 (p0 + 4 : Nat)]]) (by simp [results, Tryd.results139, go_sem]) rfl ⟨by rw [HF.out], ?_⟩
          exact (Below.refl _ _).alloc (Nat.le_refl _) _
      · have HP := hid hU1
        have hU1' : U < 268435456 := by
          have hk' : k = 0 ∨ k = 1 ∨ k = 2 ∨ k = 3 := by omega
          rcases hk' with rfl | rfl | rfl | rfl <;> simp at hU1 <;> omega
        by_cases h128 : c < 128
        · rw [if_pos h128] at ha
          have hk' : k = 0 ∨ k = 1 ∨ k = 2 ∨ k = 3 := by omega
          have HF : Hid (goL false 0 0 (zs.drop p0) p0 = (U + c % 128 * 128 ^ k, ((p0 + k : Nat) : Int) + 1, 0, 0)) := by
            rw [HG.out, HD.out, goL_last hk4 h128, ext_false]; exact rfl
          clear HG
          rcases hk' with rfl | rfl | rfl | rfl
          · simp only [Nat.add_zero] at hcl
            have ho := or_low (u := U) (h := c % 128) 0 (by omega) (by simpa using HP.out) (by omega) (by omega) (by omega) (by omega)
            have hlt2 : U + c % 128 < 128 ^ 1 := by have := HP.out; simp at this ⊢; omega
            clear hU1
            go_wp2_with (first | (go_at_call 142; refine (extendU_any _ _ 1 _ (by omega) (by omega) (by omega) (by omega) (fun _ => hlt2)).mono ?_; rintro e w' ⟨rfl, rfl⟩))
            have e1 : U + c % 128 * 128 ^ 0 = U + c % 128 := by simp
            rw [e1] at HF
            refine bodyPost_ret (v := .tuple #[.int .u32 (U + c % 128), .int .i64 (((p0 + 0 : Nat) : Int) + 1), .agg #[.int .i64 0, .int .i64 0]]) (by simp [results, Tryd.results139, go_sem]) rfl ⟨by rw [HF.out], ?_⟩
            exact (Below.refl _ _).alloc (Nat.le_refl _) _
          · have ho := or_low (u := U) (h := c % 128 * 128) 7 (by omega) (by simpa using HP.out) (by omega) (by omega) (by omega) (by omega)
            have hlt2 : U + c % 128 * 128 < 128 ^ 2 := by have := HP.out; simp at this ⊢; omega
            clear hU1
            go_wp2_with (first | (go_at_call 142; refine (extendU_any _ _ 2 _ (by omega) (by omega) (by omega) (by omega) (fun _ => hlt2)).mono ?_; rintro e w' ⟨rfl, rfl⟩))
            have e1 : U + c % 128 * 128 ^ 1 = U + c % 128 * 128 := by simp
            rw [e1] at HF
            refine bodyPost_ret (v := .tuple #[.int .u32 (U + c % 128 * 128), .int .i64 (((p0 + 1 : Nat) : Int) + 1), .agg #[.int .i64 0, .int .i64 0]]) (by simp [results, Tryd.results139, go_sem]) rfl ⟨by rw [HF.out], ?_⟩
            exact (Below.refl _ _).alloc (Nat.le_refl _) _
          · have ho := or_low (u := U) (h := c % 128 * 16384) 14 (by omega) (by simpa using HP.out) (by omega) (by omega) (by omega) (by omega)
            have hlt2 : U + c % 128 * 16384 < 128 ^ 3 := by have := HP.out; simp at this ⊢; omega
            clear hU1
            go_wp2_with (first | (go_at_call 142; refine (extendU_any _ _ 3 _ (by omega) (by omega) (by omega) (by omega) (fun _ => hlt2)).mono ?_; rintro e w' ⟨rfl, rfl⟩))
            have e1 : U + c % 128 * 128 ^ 2 = U + c % 128 * 16384 := by simp
            rw [e1] at HF
            refine bodyPost_ret (v := .tuple #[.int .u32 (U + c % 128 * 16384), .int .i64 (((p0 + 2 : Nat) : Int) + 1), .agg #[.int .i64 0, .int .i64 0]]) (by simp [results, Tryd.results139, go_sem]) rfl ⟨by rw [HF.out], ?_⟩
            exact (Below.refl _ _).alloc (Nat.le_refl _) _
          · have ho := or_low (u := U) (h := c % 128 * 2097152) 21 (by omega) (by simpa using HP.out) (by omega) (by omega) (by omega) (by omega)
            have hlt2 : U + c % 128 * 2097152 < 128 ^ 4 := by have := HP.out; simp at this ⊢; omega
            clear hU1
            go_wp2_with (first | (go_at_call 142; refine (extendU_any _ _ 4 _ (by omega) (by omega) (by omega) (by omega) (fun _ => hlt2)).mono ?_; rintro e w' ⟨rfl, rfl⟩))
            have e1 : U + c % 128 * 128 ^ 3 = U + c % 128 * 2097152 := by simp
            rw [e1] at HF
            refine bodyPost_ret (v := .tuple #[.int .u32 (U + c % 128 * 2097152), .int .i64 (((p0 + 3 : Nat) : Int) + 1), .agg #[.int .i64 0, .int .i64 0]]) (by simp [results, Tryd.results139, go_sem]) rfl ⟨by rw [HF.out], ?_⟩
            exact (Below.refl _ _).alloc (Nat.le_refl _) _
        · have hk' : k = 0 ∨ k = 1 ∨ k = 2 ∨ k = 3 := by omega
          rw [if_neg h128] at ha
          have HF : Hid (goL false 0 0 (zs.drop p0) p0 = goL false (k + 1) (U + c % 128 * 128 ^ k) (zs.drop (p0 + (k + 1))) ((p0 + (k + 1) : Nat) : Int)) := by
            rw [HG.out, HD.out, goL_more hk4 (by omega)]; exact congrArg _ (by omega)
          clear HG
          rcases hk' with rfl | rfl | rfl | rfl
          · simp only [Nat.add_zero] at hcl
            have ho := or_low (u := U) (h := c % 128) 0 (by omega) (by simpa using HP.out) (by omega) (by omega) (by omega) (by omega)
            clear hU1
            go_wp2
            go_round
            case rel => exact ⟨1, _, by omega, by omega, by go_num, rfl, rfl, by omega, by have := HP.out; simp at this ⊢; omega, by rw [HF.out]; simp⟩
            case measure => simp [intOf]; omega
          · have ho := or_low (u := U) (h := c % 128 * 128) 7 (by omega) (by simpa using HP.out) (by omega) (by omega) (by omega) (by omega)
            clear hU1
            go_wp2
            go_round
            case rel => exact ⟨2, _, by omega, by omega, by go_num, rfl, rfl, by omega, by have := HP.out; simp at this ⊢; omega, by rw [HF.out]; simp⟩
            case measure => simp [intOf]; omega
          · have ho := or_low (u := U) (h := c % 128 * 16384) 14 (by omega) (by simpa using HP.out) (by omega) (by omega) (by omega) (by omega)
            clear hU1
            go_wp2
            go_round
            case rel => exact ⟨3, _, by omega, by omega, by go_num, rfl, rfl, by omega, by have := HP.out; simp at this ⊢; omega, by rw [HF.out]; simp⟩
            case measure => simp [intOf]; omega
          · have ho := or_low (u := U) (h := c % 128 * 2097152) 21 (by omega) (by simpa using HP.out) (by omega) (by omega) (by omega) (by omega)
            clear hU1
            go_wp2
            go_round
            case rel => exact ⟨4, _, by omega, by omega, by go_num, rfl, rfl, by omega, by have := HP.out; simp at this ⊢; omega, by rw [HF.out]; simp⟩
            case measure => simp [intOf]; omega
end Go.Proofs.YtlfflomeaplidaaDoor.Leb
