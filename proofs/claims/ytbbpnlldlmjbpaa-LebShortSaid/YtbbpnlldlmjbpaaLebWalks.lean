/-
  LEB: the walks of the layer's statements: each returns true, and leaves all that was there.
-/
import Derived.Test.YtbbpnlldlmjbpaaLebCalls
import Derived.Test.YtbbpnlldlmjbpaaBase2
namespace Go.Proofs.Ytbbpnlldlmjbpaa
open Go.RowKit Leb

set_option maxHeartbeats 3200000 in
theorem lebShort_walk (w : World) (a : Option Addr) (len cap : Nat) (zs : List Int) (hlen : zs.length = len) (hz : Bytes w a zs) (p : Int) (hp : -9223372036854775808 ≤ p ∧ p ≤ 9223372036854775807) :
    Calls Try.prog 5 #[.slice a len cap, .int .i64 p] w fun e w' => e = .returned (.bool true) ∧ Below w.heap.size w w' := by
  have HL := hid hlen
  clear hlen
  obtain ⟨x, q, e1, f1, hr⟩ : ∃ x q e f, getL false zs p = (x, q, e, f) := ⟨_, _, _, _, rfl⟩
  obtain ⟨y, r, e2, f2, hr2⟩ : ∃ x q e f, getL true zs p = (x, q, e, f) := ⟨_, _, _, _, rfl⟩
  have HR := hid hr
  have HR2 := hid hr2
  have hS := getL_shortU hz.byte hr
  have hS2 := getL_shortS hz.byte hr2
  clear hr hr2
  obtain ⟨hp1, hp2⟩ := hp
  by_cases h1 : e1 = 0
  · subst h1
    obtain ⟨u1, u2, u3, u4⟩ := hS rfl
    clear hS
    have hu := sizeU_pos x
    have hun : ((sizeU x : Int) == 0) = false := by simp; omega
    have t1 : decide (q - p < (sizeU x : Int)) = false := by simp; omega
    have t2 : decide (5 < q - p) = false := by simp; omega
    by_cases h2 : e2 = 0
    · subst h2
      obtain ⟨v1, v2, v3, v4⟩ := hS2 rfl
      clear hS2
      have hv := sizeS_pos y
      have t3 : decide ((sizeS y : Int) ≤ r - p) = true := by simp; omega
      have t4 : decide (r - p ≤ 5) = true := by simp; omega
      have t5 : decide (0 < sizeS y) = true := by simp; omega
      go_enter Try.func5, Try.ntmps5
      go_wp2_with fail
      refine (awake_any _).mono ?_
      rintro e w1 ⟨rfl, hb1⟩
      go_wp2_with fail
      refine (GetU_any _ len cap p zs _ HL.out (hz.below hb1)).mono ?_
      rw [HR.out]
      rintro e w2 ⟨rfl, hb2⟩
      go_wp2_with fail
      refine (GetS_any _ len cap p zs _ HL.out (((hz.below hb1).below hb2).alloc _)).mono ?_
      rw [HR2.out]
      rintro e w3 ⟨rfl, hb3⟩
      obtain ⟨c0, c1, f0, f1, hs3⟩ := two hb3
      have c0 := fun o => keepA c0 o
      have hA := thenA (thenB (thenA (thenB hb1 hb2) _) hb3) (.cells #[.int .i64 0, .int .i64 f2] 33)
      have d0 : (w3.alloc (.cells #[.int .i64 0, .int .i64 f2] 33)).cell? ⟨w3.heap.size, 0, none⟩ = some (.int .i64 0) := by go_simp
      clear c1 f0 f1 hb1 hb2 hb3 hs3
      go_wp2_with fail
      refine (putU_any _ _ (by omega) (by omega)).mono ?_
      rintro e w4 ⟨v, rfl, ho, hb4⟩
      obtain ⟨a4, c4, rfl⟩ := ho.slice
      rw [encU_length]
      have d1 := keep hb4 d0
      have hA1 := thenB hA hb4
      clear hA d0 c0 ho hb4
      go_wp2_with fail
      refine (putU_any _ _ (by omega) (by omega)).mono ?_
      rintro e w5 ⟨v, rfl, ho, hb5⟩
      obtain ⟨a5, c5, rfl⟩ := ho.slice
      rw [encU_length]
      have d2 := keep hb5 d1
      have hA2 := thenB hA1 hb5
      clear hA1 d1 ho hb5
      go_wp2_with fail
      refine (putS_any _ _ (by omega) (by omega)).mono ?_
      rintro e w6 ⟨v, rfl, ho, hb6⟩
      obtain ⟨a6, c6, rfl⟩ := ho.slice
      rw [encS_length]
      have hA3 := thenB hA2 hb6
      clear hA2 d2 ho hb6
      go_wp2_with fail
      refine (putS_any _ _ (by omega) (by omega)).mono ?_
      rintro e w7 ⟨v, rfl, ho, hb7⟩
      obtain ⟨a7, c7, rfl⟩ := ho.slice
      rw [encS_length]
      have hA4 := thenB hA3 hb7
      clear hA3 ho hb7
      go_wp2
      go_ret
      exact ⟨rfl, hA4⟩
    · clear hS2
      have ht2 : (e2 != 0) = true := by simp [h2]
      clear h2
      go_enter Try.func5, Try.ntmps5
      go_wp2_with fail
      refine (awake_any _).mono ?_
      rintro e w1 ⟨rfl, hb1⟩
      go_wp2_with fail
      refine (GetU_any _ len cap p zs _ HL.out (hz.below hb1)).mono ?_
      rw [HR.out]
      rintro e w2 ⟨rfl, hb2⟩
      go_wp2_with fail
      refine (GetS_any _ len cap p zs _ HL.out (((hz.below hb1).below hb2).alloc _)).mono ?_
      rw [HR2.out]
      rintro e w3 ⟨rfl, hb3⟩
      obtain ⟨c0, c1, f0, f1, hs3⟩ := two hb3
      have c0 := fun o => keepA c0 o
      have hA := thenA (thenB (thenA (thenB hb1 hb2) _) hb3) (.cells #[.int .i64 e2, .int .i64 f2] 33)
      have d0 : (w3.alloc (.cells #[.int .i64 e2, .int .i64 f2] 33)).cell? ⟨w3.heap.size, 0, none⟩ = some (.int .i64 e2) := by go_simp
      clear c1 f0 f1 hb1 hb2 hb3 hs3
      go_wp2_with fail
      refine (putU_any _ _ (by omega) (by omega)).mono ?_
      rintro e w4 ⟨v, rfl, ho, hb4⟩
      obtain ⟨a4, c4, rfl⟩ := ho.slice
      rw [encU_length]
      have d1 := keep hb4 d0
      have hA1 := thenB hA hb4
      clear hA d0 c0 ho hb4
      go_wp2_with fail
      refine (putU_any _ _ (by omega) (by omega)).mono ?_
      rintro e w5 ⟨v, rfl, ho, hb5⟩
      obtain ⟨a5, c5, rfl⟩ := ho.slice
      rw [encU_length]
      have d2 := keep hb5 d1
      have hA2 := thenB hA1 hb5
      clear hA1 d1 ho hb5
      go_wp2
      go_ret
      exact ⟨rfl, hA2⟩
  · clear hS
    have ht1 : (e1 == 0) = false := by simp [h1]
    clear h1
    by_cases h2 : e2 = 0
    · subst h2
      obtain ⟨v1, v2, v3, v4⟩ := hS2 rfl
      clear hS2
      have hv := sizeS_pos y
      have t3 : decide ((sizeS y : Int) ≤ r - p) = true := by simp; omega
      have t4 : decide (r - p ≤ 5) = true := by simp; omega
      have t5 : decide (0 < sizeS y) = true := by simp; omega
      go_enter Try.func5, Try.ntmps5
      go_wp2_with fail
      refine (awake_any _).mono ?_
      rintro e w1 ⟨rfl, hb1⟩
      go_wp2_with fail
      refine (GetU_any _ len cap p zs _ HL.out (hz.below hb1)).mono ?_
      rw [HR.out]
      rintro e w2 ⟨rfl, hb2⟩
      go_wp2_with fail
      refine (GetS_any _ len cap p zs _ HL.out (((hz.below hb1).below hb2).alloc _)).mono ?_
      rw [HR2.out]
      rintro e w3 ⟨rfl, hb3⟩
      obtain ⟨c0, c1, f0, f1, hs3⟩ := two hb3
      have c0 := fun o => keepA c0 o
      have hA := thenA (thenB (thenA (thenB hb1 hb2) _) hb3) (.cells #[.int .i64 0, .int .i64 f2] 33)
      have d0 : (w3.alloc (.cells #[.int .i64 0, .int .i64 f2] 33)).cell? ⟨w3.heap.size, 0, none⟩ = some (.int .i64 0) := by go_simp
      clear c1 f0 f1 hb1 hb2 hb3 hs3
      have d2 := d0
      have hA2 := hA
      go_wp2_with fail
      refine (putS_any _ _ (by omega) (by omega)).mono ?_
      rintro e w6 ⟨v, rfl, ho, hb6⟩
      obtain ⟨a6, c6, rfl⟩ := ho.slice
      rw [encS_length]
      have hA3 := thenB hA2 hb6
      clear hA2 d2 ho hb6
      go_wp2_with fail
      refine (putS_any _ _ (by omega) (by omega)).mono ?_
      rintro e w7 ⟨v, rfl, ho, hb7⟩
      obtain ⟨a7, c7, rfl⟩ := ho.slice
      rw [encS_length]
      have hA4 := thenB hA3 hb7
      clear hA3 ho hb7
      go_wp2
      go_ret
      exact ⟨rfl, hA4⟩
    · clear hS2
      have ht2 : (e2 != 0) = true := by simp [h2]
      clear h2
      go_enter Try.func5, Try.ntmps5
      go_wp2_with fail
      refine (awake_any _).mono ?_
      rintro e w1 ⟨rfl, hb1⟩
      go_wp2_with fail
      refine (GetU_any _ len cap p zs _ HL.out (hz.below hb1)).mono ?_
      rw [HR.out]
      rintro e w2 ⟨rfl, hb2⟩
      go_wp2_with fail
      refine (GetS_any _ len cap p zs _ HL.out (((hz.below hb1).below hb2).alloc _)).mono ?_
      rw [HR2.out]
      rintro e w3 ⟨rfl, hb3⟩
      obtain ⟨c0, c1, f0, f1, hs3⟩ := two hb3
      have c0 := fun o => keepA c0 o
      have hA := thenA (thenB (thenA (thenB hb1 hb2) _) hb3) (.cells #[.int .i64 e2, .int .i64 f2] 33)
      have d0 : (w3.alloc (.cells #[.int .i64 e2, .int .i64 f2] 33)).cell? ⟨w3.heap.size, 0, none⟩ = some (.int .i64 e2) := by go_simp
      clear c1 f0 f1 hb1 hb2 hb3 hs3
      have d2 := d0
      have hA2 := hA
      go_wp2
      go_ret
      exact ⟨rfl, hA2⟩
end Go.Proofs.Ytbbpnlldlmjbpaa
