/-
  The walk of the statement KindBack: what is put is got, whatever stands behind it; what any bytes say is put in no more of them. (Written by wip/tools/gen_kindback.py.)
-/
import Derived.Test.YtgndekmmeknfpaaKindBackKit
namespace Go.Proofs.Ytgndekmmeknfpaa
set_option linter.unusedVariables false
open Go.RowKit Leb Kind

set_option maxRecDepth 100000 in
set_option maxHeartbeats 1600000 in
theorem kindBack_big (w : World) (p r n x : Int) (c : Bool) (most : Int) (a : Option Addr) (len cap : Nat) (g : 100 < len) :
    Calls Try.prog 4 #[.agg #[.int .i64 p, .int .i64 r], .agg #[.int .u32 n, .int .u32 x, .bool c], .int .u32 most, .slice a len cap] w fun e w' => e = .returned (.bool true) ∧ Below w.heap.size w w' := by
  have g' : (100 : Int) < (len : Int) := by omega
  clear g
  go_enter Try.func4, Try.ntmps4
  go_wp2_with fail
  refine (awake_any _).mono ?_
  rintro e w1 ⟨rfl, hb1⟩
  have hA := bx_out (bx_keep (bx_start w p r n x c 23 26) hb1)
  clear hb1
  go_wp2
  go_ret
  exact ⟨rfl, hA⟩

set_option maxRecDepth 100000 in
set_option maxHeartbeats 6400000 in
theorem kindBack_11 (w : World) (p r n x : Int) (c : Bool) (hn : 0 ≤ n ∧ n ≤ 4294967295) (hx : 0 ≤ x ∧ x ≤ 4294967295) (most : Int) (hm : 0 ≤ most ∧ most ≤ 4294967295)
    (a : Option Addr) (len cap : Nat) (zs : List Int) (hlen : zs.length = len) (hz : Bytes w a zs) (hnil : a = none → cap = 0) (g : len ≤ 100) (okT : okType p r = true) (okL : okLim n x c most = true) :
    Calls Try.prog 4 #[.agg #[.int .i64 p, .int .i64 r], .agg #[.int .u32 n, .int .u32 x, .bool c], .int .u32 most, .slice a len cap] w fun e w' => e = .returned (.bool true) ∧ Below w.heap.size w w' := by
  have q1 := eqType
  have q2 := guardType
  have q3 := eqLim
  have q4 := guardLim
  obtain ⟨m1, hm1⟩ : ∃ m, (putZ p r).length = m := ⟨_, rfl⟩
  obtain ⟨m2, hm2⟩ : ∃ m, (limZ n x c most).length = m := ⟨_, rfl⟩
  have A := hid (fun W => put_any p r m1 hm1 W)
  rw [show codeType p r = 0 by unfold codeType; rw [okT]; rfl] at A
  have C := hid (fun W => putLim_any n x c most m2 hm2 hn hx W)
  rw [show codeLim n x c most = 0 by unfold codeLim; rw [okL]; rfl] at C
  obtain ⟨hm1b, ZB1, T1⟩ := back_type okT hm1
  have ZB1 := hid ZB1
  have T1 := hid T1
  have HM1 := hid hm1
  obtain ⟨hm2b, ZB2, T2⟩ := back_lim okL hn hx hm2
  have ZB2 := hid ZB2
  have T2 := hid T2
  have HM2 := hid hm2
  clear hm1 hm2 okT okL
  generalize putZ p r = Z1 at *
  generalize limZ n x c most = Z2 at *
  obtain ⟨u1, u2, q5, e5, f5, m3, k3, hU, V, F5⟩ := short_type hz.byte
  obtain ⟨v1, v2, v3, q6, e6, f6, m4, k4, hM, X, F6⟩ := short_lim hz.byte most
  have GU := hid (fun W hz' => getT_any a len cap zs 0 W hlen hz')
  rw [hU] at GU
  have HMO := hid hm
  have GM := hid (fun W hz' => getL_any a len cap zs 0 most W hlen hz' hm)
  rw [hM] at GM
  have V := hid V
  have X := hid X
  have F5 := hid F5
  have F6 := hid F6
  have HL := hid hlen
  have HNIL := hid hnil
  have g' : (len : Int) ≤ 100 := by omega
  clear hU hM hlen hnil hm hn hx
  go_enter Try.func4, Try.ntmps4
  go_wp2_with fail
  refine (awake_any _).mono ?_
  rintro e w1 ⟨rfl, hb1⟩
  have hB := bx_keep (bx_start w p r n x c 23 26) hb1
  have hy := hz.below (bx_out hB)
  clear hb1 hz
  obtain ⟨_, t0, t1, l0, l1, l2⟩ := id hB
  go_wp2_with fail
  refine (A.out _).mono ?_
  rintro e w2 ⟨a1, j1, rfl, hy1, n1, hb2⟩
  have hB := bx_keep hB hb2
  have hy := hy.below hb2
  clear hb2 t0 t1 l0 l1 l2 A
  obtain ⟨_, t0, t1, l0, l1, l2⟩ := id hB
  have hoE := own_empty w2
  have hbE : Below w2.heap.size w2 (w2.alloc (.cells #[] 5)) := (Below.refl _ _).alloc (Nat.le_refl _) _
  go_wp2_with (first
    | (at_builtin; refine append_bytes rfl (.tmp 43) (.tmp 44) rfl rfl hoE hbE hbE.size _ _ _ rfl n1.out HM1.out (hy1.alloc _) (by have := HM1.out; simp; omega) ?_; intro v5 w5 ho5 hB5 hs5; rw [List.nil_append] at ho5; obtain ⟨a5, c5, rfl⟩ := ho5.sliceN HM1.out)
    | (at_builtin; refine append_bytes rfl (.tmp 45) (.tmp 46) rfl rfl ho5 hB5 hs5 _ _ _ rfl HNIL.out HL.out (hy.below hB5) (by have := HM1.out; have := HL.out; omega) ?_; intro v6 w6 ho6 hB6 hs6; obtain ⟨a6, c6, rfl⟩ := ho6.sliceN (n := m1 + len) (by rw [List.length_append, HM1.out, HL.out])))
  have hG := getT_any a6 (m1 + len) c6 (Z1 ++ zs) 0 w6 (by rw [List.length_append, HM1.out, HL.out]) (ho6.bytes (fun z hm => (List.mem_append.1 hm).elim (ZB1.out z) (hy.byte z)) (by rw [List.length_append, HM1.out, HL.out]; omega))
  rw [T1.out zs] at hG
  refine hG.mono ?_
  rintro e w7 ⟨rfl, hb7⟩
  have hb8 : Below w2.heap.size w2 ((w7.alloc (.cells #[.int .i64 p, .int .i64 r] 23)).alloc (.cells #[.int .i64 0, .int .i64 0] 38)) := thenA (thenA (thenB hB6 hb7) _) _
  have hB := bx_keep hB hb8
  have hy := hy.below hb8
  clear t0 t1 l0 l1 l2 hb8 hb7 hG hB5 hB6 hs5 hs6 ho5 ho6 hoE hbE hy1 T1 ZB1 HM1
  obtain ⟨_, t0, t1, l0, l1, l2⟩ := id hB
  simp only
  go_wp2_with fail
  generalize (w7.alloc (.cells #[.int .i64 p, .int .i64 r] 23)).alloc (.cells #[.int .i64 0, .int .i64 0] 38) = w8 at *
  refine (C.out _).mono ?_
  rintro e w9 ⟨a2, j2, rfl, hy2, n2, hb9⟩
  have hB := bx_keep hB hb9
  have hy := hy.below hb9
  clear hb9 t0 t1 l0 l1 l2 C
  obtain ⟨_, t0, t1, l0, l1, l2⟩ := id hB
  have hoE := own_empty w9
  have hbE : Below w9.heap.size w9 (w9.alloc (.cells #[] 5)) := (Below.refl _ _).alloc (Nat.le_refl _) _
  go_wp2_with (first
    | (at_builtin; refine append_bytes rfl (.tmp 75) (.tmp 76) rfl rfl hoE hbE hbE.size _ _ _ rfl n2.out HM2.out (hy2.alloc _) (by have := HM2.out; simp; omega) ?_; intro v10 w10 ho10 hB10 hs10; rw [List.nil_append] at ho10; obtain ⟨a10, c10, rfl⟩ := ho10.sliceN HM2.out)
    | (at_builtin; refine append_bytes rfl (.tmp 77) (.tmp 78) rfl rfl ho10 hB10 hs10 _ _ _ rfl HNIL.out HL.out (hy.below hB10) (by have := HM2.out; have := HL.out; omega) ?_; intro v11 w11 ho11 hB11 hs11; obtain ⟨a11, c11, rfl⟩ := ho11.sliceN (n := m2 + len) (by rw [List.length_append, HM2.out, HL.out])))
  have hG := getL_any a11 (m2 + len) c11 (Z2 ++ zs) 0 most w11 (by rw [List.length_append, HM2.out, HL.out]) (ho11.bytes (fun z hm => (List.mem_append.1 hm).elim (ZB2.out z) (hy.byte z)) (by rw [List.length_append, HM2.out, HL.out]; omega)) HMO.out
  rw [T2.out zs] at hG
  refine hG.mono ?_
  rintro e w12 ⟨rfl, hb12⟩
  have hb13 : Below w9.heap.size w9 ((w12.alloc (.cells #[.int .u32 n, .int .u32 x, .bool c] 26)).alloc (.cells #[.int .i64 0, .int .i64 0] 38)) := thenA (thenA (thenB hB11 hb12) _) _
  have hB := bx_keep hB hb13
  have hy := hy.below hb13
  clear t0 t1 l0 l1 l2 hb13 hb12 hG hB10 hB11 hs10 hs11 ho10 ho11 hoE hbE hy2 T2 ZB2 HM2
  obtain ⟨_, t0, t1, l0, l1, l2⟩ := id hB
  simp only
  go_wp2_with fail
  generalize (w12.alloc (.cells #[.int .u32 n, .int .u32 x, .bool c] 26)).alloc (.cells #[.int .i64 0, .int .i64 0] 38) = w13 at *
  refine (GU.out _ hy).mono ?_
  rintro e w20 ⟨rfl, hb20⟩
  have hA := thenB (bx_out hB) hb20
  have hy := hy.below hb20
  clear hb20 hB t0 t1 l0 l1 l2 GU
  simp only
  go_wp2_with fail
  refine (V.out _).mono ?_
  rintro e w21 ⟨a3, j3, rfl, hy3, n3, hb21⟩
  have hc : Below w20.heap.size w20 w21 := (thenA (thenA (Below.refl _ _) (.cells #[.int .i64 u1, .int .i64 u2] 23)) (.cells #[.int .i64 e5, .int .i64 f5] 38)).trans (hb21.mono (by simp; omega))
  obtain ⟨_, _, f50, _⟩ := two_two hb21
  have hA := thenB hA hc
  have hy := hy.below hc
  clear hb21 hc V hy3
  go_wp2_with fail
  refine (GM.out _ hy).mono ?_
  rintro e w22 ⟨rfl, hb22⟩
  have hA := thenB hA hb22
  have f50 := keep hb22 f50
  clear hb22 hy GM
  simp only
  go_wp2_with fail
  refine (X.out _).mono ?_
  rintro e w23 ⟨a4, j4, rfl, hy4, n4, hb23⟩
  have hc : Below w22.heap.size w22 w23 := (thenA (thenA (Below.refl _ _) (.cells #[.int .u32 v1, .int .u32 v2, .bool v3] 26)) (.cells #[.int .i64 e6, .int .i64 f6] 38)).trans (hb23.mono (by simp; omega))
  obtain ⟨f60, _⟩ := three_two hb23
  have f50 := keep hc f50
  have hA := thenB hA hc
  clear hb23 hc X hy4
  by_cases h5 : e5 = 0
  · obtain ⟨h51, h52⟩ := F5.out h5
    subst h5 h51
    have d5 : decide ((m3 : Int) ≤ q5) = true := decide_eq_true h52
    by_cases h6 : e6 = 0
    · obtain ⟨h61, h62⟩ := F6.out h6
      subst h6 h61
      have d6 : decide ((m4 : Int) ≤ q6) = true := decide_eq_true h62
      go_wp2
      go_ret
      exact ⟨rfl, hA⟩
    · have d6 : (e6 != 0) = true := by simp [h6]
      go_wp2
      go_ret
      exact ⟨rfl, hA⟩
  · have d5 : (e5 != 0) = true := by simp [h5]
    by_cases h6 : e6 = 0
    · obtain ⟨h61, h62⟩ := F6.out h6
      subst h6 h61
      have d6 : decide ((m4 : Int) ≤ q6) = true := decide_eq_true h62
      go_wp2
      go_ret
      exact ⟨rfl, hA⟩
    · have d6 : (e6 != 0) = true := by simp [h6]
      go_wp2
      go_ret
      exact ⟨rfl, hA⟩

set_option maxRecDepth 100000 in
set_option maxHeartbeats 6400000 in
theorem kindBack_10 (w : World) (p r n x : Int) (c : Bool) (hn : 0 ≤ n ∧ n ≤ 4294967295) (hx : 0 ≤ x ∧ x ≤ 4294967295) (most : Int) (hm : 0 ≤ most ∧ most ≤ 4294967295)
    (a : Option Addr) (len cap : Nat) (zs : List Int) (hlen : zs.length = len) (hz : Bytes w a zs) (hnil : a = none → cap = 0) (g : len ≤ 100) (okT : okType p r = true) (okL : okLim n x c most = false) :
    Calls Try.prog 4 #[.agg #[.int .i64 p, .int .i64 r], .agg #[.int .u32 n, .int .u32 x, .bool c], .int .u32 most, .slice a len cap] w fun e w' => e = .returned (.bool true) ∧ Below w.heap.size w w' := by
  have q1 := eqType
  have q2 := guardType
  have q3 := eqLim
  have q4 := guardLim
  obtain ⟨m1, hm1⟩ : ∃ m, (putZ p r).length = m := ⟨_, rfl⟩
  obtain ⟨m2, hm2⟩ : ∃ m, (limZ n x c most).length = m := ⟨_, rfl⟩
  have A := hid (fun W => put_any p r m1 hm1 W)
  rw [show codeType p r = 0 by unfold codeType; rw [okT]; rfl] at A
  have C := hid (fun W => putLim_any n x c most m2 hm2 hn hx W)
  rw [show codeLim n x c most = 2 by unfold codeLim; rw [okL]; rfl] at C
  obtain ⟨hm1b, ZB1, T1⟩ := back_type okT hm1
  have ZB1 := hid ZB1
  have T1 := hid T1
  have HM1 := hid hm1
  clear hm1 hm2 okT okL
  generalize putZ p r = Z1 at *
  generalize limZ n x c most = Z2 at *
  obtain ⟨u1, u2, q5, e5, f5, m3, k3, hU, V, F5⟩ := short_type hz.byte
  obtain ⟨v1, v2, v3, q6, e6, f6, m4, k4, hM, X, F6⟩ := short_lim hz.byte most
  have GU := hid (fun W hz' => getT_any a len cap zs 0 W hlen hz')
  rw [hU] at GU
  have HMO := hid hm
  have GM := hid (fun W hz' => getL_any a len cap zs 0 most W hlen hz' hm)
  rw [hM] at GM
  have V := hid V
  have X := hid X
  have F5 := hid F5
  have F6 := hid F6
  have HL := hid hlen
  have HNIL := hid hnil
  have g' : (len : Int) ≤ 100 := by omega
  clear hU hM hlen hnil hm hn hx
  go_enter Try.func4, Try.ntmps4
  go_wp2_with fail
  refine (awake_any _).mono ?_
  rintro e w1 ⟨rfl, hb1⟩
  have hB := bx_keep (bx_start w p r n x c 23 26) hb1
  have hy := hz.below (bx_out hB)
  clear hb1 hz
  obtain ⟨_, t0, t1, l0, l1, l2⟩ := id hB
  go_wp2_with fail
  refine (A.out _).mono ?_
  rintro e w2 ⟨a1, j1, rfl, hy1, n1, hb2⟩
  have hB := bx_keep hB hb2
  have hy := hy.below hb2
  clear hb2 t0 t1 l0 l1 l2 A
  obtain ⟨_, t0, t1, l0, l1, l2⟩ := id hB
  have hoE := own_empty w2
  have hbE : Below w2.heap.size w2 (w2.alloc (.cells #[] 5)) := (Below.refl _ _).alloc (Nat.le_refl _) _
  go_wp2_with (first
    | (at_builtin; refine append_bytes rfl (.tmp 43) (.tmp 44) rfl rfl hoE hbE hbE.size _ _ _ rfl n1.out HM1.out (hy1.alloc _) (by have := HM1.out; simp; omega) ?_; intro v5 w5 ho5 hB5 hs5; rw [List.nil_append] at ho5; obtain ⟨a5, c5, rfl⟩ := ho5.sliceN HM1.out)
    | (at_builtin; refine append_bytes rfl (.tmp 45) (.tmp 46) rfl rfl ho5 hB5 hs5 _ _ _ rfl HNIL.out HL.out (hy.below hB5) (by have := HM1.out; have := HL.out; omega) ?_; intro v6 w6 ho6 hB6 hs6; obtain ⟨a6, c6, rfl⟩ := ho6.sliceN (n := m1 + len) (by rw [List.length_append, HM1.out, HL.out])))
  have hG := getT_any a6 (m1 + len) c6 (Z1 ++ zs) 0 w6 (by rw [List.length_append, HM1.out, HL.out]) (ho6.bytes (fun z hm => (List.mem_append.1 hm).elim (ZB1.out z) (hy.byte z)) (by rw [List.length_append, HM1.out, HL.out]; omega))
  rw [T1.out zs] at hG
  refine hG.mono ?_
  rintro e w7 ⟨rfl, hb7⟩
  have hb8 : Below w2.heap.size w2 ((w7.alloc (.cells #[.int .i64 p, .int .i64 r] 23)).alloc (.cells #[.int .i64 0, .int .i64 0] 38)) := thenA (thenA (thenB hB6 hb7) _) _
  have hB := bx_keep hB hb8
  have hy := hy.below hb8
  clear t0 t1 l0 l1 l2 hb8 hb7 hG hB5 hB6 hs5 hs6 ho5 ho6 hoE hbE hy1 T1 ZB1 HM1
  obtain ⟨_, t0, t1, l0, l1, l2⟩ := id hB
  simp only
  go_wp2_with fail
  generalize (w7.alloc (.cells #[.int .i64 p, .int .i64 r] 23)).alloc (.cells #[.int .i64 0, .int .i64 0] 38) = w8 at *
  refine (C.out _).mono ?_
  rintro e w9 ⟨a2, j2, rfl, hy2, n2, hb9⟩
  have hB := bx_keep hB hb9
  have hy := hy.below hb9
  clear hb9 t0 t1 l0 l1 l2 C
  obtain ⟨_, t0, t1, l0, l1, l2⟩ := id hB
  go_wp2_with fail
  refine (GU.out _ hy).mono ?_
  rintro e w20 ⟨rfl, hb20⟩
  have hA := thenB (bx_out hB) hb20
  have hy := hy.below hb20
  clear hb20 hB t0 t1 l0 l1 l2 GU
  simp only
  go_wp2_with fail
  refine (V.out _).mono ?_
  rintro e w21 ⟨a3, j3, rfl, hy3, n3, hb21⟩
  have hc : Below w20.heap.size w20 w21 := (thenA (thenA (Below.refl _ _) (.cells #[.int .i64 u1, .int .i64 u2] 23)) (.cells #[.int .i64 e5, .int .i64 f5] 38)).trans (hb21.mono (by simp; omega))
  obtain ⟨_, _, f50, _⟩ := two_two hb21
  have hA := thenB hA hc
  have hy := hy.below hc
  clear hb21 hc V hy3
  go_wp2_with fail
  refine (GM.out _ hy).mono ?_
  rintro e w22 ⟨rfl, hb22⟩
  have hA := thenB hA hb22
  have f50 := keep hb22 f50
  clear hb22 hy GM
  simp only
  go_wp2_with fail
  refine (X.out _).mono ?_
  rintro e w23 ⟨a4, j4, rfl, hy4, n4, hb23⟩
  have hc : Below w22.heap.size w22 w23 := (thenA (thenA (Below.refl _ _) (.cells #[.int .u32 v1, .int .u32 v2, .bool v3] 26)) (.cells #[.int .i64 e6, .int .i64 f6] 38)).trans (hb23.mono (by simp; omega))
  obtain ⟨f60, _⟩ := three_two hb23
  have f50 := keep hc f50
  have hA := thenB hA hc
  clear hb23 hc X hy4
  by_cases h5 : e5 = 0
  · obtain ⟨h51, h52⟩ := F5.out h5
    subst h5 h51
    have d5 : decide ((m3 : Int) ≤ q5) = true := decide_eq_true h52
    by_cases h6 : e6 = 0
    · obtain ⟨h61, h62⟩ := F6.out h6
      subst h6 h61
      have d6 : decide ((m4 : Int) ≤ q6) = true := decide_eq_true h62
      go_wp2
      go_ret
      exact ⟨rfl, hA⟩
    · have d6 : (e6 != 0) = true := by simp [h6]
      go_wp2
      go_ret
      exact ⟨rfl, hA⟩
  · have d5 : (e5 != 0) = true := by simp [h5]
    by_cases h6 : e6 = 0
    · obtain ⟨h61, h62⟩ := F6.out h6
      subst h6 h61
      have d6 : decide ((m4 : Int) ≤ q6) = true := decide_eq_true h62
      go_wp2
      go_ret
      exact ⟨rfl, hA⟩
    · have d6 : (e6 != 0) = true := by simp [h6]
      go_wp2
      go_ret
      exact ⟨rfl, hA⟩

set_option maxRecDepth 100000 in
set_option maxHeartbeats 6400000 in
theorem kindBack_01 (w : World) (p r n x : Int) (c : Bool) (hn : 0 ≤ n ∧ n ≤ 4294967295) (hx : 0 ≤ x ∧ x ≤ 4294967295) (most : Int) (hm : 0 ≤ most ∧ most ≤ 4294967295)
    (a : Option Addr) (len cap : Nat) (zs : List Int) (hlen : zs.length = len) (hz : Bytes w a zs) (hnil : a = none → cap = 0) (g : len ≤ 100) (okT : okType p r = false) (okL : okLim n x c most = true) :
    Calls Try.prog 4 #[.agg #[.int .i64 p, .int .i64 r], .agg #[.int .u32 n, .int .u32 x, .bool c], .int .u32 most, .slice a len cap] w fun e w' => e = .returned (.bool true) ∧ Below w.heap.size w w' := by
  have q1 := eqType
  have q2 := guardType
  have q3 := eqLim
  have q4 := guardLim
  obtain ⟨m1, hm1⟩ : ∃ m, (putZ p r).length = m := ⟨_, rfl⟩
  obtain ⟨m2, hm2⟩ : ∃ m, (limZ n x c most).length = m := ⟨_, rfl⟩
  have A := hid (fun W => put_any p r m1 hm1 W)
  rw [show codeType p r = 2 by unfold codeType; rw [okT]; rfl] at A
  have C := hid (fun W => putLim_any n x c most m2 hm2 hn hx W)
  rw [show codeLim n x c most = 0 by unfold codeLim; rw [okL]; rfl] at C
  obtain ⟨hm2b, ZB2, T2⟩ := back_lim okL hn hx hm2
  have ZB2 := hid ZB2
  have T2 := hid T2
  have HM2 := hid hm2
  clear hm1 hm2 okT okL
  generalize putZ p r = Z1 at *
  generalize limZ n x c most = Z2 at *
  obtain ⟨u1, u2, q5, e5, f5, m3, k3, hU, V, F5⟩ := short_type hz.byte
  obtain ⟨v1, v2, v3, q6, e6, f6, m4, k4, hM, X, F6⟩ := short_lim hz.byte most
  have GU := hid (fun W hz' => getT_any a len cap zs 0 W hlen hz')
  rw [hU] at GU
  have HMO := hid hm
  have GM := hid (fun W hz' => getL_any a len cap zs 0 most W hlen hz' hm)
  rw [hM] at GM
  have V := hid V
  have X := hid X
  have F5 := hid F5
  have F6 := hid F6
  have HL := hid hlen
  have HNIL := hid hnil
  have g' : (len : Int) ≤ 100 := by omega
  clear hU hM hlen hnil hm hn hx
  go_enter Try.func4, Try.ntmps4
  go_wp2_with fail
  refine (awake_any _).mono ?_
  rintro e w1 ⟨rfl, hb1⟩
  have hB := bx_keep (bx_start w p r n x c 23 26) hb1
  have hy := hz.below (bx_out hB)
  clear hb1 hz
  obtain ⟨_, t0, t1, l0, l1, l2⟩ := id hB
  go_wp2_with fail
  refine (A.out _).mono ?_
  rintro e w2 ⟨a1, j1, rfl, hy1, n1, hb2⟩
  have hB := bx_keep hB hb2
  have hy := hy.below hb2
  clear hb2 t0 t1 l0 l1 l2 A
  obtain ⟨_, t0, t1, l0, l1, l2⟩ := id hB
  go_wp2_with fail
  have hB := hB
  refine (C.out _).mono ?_
  rintro e w9 ⟨a2, j2, rfl, hy2, n2, hb9⟩
  have hB := bx_keep hB hb9
  have hy := hy.below hb9
  clear hb9 t0 t1 l0 l1 l2 C
  obtain ⟨_, t0, t1, l0, l1, l2⟩ := id hB
  have hoE := own_empty w9
  have hbE : Below w9.heap.size w9 (w9.alloc (.cells #[] 5)) := (Below.refl _ _).alloc (Nat.le_refl _) _
  go_wp2_with (first
    | (at_builtin; refine append_bytes rfl (.tmp 75) (.tmp 76) rfl rfl hoE hbE hbE.size _ _ _ rfl n2.out HM2.out (hy2.alloc _) (by have := HM2.out; simp; omega) ?_; intro v10 w10 ho10 hB10 hs10; rw [List.nil_append] at ho10; obtain ⟨a10, c10, rfl⟩ := ho10.sliceN HM2.out)
    | (at_builtin; refine append_bytes rfl (.tmp 77) (.tmp 78) rfl rfl ho10 hB10 hs10 _ _ _ rfl HNIL.out HL.out (hy.below hB10) (by have := HM2.out; have := HL.out; omega) ?_; intro v11 w11 ho11 hB11 hs11; obtain ⟨a11, c11, rfl⟩ := ho11.sliceN (n := m2 + len) (by rw [List.length_append, HM2.out, HL.out])))
  have hG := getL_any a11 (m2 + len) c11 (Z2 ++ zs) 0 most w11 (by rw [List.length_append, HM2.out, HL.out]) (ho11.bytes (fun z hm => (List.mem_append.1 hm).elim (ZB2.out z) (hy.byte z)) (by rw [List.length_append, HM2.out, HL.out]; omega)) HMO.out
  rw [T2.out zs] at hG
  refine hG.mono ?_
  rintro e w12 ⟨rfl, hb12⟩
  have hb13 : Below w9.heap.size w9 ((w12.alloc (.cells #[.int .u32 n, .int .u32 x, .bool c] 26)).alloc (.cells #[.int .i64 0, .int .i64 0] 38)) := thenA (thenA (thenB hB11 hb12) _) _
  have hB := bx_keep hB hb13
  have hy := hy.below hb13
  clear t0 t1 l0 l1 l2 hb13 hb12 hG hB10 hB11 hs10 hs11 ho10 ho11 hoE hbE hy2 T2 ZB2 HM2
  obtain ⟨_, t0, t1, l0, l1, l2⟩ := id hB
  simp only
  go_wp2_with fail
  generalize (w12.alloc (.cells #[.int .u32 n, .int .u32 x, .bool c] 26)).alloc (.cells #[.int .i64 0, .int .i64 0] 38) = w13 at *
  refine (GU.out _ hy).mono ?_
  rintro e w20 ⟨rfl, hb20⟩
  have hA := thenB (bx_out hB) hb20
  have hy := hy.below hb20
  clear hb20 hB t0 t1 l0 l1 l2 GU
  simp only
  go_wp2_with fail
  refine (V.out _).mono ?_
  rintro e w21 ⟨a3, j3, rfl, hy3, n3, hb21⟩
  have hc : Below w20.heap.size w20 w21 := (thenA (thenA (Below.refl _ _) (.cells #[.int .i64 u1, .int .i64 u2] 23)) (.cells #[.int .i64 e5, .int .i64 f5] 38)).trans (hb21.mono (by simp; omega))
  obtain ⟨_, _, f50, _⟩ := two_two hb21
  have hA := thenB hA hc
  have hy := hy.below hc
  clear hb21 hc V hy3
  go_wp2_with fail
  refine (GM.out _ hy).mono ?_
  rintro e w22 ⟨rfl, hb22⟩
  have hA := thenB hA hb22
  have f50 := keep hb22 f50
  clear hb22 hy GM
  simp only
  go_wp2_with fail
  refine (X.out _).mono ?_
  rintro e w23 ⟨a4, j4, rfl, hy4, n4, hb23⟩
  have hc : Below w22.heap.size w22 w23 := (thenA (thenA (Below.refl _ _) (.cells #[.int .u32 v1, .int .u32 v2, .bool v3] 26)) (.cells #[.int .i64 e6, .int .i64 f6] 38)).trans (hb23.mono (by simp; omega))
  obtain ⟨f60, _⟩ := three_two hb23
  have f50 := keep hc f50
  have hA := thenB hA hc
  clear hb23 hc X hy4
  by_cases h5 : e5 = 0
  · obtain ⟨h51, h52⟩ := F5.out h5
    subst h5 h51
    have d5 : decide ((m3 : Int) ≤ q5) = true := decide_eq_true h52
    by_cases h6 : e6 = 0
    · obtain ⟨h61, h62⟩ := F6.out h6
      subst h6 h61
      have d6 : decide ((m4 : Int) ≤ q6) = true := decide_eq_true h62
      go_wp2
      go_ret
      exact ⟨rfl, hA⟩
    · have d6 : (e6 != 0) = true := by simp [h6]
      go_wp2
      go_ret
      exact ⟨rfl, hA⟩
  · have d5 : (e5 != 0) = true := by simp [h5]
    by_cases h6 : e6 = 0
    · obtain ⟨h61, h62⟩ := F6.out h6
      subst h6 h61
      have d6 : decide ((m4 : Int) ≤ q6) = true := decide_eq_true h62
      go_wp2
      go_ret
      exact ⟨rfl, hA⟩
    · have d6 : (e6 != 0) = true := by simp [h6]
      go_wp2
      go_ret
      exact ⟨rfl, hA⟩

set_option maxRecDepth 100000 in
set_option maxHeartbeats 6400000 in
theorem kindBack_00 (w : World) (p r n x : Int) (c : Bool) (hn : 0 ≤ n ∧ n ≤ 4294967295) (hx : 0 ≤ x ∧ x ≤ 4294967295) (most : Int) (hm : 0 ≤ most ∧ most ≤ 4294967295)
    (a : Option Addr) (len cap : Nat) (zs : List Int) (hlen : zs.length = len) (hz : Bytes w a zs) (hnil : a = none → cap = 0) (g : len ≤ 100) (okT : okType p r = false) (okL : okLim n x c most = false) :
    Calls Try.prog 4 #[.agg #[.int .i64 p, .int .i64 r], .agg #[.int .u32 n, .int .u32 x, .bool c], .int .u32 most, .slice a len cap] w fun e w' => e = .returned (.bool true) ∧ Below w.heap.size w w' := by
  have q1 := eqType
  have q2 := guardType
  have q3 := eqLim
  have q4 := guardLim
  obtain ⟨m1, hm1⟩ : ∃ m, (putZ p r).length = m := ⟨_, rfl⟩
  obtain ⟨m2, hm2⟩ : ∃ m, (limZ n x c most).length = m := ⟨_, rfl⟩
  have A := hid (fun W => put_any p r m1 hm1 W)
  rw [show codeType p r = 2 by unfold codeType; rw [okT]; rfl] at A
  have C := hid (fun W => putLim_any n x c most m2 hm2 hn hx W)
  rw [show codeLim n x c most = 2 by unfold codeLim; rw [okL]; rfl] at C
  clear hm1 hm2 okT okL
  generalize putZ p r = Z1 at *
  generalize limZ n x c most = Z2 at *
  obtain ⟨u1, u2, q5, e5, f5, m3, k3, hU, V, F5⟩ := short_type hz.byte
  obtain ⟨v1, v2, v3, q6, e6, f6, m4, k4, hM, X, F6⟩ := short_lim hz.byte most
  have GU := hid (fun W hz' => getT_any a len cap zs 0 W hlen hz')
  rw [hU] at GU
  have HMO := hid hm
  have GM := hid (fun W hz' => getL_any a len cap zs 0 most W hlen hz' hm)
  rw [hM] at GM
  have V := hid V
  have X := hid X
  have F5 := hid F5
  have F6 := hid F6
  have HL := hid hlen
  have HNIL := hid hnil
  have g' : (len : Int) ≤ 100 := by omega
  clear hU hM hlen hnil hm hn hx
  go_enter Try.func4, Try.ntmps4
  go_wp2_with fail
  refine (awake_any _).mono ?_
  rintro e w1 ⟨rfl, hb1⟩
  have hB := bx_keep (bx_start w p r n x c 23 26) hb1
  have hy := hz.below (bx_out hB)
  clear hb1 hz
  obtain ⟨_, t0, t1, l0, l1, l2⟩ := id hB
  go_wp2_with fail
  refine (A.out _).mono ?_
  rintro e w2 ⟨a1, j1, rfl, hy1, n1, hb2⟩
  have hB := bx_keep hB hb2
  have hy := hy.below hb2
  clear hb2 t0 t1 l0 l1 l2 A
  obtain ⟨_, t0, t1, l0, l1, l2⟩ := id hB
  go_wp2_with fail
  have hB := hB
  refine (C.out _).mono ?_
  rintro e w9 ⟨a2, j2, rfl, hy2, n2, hb9⟩
  have hB := bx_keep hB hb9
  have hy := hy.below hb9
  clear hb9 t0 t1 l0 l1 l2 C
  obtain ⟨_, t0, t1, l0, l1, l2⟩ := id hB
  go_wp2_with fail
  refine (GU.out _ hy).mono ?_
  rintro e w20 ⟨rfl, hb20⟩
  have hA := thenB (bx_out hB) hb20
  have hy := hy.below hb20
  clear hb20 hB t0 t1 l0 l1 l2 GU
  simp only
  go_wp2_with fail
  refine (V.out _).mono ?_
  rintro e w21 ⟨a3, j3, rfl, hy3, n3, hb21⟩
  have hc : Below w20.heap.size w20 w21 := (thenA (thenA (Below.refl _ _) (.cells #[.int .i64 u1, .int .i64 u2] 23)) (.cells #[.int .i64 e5, .int .i64 f5] 38)).trans (hb21.mono (by simp; omega))
  obtain ⟨_, _, f50, _⟩ := two_two hb21
  have hA := thenB hA hc
  have hy := hy.below hc
  clear hb21 hc V hy3
  go_wp2_with fail
  refine (GM.out _ hy).mono ?_
  rintro e w22 ⟨rfl, hb22⟩
  have hA := thenB hA hb22
  have f50 := keep hb22 f50
  clear hb22 hy GM
  simp only
  go_wp2_with fail
  refine (X.out _).mono ?_
  rintro e w23 ⟨a4, j4, rfl, hy4, n4, hb23⟩
  have hc : Below w22.heap.size w22 w23 := (thenA (thenA (Below.refl _ _) (.cells #[.int .u32 v1, .int .u32 v2, .bool v3] 26)) (.cells #[.int .i64 e6, .int .i64 f6] 38)).trans (hb23.mono (by simp; omega))
  obtain ⟨f60, _⟩ := three_two hb23
  have f50 := keep hc f50
  have hA := thenB hA hc
  clear hb23 hc X hy4
  by_cases h5 : e5 = 0
  · obtain ⟨h51, h52⟩ := F5.out h5
    subst h5 h51
    have d5 : decide ((m3 : Int) ≤ q5) = true := decide_eq_true h52
    by_cases h6 : e6 = 0
    · obtain ⟨h61, h62⟩ := F6.out h6
      subst h6 h61
      have d6 : decide ((m4 : Int) ≤ q6) = true := decide_eq_true h62
      go_wp2
      go_ret
      exact ⟨rfl, hA⟩
    · have d6 : (e6 != 0) = true := by simp [h6]
      go_wp2
      go_ret
      exact ⟨rfl, hA⟩
  · have d5 : (e5 != 0) = true := by simp [h5]
    by_cases h6 : e6 = 0
    · obtain ⟨h61, h62⟩ := F6.out h6
      subst h6 h61
      have d6 : decide ((m4 : Int) ≤ q6) = true := decide_eq_true h62
      go_wp2
      go_ret
      exact ⟨rfl, hA⟩
    · have d6 : (e6 != 0) = true := by simp [h6]
      go_wp2
      go_ret
      exact ⟨rfl, hA⟩
theorem kindBack_walk (w : World) (p r : Int) (n x : Int) (c : Bool) (hn : 0 ≤ n ∧ n ≤ 4294967295) (hx : 0 ≤ x ∧ x ≤ 4294967295) (most : Int) (hm : 0 ≤ most ∧ most ≤ 4294967295)
    (a : Option Addr) (len cap : Nat) (zs : List Int) (hlen : zs.length = len) (hz : Bytes w a zs) (hnil : a = none → cap = 0) :
    Calls Try.prog 4 #[.agg #[.int .i64 p, .int .i64 r], .agg #[.int .u32 n, .int .u32 x, .bool c], .int .u32 most, .slice a len cap] w fun e w' => e = .returned (.bool true) ∧ Below w.heap.size w w' := by
  by_cases g : len ≤ 100
  · by_cases hT : okType p r = true
    · by_cases hL : okLim n x c most = true
      · exact kindBack_11 w p r n x c hn hx most hm a len cap zs hlen hz hnil g hT hL
      · exact kindBack_10 w p r n x c hn hx most hm a len cap zs hlen hz hnil g hT (by simpa using hL)
    · by_cases hL : okLim n x c most = true
      · exact kindBack_01 w p r n x c hn hx most hm a len cap zs hlen hz hnil g (by simpa using hT) hL
      · exact kindBack_00 w p r n x c hn hx most hm a len cap zs hlen hz hnil g (by simpa using hT) (by simpa using hL)
  · exact kindBack_big w p r n x c most a len cap (by omega)
end Go.Proofs.Ytgndekmmeknfpaa
