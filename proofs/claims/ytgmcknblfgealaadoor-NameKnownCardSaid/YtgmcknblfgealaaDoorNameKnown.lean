/-
  NAME: the walk of the statement NameKnown: the chapter's examples.
-/
import Derived.Test.YtgmcknblfgealaaDoorNameRunes
import Derived.Lib.SlBytesConst
namespace Go.Proofs.YtgmcknblfgealaaDoor
open Go.RowKit Utf Leb

/-- One byte, made of a constant string. -/
theorem one_const (w : World) (z : Int) (h0 : 0 ≤ z) (h1 : z < 256) : Bytes (w.alloc (.cells #[.int .u8 z] 5 (1, 2))) (some ⟨w.heap.size, 0, none⟩) [z] := by
  refine ⟨fun y hy => ?_, by simp, .inr ⟨w.heap.size, 0, rfl, fun i hi => ?_⟩⟩
  · rw [List.mem_singleton] at hy; omega
  · match i, hi with
    | 0, _ => simp [World.cell?, World.alloc, -World.alloc_eq]

set_option maxHeartbeats 6400000 in
theorem nameKnown_walk (w : World) (hT : Tabs w) :
    Calls Tryd.prog 8 #[] w fun e w' => e = .returned (.bool true) ∧ Below w.heap.size w w' := by
  have B1 := hid (show badL [97] = -1 by decide +kernel)
  have B2 := hid (show badL [97, 195, 169] = -1 by decide +kernel)
  have B3 := hid (show badL [192, 128] = 0 by decide +kernel)
  have B4 := hid (show badL [237, 160, 128] = 0 by decide +kernel)
  have O1 := hid (show ofL [8364] = ([226, 130, 172], 0) by decide +kernel)
  have O2 := hid (show ofL [55296] = ([], 5) by decide +kernel)
  have O3 := hid (show ofL [1114112] = ([], 5) by decide +kernel)
  have Q1 := hid (show putN [97, 98] = ([2, 97, 98], 0) by decide +kernel)
  have N1 := hid (show nameL [2, 97] 0 = ([], 0, 4, 2) by decide +kernel)
  have N2 := hid (show nameL [1, 255] 0 = ([], 0, 4, 1) by decide +kernel)
  have F5 : strOfNums [97, 98] = ⟨#[97, 98]⟩ := rfl
  have P1 := hid (fun W hW => Put_any [97, 98] (by decide) W hW)
  rw [F5] at P1
  clear F5
  have hcv : _ = Result.ok _ (w.alloc (.cells #[.int .u8 97] 5 (1, 2))) := Lib.run_convert_bytes_const w 22 5 #[.int .u8 97] 1 1 Tryd.underlying22 Tryd.underlying5
  go_enter Tryd.func8, Tryd.ntmps8
  go_wp2_with fail
  refine (Bad_any _ 1 1 [97] _ rfl (one_const w 97 (by decide) (by decide)) (hT.alloc _)).mono ?_
  rw [B1.out]
  rintro e w1 ⟨rfl, hb1⟩
  have hA := thenB (alloc_below w _) hb1
  have hT := hT.below hA
  clear hb1
  go_wp2_with fail
  refine (Bad_any _ 3 3 [97, 195, 169] _ rfl (bytes_made _ _ (by decide) (by decide) _ rfl _ (by first | rfl | simp)) (hT.alloc _)).mono ?_
  rw [B2.out]
  rintro e w2 ⟨rfl, hb2⟩
  have hA := thenB (thenA hA _) hb2
  have hT := (hT.alloc _).below hb2
  clear hb2
  go_wp2_with fail
  refine (Bad_any _ 2 2 [192, 128] _ rfl (bytes_made _ _ (by decide) (by decide) _ rfl _ (by first | rfl | simp)) (hT.alloc _)).mono ?_
  rw [B3.out]
  rintro e w3 ⟨rfl, hb3⟩
  have hA := thenB (thenA hA _) hb3
  have hT := (hT.alloc _).below hb3
  clear hb3
  go_wp2_with fail
  refine (Bad_any _ 3 3 [237, 160, 128] _ rfl (bytes_made _ _ (by decide) (by decide) _ rfl _ (by first | rfl | simp)) (hT.alloc _)).mono ?_
  rw [B4.out]
  rintro e w4 ⟨rfl, hb4⟩
  have hA := thenB (thenA hA _) hb4
  have hT := (hT.alloc _).below hb4
  clear hb4
  go_wp2_with fail
  refine (Of_any _ 1 1 [8364] _ rfl (nums_made _ _ _ [8364] _ rfl _ (by first | rfl | simp)) (by decide) (by omega)).mono ?_
  rw [O1.out]
  unfold GotBytes Hands
  rintro e w5 ⟨v, rfl, a5, c5, rfl, hx, _, hb5⟩
  have hA := thenB (thenA hA _) hb5
  have hT := (hT.alloc _).below hb5
  clear hb5
  go_wp2_with fail
  refine (Of_any _ 1 1 [55296] _ rfl (nums_made _ _ _ [55296] _ rfl _ (by first | rfl | simp)) (by decide) (by omega)).mono ?_
  rw [O2.out]
  unfold GotBytes Hands
  rintro e w6 ⟨v, rfl, a6, c6, rfl, _, _, hb6⟩
  have hx := (hx.alloc _).below hb6
  have hA := thenB (thenA hA _) hb6
  have hT := (hT.alloc _).below hb6
  clear hb6
  go_wp2_with fail
  refine (Of_any _ 1 1 [1114112] _ rfl (nums_made _ _ _ [1114112] _ rfl _ (by first | rfl | simp)) (by decide) (by omega)).mono ?_
  rw [O3.out]
  unfold GotBytes Hands
  rintro e w7 ⟨v, rfl, a7, c7, rfl, _, _, hb7⟩
  have hx := (hx.alloc _).below hb7
  have hA := thenB (thenA hA _) hb7
  have hT := (hT.alloc _).below hb7
  clear hb7
  go_wp2_with fail
  refine (P1.out _ hT).mono ?_
  rw [Q1.out]
  unfold GotBytes Hands
  rintro e w8 ⟨v, rfl, a8, c8, rfl, hy, _, hb8⟩
  have hx := hx.below hb8
  have hA := thenB hA hb8
  have hT := hT.below hb8
  clear hb8 P1
  go_wp2_with fail
  refine (Get_any _ 2 2 0 [2, 97] _ rfl (bytes_made _ _ (by decide) (by decide) _ rfl _ (by first | rfl | simp)) (by omega) (hT.alloc _)).mono ?_
  rw [N1.out]
  unfold GotName
  rintro e w9 ⟨rfl, hb9⟩
  have hx := (hx.alloc _).below hb9
  have hy := (hy.alloc _).below hb9
  have hA := thenB (thenA hA _) hb9
  have hT := (hT.alloc _).below hb9
  have k0 : (w9.alloc (.cells #[.int .i64 4, .int .i64 2] 27)).cell? ⟨w9.heap.size, 0, none⟩ = some (.int .i64 4) := by go_simp
  have k1 : (w9.alloc (.cells #[.int .i64 4, .int .i64 2] 27)).cell? ⟨w9.heap.size, 1, none⟩ = some (.int .i64 2) := by go_simp
  clear hb9
  go_wp2_with fail
  refine (Get_any _ 2 2 0 [1, 255] _ rfl (bytes_made _ _ (by decide) (by decide) _ rfl _ (by first | rfl | simp)) (by omega) ((hT.alloc _).alloc _)).mono ?_
  rw [N2.out]
  unfold GotName
  rintro e w10 ⟨rfl, hb10⟩
  have hx := ((hx.alloc _).alloc _).below hb10
  have hy := ((hy.alloc _).alloc _).below hb10
  have hA := thenB (thenA (thenA hA _) _) hb10
  have hT := ((hT.alloc _).alloc _).below hb10
  have k0 := keep hb10 (keepA k0 _)
  have k1 := keep hb10 (keepA k1 _)
  have k2 : (w10.alloc (.cells #[.int .i64 4, .int .i64 1] 27)).cell? ⟨w10.heap.size, 0, none⟩ = some (.int .i64 4) := by go_simp
  have k3 : (w10.alloc (.cells #[.int .i64 4, .int .i64 1] 27)).cell? ⟨w10.heap.size, 1, none⟩ = some (.int .i64 1) := by go_simp
  have k0 := keepA k0 (.cells #[.int .i64 4, .int .i64 1] 27)
  have k1 := keepA k1 (.cells #[.int .i64 4, .int .i64 1] 27)
  have hx := hx.alloc (.cells #[.int .i64 4, .int .i64 1] 27)
  have hy := hy.alloc (.cells #[.int .i64 4, .int .i64 1] 27)
  have hA := thenA hA (.cells #[.int .i64 4, .int .i64 1] 27)
  have hT := hT.alloc (.cells #[.int .i64 4, .int .i64 1] 27)
  clear hb10
  go_wp2_with fail
  refine (SameBytes_yes a5 _ 3 c5 3 3 [226, 130, 172] _ rfl rfl (hx.alloc _) (bytes_made _ _ (by decide) (by decide) _ rfl _ (by first | rfl | simp))).mono ?_
  rintro e w11 ⟨rfl, rfl⟩
  have hy := hy.alloc (.cells #[.int .u8 226, .int .u8 130, .int .u8 172] 5)
  have k0 := keepA k0 (.cells #[.int .u8 226, .int .u8 130, .int .u8 172] 5)
  have k1 := keepA k1 (.cells #[.int .u8 226, .int .u8 130, .int .u8 172] 5)
  have k2 := keepA k2 (.cells #[.int .u8 226, .int .u8 130, .int .u8 172] 5)
  have k3 := keepA k3 (.cells #[.int .u8 226, .int .u8 130, .int .u8 172] 5)
  have hA := thenA hA (.cells #[.int .u8 226, .int .u8 130, .int .u8 172] 5)
  have hT := hT.alloc (.cells #[.int .u8 226, .int .u8 130, .int .u8 172] 5)
  clear hx
  go_wp2_with fail
  refine (SameBytes_yes a8 _ 3 c8 3 3 [2, 97, 98] _ rfl rfl (hy.alloc _) (bytes_made _ _ (by decide) (by decide) _ rfl _ (by first | rfl | simp))).mono ?_
  rintro e w12 ⟨rfl, rfl⟩
  have k0 := keepA k0 (.cells #[.int .u8 2, .int .u8 97, .int .u8 98] 5)
  have k1 := keepA k1 (.cells #[.int .u8 2, .int .u8 97, .int .u8 98] 5)
  have k2 := keepA k2 (.cells #[.int .u8 2, .int .u8 97, .int .u8 98] 5)
  have k3 := keepA k3 (.cells #[.int .u8 2, .int .u8 97, .int .u8 98] 5)
  have hA := thenA hA (.cells #[.int .u8 2, .int .u8 97, .int .u8 98] 5)
  have hT := hT.alloc (.cells #[.int .u8 2, .int .u8 97, .int .u8 98] 5)
  clear hy
  go_wp2_with fail
  refine (Utf.awake_any _ hT).mono ?_
  rintro e w13 ⟨rfl, hb13⟩
  have k0 := keep hb13 k0
  have k1 := keep hb13 k1
  have k2 := keep hb13 k2
  have k3 := keep hb13 k3
  have hA := thenB hA hb13
  clear hb13 hT
  go_wp2
  go_ret
  exact ⟨rfl, hA⟩
end Go.Proofs.YtgmcknblfgealaaDoor
