/-
  LEB: the walk of the closed statement LebKnown, call by call.
-/
import Derived.Test.YtbbpnlldlmjbpaaLebCalls
import Derived.Test.YtbbpnlldlmjbpaaKitBytes
namespace Go.Proofs.Ytbbpnlldlmjbpaa
open Go.RowKit Leb

set_option maxHeartbeats 6400000 in
set_option maxRecDepth 100000 in
theorem lebKnown_walk (w0 : World) : Calls Try.prog 6 #[] w0 fun e w' => e = .returned (.bool true) ∧ Below w0.heap.size w0 w' := by
  have hA := Below.refl w0.heap.size w0
  go_enter Try.func6, Try.ntmps6
  go_wp2_with fail
  refine (putU_any (0) _ (by decide) (by decide)).mono ?_
  rintro e w1 ⟨v, rfl, ho, hb⟩
  obtain ⟨a1, c1, rfl⟩ := ho.slice
  rw [show (encU (0)).length = 1 from by decide]
  have hy : Bytes w1 a1 [0] := by have := ho.bytes (by decide) (by decide); rwa [show encU (0) = [0] from by decide] at this
  have hA := thenB (by first | exact hA | exact thenA (hA) _ | exact thenA (thenA (hA) _) _ | exact thenA (thenA (thenA (hA) _) _) _) hb
  clear hb ho
  go_wp2_with fail
  refine (SameBytes_any _ _ 1 _ 1 _ [0] [0] _ rfl rfl (hy.alloc _) (⟨by decide, by decide, .inr ⟨w1.heap.size, 0, rfl, fun i hi => by
    match i, hi with
    | 0, _ => go_simp
    ⟩⟩)).mono ?_
  rw [show decide (([0] : List Int) = [0]) = true from by decide]
  rintro e w' ⟨rfl, rfl⟩
  clear hy
  have hA := thenA hA (.cells #[.int .u8 0] 5)
  generalize hW : w1.alloc (.cells #[.int .u8 0] 5) = w2 at *
  clear hW
  go_wp2_with fail
  refine (putU_any (127) _ (by decide) (by decide)).mono ?_
  rintro e w3 ⟨v, rfl, ho, hb⟩
  obtain ⟨a3, c3, rfl⟩ := ho.slice
  rw [show (encU (127)).length = 1 from by decide]
  have hy : Bytes w3 a3 [127] := by have := ho.bytes (by decide) (by decide); rwa [show encU (127) = [127] from by decide] at this
  have hA := thenB (by first | exact hA | exact thenA (hA) _ | exact thenA (thenA (hA) _) _ | exact thenA (thenA (thenA (hA) _) _) _) hb
  clear hb ho
  go_wp2_with fail
  refine (SameBytes_any _ _ 1 _ 1 _ [127] [127] _ rfl rfl (hy.alloc _) (⟨by decide, by decide, .inr ⟨w3.heap.size, 0, rfl, fun i hi => by
    match i, hi with
    | 0, _ => go_simp
    ⟩⟩)).mono ?_
  rw [show decide (([127] : List Int) = [127]) = true from by decide]
  rintro e w' ⟨rfl, rfl⟩
  clear hy
  have hA := thenA hA (.cells #[.int .u8 127] 5)
  generalize hW : w3.alloc (.cells #[.int .u8 127] 5) = w4 at *
  clear hW
  go_wp2_with fail
  refine (putU_any (128) _ (by decide) (by decide)).mono ?_
  rintro e w5 ⟨v, rfl, ho, hb⟩
  obtain ⟨a5, c5, rfl⟩ := ho.slice
  rw [show (encU (128)).length = 2 from by decide]
  have hy : Bytes w5 a5 [128, 1] := by have := ho.bytes (by decide) (by decide); rwa [show encU (128) = [128, 1] from by decide] at this
  have hA := thenB (by first | exact hA | exact thenA (hA) _ | exact thenA (thenA (hA) _) _ | exact thenA (thenA (thenA (hA) _) _) _) hb
  clear hb ho
  go_wp2_with fail
  refine (SameBytes_any _ _ 2 _ 2 _ [128, 1] [128, 1] _ rfl rfl (hy.alloc _) (⟨by decide, by decide, .inr ⟨w5.heap.size, 0, rfl, fun i hi => by
    match i, hi with
    | 0, _ => go_simp
    | 1, _ => go_simp
    ⟩⟩)).mono ?_
  rw [show decide (([128, 1] : List Int) = [128, 1]) = true from by decide]
  rintro e w' ⟨rfl, rfl⟩
  clear hy
  have hA := thenA hA (.cells #[.int .u8 128, .int .u8 1] 5)
  generalize hW : w5.alloc (.cells #[.int .u8 128, .int .u8 1] 5) = w6 at *
  clear hW
  go_wp2_with fail
  refine (putU_any (4294967295) _ (by decide) (by decide)).mono ?_
  rintro e w7 ⟨v, rfl, ho, hb⟩
  obtain ⟨a7, c7, rfl⟩ := ho.slice
  rw [show (encU (4294967295)).length = 5 from by decide]
  have hy : Bytes w7 a7 [255, 255, 255, 255, 15] := by have := ho.bytes (by decide) (by decide); rwa [show encU (4294967295) = [255, 255, 255, 255, 15] from by decide] at this
  have hA := thenB (by first | exact hA | exact thenA (hA) _ | exact thenA (thenA (hA) _) _ | exact thenA (thenA (thenA (hA) _) _) _) hb
  clear hb ho
  go_wp2_with fail
  refine (SameBytes_any _ _ 5 _ 5 _ [255, 255, 255, 255, 15] [255, 255, 255, 255, 15] _ rfl rfl (hy.alloc _) (⟨by decide, by decide, .inr ⟨w7.heap.size, 0, rfl, fun i hi => by
    match i, hi with
    | 0, _ => go_simp
    | 1, _ => go_simp
    | 2, _ => go_simp
    | 3, _ => go_simp
    | 4, _ => go_simp
    ⟩⟩)).mono ?_
  rw [show decide (([255, 255, 255, 255, 15] : List Int) = [255, 255, 255, 255, 15]) = true from by decide]
  rintro e w' ⟨rfl, rfl⟩
  clear hy
  have hA := thenA hA (.cells #[.int .u8 255, .int .u8 255, .int .u8 255, .int .u8 255, .int .u8 15] 5)
  generalize hW : w7.alloc (.cells #[.int .u8 255, .int .u8 255, .int .u8 255, .int .u8 255, .int .u8 15] 5) = w8 at *
  clear hW
  go_wp2_with fail
  refine (putS_any (-1) _ (by decide) (by decide)).mono ?_
  rintro e w9 ⟨v, rfl, ho, hb⟩
  obtain ⟨a9, c9, rfl⟩ := ho.slice
  rw [show (encS (-1)).length = 1 from by decide]
  have hy : Bytes w9 a9 [127] := by have := ho.bytes (by decide) (by decide); rwa [show encS (-1) = [127] from by decide] at this
  have hA := thenB (by first | exact hA | exact thenA (hA) _ | exact thenA (thenA (hA) _) _ | exact thenA (thenA (thenA (hA) _) _) _) hb
  clear hb ho
  go_wp2_with fail
  refine (SameBytes_any _ _ 1 _ 1 _ [127] [127] _ rfl rfl (hy.alloc _) (⟨by decide, by decide, .inr ⟨w9.heap.size, 0, rfl, fun i hi => by
    match i, hi with
    | 0, _ => go_simp
    ⟩⟩)).mono ?_
  rw [show decide (([127] : List Int) = [127]) = true from by decide]
  rintro e w' ⟨rfl, rfl⟩
  clear hy
  have hA := thenA hA (.cells #[.int .u8 127] 5)
  generalize hW : w9.alloc (.cells #[.int .u8 127] 5) = w10 at *
  clear hW
  go_wp2_with fail
  refine (putS_any (64) _ (by decide) (by decide)).mono ?_
  rintro e w11 ⟨v, rfl, ho, hb⟩
  obtain ⟨a11, c11, rfl⟩ := ho.slice
  rw [show (encS (64)).length = 2 from by decide]
  have hy : Bytes w11 a11 [192, 0] := by have := ho.bytes (by decide) (by decide); rwa [show encS (64) = [192, 0] from by decide] at this
  have hA := thenB (by first | exact hA | exact thenA (hA) _ | exact thenA (thenA (hA) _) _ | exact thenA (thenA (thenA (hA) _) _) _) hb
  clear hb ho
  go_wp2_with fail
  refine (SameBytes_any _ _ 2 _ 2 _ [192, 0] [192, 0] _ rfl rfl (hy.alloc _) (⟨by decide, by decide, .inr ⟨w11.heap.size, 0, rfl, fun i hi => by
    match i, hi with
    | 0, _ => go_simp
    | 1, _ => go_simp
    ⟩⟩)).mono ?_
  rw [show decide (([192, 0] : List Int) = [192, 0]) = true from by decide]
  rintro e w' ⟨rfl, rfl⟩
  clear hy
  have hA := thenA hA (.cells #[.int .u8 192, .int .u8 0] 5)
  generalize hW : w11.alloc (.cells #[.int .u8 192, .int .u8 0] 5) = w12 at *
  clear hW
  go_wp2_with fail
  refine (putS_any (-64) _ (by decide) (by decide)).mono ?_
  rintro e w13 ⟨v, rfl, ho, hb⟩
  obtain ⟨a13, c13, rfl⟩ := ho.slice
  rw [show (encS (-64)).length = 1 from by decide]
  have hy : Bytes w13 a13 [64] := by have := ho.bytes (by decide) (by decide); rwa [show encS (-64) = [64] from by decide] at this
  have hA := thenB (by first | exact hA | exact thenA (hA) _ | exact thenA (thenA (hA) _) _ | exact thenA (thenA (thenA (hA) _) _) _) hb
  clear hb ho
  go_wp2_with fail
  refine (SameBytes_any _ _ 1 _ 1 _ [64] [64] _ rfl rfl (hy.alloc _) (⟨by decide, by decide, .inr ⟨w13.heap.size, 0, rfl, fun i hi => by
    match i, hi with
    | 0, _ => go_simp
    ⟩⟩)).mono ?_
  rw [show decide (([64] : List Int) = [64]) = true from by decide]
  rintro e w' ⟨rfl, rfl⟩
  clear hy
  have hA := thenA hA (.cells #[.int .u8 64] 5)
  generalize hW : w13.alloc (.cells #[.int .u8 64] 5) = w14 at *
  clear hW
  go_wp2_with fail
  refine (GetU_any _ 2 _ 0 [128, 0] _ rfl (⟨by decide, by decide, .inr ⟨w14.heap.size, 0, rfl, fun i hi => by
    match i, hi with
    | 0, _ => go_simp
    | 1, _ => go_simp
    ⟩⟩)).mono ?_
  rw [show getL false [128, 0] 0 = (0, 2, 0, 0) from by decide]
  rintro e w15 ⟨rfl, hb⟩
  have hA := thenB (by first | exact hA | exact thenA (hA) _ | exact thenA (thenA (hA) _) _ | exact thenA (thenA (thenA (hA) _) _) _) hb
  clear hb
  go_wp2_with fail
  refine (GetU_any _ 1 _ 0 [128] _ rfl (⟨by decide, by decide, .inr ⟨w15.heap.size + 1, 0, rfl, fun i hi => by
    match i, hi with
    | 0, _ => go_simp
    ⟩⟩)).mono ?_
  rw [show getL false [128] 0 = (0, 0, 4, 1) from by decide]
  rintro e w16 ⟨rfl, hb⟩
  have hA := thenB (by first | exact hA | exact thenA (hA) _ | exact thenA (thenA (hA) _) _ | exact thenA (thenA (thenA (hA) _) _) _) hb
  have f0 : w16.cell? ⟨w15.heap.size, 0, none⟩ = some (.int .i64 0) := keep hb (by go_simp)
  have f1 : w16.cell? ⟨w15.heap.size, 1, none⟩ = some (.int .i64 0) := keep hb (by go_simp)
  clear hb
  go_wp2_with fail
  refine (GetU_any _ 5 _ 0 [255, 255, 255, 255, 16] _ rfl (⟨by decide, by decide, .inr ⟨w16.heap.size + 1, 0, rfl, fun i hi => by
    match i, hi with
    | 0, _ => go_simp
    | 1, _ => go_simp
    | 2, _ => go_simp
    | 3, _ => go_simp
    | 4, _ => go_simp
    ⟩⟩)).mono ?_
  rw [show getL false [255, 255, 255, 255, 16] 0 = (0, 0, 4, 4) from by decide]
  rintro e w17 ⟨rfl, hb⟩
  have f0 := keep hb (by first | exact f0 | exact keepA (f0) _ | exact keepA (keepA (f0) _) _ | exact keepA (keepA (keepA (f0) _) _) _)
  have f1 := keep hb (by first | exact f1 | exact keepA (f1) _ | exact keepA (keepA (f1) _) _ | exact keepA (keepA (keepA (f1) _) _) _)
  have hA := thenB (by first | exact hA | exact thenA (hA) _ | exact thenA (thenA (hA) _) _ | exact thenA (thenA (thenA (hA) _) _) _) hb
  have g0 : w17.cell? ⟨w16.heap.size, 0, none⟩ = some (.int .i64 4) := keep hb (by go_simp)
  have g1 : w17.cell? ⟨w16.heap.size, 1, none⟩ = some (.int .i64 1) := keep hb (by go_simp)
  clear hb
  go_wp2_with fail
  refine (GetU_any _ 0 _ 1 [] _ rfl ⟨by decide, by decide, .inl rfl⟩).mono ?_
  rw [show getL false [] 1 = (0, 0, 5, 0) from by decide]
  rintro e w18 ⟨rfl, hb⟩
  have f0 := keep hb (by first | exact f0 | exact keepA (f0) _ | exact keepA (keepA (f0) _) _ | exact keepA (keepA (keepA (f0) _) _) _)
  have f1 := keep hb (by first | exact f1 | exact keepA (f1) _ | exact keepA (keepA (f1) _) _ | exact keepA (keepA (keepA (f1) _) _) _)
  have g0 := keep hb (by first | exact g0 | exact keepA (g0) _ | exact keepA (keepA (g0) _) _ | exact keepA (keepA (keepA (g0) _) _) _)
  have g1 := keep hb (by first | exact g1 | exact keepA (g1) _ | exact keepA (keepA (g1) _) _ | exact keepA (keepA (keepA (g1) _) _) _)
  have hA := thenB (by first | exact hA | exact thenA (hA) _ | exact thenA (thenA (hA) _) _ | exact thenA (thenA (thenA (hA) _) _) _) hb
  have h0 : w18.cell? ⟨w17.heap.size, 0, none⟩ = some (.int .i64 4) := keep hb (by go_simp)
  have h1 : w18.cell? ⟨w17.heap.size, 1, none⟩ = some (.int .i64 4) := keep hb (by go_simp)
  clear hb
  go_wp2_with fail
  refine (GetS_any _ 5 _ 0 [255, 255, 255, 255, 127] _ rfl (⟨by decide, by decide, .inr ⟨w18.heap.size + 1, 0, rfl, fun i hi => by
    match i, hi with
    | 0, _ => go_simp
    | 1, _ => go_simp
    | 2, _ => go_simp
    | 3, _ => go_simp
    | 4, _ => go_simp
    ⟩⟩)).mono ?_
  rw [show getL true [255, 255, 255, 255, 127] 0 = (-1, 5, 0, 0) from by decide]
  rintro e w19 ⟨rfl, hb⟩
  have f0 := keep hb (by first | exact f0 | exact keepA (f0) _ | exact keepA (keepA (f0) _) _ | exact keepA (keepA (keepA (f0) _) _) _)
  have f1 := keep hb (by first | exact f1 | exact keepA (f1) _ | exact keepA (keepA (f1) _) _ | exact keepA (keepA (keepA (f1) _) _) _)
  have g0 := keep hb (by first | exact g0 | exact keepA (g0) _ | exact keepA (keepA (g0) _) _ | exact keepA (keepA (keepA (g0) _) _) _)
  have g1 := keep hb (by first | exact g1 | exact keepA (g1) _ | exact keepA (keepA (g1) _) _ | exact keepA (keepA (keepA (g1) _) _) _)
  have h0 := keep hb (by first | exact h0 | exact keepA (h0) _ | exact keepA (keepA (h0) _) _ | exact keepA (keepA (keepA (h0) _) _) _)
  have h1 := keep hb (by first | exact h1 | exact keepA (h1) _ | exact keepA (keepA (h1) _) _ | exact keepA (keepA (keepA (h1) _) _) _)
  have hA := thenB (by first | exact hA | exact thenA (hA) _ | exact thenA (thenA (hA) _) _ | exact thenA (thenA (thenA (hA) _) _) _) hb
  have i0 : w19.cell? ⟨w18.heap.size, 0, none⟩ = some (.int .i64 5) := keep hb (by go_simp)
  have i1 : w19.cell? ⟨w18.heap.size, 1, none⟩ = some (.int .i64 0) := keep hb (by go_simp)
  clear hb
  go_wp2_with fail
  refine (GetS_any _ 5 _ 0 [255, 255, 255, 255, 15] _ rfl (⟨by decide, by decide, .inr ⟨w19.heap.size + 1, 0, rfl, fun i hi => by
    match i, hi with
    | 0, _ => go_simp
    | 1, _ => go_simp
    | 2, _ => go_simp
    | 3, _ => go_simp
    | 4, _ => go_simp
    ⟩⟩)).mono ?_
  rw [show getL true [255, 255, 255, 255, 15] 0 = (0, 0, 4, 4) from by decide]
  rintro e w20 ⟨rfl, hb⟩
  have f0 := keep hb (by first | exact f0 | exact keepA (f0) _ | exact keepA (keepA (f0) _) _ | exact keepA (keepA (keepA (f0) _) _) _)
  have f1 := keep hb (by first | exact f1 | exact keepA (f1) _ | exact keepA (keepA (f1) _) _ | exact keepA (keepA (keepA (f1) _) _) _)
  have g0 := keep hb (by first | exact g0 | exact keepA (g0) _ | exact keepA (keepA (g0) _) _ | exact keepA (keepA (keepA (g0) _) _) _)
  have g1 := keep hb (by first | exact g1 | exact keepA (g1) _ | exact keepA (keepA (g1) _) _ | exact keepA (keepA (keepA (g1) _) _) _)
  have h0 := keep hb (by first | exact h0 | exact keepA (h0) _ | exact keepA (keepA (h0) _) _ | exact keepA (keepA (keepA (h0) _) _) _)
  have h1 := keep hb (by first | exact h1 | exact keepA (h1) _ | exact keepA (keepA (h1) _) _ | exact keepA (keepA (keepA (h1) _) _) _)
  have i0 := keep hb (by first | exact i0 | exact keepA (i0) _ | exact keepA (keepA (i0) _) _ | exact keepA (keepA (keepA (i0) _) _) _)
  have i1 := keep hb (by first | exact i1 | exact keepA (i1) _ | exact keepA (keepA (i1) _) _ | exact keepA (keepA (keepA (i1) _) _) _)
  have hA := thenB (by first | exact hA | exact thenA (hA) _ | exact thenA (thenA (hA) _) _ | exact thenA (thenA (thenA (hA) _) _) _) hb
  have j0 : w20.cell? ⟨w19.heap.size, 0, none⟩ = some (.int .i64 0) := keep hb (by go_simp)
  have j1 : w20.cell? ⟨w19.heap.size, 1, none⟩ = some (.int .i64 0) := keep hb (by go_simp)
  clear hb
  have f0 := keepA f0 (.cells #[.int .i64 4, .int .i64 4] 33)
  have f1 := keepA f1 (.cells #[.int .i64 4, .int .i64 4] 33)
  have g0 := keepA g0 (.cells #[.int .i64 4, .int .i64 4] 33)
  have g1 := keepA g1 (.cells #[.int .i64 4, .int .i64 4] 33)
  have h0 := keepA h0 (.cells #[.int .i64 4, .int .i64 4] 33)
  have h1 := keepA h1 (.cells #[.int .i64 4, .int .i64 4] 33)
  have i0 := keepA i0 (.cells #[.int .i64 4, .int .i64 4] 33)
  have i1 := keepA i1 (.cells #[.int .i64 4, .int .i64 4] 33)
  have j0 := keepA j0 (.cells #[.int .i64 4, .int .i64 4] 33)
  have j1 := keepA j1 (.cells #[.int .i64 4, .int .i64 4] 33)
  have k0 : (w20.alloc (.cells #[.int .i64 4, .int .i64 4] 33)).cell? ⟨w20.heap.size, 0, none⟩ = some (.int .i64 4) := by go_simp
  have k1 : (w20.alloc (.cells #[.int .i64 4, .int .i64 4] 33)).cell? ⟨w20.heap.size, 1, none⟩ = some (.int .i64 4) := by go_simp
  have hA := thenA hA (.cells #[.int .i64 4, .int .i64 4] 33)
  go_wp2_with fail
  refine (awake_any _).mono ?_
  rintro e w21 ⟨rfl, hb⟩
  have f0 := keep hb (by first | exact f0 | exact keepA (f0) _ | exact keepA (keepA (f0) _) _ | exact keepA (keepA (keepA (f0) _) _) _)
  have f1 := keep hb (by first | exact f1 | exact keepA (f1) _ | exact keepA (keepA (f1) _) _ | exact keepA (keepA (keepA (f1) _) _) _)
  have g0 := keep hb (by first | exact g0 | exact keepA (g0) _ | exact keepA (keepA (g0) _) _ | exact keepA (keepA (keepA (g0) _) _) _)
  have g1 := keep hb (by first | exact g1 | exact keepA (g1) _ | exact keepA (keepA (g1) _) _ | exact keepA (keepA (keepA (g1) _) _) _)
  have h0 := keep hb (by first | exact h0 | exact keepA (h0) _ | exact keepA (keepA (h0) _) _ | exact keepA (keepA (keepA (h0) _) _) _)
  have h1 := keep hb (by first | exact h1 | exact keepA (h1) _ | exact keepA (keepA (h1) _) _ | exact keepA (keepA (keepA (h1) _) _) _)
  have i0 := keep hb (by first | exact i0 | exact keepA (i0) _ | exact keepA (keepA (i0) _) _ | exact keepA (keepA (keepA (i0) _) _) _)
  have i1 := keep hb (by first | exact i1 | exact keepA (i1) _ | exact keepA (keepA (i1) _) _ | exact keepA (keepA (keepA (i1) _) _) _)
  have j0 := keep hb (by first | exact j0 | exact keepA (j0) _ | exact keepA (keepA (j0) _) _ | exact keepA (keepA (keepA (j0) _) _) _)
  have j1 := keep hb (by first | exact j1 | exact keepA (j1) _ | exact keepA (keepA (j1) _) _ | exact keepA (keepA (keepA (j1) _) _) _)
  have k0 := keep hb (by first | exact k0 | exact keepA (k0) _ | exact keepA (keepA (k0) _) _ | exact keepA (keepA (keepA (k0) _) _) _)
  have k1 := keep hb (by first | exact k1 | exact keepA (k1) _ | exact keepA (keepA (k1) _) _ | exact keepA (keepA (keepA (k1) _) _) _)
  have hA := thenB (by first | exact hA | exact thenA (hA) _ | exact thenA (thenA (hA) _) _ | exact thenA (thenA (thenA (hA) _) _) _) hb
  go_wp2
  go_ret
  exact ⟨rfl, hA⟩
end Go.Proofs.Ytbbpnlldlmjbpaa
