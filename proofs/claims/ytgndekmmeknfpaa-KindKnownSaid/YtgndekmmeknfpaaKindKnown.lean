/-
  The walk of the closed statement KindKnown: the chapter's examples. (Written by wip/tools/gen_kindknown.py.)
-/
import Derived.Test.YtgndekmmeknfpaaKindKnownC
namespace Go.Proofs.Ytgndekmmeknfpaa
set_option linter.unusedVariables false
open Go.RowKit Leb Kind

set_option maxRecDepth 100000 in
set_option maxHeartbeats 3200000 in
theorem kindKnown_walk (w : World) : Calls Try.prog 5 #[] w fun e w' => e = .returned (.bool true) ∧ Below w.heap.size w w' := by
  have q1 := eqFault
  have q2 := guardFault
  go_enter Try.func5, Try.ntmps5
  go_wp2_with fail
  refine (known0 _ _ ?_).mono ?_
  · simp
  rintro e w1 ⟨rfl, hb⟩
  simp only
  have hc : Below w.heap.size w w1 := (thenA (Below.refl _ _) (.cells #[.int .u8 96, .int .u8 0, .int .u8 2] 5)).trans (hb.mono (by simp <;> omega))
  have hA := hc
  clear hb hc
  go_wp2_with fail
  refine (known1 _ _ ?_).mono ?_
  · simp
  rintro e w2 ⟨rfl, hb⟩
  simp only
  have hc : Below w1.heap.size w1 w2 := (thenA (thenA (thenA (Below.refl _ _) (.cells #[.int .i64 0, .int .i64 0] 23)) (.cells #[.int .i64 141, .int .i64 2] 38)) (.cells #[.int .u8 96, .int .u8 1, .int .u8 126] 5)).trans (hb.mono (by simp <;> omega))
  have hf0 : Hid (Two w2 (w1.heap.size + 1) (.int .i64 141) (.int .i64 2)) := by
    obtain ⟨hcc, _⟩ := old hb
    exact ⟨(hcc _ _ (by simp <;> omega)).trans (by go_simp), (hcc _ _ (by simp <;> omega)).trans (by go_simp)⟩
  have hA := thenB hA hc
  clear hb hc
  go_wp2_with fail
  refine (known2 _ _ ?_).mono ?_
  · simp
  rintro e w3 ⟨rfl, hb⟩
  simp only
  have hc : Below w2.heap.size w2 w3 := (thenA (thenA (thenA (Below.refl _ _) (.cells #[.int .i64 0, .int .i64 0] 23)) (.cells #[.int .i64 140, .int .i64 2] 38)) (.cells #[.int .u8 95] 5)).trans (hb.mono (by simp <;> omega))
  have hf1 : Hid (Two w3 (w2.heap.size + 1) (.int .i64 140) (.int .i64 2)) := by
    obtain ⟨hcc, _⟩ := old hb
    exact ⟨(hcc _ _ (by simp <;> omega)).trans (by go_simp), (hcc _ _ (by simp <;> omega)).trans (by go_simp)⟩
  have hf0 := hid (hf0.out.below hc)
  have hA := thenB hA hc
  clear hb hc
  go_wp2_with fail
  refine (known3 _ _ ?_).mono ?_
  · simp
  rintro e w4 ⟨rfl, hb⟩
  simp only
  have hc : Below w3.heap.size w3 w4 := (thenA (thenA (thenA (Below.refl _ _) (.cells #[.int .i64 0, .int .i64 0] 23)) (.cells #[.int .i64 140, .int .i64 0] 38)) (.cells #[.int .u8 96, .int .u8 1] 5)).trans (hb.mono (by simp <;> omega))
  have hf2 : Hid (Two w4 (w3.heap.size + 1) (.int .i64 140) (.int .i64 0)) := by
    obtain ⟨hcc, _⟩ := old hb
    exact ⟨(hcc _ _ (by simp <;> omega)).trans (by go_simp), (hcc _ _ (by simp <;> omega)).trans (by go_simp)⟩
  have hf0 := hid (hf0.out.below hc)
  have hf1 := hid (hf1.out.below hc)
  have hA := thenB hA hc
  clear hb hc
  go_wp2_with fail
  refine (known4 _).mono ?_
  rintro e w5 ⟨a4, q4, rfl, hy4, hn4, hb⟩
  simp only
  have hc : Below w4.heap.size w4 w5 := (thenA (thenA (Below.refl _ _) (.cells #[.int .i64 0, .int .i64 0] 23)) (.cells #[.int .i64 4, .int .i64 2] 38)).trans (hb.mono (by simp <;> omega))
  have hf3 : Hid (Two w5 (w4.heap.size + 1) (.int .i64 4) (.int .i64 2)) := by
    obtain ⟨hcc, _⟩ := old hb
    exact ⟨(hcc _ _ (by simp <;> omega)).trans (by go_simp), (hcc _ _ (by simp <;> omega)).trans (by go_simp)⟩
  have hf0 := hid (hf0.out.below hc)
  have hf1 := hid (hf1.out.below hc)
  have hf2 := hid (hf2.out.below hc)
  have hA := thenB hA hc
  clear hb hc
  go_wp2_with fail
  refine (known5 _).mono ?_
  rintro e w6 ⟨a5, q5, rfl, hy5, hn5, hb⟩
  simp only
  have hc : Below w5.heap.size w5 w6 := hb
  have hf0 := hid (hf0.out.below hc)
  have hf1 := hid (hf1.out.below hc)
  have hf2 := hid (hf2.out.below hc)
  have hf3 := hid (hf3.out.below hc)
  have hy4 := hy4.below hc
  have hA := thenB hA hc
  clear hb hc
  go_wp2_with fail
  refine (known6 _ _ ?_).mono ?_
  · simp
  rintro e w7 ⟨rfl, hb⟩
  simp only
  have hc : Below w6.heap.size w6 w7 := (thenA (Below.refl _ _) (.cells #[.int .u8 1, .int .u8 4, .int .u8 3] 5)).trans (hb.mono (by simp <;> omega))
  have hf0 := hid (hf0.out.below hc)
  have hf1 := hid (hf1.out.below hc)
  have hf2 := hid (hf2.out.below hc)
  have hf3 := hid (hf3.out.below hc)
  have hy4 := hy4.below hc
  have hy5 := hy5.below hc
  have hA := thenB hA hc
  clear hb hc
  go_wp2_with fail
  refine (known7 _ _ ?_).mono ?_
  · simp
  rintro e w8 ⟨rfl, hb⟩
  simp only
  have hc : Below w7.heap.size w7 w8 := (thenA (thenA (thenA (Below.refl _ _) (.cells #[.int .u32 0, .int .u32 0, .bool false] 26)) (.cells #[.int .i64 141, .int .i64 2] 38)) (.cells #[.int .u8 0, .int .u8 101] 5)).trans (hb.mono (by simp <;> omega))
  have hf6 : Hid (Two w8 (w7.heap.size + 1) (.int .i64 141) (.int .i64 2)) := by
    obtain ⟨hcc, _⟩ := old hb
    exact ⟨(hcc _ _ (by simp <;> omega)).trans (by go_simp), (hcc _ _ (by simp <;> omega)).trans (by go_simp)⟩
  have hf0 := hid (hf0.out.below hc)
  have hf1 := hid (hf1.out.below hc)
  have hf2 := hid (hf2.out.below hc)
  have hf3 := hid (hf3.out.below hc)
  have hy4 := hy4.below hc
  have hy5 := hy5.below hc
  have hA := thenB hA hc
  clear hb hc
  go_wp2_with fail
  refine (known8 _ _ ?_).mono ?_
  · simp
  rintro e w9 ⟨rfl, hb⟩
  simp only
  have hc : Below w8.heap.size w8 w9 := (thenA (thenA (thenA (Below.refl _ _) (.cells #[.int .u32 0, .int .u32 0, .bool false] 26)) (.cells #[.int .i64 141, .int .i64 1] 38)) (.cells #[.int .u8 2] 5)).trans (hb.mono (by simp <;> omega))
  have hf7 : Hid (Two w9 (w8.heap.size + 1) (.int .i64 141) (.int .i64 1)) := by
    obtain ⟨hcc, _⟩ := old hb
    exact ⟨(hcc _ _ (by simp <;> omega)).trans (by go_simp), (hcc _ _ (by simp <;> omega)).trans (by go_simp)⟩
  have hf0 := hid (hf0.out.below hc)
  have hf1 := hid (hf1.out.below hc)
  have hf2 := hid (hf2.out.below hc)
  have hf3 := hid (hf3.out.below hc)
  have hf6 := hid (hf6.out.below hc)
  have hy4 := hy4.below hc
  have hy5 := hy5.below hc
  have hA := thenB hA hc
  clear hb hc
  have hd : Below w9.heap.size w9 ((w9.alloc (.cells #[.int .u32 0, .int .u32 0, .bool false] 26)).alloc (.cells #[.int .i64 140, .int .i64 0] 38)) := thenA (thenA (Below.refl _ _) _) _
  have he : Below w9.heap.size w9 (((w9.alloc (.cells #[.int .u32 0, .int .u32 0, .bool false] 26)).alloc (.cells #[.int .i64 140, .int .i64 0] 38)).alloc (.cells #[.int .u8 0, .int .u8 4] 5)) := thenA hd _
  obtain ⟨f0, g0⟩ := hf0.out.below hd
  obtain ⟨f1, g1⟩ := hf1.out.below hd
  obtain ⟨f2, g2⟩ := hf2.out.below hd
  obtain ⟨f3, g3⟩ := hf3.out.below hd
  obtain ⟨f6, g6⟩ := hf6.out.below he
  obtain ⟨f7, g7⟩ := hf7.out.below he
  have hy := hy4.below he
  have hs9 : ((w9.alloc (.cells #[.int .u32 0, .int .u32 0, .bool false] 26)).alloc (.cells #[.int .i64 140, .int .i64 0] 38)).heap.size = w9.heap.size + 1 + 1 := by simp
  have hl := lit2 ((w9.alloc (.cells #[.int .u32 0, .int .u32 0, .bool false] 26)).alloc (.cells #[.int .i64 140, .int .i64 0] 38)) 0 4 (by decide)
  rw [hs9] at hl
  clear hs9
  have hA := thenB hA he
  clear hf0 hf1 hf2 hf3 hf6 hf7 hy4 hy5 hd he
  go_wp2_with fail
  refine (SameBytes_yes _ _ _ _ _ _ [0, 4] _ rfl rfl hy hl).mono ?_
  rintro e wa ⟨rfl, rfl⟩
  go_wp2_with fail
  refine (awake_any _).mono ?_
  rintro e wb ⟨rfl, hb⟩
  go_wp2
  go_ret
  exact ⟨rfl, thenB hA hb⟩
end Go.Proofs.Ytgndekmmeknfpaa
