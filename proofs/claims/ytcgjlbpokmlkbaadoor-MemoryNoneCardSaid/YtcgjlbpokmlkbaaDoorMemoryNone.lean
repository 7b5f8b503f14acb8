/-
  MEMORY: the walks of MemoryNone.
-/
import Derived.Test.YtcgjlbpokmlkbaaDoorMemAwake
namespace Go.Proofs.YtcgjlbpokmlkbaaDoor
open Go.RowKit Go.Proofs.YtcgjlbpokmlkbaaDoor.Instr Go.Proofs.YtcgjlbpokmlkbaaDoor.Num Go.Proofs.YtcgjlbpokmlkbaaDoor.Mem
set_option linter.unusedVariables false

theorem none_box (W : World) : ∃ W1, ((W.alloc (.cells #[.pointer none, .int .u32 0, .int .u32 0, .map none] 47)).alloc (.cells #[.pointer none, .pointer (some ⟨W.heap.size, 0, none⟩)] 28)) = W1 ∧ Below W.heap.size W W1 ∧ W1.cell? ⟨W.heap.size + 1, 0, none⟩ = some (.pointer none) ∧ W1.cell? ⟨W.heap.size + 1, 1, none⟩ = some (.pointer (some ⟨W.heap.size, 0, none⟩)) ∧ W1.cell? ⟨W.heap.size, 0, none⟩ = some (.pointer none) := by
  refine ⟨_, rfl, thenA (thenA (Below.refl _ _) _) _, ?_, ?_, ?_⟩ <;> go_simp
set_option maxRecDepth 100000 in
set_option maxHeartbeats 2000000 in
theorem memoryNone_walk (W : World) (op : Int) (_hop : -9223372036854775808 ≤ op ∧ op ≤ 9223372036854775807) (x : Int) (_hx : 0 ≤ x ∧ x ≤ 4294967295) (hT : Arit W) :
    Calls Tryd.prog 4 #[.int .i64 op, .int .u32 x] W fun e w' => e = .returned (.bool true) ∧ Below W.heap.size W w' := by
  have HT := hid hT
  clear hT _hop _hx
  obtain ⟨W1, hW1, hb1, c0, c1, cu⟩ := none_box W
  go_enter Tryd.func4, Tryd.ntmps4
  go_wp2
  try rw [hW1]
  have HB := hid hb1
  have CU := hid cu
  clear hW1 hb1 cu
  go_loopw [6] (fun vi wr => ∃ k : Nat, vi = .int .i64 k ∧ k ≤ 2 ∧ wr = W1) (fun vi _ => 2 - (intOf vi).toNat)
  case atStart => exact ⟨0, rfl, by omega, rfl⟩
  case round =>
    obtain ⟨k, rfl, hk, rfl⟩ := hrel
    have hk3 : k = 0 ∨ k = 1 ∨ k = 2 := by omega
    rcases hk3 with rfl | rfl | rfl
    · have u : Unmade wr (.pointer none) := .inl rfl
      have U := hid u
      clear u hk
      go_wp2_with fail
      refine (Load_no (.pointer none) op x 0 _ U.out).mono ?_
      rintro e w1 ⟨rfl, rfl⟩
      go_wp2_with fail
      refine (Grow_no (.pointer none) 1 _ U.out).mono ?_
      rintro e w1 ⟨rfl, rfl⟩
      go_wp2_with fail
      refine (Read_no (.pointer none) x 1 _ U.out).mono ?_
      rintro e w1 ⟨rfl, rfl⟩
      go_wp2_with fail
      refine (Store_no (.pointer none) op x 0 1 _ U.out).mono ?_
      rintro e w1 ⟨rfl, rfl⟩
      go_wp2_with fail
      refine (Write_no (.pointer none) x none 0 0 _ U.out).mono ?_
      rintro e w1 ⟨rfl, rfl⟩
      go_wp2_with fail
      refine (Pages_no (.pointer none) _ U.out).mono ?_
      rintro e w1 ⟨rfl, rfl⟩
      go_wp2
      go_roundw
      case rel => refine ⟨1, rfl, by omega, ?_⟩; first | rfl | trivial
      case measure => simp [intOf]
    · have u : Unmade wr (.pointer (some ⟨W.heap.size, 0, none⟩)) := .inr ⟨_, rfl, CU.out⟩
      have U := hid u
      clear u hk
      go_wp2_with fail
      refine (Load_no (.pointer (some ⟨W.heap.size, 0, none⟩)) op x 0 _ U.out).mono ?_
      rintro e w1 ⟨rfl, rfl⟩
      go_wp2_with fail
      refine (Grow_no (.pointer (some ⟨W.heap.size, 0, none⟩)) 1 _ U.out).mono ?_
      rintro e w1 ⟨rfl, rfl⟩
      go_wp2_with fail
      refine (Read_no (.pointer (some ⟨W.heap.size, 0, none⟩)) x 1 _ U.out).mono ?_
      rintro e w1 ⟨rfl, rfl⟩
      go_wp2_with fail
      refine (Store_no (.pointer (some ⟨W.heap.size, 0, none⟩)) op x 0 1 _ U.out).mono ?_
      rintro e w1 ⟨rfl, rfl⟩
      go_wp2_with fail
      refine (Write_no (.pointer (some ⟨W.heap.size, 0, none⟩)) x none 0 0 _ U.out).mono ?_
      rintro e w1 ⟨rfl, rfl⟩
      go_wp2_with fail
      refine (Pages_no (.pointer (some ⟨W.heap.size, 0, none⟩)) _ U.out).mono ?_
      rintro e w1 ⟨rfl, rfl⟩
      go_wp2
      go_roundw
      case rel => refine ⟨2, rfl, by omega, ?_⟩; first | rfl | trivial
      case measure => simp [intOf]
    · clear hk
      go_wp2_with fail
      refine (awake_any wr (HT.out.below HB.out)).mono ?_
      rintro e w2 ⟨rfl, hb2⟩
      have HB2 := hid (thenB HB.out hb2)
      clear hb2
      go_wp2
      go_ret
      exact ⟨rfl, HB2.out⟩
end Go.Proofs.YtcgjlbpokmlkbaaDoor
