/-
  MEMORY: the walks of MemoryKnown.
-/
import Derived.Test.YtcgjlbpokmlkbaaDoorMemAwake
namespace Go.Proofs.YtcgjlbpokmlkbaaDoor
open Go.RowKit Go.Proofs.YtcgjlbpokmlkbaaDoor.Instr Go.Proofs.YtcgjlbpokmlkbaaDoor.Num Go.Proofs.YtcgjlbpokmlkbaaDoor.Mem
set_option linter.unusedVariables false

def m9 : Mm := ⟨2, 2, putF (fun _ => 0) 8 [254, 255, 255, 255]⟩
theorem m8_more : m8.load 40 65533 = (0, 220) ∧ m8.load 40 8589934590 = (0, 220) ∧ m8.load 47 7 = (65024, 0) ∧ m8.load 40 65532 = (0, 0) := by decide +kernel
theorem m8_grow : m8.grow 1 = (m9, 1) := rfl
theorem m9_grow : m9.grow 1 = (m9, 4294967295) := rfl
theorem m9_more : m9.read 131072 0 = ([], 0) ∧ m9.read 131073 0 = ([], 220) ∧ m9.load 54 0 = (0, 2) ∧ m9.load 40 65533 = (0, 0) := by decide +kernel
theorem gotB_nil {w w' : World} {e : Int} {en : Ending} (h : GotB w [] e en w') : ∃ a, en = .returned (.tuple #[.slice a 0 0, .int .i64 e]) := by
  rcases h with ⟨g, rfl, _⟩ | ⟨rfl, _⟩
  · exact ⟨_, rfl⟩
  · exact ⟨_, rfl⟩
set_option maxRecDepth 100000 in
set_option maxHeartbeats 2000000 in
theorem memoryKnown_walk (W : World) (hT : Arit W) : Calls Tryd.prog 7 #[] W fun e w' => e = .returned (.bool true) ∧ Below W.heap.size W w' := by
  have HT := hid hT
  clear hT
  go_enter Tryd.func7, Tryd.ntmps7
  go_wp2_with fail
  refine (fresh_any W).mono ?_
  rintro e w0 ⟨p, rfl, hm, hb⟩
  have C := hid (Store_any hm hb.size (by decide) 54 8 0 4294967294 8 ⟨by decide, by decide⟩ ⟨by decide, by decide⟩ ⟨by decide, by decide⟩ rfl (HT.out.below hb))
  have HB := hid hb
  rw [m8_store] at C
  clear hm hb
  go_wp2_with fail
  refine C.out.mono ?_
  rintro e w1 ⟨rfl, hW⟩
  have HB1 := hid (HB.out.trans hW.2.2)
  have HM1 := hid hW.1
  clear hW C HB
  have C1 := hid (Load_any HM1.out 40 65533 0 65533 ⟨by decide, by decide⟩ ⟨by decide, by decide⟩ rfl (HT.out.below HB1.out))
  rw [m8_more.1] at C1
  go_wp2_with fail
  refine C1.out.mono ?_
  rintro e w2 ⟨rfl, hb⟩
  have HB2 := hid (thenB HB1.out hb)
  have HM2 := hid (HM1.out.below hb)
  clear hb C1 HB1 HM1
  have C2 := hid (Load_any HM2.out 40 4294967295 4294967295 8589934590 ⟨by decide, by decide⟩ ⟨by decide, by decide⟩ rfl (HT.out.below HB2.out))
  rw [m8_more.2.1] at C2
  go_wp2_with fail
  refine C2.out.mono ?_
  rintro e w3 ⟨rfl, hb⟩
  have HB3 := hid (thenB HB2.out hb)
  have HM3 := hid (HM2.out.below hb)
  clear hb C2 HB2 HM2
  have C3 := hid (loads_any HM3.out 47 7 65024 7 ⟨by decide, by decide⟩ rfl (HT.out.below HB3.out))
  rw [m8_more.2.2.1] at C3
  go_wp2_with fail
  refine C3.out.mono ?_
  rintro e w4 ⟨rfl, hb⟩
  have HB4 := hid (thenB HB3.out hb)
  have HM4 := hid (HM3.out.below hb)
  clear hb C3 HB3 HM3
  have C4 := hid (loads_any HM4.out 40 65532 0 65532 ⟨by decide, by decide⟩ rfl (HT.out.below HB4.out))
  rw [m8_more.2.2.2] at C4
  go_wp2_with fail
  refine C4.out.mono ?_
  rintro e w5 ⟨rfl, hb⟩
  have HB5 := hid (thenB HB4.out hb)
  have HM5 := hid (HM4.out.below hb)
  clear hb C4 HB4 HM4
  have C5 := hid (Grow_any HM5.out HB5.out.size 1 (by decide))
  rw [m8_grow] at C5
  go_wp2_with fail
  refine C5.out.mono ?_
  rintro e w6 ⟨rfl, hW⟩
  have HB6 := hid (HB5.out.trans hW.2.2)
  have HM6 := hid hW.1
  clear hW C5 HB5 HM5
  have C6 := hid (Grow_any HM6.out HB6.out.size 1 (by decide))
  rw [m9_grow] at C6
  go_wp2_with fail
  refine C6.out.mono ?_
  rintro e w7 ⟨rfl, hW⟩
  have HB7 := hid (HB6.out.trans hW.2.2)
  have HM7 := hid hW.1
  clear hW C6 HB6 HM6
  have C7 := hid (Read_any HM7.out 131072 0 (by decide) (by decide))
  rw [m9_more.1] at C7
  go_wp2_with fail
  refine C7.out.mono ?_
  rintro e w8 ⟨h, hb⟩
  obtain ⟨a8, rfl⟩ := gotB_nil h
  have HB8 := hid (thenB HB7.out hb)
  have HM8 := hid (HM7.out.below hb)
  clear h hb C7 HB7 HM7
  have C8 := hid (Read_any HM8.out 131073 0 (by decide) (by decide))
  rw [m9_more.2.1] at C8
  go_wp2_with fail
  refine C8.out.mono ?_
  rintro e w9 ⟨h, hb⟩
  obtain ⟨a9, rfl⟩ := gotB_nil h
  have HB9 := hid (thenB HB8.out hb)
  have HM9 := hid (HM8.out.below hb)
  clear h hb C8 HB8 HM8
  have C9 := hid (Load_any HM9.out 54 0 0 0 ⟨by decide, by decide⟩ ⟨by decide, by decide⟩ rfl (HT.out.below HB9.out))
  rw [m9_more.2.2.1] at C9
  go_wp2_with fail
  refine C9.out.mono ?_
  rintro e w10 ⟨rfl, hb⟩
  have HB10 := hid (thenB HB9.out hb)
  have HM10 := hid (HM9.out.below hb)
  clear hb C9 HB9 HM9
  have C10 := hid (awake_any w10 (HT.out.below HB10.out))
  go_wp2_with fail
  refine C10.out.mono ?_
  rintro e w11 ⟨rfl, hb⟩
  have HB11 := hid (thenB HB10.out hb)
  have HM11 := hid (HM10.out.below hb)
  clear hb C10 HB10 HM10
  have C11 := hid (Pages_any HM11.out)
  go_wp2_with fail
  refine C11.out.mono ?_
  rintro e w12 ⟨rfl, rfl⟩
  have HB12 := HB11
  have HM12 := HM11
  clear C11 HB11 HM11
  have C12 := hid (loads_any HM12.out 40 65533 0 65533 ⟨by decide, by decide⟩ rfl (HT.out.below HB12.out))
  rw [m9_more.2.2.2] at C12
  go_wp2_with fail
  refine C12.out.mono ?_
  rintro e w13 ⟨rfl, hb⟩
  have HB13 := hid (thenB HB12.out hb)
  have HM13 := hid (HM12.out.below hb)
  clear hb C12 HB12 HM12
  go_wp2
  go_ret
  exact ⟨rfl, HB13.out⟩
end Go.Proofs.YtcgjlbpokmlkbaaDoor
