/-
  NAME: Put by contract.
-/
import Derived.Test.YtgmcknblfgealaaDoorNameBad
import Derived.Test.YtgmcknblfgealaaDoorConv
import Derived.Test.YtgmcknblfgealaaDoorLebPut
namespace Go.Proofs.YtgmcknblfgealaaDoor.Utf
open Go.RowKit Leb

set_option maxHeartbeats 800000 in
theorem Put_long (zs : List Int) (w : World) (hlong : 1048576 < zs.length) :
    Calls Tryd.prog 20 #[.string (strOfNums zs)] w fun e w' => e = .returned (.tuple #[.slice none 0 0, .int .i64 3]) ∧ Below w.heap.size w w' := by
  have hs : (strOfNums zs).size = zs.length := strOfNums_size zs
  generalize strOfNums zs = s at *
  go_enter Tryd.func20, Tryd.ntmps20
  go_wp2
  exact bodyPost_ret (v := .tuple #[.slice none 0 0, .int .i64 3]) (by simp [results, Tryd.results20, go_sem]) rfl ⟨rfl, Below.refl _ _⟩

set_option maxHeartbeats 800000 in
theorem Put_bad (zs : List Int) (hz : ∀ z ∈ zs, 0 ≤ z ∧ z < 256) (w : World) (hT : Tabs w) (hlong : zs.length ≤ 1048576) (hbad : (scan zs).2 ≠ zs.length) :
    Calls Tryd.prog 20 #[.string (strOfNums zs)] w fun e w' => e = .returned (.tuple #[.slice none 0 0, .int .i64 4]) ∧ Below w.heap.size w w' := by
  have hs : (strOfNums zs).size = zs.length := strOfNums_size zs
  have HB := hid (bad_any zs hz w hT)
  have HL := hid (badL_some hbad)
  generalize strOfNums zs = s at *
  clear hz hT hbad
  go_enter Tryd.func20, Tryd.ntmps20
  go_wp2_with fail
  refine HB.out.mono ?_
  rw [HL.out]
  rintro e w1 ⟨rfl, hb1⟩
  go_wp2
  exact bodyPost_ret (v := .tuple #[.slice none 0 0, .int .i64 4]) (by simp [results, Tryd.results20, go_sem]) rfl ⟨rfl, hb1⟩

set_option maxHeartbeats 1600000 in
theorem Put_good (zs : List Int) (hz : ∀ z ∈ zs, 0 ≤ z ∧ z < 256) (w : World) (hT : Tabs w) (hlong : zs.length ≤ 1048576) (hgood : (scan zs).2 = zs.length) :
    Calls Tryd.prog 20 #[.string (strOfNums zs)] w fun e w' => ∃ v, e = .returned (.tuple #[v, .int .i64 0]) ∧ Own w.heap.size w' v (encU zs.length ++ zs) ∧ Below w.heap.size w w' := by
  have hs : (strOfNums zs).size = zs.length := strOfNums_size zs
  have HB := hid (bad_any zs hz w hT)
  have HL := hid (badL_none hgood)
  have hw : wrap64 (zs.length : Int) = zs.length := by unfold wrap64; omega
  have HZ := hid hz
  have hsu := sizeU_pos zs.length
  clear hz hT hgood
  go_enter Tryd.func20, Tryd.ntmps20
  go_wp2_with fail
  refine HB.out.mono ?_
  rw [HL.out]
  rintro e w1 ⟨rfl, hb1⟩
  go_wp2_with fail
  refine (putU_any zs.length _ (by omega) (by omega)).mono ?_
  rintro e w2 ⟨v, rfl, ho, hb2⟩
  obtain ⟨a3, c3, rfl⟩ := ho.sliceN (encU_length zs.length)
  have hs2 := hb2.size
  clear HB HL
  go_wp2_with (first | (at_builtin; refine append_str rfl (.tmp 13) (.tmp 14) rfl rfl ho hb2 hs2 rfl HZ.out (by rw [encU_length]; omega) ?_; intro v' w3 ho3 hb3 hs3))
  exact bodyPost_ret (v := .tuple #[v', .int .i64 0]) (by simp [results, Tryd.results20, go_sem]) rfl ⟨v', rfl, ho3.mono (by have := hb1.size; omega), thenB hb1 hb3⟩
end Go.Proofs.YtgmcknblfgealaaDoor.Utf
