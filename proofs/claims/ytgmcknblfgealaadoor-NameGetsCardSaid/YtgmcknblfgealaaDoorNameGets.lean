/-
  NAME: the walk of the statement NameGets: which name any bytes begin with, at a place, as the document says.
-/
import Derived.Test.YtgmcknblfgealaaDoorNameRunes
import Derived.Test.YtgmcknblfgealaaDoorNameRefGet
namespace Go.Proofs.YtgmcknblfgealaaDoor
open Go.RowKit Utf Leb

set_option maxHeartbeats 6400000 in
theorem nameGets_walk (w : World) (a : Option Addr) (len cap : Nat) (zs : List Int) (hlen : zs.length = len) (hz : Bytes w a zs) (hcap : len ≤ cap) (_hnil : a = none → cap = 0) (p : Int) (_hp : -9223372036854775808 ≤ p ∧ p ≤ 9223372036854775807) (hT : Tabs w) :
    Calls Tryd.prog 5 #[.slice a len cap, .int .i64 p] w fun e w' => e = .returned (.bool true) ∧ Below w.heap.size w w' := by
  by_cases hg : 2000 < len
  · clear hlen hz hT
    go_enter Tryd.func5, Tryd.ntmps5
    go_wp2
    go_ret
    exact ⟨rfl, Below.refl _ _⟩
  have HL := hid hlen
  have hbig : zs.length ≤ 8796093022208 := by omega
  have HB := hid hz.byte
  have HBig := hid hbig
  have HC := hid hcap
  clear hlen hbig hcap _hnil _hp
  go_enter Tryd.func5, Tryd.ntmps5
  go_wp2_with fail
  refine (LentBytes_any a len cap zs _ HL.out hz.nums (by omega)).mono ?_
  rintro e w1 ⟨rfl, hh, hA⟩
  have hin := bytes_prefix HB.out (by have := HBig.out; omega) hh
  have hfull := Bytes.of_heap (marksBytes_bytes HB.out len) (by have := HL.out; simp [marksBytes]; omega) hh
  have hb := hz.below hA
  have hT1 := hT.below hA
  clear hh hT hz
  go_wp2_with fail
  refine (Get_any _ len (len + 3) p zs _ HL.out hin (by omega) hT1).mono ?_
  have hR2 := fun W hW => refGet_any a len cap p zs W HL.out hW HC.out HBig.out
  have HR2 := hid hR2
  clear hR2
  generalize nameL zs p = r at *
  obtain ⟨r0, r1, r2, r3⟩ := r
  unfold GotName at *
  simp only at *
  generalize strOfNums r0 = s at *
  rintro e w2 ⟨rfl, hb2⟩
  have hfull := hfull.below hb2
  have hb := hb.below hb2
  have hT2 := hT1.below hb2
  have hA2 := thenB hA hb2
  clear hb2 hT1 hin hA
  go_wp2_with fail
  refine (HR2.out _ (hb.alloc _)).mono ?_
  rintro e w3 ⟨rfl, hb3⟩
  have k0 : (w2.alloc (.cells #[.int .i64 r2, .int .i64 r3] 27)).cell? ⟨w2.heap.size, 0, none⟩ = some (.int .i64 r2) := by go_simp
  have k1 : (w2.alloc (.cells #[.int .i64 r2, .int .i64 r3] 27)).cell? ⟨w2.heap.size, 1, none⟩ = some (.int .i64 r3) := by go_simp
  have k0 := keep hb3 k0
  have k1 := keep hb3 k1
  have k2 : (w3.alloc (.cells #[.int .i64 r2, .int .i64 r3] 27)).cell? ⟨w3.heap.size, 0, none⟩ = some (.int .i64 r2) := by go_simp
  have k3 : (w3.alloc (.cells #[.int .i64 r2, .int .i64 r3] 27)).cell? ⟨w3.heap.size, 1, none⟩ = some (.int .i64 r3) := by go_simp
  have k0 := keepA k0 (.cells #[.int .i64 r2, .int .i64 r3] 27)
  have k1 := keepA k1 (.cells #[.int .i64 r2, .int .i64 r3] 27)
  have hfull := ((hfull.alloc _).below hb3).alloc (.cells #[.int .i64 r2, .int .i64 r3] 27)
  have hb := ((hb.alloc _).below hb3).alloc (.cells #[.int .i64 r2, .int .i64 r3] 27)
  have hA3 := thenA (thenB (thenA hA2 _) hb3) (.cells #[.int .i64 r2, .int .i64 r3] 27)
  have hT3 := ((hT2.alloc _).below hb3).alloc (.cells #[.int .i64 r2, .int .i64 r3] 27)
  clear hb3 hT2 hA2 HR2
  go_wp2_with fail
  refine (KeptBytes_yes _ _ len cap zs _ HL.out hfull hb (by omega)).mono ?_
  rintro e w7 ⟨rfl, hb7⟩
  have hA7 := thenB hA3 hb7
  have hT7 := hT3.below hb7
  clear hb7 hA3 hT3 hfull hb k0 k1 k2 k3
  go_wp2_with fail
  refine (Utf.awake_any _ hT7).mono ?_
  rintro e w8 ⟨rfl, hb8⟩
  go_wp2
  go_ret
  exact ⟨rfl, thenB hA7 hb8⟩
end Go.Proofs.YtgmcknblfgealaaDoor
