/-
  NAME: the walk of the statement NameRunes: where bytes are no text of runes, and which runes they are, as the document says.
-/
import Derived.Test.YtgmcknblfgealaaDoorNameAwake
namespace Go.Proofs.YtgmcknblfgealaaDoor
open Go.RowKit Utf

theorem bytes_prefix {g : Nat} {w : World} {zs L : List Int} (hz : ∀ z ∈ zs, 0 ≤ z ∧ z < 256) (hl : zs.length ≤ 140737488351232) (hh : w.heap[g]? = some (.cells ((zs ++ L).map (Value.int .u8)).toArray 5 (0, 0))) : Bytes w (some ⟨g, 0, none⟩) zs := by
  refine ⟨hz, hl, .inr ⟨g, 0, rfl, fun i hi => ?_⟩⟩
  rw [nums_of_heap hh i (by rw [List.length_append]; omega)]
  simp [List.getElem?_append_left hi]
theorem nums_prefix {k : IntKind} {e : TypeId} {g : Nat} {w : World} {zs L : List Int} (hh : w.heap[g]? = some (.cells ((zs ++ L).map (Value.int k)).toArray e (0, 0))) : Nums k w (some ⟨g, 0, none⟩) zs := by
  refine ⟨.inr ⟨g, 0, rfl, fun i hi => ?_⟩⟩
  rw [nums_of_heap hh i (by rw [List.length_append]; omega)]
  simp [List.getElem?_append_left hi]
theorem runesL_length (zs : List Int) : (runesL zs).length ≤ zs.length := by
  unfold runesL
  split
  · have := scan_count zs; have := scan_le zs; omega
  · simp

set_option maxHeartbeats 6400000 in
theorem nameRunes_walk (w : World) (a : Option Addr) (len cap : Nat) (zs : List Int) (hlen : zs.length = len) (hz : Bytes w a zs) (hT : Tabs w) :
    Calls Tryd.prog 3 #[.slice a len cap] w fun e w' => e = .returned (.bool true) ∧ Below w.heap.size w w' := by
  by_cases hg : 2000 < len
  · clear hlen hz hT
    go_enter Tryd.func3, Tryd.ntmps3
    go_wp2
    go_ret
    exact ⟨rfl, Below.refl _ _⟩
  have HL := hid hlen
  have hbig : zs.length ≤ 8796093022208 := by omega
  obtain ⟨m, hm⟩ : ∃ m, (runesL zs).length = m := ⟨_, rfl⟩
  have hmb : m ≤ 2000 := by have := runesL_length zs; omega
  have HB := hid hz.byte
  have HM := hid hm
  have HBig := hid hbig
  clear hlen hm hbig
  go_enter Tryd.func3, Tryd.ntmps3
  go_wp2_with fail
  refine (LentBytes_any a len cap zs _ HL.out hz.nums (by omega)).mono ?_
  rintro e w1 ⟨rfl, hh, hA⟩
  have hin := bytes_prefix HB.out (by have := HBig.out; omega) hh
  have hfull := Bytes.of_heap (marksBytes_bytes HB.out len) (by have := HL.out; simp [marksBytes]; omega) hh
  have hb := hz.below hA
  have hT1 := hT.below hA
  clear hh hT hz
  go_wp2_with fail
  refine (Runes_any _ len (len + 3) zs _ HL.out hin hT1 HBig.out).mono ?_
  rintro e w2 ⟨v, rfl, ho, hb2⟩
  obtain ⟨a1, c1, rfl⟩ := ho.sliceN HM.out
  have hx := ho.nums
  have hin := hin.below hb2
  have hfull := hfull.below hb2
  have hb := hb.below hb2
  have hT2 := hT1.below hb2
  have hA2 := thenB hA hb2
  clear hb2 ho hT1
  go_wp2_with fail
  refine (refRunes_any _ len cap zs _ HL.out (hb.alloc _) HBig.out).mono ?_
  rintro e w3 ⟨v, rfl, ho, hb3⟩
  obtain ⟨a2, c2, rfl⟩ := ho.sliceN HM.out
  have hy := ho.nums
  generalize faultL zs = r at *
  obtain ⟨r1, r2⟩ := r
  simp only at *
  have k0 : (w2.alloc (.cells #[.int .i64 r1, .int .i64 r2] 27)).cell? ⟨w2.heap.size, 0, none⟩ = some (.int .i64 r1) := by go_simp
  have k1 : (w2.alloc (.cells #[.int .i64 r1, .int .i64 r2] 27)).cell? ⟨w2.heap.size, 1, none⟩ = some (.int .i64 r2) := by go_simp
  have k0 := keep hb3 k0
  have k1 := keep hb3 k1
  have hs3 := hb3.size
  simp at hs3
  have hx := (hx.alloc _).below hb3
  have hin := (hin.alloc _).below hb3
  have hfull := (hfull.alloc _).below hb3
  have hb := (hb.alloc _).below hb3
  have hA3 := thenB (thenA hA2 _) hb3
  have hT3 := (hT2.alloc _).below hb3
  clear hb3 ho hT2 hA2 hA
  go_wp2_with fail
  refine (SameInts_any a1 a2 m c1 m c2 (runesL zs) (runesL zs) _ HM.out HM.out (hx.alloc _) (hy.alloc _) (by omega)).mono ?_
  rw [decide_eq_true (rfl : runesL zs = runesL zs)]
  rintro e w4 ⟨rfl, hb4⟩
  have k2 : (w3.alloc (.cells #[.int .i64 r1, .int .i64 r2] 27)).cell? ⟨w3.heap.size, 0, none⟩ = some (.int .i64 r1) := by go_simp
  have k3 : (w3.alloc (.cells #[.int .i64 r1, .int .i64 r2] 27)).cell? ⟨w3.heap.size, 1, none⟩ = some (.int .i64 r2) := by go_simp
  have k2 := keep hb4 k2
  have k3 := keep hb4 k3
  have k0 := keep hb4 (keepA k0 _)
  have k1 := keep hb4 (keepA k1 _)
  have hin := (hin.alloc _).below hb4
  have hfull := (hfull.alloc _).below hb4
  have hb := (hb.alloc _).below hb4
  have hA4 := thenB (thenA hA3 _) hb4
  have hT4 := (hT3.alloc _).below hb4
  clear hb4 hx hy hA3 hT3 hs3
  go_wp2_with fail
  refine (Bad_any _ len (len + 3) zs _ HL.out hin hT4).mono ?_
  rintro e w5 ⟨rfl, hb5⟩
  have hfull := hfull.below hb5
  have hb := hb.below hb5
  have hA5 := thenB hA4 hb5
  have hT5 := hT4.below hb5
  clear hb5 hA4 hT4 k0 k1 k2 k3 hin
  go_wp2_with fail
  refine (refBad_any _ len cap zs _ HL.out hb HBig.out).mono ?_
  rintro e w6 ⟨rfl, hb6⟩
  have hfull := hfull.below hb6
  have hb := hb.below hb6
  have hA6 := thenB hA5 hb6
  have hT6 := hT5.below hb6
  clear hb6 hA5 hT5
  generalize badL zs = bd
  go_wp2_with fail
  refine (KeptBytes_yes _ _ len cap zs _ HL.out hfull hb (by omega)).mono ?_
  rintro e w7 ⟨rfl, hb7⟩
  have hA7 := thenB hA6 hb7
  have hT7 := hT6.below hb7
  clear hb7 hA6 hT6 hfull hb
  go_wp2_with fail
  refine (Utf.awake_any _ hT7).mono ?_
  rintro e w8 ⟨rfl, hb8⟩
  go_wp2
  go_ret
  exact ⟨rfl, thenB hA7 hb8⟩
end Go.Proofs.YtgmcknblfgealaaDoor
