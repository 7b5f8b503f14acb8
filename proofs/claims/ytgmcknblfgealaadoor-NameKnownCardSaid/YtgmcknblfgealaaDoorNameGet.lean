/-
  NAME: Get by contract.
-/
import Derived.Test.YtgmcknblfgealaaDoorNameBad
import Derived.Test.YtgmcknblfgealaaDoorConv
import Derived.Test.YtgmcknblfgealaaDoorNamePlain
import Derived.Test.YtgmcknblfgealaaDoorLebCalls
import Derived.RegionTactic
import Derived.ChangeAlike
namespace Go.Proofs.YtgmcknblfgealaaDoor.Utf
open Go.RowKit Leb

theorem wrap64_small {n : Int} (h0 : -9223372036854775808 ≤ n) (h1 : n ≤ 9223372036854775807) : wrap64 n = n := by unfold wrap64; omega
/-- What a read of a name hands back. -/
def GotName (w : World) (r : List Int × Int × Int × Int) (e : Ending) (w' : World) : Prop :=
  e = .returned (.tuple #[.string (strOfNums r.1), .int .i64 r.2.1, .agg #[.int .i64 r.2.2.1, .int .i64 r.2.2.2]]) ∧ Below w.heap.size w w'

set_option maxHeartbeats 1600000 in
theorem Get_fault (a : Option Addr) (len cap : Nat) (p : Int) (zs : List Int) (w : World) (hlen : zs.length = len) (hz : Bytes w a zs) (hne : (getL false zs p).2.2.1 ≠ 0) :
    Calls Tryd.prog 23 #[.slice a len cap, .int .i64 p] w (GotName w ([], 0, (getL false zs p).2.2.1, (getL false zs p).2.2.2)) := by
  have HL := hid hlen
  clear hlen
  go_enter Tryd.func23, Tryd.ntmps23
  go_wp2_with fail
  refine (GetU_any a len cap p zs _ HL.out (hz.below ((Below.refl _ _).alloc (Nat.le_refl _) _))).mono ?_
  rintro e w' ⟨rfl, hb⟩
  generalize getL false zs p = r at *
  obtain ⟨c0, c1, f0, f1, hs⟩ := two hb
  have hA := (((Below.refl w.heap.size w).alloc (Nat.le_refl _) (.cells #[.int .i64 0, .int .i64 0] 27)).trans (hb.mono (by simp))).alloc (by omega) (.cells #[.int .i64 r.2.2.1, .int .i64 r.2.2.2] 27)
  go_wp2
  have c0 := keepA c0 (.cells #[.int .i64 r.2.2.1, .int .i64 r.2.2.2] 27)
  have c1 := keepA c1 (.cells #[.int .i64 r.2.2.1, .int .i64 r.2.2.2] 27)
  have hbA : Below w'.heap.size w' (w'.alloc (.cells #[.int .i64 r.2.2.1, .int .i64 r.2.2.2] 27)) := (Below.refl _ _).alloc (Nat.le_refl _) _
  have f0 := (hbA.frozen (p := ⟨w.heap.size, 0, none⟩) hs).trans f0
  have f1 := (hbA.frozen (p := ⟨w.heap.size, 1, none⟩) hs).trans f1
  have d0 : (w'.alloc (.cells #[.int .i64 r.2.2.1, .int .i64 r.2.2.2] 27)).cell? ⟨w'.heap.size, 0, none⟩ = some (.int .i64 r.2.2.1) := by go_simp
  have d1 : (w'.alloc (.cells #[.int .i64 r.2.2.1, .int .i64 r.2.2.2] 27)).cell? ⟨w'.heap.size, 1, none⟩ = some (.int .i64 r.2.2.2) := by go_simp
  have hne' : w.heap.size ≠ w'.heap.size := by omega
  generalize w'.heap.size = k9 at *
  generalize w'.alloc (.cells #[.int .i64 r.2.2.1, .int .i64 r.2.2.2] 27) = w2 at *
  clear hbA hs
  go_region
  go_wp2
  refine bodyPost_ret (v := .tuple #[.string (strOfNums []), .int .i64 0, .agg #[.int .i64 r.2.2.1, .int .i64 r.2.2.2]]) (by simp [results, Tryd.results23, go_sem, c0, c1]; rfl) rfl ⟨rfl, ?_⟩
  exact ((hA.setCell (Nat.le_refl _) _).setCell (Nat.le_refl _) _).drew

set_option maxHeartbeats 1600000 in
theorem Get_few (a : Option Addr) (len cap : Nat) (p n q f : Int) (zs : List Int) (w : World) (hlen : zs.length = len) (hz : Bytes w a zs) (hg : getL false zs p = (n, q, 0, f)) (hfew : (len : Int) - q < n) :
    Calls Tryd.prog 23 #[.slice a len cap, .int .i64 p] w (GotName w ([], 0, 4, len)) := by
  obtain ⟨n0, n1, _, _⟩ := getL_shortU hz.byte hg rfl
  obtain ⟨p0, pq, ql⟩ := getL_place hg rfl
  rw [hlen] at ql
  have hmax := hz.size
  rw [hlen] at hmax
  have HL := hid hlen
  have HG := hid hg
  clear hlen hg
  go_enter Tryd.func23, Tryd.ntmps23
  go_wp2_with fail
  refine (GetU_any a len cap p zs _ HL.out (hz.below ((Below.refl _ _).alloc (Nat.le_refl _) _))).mono ?_
  rw [HG.out]
  rintro e w' ⟨rfl, hb⟩
  obtain ⟨c0, c1, f0, f1, hs⟩ := two hb
  have hA := ((Below.refl w.heap.size w).alloc (Nat.le_refl _) (.cells #[.int .i64 0, .int .i64 0] 27)).trans (hb.mono (by simp))
  clear hb
  go_wp2
  obtain ⟨g0, g1⟩ := set_two (x := .int .i64 4) (y := .int .i64 len) c0 c1
  have g0 := keepA g0 (.cells #[.int .i64 0, .int .i64 f] 27)
  have g1 := keepA g1 (.cells #[.int .i64 0, .int .i64 f] 27)
  refine bodyPost_ret (v := .tuple #[.string (strOfNums []), .int .i64 0, .agg #[.int .i64 4, .int .i64 len]]) (by simp [results, Tryd.results23, go_sem, g0, g1]; rfl) rfl ⟨rfl, ?_⟩
  exact ((hA.setCell (Nat.le_refl _) _).setCell (Nat.le_refl _) _).alloc (by simp; omega) _

/-- A part of a row of bytes. -/
theorem Bytes.part {w : World} {b off : Nat} {zs : List Int} (hb : ∀ z ∈ zs, 0 ≤ z ∧ z < 256) (hl : zs.length ≤ 140737488351232) (hc : ∀ i, i < zs.length → w.cell? ⟨b, off + i, none⟩ = some (.int .u8 (zs.getD i 0))) (i n : Nat) :
    Bytes w (some ⟨b, off + i, none⟩) ((zs.drop i).take n) := by
  refine ⟨fun z hz => hb z (List.mem_of_mem_drop (List.mem_of_mem_take hz)), by simp; omega, .inr ⟨b, off + i, rfl, fun j hj => ?_⟩⟩
  simp at hj
  have := hc (i + j) (by omega)
  rw [Nat.add_assoc, this]
  congr 2
  simp [List.getElem?_take_of_lt (show j < n by omega)]

set_option maxHeartbeats 1600000 in
theorem Get_bad (a : Option Addr) (len cap : Nat) (p n q f : Int) (zs : List Int) (w : World) (hlen : zs.length = len) (hz : Bytes w a zs) (hcap : len ≤ cap) (hT : Tabs w) (hg : getL false zs p = (n, q, 0, f)) (hfew : ¬ (len : Int) - q < n)
    (hbad : (scan ((zs.drop q.toNat).take n.toNat)).2 ≠ ((zs.drop q.toNat).take n.toNat).length) :
    Calls Tryd.prog 23 #[.slice a len cap, .int .i64 p] w (GotName w ([], 0, 4, q + (scan ((zs.drop q.toNat).take n.toNat)).2)) := by
  obtain ⟨n0, n1, _, _⟩ := getL_shortU hz.byte hg rfl
  obtain ⟨p0, pq, ql⟩ := getL_place hg rfl
  rw [hlen] at ql
  have hmax := hz.size
  rw [hlen] at hmax
  obtain ⟨b, off, rfl, hcell⟩ := hz.at (by omega)
  have HL := hid hlen
  have HG := hid hg
  have HB := hid hbad
  have hll : ((zs.drop q.toNat).take n.toNat).length = (q + n).toNat - q.toNat := by simp; omega
  have hys : ∀ z ∈ (zs.drop q.toNat).take n.toNat, 0 ≤ z ∧ z < 256 := fun z hm => hz.byte z (List.mem_of_mem_drop (List.mem_of_mem_take hm))
  have hsl := scan_le ((zs.drop q.toNat).take n.toNat)
  have hcq : ¬ cap = q.toNat := by
    rw [hll] at hsl hbad
    omega
  clear hlen hg hbad
  go_enter Tryd.func23, Tryd.ntmps23
  go_wp2_with fail
  refine (GetU_any _ len cap p zs _ HL.out (hz.below ((Below.refl _ _).alloc (Nat.le_refl _) _))).mono ?_
  rw [HG.out]
  rintro e w' ⟨rfl, hb⟩
  obtain ⟨c0, c1, f0, f1, hs⟩ := two hb
  have hA := (((Below.refl w.heap.size w).alloc (Nat.le_refl _) (.cells #[.int .i64 0, .int .i64 0] 27)).trans (hb.mono (by simp))).alloc (by omega) (.cells #[.int .i64 0, .int .i64 f] 27)
  have c0 := keepA c0 (.cells #[.int .i64 0, .int .i64 f] 27)
  have c1 := keepA c1 (.cells #[.int .i64 0, .int .i64 f] 27)
  have hzA := hz.below hA
  have hTA := hT.below hA
  have hpart := Bytes.part hz.byte (by rw [HL.out]; exact hmax) (fun i hi => (hA.cell (World.block_lt_of_cell? w _ (hcell i hi))).trans (hcell i hi)) q.toNat n.toNat
  have e1 := str_of hpart ((q + n).toNat - q.toNat) (cap - q.toNat) hll
  have hw : wrap64 (q + n) = q + n := wrap64_small (by omega) (by omega)
  have HBad := hid (bad_any ((zs.drop q.toNat).take n.toNat) hys _ hTA)
  have HBL := hid (badL_some HB.out)
  clear hb hcell hpart hzA hTA hT hz HG HL HB hys
  generalize (zs.drop q.toNat).take n.toNat = ys at *
  have hm0 : 0 ≤ ((scan ys).2 : Int) := by omega
  have hm1 : ((scan ys).2 : Int) ≤ n := by omega
  generalize ((scan ys).2 : Int) = m at *
  have hwm : wrap64 (q + m) = q + m := wrap64_small (by omega) (by omega)
  clear hll hsl
  have hs2 : w.heap.size < (w'.alloc (.cells #[.int .i64 0, .int .i64 f] 27)).heap.size := by simp; omega
  have hbA : Below w'.heap.size w' (w'.alloc (.cells #[.int .i64 0, .int .i64 f] 27)) := (Below.refl _ _).alloc (Nat.le_refl _) _
  have f0 := (hbA.frozen (p := ⟨w.heap.size, 0, none⟩) hs).trans f0
  have f1 := (hbA.frozen (p := ⟨w.heap.size, 1, none⟩) hs).trans f1
  clear hbA
  go_wp2_with fail
  refine HBad.out.mono ?_
  rw [HBL.out]
  rintro e w2 ⟨rfl, hb2⟩
  have c0 := keep hb2 c0
  have c1 := keep hb2 c1
  have f0 := (hb2.frozen (p := ⟨w.heap.size, 0, none⟩) hs2).trans f0
  have f1 := (hb2.frozen (p := ⟨w.heap.size, 1, none⟩) hs2).trans f1
  have hA2 := thenB hA hb2
  clear hA hb2 HBad
  go_wp2
  refine bodyPost_ret (v := .tuple #[.string (strOfNums []), .int .i64 0, .agg #[.int .i64 4, .int .i64 (q + m)]]) (by simp [results, Tryd.results23, go_sem, c0, c1]; rfl) rfl ⟨rfl, ?_⟩
  exact (hA2.setCell (Nat.le_refl _) _).setCell (Nat.le_refl _) _
set_option maxHeartbeats 1600000 in
theorem Get_good (a : Option Addr) (len cap : Nat) (p n q f : Int) (zs : List Int) (w : World) (hlen : zs.length = len) (hz : Bytes w a zs) (hcap : len ≤ cap) (hT : Tabs w) (hg : getL false zs p = (n, q, 0, f)) (hfew : ¬ (len : Int) - q < n)
    (hgood : (scan ((zs.drop q.toNat).take n.toNat)).2 = ((zs.drop q.toNat).take n.toNat).length) (hcq : ¬ cap = q.toNat) :
    Calls Tryd.prog 23 #[.slice a len cap, .int .i64 p] w (GotName w ((zs.drop q.toNat).take n.toNat, q + n, 0, 0)) := by
  obtain ⟨n0, n1, _, _⟩ := getL_shortU hz.byte hg rfl
  obtain ⟨p0, pq, ql⟩ := getL_place hg rfl
  rw [hlen] at ql
  have hmax := hz.size
  rw [hlen] at hmax
  obtain ⟨b, off, rfl, hcell⟩ := hz.at (by omega)
  have HL := hid hlen
  have HG := hid hg
  have HB := hid hgood
  have hll : ((zs.drop q.toNat).take n.toNat).length = (q + n).toNat - q.toNat := by simp; omega
  have hys : ∀ z ∈ (zs.drop q.toNat).take n.toNat, 0 ≤ z ∧ z < 256 := fun z hm => hz.byte z (List.mem_of_mem_drop (List.mem_of_mem_take hm))
  clear hlen hg hgood
  go_enter Tryd.func23, Tryd.ntmps23
  go_wp2_with fail
  refine (GetU_any _ len cap p zs _ HL.out (hz.below ((Below.refl _ _).alloc (Nat.le_refl _) _))).mono ?_
  rw [HG.out]
  rintro e w' ⟨rfl, hb⟩
  obtain ⟨c0, c1, f0, f1, hs⟩ := two hb
  have hA := (((Below.refl w.heap.size w).alloc (Nat.le_refl _) (.cells #[.int .i64 0, .int .i64 0] 27)).trans (hb.mono (by simp))).alloc (by omega) (.cells #[.int .i64 0, .int .i64 f] 27)
  have c0 := keepA c0 (.cells #[.int .i64 0, .int .i64 f] 27)
  have c1 := keepA c1 (.cells #[.int .i64 0, .int .i64 f] 27)
  have hzA := hz.below hA
  have hTA := hT.below hA
  have hpart := Bytes.part hz.byte (by rw [HL.out]; exact hmax) (fun i hi => (hA.cell (World.block_lt_of_cell? w _ (hcell i hi))).trans (hcell i hi)) q.toNat n.toNat
  have e1 := str_of hpart ((q + n).toNat - q.toNat) (cap - q.toNat) hll
  have hw : wrap64 (q + n) = q + n := wrap64_small (by omega) (by omega)
  have HBad := hid (bad_any ((zs.drop q.toNat).take n.toNat) hys _ hTA)
  have HBL := hid (badL_none HB.out)
  clear hb hcell hpart hzA hTA hT hz HG HL HB hys
  generalize (zs.drop q.toNat).take n.toNat = ys at *
  clear hll
  have hs2 : w.heap.size < (w'.alloc (.cells #[.int .i64 0, .int .i64 f] 27)).heap.size := by simp; omega
  have hbA : Below w'.heap.size w' (w'.alloc (.cells #[.int .i64 0, .int .i64 f] 27)) := (Below.refl _ _).alloc (Nat.le_refl _) _
  have f0 := (hbA.frozen (p := ⟨w.heap.size, 0, none⟩) hs).trans f0
  have f1 := (hbA.frozen (p := ⟨w.heap.size, 1, none⟩) hs).trans f1
  clear hbA
  go_wp2_with fail
  refine HBad.out.mono ?_
  rw [HBL.out]
  rintro e w2 ⟨rfl, hb2⟩
  have c0 := keep hb2 c0
  have c1 := keep hb2 c1
  have f0 := (hb2.frozen (p := ⟨w.heap.size, 0, none⟩) hs2).trans f0
  have f1 := (hb2.frozen (p := ⟨w.heap.size, 1, none⟩) hs2).trans f1
  have hA2 := thenB hA hb2
  clear hA hb2 HBad
  go_wp2
  refine bodyPost_ret (v := .tuple #[.string (strOfNums ys), .int .i64 (q + n), .agg #[.int .i64 0, .int .i64 0]]) (by simp [results, Tryd.results23, go_sem, c0, c1]) rfl ⟨rfl, ?_⟩
  exact (hA2.setCell (Nat.le_refl _) _).setCell (Nat.le_refl _) _
set_option maxHeartbeats 1600000 in
theorem Get_good0 (a : Option Addr) (len cap : Nat) (p n q f : Int) (zs : List Int) (w : World) (hlen : zs.length = len) (hz : Bytes w a zs) (hcap : len ≤ cap) (hT : Tabs w) (hg : getL false zs p = (n, q, 0, f)) (hfew : ¬ (len : Int) - q < n)
    (hgood : (scan ((zs.drop q.toNat).take n.toNat)).2 = ((zs.drop q.toNat).take n.toNat).length) (hcq : cap = q.toNat) :
    Calls Tryd.prog 23 #[.slice a len cap, .int .i64 p] w (GotName w ((zs.drop q.toNat).take n.toNat, q + n, 0, 0)) := by
  subst hcq
  obtain ⟨n0, n1, _, _⟩ := getL_shortU hz.byte hg rfl
  obtain ⟨p0, pq, ql⟩ := getL_place hg rfl
  rw [hlen] at ql
  have hmax := hz.size
  rw [hlen] at hmax
  obtain ⟨b, off, rfl, hcell⟩ := hz.at (by omega)
  have HL := hid hlen
  have HG := hid hg
  have HB := hid hgood
  have hll : ((zs.drop q.toNat).take n.toNat).length = (q + n).toNat - q.toNat := by simp; omega
  have hys : ∀ z ∈ (zs.drop q.toNat).take n.toNat, 0 ≤ z ∧ z < 256 := fun z hm => hz.byte z (List.mem_of_mem_drop (List.mem_of_mem_take hm))
  clear hlen hg hgood
  go_enter Tryd.func23, Tryd.ntmps23
  go_wp2_with fail
  refine (GetU_any _ len q.toNat p zs _ HL.out (hz.below ((Below.refl _ _).alloc (Nat.le_refl _) _))).mono ?_
  rw [HG.out]
  rintro e w' ⟨rfl, hb⟩
  obtain ⟨c0, c1, f0, f1, hs⟩ := two hb
  have hA := (((Below.refl w.heap.size w).alloc (Nat.le_refl _) (.cells #[.int .i64 0, .int .i64 0] 27)).trans (hb.mono (by simp))).alloc (by omega) (.cells #[.int .i64 0, .int .i64 f] 27)
  have c0 := keepA c0 (.cells #[.int .i64 0, .int .i64 f] 27)
  have c1 := keepA c1 (.cells #[.int .i64 0, .int .i64 f] 27)
  have hzA := hz.below hA
  have hTA := hT.below hA
  have hp0 : Bytes (w'.alloc (.cells #[.int .i64 0, .int .i64 f] 27)) (some ⟨b, off, none⟩) ((zs.drop q.toNat).take n.toNat) := by
    have : (zs.drop q.toNat).take n.toNat = [] := List.eq_nil_of_length_eq_zero (by omega)
    rw [this]; exact ⟨by simp, by simp, .inl rfl⟩
  have e1 := str_of hp0 ((q + n).toNat - q.toNat) 0 hll
  have hw : wrap64 (q + n) = q + n := wrap64_small (by omega) (by omega)
  have HBad := hid (bad_any ((zs.drop q.toNat).take n.toNat) hys _ hTA)
  have HBL := hid (badL_none HB.out)
  clear hb hcell hp0 hzA hTA hT hz HG HL HB hys
  generalize (zs.drop q.toNat).take n.toNat = ys at *
  clear hll
  have hs2 : w.heap.size < (w'.alloc (.cells #[.int .i64 0, .int .i64 f] 27)).heap.size := by simp; omega
  have hbA : Below w'.heap.size w' (w'.alloc (.cells #[.int .i64 0, .int .i64 f] 27)) := (Below.refl _ _).alloc (Nat.le_refl _) _
  have f0 := (hbA.frozen (p := ⟨w.heap.size, 0, none⟩) hs).trans f0
  have f1 := (hbA.frozen (p := ⟨w.heap.size, 1, none⟩) hs).trans f1
  clear hbA
  go_wp2_with fail
  refine HBad.out.mono ?_
  rw [HBL.out]
  rintro e w2 ⟨rfl, hb2⟩
  have c0 := keep hb2 c0
  have c1 := keep hb2 c1
  have f0 := (hb2.frozen (p := ⟨w.heap.size, 0, none⟩) hs2).trans f0
  have f1 := (hb2.frozen (p := ⟨w.heap.size, 1, none⟩) hs2).trans f1
  have hA2 := thenB hA hb2
  clear hA hb2 HBad
  go_wp2
  refine bodyPost_ret (v := .tuple #[.string (strOfNums ys), .int .i64 (q + n), .agg #[.int .i64 0, .int .i64 0]]) (by simp [results, Tryd.results23, go_sem, c0, c1]) rfl ⟨rfl, ?_⟩
  exact (hA2.setCell (Nat.le_refl _) _).setCell (Nat.le_refl _) _

/-- Get answers as the plain function tells. -/
theorem Get_any (a : Option Addr) (len cap : Nat) (p : Int) (zs : List Int) (w : World) (hlen : zs.length = len) (hz : Bytes w a zs) (hcap : len ≤ cap) (hT : Tabs w) :
    Calls Tryd.prog 23 #[.slice a len cap, .int .i64 p] w (GotName w (nameL zs p)) := by
  unfold nameL
  by_cases h0 : (getL false zs p).2.2.1 ≠ 0
  · rw [if_pos h0]; exact Get_fault a len cap p zs w hlen hz h0
  have h0' : (getL false zs p).2.2.1 = 0 := by omega
  have hg : getL false zs p = ((getL false zs p).1, (getL false zs p).2.1, 0, (getL false zs p).2.2.2) := by rw [← h0']
  rw [if_neg h0]
  by_cases h1 : (zs.length : Int) - (getL false zs p).2.1 < (getL false zs p).1
  · rw [if_pos h1, hlen]; exact Get_few a len cap p _ _ _ zs w hlen hz hg (by rw [← hlen]; exact h1)
  rw [if_neg h1]
  by_cases h2 : (scan ((zs.drop (getL false zs p).2.1.toNat).take (getL false zs p).1.toNat)).2 ≠ ((zs.drop (getL false zs p).2.1.toNat).take (getL false zs p).1.toNat).length
  · rw [if_pos h2]; exact Get_bad a len cap p _ _ _ zs w hlen hz hcap hT hg (by rw [← hlen]; exact h1) h2
  rw [if_neg h2]
  by_cases h3 : cap = (getL false zs p).2.1.toNat
  · exact Get_good0 a len cap p _ _ _ zs w hlen hz hcap hT hg (by rw [← hlen]; exact h1) (by omega) h3
  · exact Get_good a len cap p _ _ _ zs w hlen hz hcap hT hg (by rw [← hlen]; exact h1) (by omega) h3
end Go.Proofs.YtgmcknblfgealaaDoor.Utf
