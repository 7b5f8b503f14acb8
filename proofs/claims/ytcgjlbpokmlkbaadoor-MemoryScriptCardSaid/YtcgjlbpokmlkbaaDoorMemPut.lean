/-
  MEMORY: put by contract.
-/
import Derived.Test.YtcgjlbpokmlkbaaDoorMemGetC
import Derived.Test.YtcgjlbpokmlkbaaDoorMemZero
namespace Go.Proofs.YtcgjlbpokmlkbaaDoor.Mem
open Go.RowKit
open Go.Maps (Keyed int_keyed IsMap)
set_option linter.unusedVariables false

/-- What put has done when j bytes are behind it. -/
def PutTo (B : Nat) (W : World) (p mb K : Nat) (m : Mm) (zs : List Int) (s j : Nat) (wr : World) : Prop :=
  ∃ D K', K' ≤ K + j ∧ MemAt B wr p mb K' D { m with f := putF m.f s (zs.take j) } ∧ Keep W wr ∧ Below B W wr
theorem own_page (C : Array Value) (q : Nat × Nat) : isOwn (.cells C 93 q) = true := by simp [isOwn]
theorem save_of_grown {w w' : World} {k : Nat} (h : w.grownBy w' (some k)) : Save k w w' := ⟨h.os, h.tape, h.output, h.size, fun j hj hk => h.block j hj (fun e => hk (by cases e; rfl))⟩
/-- Bytes are laid on a page. -/
theorem PageAt.lay {L xs : List Int} {f : Nat → Int} {k q : Nat} (hl : L.length = 65536) (hf : ∀ i, i < 65536 → L.getD i 0 = f (k * 65536 + i)) (hx : q + xs.length ≤ 65536) :
    (over L xs q).length = 65536 ∧ ∀ i, i < 65536 → (over L xs q).getD i 0 = putF f (k * 65536 + q) xs (k * 65536 + i) := by
  refine ⟨by rw [over_length (by omega), hl], fun i hi => ?_⟩
  rw [over_getD (by omega)]
  unfold putF
  by_cases h : q ≤ i ∧ i < q + xs.length
  · rw [if_pos h, if_pos (by omega)]; congr 1; omega
  · rw [if_neg h, if_neg (by omega), hf i hi]
theorem off_page {a k q t P : Nat} (ha : a < k * P ∨ (k + 1) * P ≤ a) (hq : q + t ≤ P) : a < k * P + q ∨ k * P + q + t ≤ a := by
  rw [Nat.succ_mul] at ha
  generalize k * P = X at *
  rcases ha with h | h
  · exact .inl (Nat.lt_of_lt_of_le h (Nat.le_add_right _ _))
  · refine .inr (Nat.le_trans ?_ h)
    rw [Nat.add_assoc]
    exact Nat.add_le_add_left hq X
theorem PutTo.step {B : Nat} {W : World} {p mb K : Nat} {m : Mm} {zs : List Int} {s j t k q pg K' : Nat} {wx w2 : World} {D : DataW Unit} {L : List Int} (hK : K' ≤ K + j + t) (hM : MemAt B wx p mb K' D { m with f := putF m.f s (zs.take j) }) (hk : Keep W wx) (hb : Below B W wx)
    (hD : D.atKey (.int .u64 k) .nil = .lit (.int .i64 pg)) (hpg : B ≤ pg) (hL : wx.heap[pg]? = some (.cells (L.map (Value.int .u8)).toArray 93 (0, 0))) (hLl : L.length = 65536) (hLf : ∀ i, i < 65536 → L.getD i 0 = putF m.f s (zs.take j) (k * 65536 + i))
    (hkq : s + j = k * 65536 + q) (hj : j + t ≤ zs.length) (hq : q + t ≤ 65536) (hz : ∀ z ∈ zs, 0 ≤ z ∧ z < 256) (hB : B ≤ W.heap.size)
    (hh : w2.heap[pg]? = some (.cells ((over L ((zs.drop j).take t) q).map (Value.int .u8)).toArray 93 (0, 0))) (hs : Save pg wx w2) : PutTo B W p mb K m zs s (j + t) w2 := by
  have hxl : ((zs.drop j).take t).length = t := by simp; omega
  have hjl : (zs.take j).length = j := by simp; omega
  have hff : putF (putF m.f s (zs.take j)) (k * 65536 + q) ((zs.drop j).take t) = putF m.f s (zs.take (j + t)) := by
    rw [← hkq]
    have := putF_append m.f s (zs.take j) ((zs.drop j).take t)
    rw [hjl] at this
    rw [this, List.take_add]
  have hlay := PageAt.lay hLl hLf (xs := (zs.drop j).take t) (q := q) (by rw [hxl]; exact hq)
  refine ⟨D, K', by omega, ?_, hk.trans (Keep.of_save hs hL (own_page _ _)), ?_⟩
  · have := hM.written (f' := putF m.f s (zs.take (j + t))) hD hs ⟨_, hh, hlay.1, fun i hi => by rw [hlay.2 i hi, hff]⟩ (fun a ha => by
      show _ = putF m.f s (zs.take j) a
      rw [← hff]
      refine putF_other _ _ _ _ ?_
      rw [hxl]
      exact off_page ha hq) (fun a => by
      rw [← hff]
      refine putF_byte (fun a => hM.ok.byte a) (fun z hzm => hz z (List.mem_of_mem_drop (List.mem_of_mem_take hzm))) _ _)
    exact this
  · exact hb.trans (hs.below (Nat.le_trans hB hb.size) hpg)
theorem src_cells {B : Nat} {W wr : World} {b off n j t : Nat} {zs : List Int} {o : Obj} (hc : ∀ i, i < n → W.cell? ⟨b, off + i, none⟩ = some (.int .u8 (zs.getD i 0))) (ho : W.heap[b]? = some o) (hn : isOwn o = false ∨ b < B) (hk : Keep W wr) (hb : Below B W wr) (hj : j + t ≤ n) (hl : zs.length = n) :
    ∀ i, i < t → wr.cell? ⟨b, off + j + i, none⟩ = some (.int .u8 (((zs.drop j).take t).getD i 0)) := by
  intro i hi
  have h1 := hc (j + i) (by omega)
  have h2 : wr.cell? ⟨b, off + (j + i), none⟩ = W.cell? ⟨b, off + (j + i), none⟩ := World.cell?_of_block (w := W) (by
    rcases hn with hn | hn
    · exact (hk.block b o ho hn).trans ho.symm
    · exact hb.block b hn)
  rw [show off + j + i = off + (j + i) by omega, h2, h1]
  rw [List.getD_eq_getElem?_getD, List.getD_eq_getElem?_getD, List.getElem?_take_of_lt hi, List.getElem?_drop]
set_option maxRecDepth 100000 in
set_option maxHeartbeats 1600000 in
theorem put_any {B : Nat} {W : World} {p mb K : Nat} {D : DataW Unit} {m : Mm} (hM : MemAt B W p mb K D m) (hB : B ≤ W.heap.size) (b off : Nat) (a : Option Addr) (n c s : Nat) (zs : List Int) (hzl : zs.length = n) (hz : ∀ z ∈ zs, 0 ≤ z ∧ z < 256) (hc : n ≤ c) (hcm : c ≤ 140737488355328)
    (ha : 0 < n → a = some ⟨b, off, none⟩ ∧ (∀ i, i < n → W.cell? ⟨b, off + i, none⟩ = some (.int .u8 (zs.getD i 0))) ∧ ∃ o, W.heap[b]? = some o ∧ (isOwn o = false ∨ b < B)) (hs : s + n ≤ m.n * 65536) (hK : K + n ≤ 1000000000) :
    Calls Tryd.prog 40 #[.pointer (some ⟨p, 0, none⟩), .int .u64 s, .slice a n c] W fun e W' => e = .returned (.tuple #[]) ∧ PutTo B W p mb K m zs s n W' := by
  have hnp : m.n ≤ 65536 := Nat.le_trans hM.ok.n hM.ok.most
  have H0 : PutTo B W p mb K m zs s 0 W := ⟨D, K, Nat.le_refl _, by rw [List.take_zero, putF_nil]; exact hM, Keep.refl W, Below.refl B W⟩
  have H0 := hid H0
  have HS := hid hs
  have HZ := hid hz
  have HZL := hid hzl
  have HP := hid hnp
  have HA := hid ha
  have HK := hid hK
  have HB := hid hB
  clear hM hs hz hzl hnp ha hK hB
  obtain ⟨S0, hS0⟩ : ∃ S0 : Int, (s : Int) = S0 := ⟨_, rfl⟩
  rw [hS0]
  have HS0 := hid hS0
  clear hS0
  go_enter Tryd.func40, Tryd.ntmps40
  go_wp2
  go_loopw [1, 2] (fun v1 v2 wr => ∃ (S : Int) (j r cc : Nat) (aa : Option Addr), v1 = .int .u64 S ∧ v2 = .slice aa r cc ∧ Hid (S = (s : Int) + j) ∧ Hid (r + j = n) ∧ r ≤ cc ∧ cc ≤ 140737488355328 ∧ Hid (0 < r → aa = some ⟨b, off + j, none⟩) ∧ Hid (PutTo B W p mb K m zs s j wr)) (fun _ v2 _ => match v2 with | .slice _ r _ => r | _ => 0)
  case atStart => exact ⟨S0, 0, n, c, a, rfl, rfl, by show _ = _; rw [← HS0.out]; simp, rfl, hc, hcm, fun h => (HA.out h).1, H0⟩
  case round =>
    obtain ⟨S, j, r, cc, aa, rfl, rfl, HSj, HR, hrc, hcc, HAA, HG⟩ := hrel
    clear hc hcm HS0 H0
    by_cases hr : 0 < r
    · have hai := HAA.out hr
      subst hai
      clear HAA
      have hsj := HSj.out
      have hrj := HR.out
      have hs := HS.out
      have hp := HP.out
      obtain ⟨_, hcell, ob, hob, hown⟩ := HA.out (by omega)
      obtain ⟨k, q, hkq, hq⟩ : ∃ k q : Nat, s + j = k * 65536 + q ∧ q < 65536 := ⟨(s + j) / 65536, (s + j) % 65536, by omega, by omega⟩
      have hdiv : S / 65536 = (k : Int) := by omega
      have hmod : S % 65536 = (q : Int) := by omega
      have hS0 : 0 ≤ S := by omega
      have hmn2 : m.n * 65536 ≤ 65536 * 65536 := Nat.mul_le_mul_right _ hp
      have hS1 : S ≤ 4294967296 := by omega
      obtain ⟨t, ht⟩ : ∃ t : Nat, min r (65536 - q) = t := ⟨_, rfl⟩
      have htr : t ≤ r := by omega
      have htq : t ≤ 65536 - q := by omega
      have ht0 : 0 < t := by omega
      have hmn : Hid (t = Nat.min r (65536 - q)) := hid (by show t = min _ _; omega)
      obtain ⟨D1, K1, hK1, hM1, hkeep, hbel⟩ := HG.out
      have c3 := hM1.cells.2.2.2
      have hk64 : k < 18446744073709551616 := by omega
      have HL := hM1.look k hk64
      have HSRC := hid (fun (wx : World) (h : Keep W wx) (hb : Below B W wx) => src_cells (j := j) (t := t) hcell hob hown h hb (by omega) HZL.out)
      have HSTEP := hid (fun (wx w2 : World) (Kx : Nat) (Dx : DataW Unit) (pg : Nat) (L : List Int) (h1 : Kx ≤ K + j + t) (h2 : MemAt B wx p mb Kx Dx { m with f := putF m.f s (zs.take j) }) (h3 : Keep W wx) (h4 : Below B W wx)
        (h5 : Dx.atKey (.int .u64 k) .nil = .lit (.int .i64 pg)) (h6 : B ≤ pg) (h7 : wx.heap[pg]? = some (.cells (L.map (Value.int .u8)).toArray 93 (0, 0))) (h8 : L.length = 65536) (h9 : ∀ i, i < 65536 → L.getD i 0 = putF m.f s (zs.take j) (k * 65536 + i))
        (h10 : w2.heap[pg]? = some (.cells ((over L ((zs.drop j).take t) q).map (Value.int .u8)).toArray 93 (0, 0))) (h11 : Save pg wx w2) =>
        PutTo.step h1 h2 h3 h4 h5 h6 h7 h8 h9 hkq (by rw [HZL.out]; omega) (by omega) HZ.out HB.out h10 h11)
      have hrel : Hid (S + (t : Int) = (s : Int) + ((j + t : Nat) : Int)) := hid (by push_cast; omega)
      have hrel2 : Hid (r - t + (j + t) = n) := hid (by omega)
      have hlen : ((zs.drop j).take t).length = t := by have := HZL.out; simp; omega
      have HKK := hid (show K1 + 1 ≤ K + j + t ∧ K1 < maxLen from ⟨by omega, by have := HK.out; unfold maxLen; omega⟩)
      have HMK := hid hM1
      have HKEEP := hid hkeep
      have HBEL := hid hbel
      clear hsj hrj hs hp hkq ht hcell hob hown hmn2 hM1 hkeep hbel HG hK1
      have hS2 : S + (t : Int) ≤ 4295032832 := by omega
      have hq1 : (q : Int) < 65536 := by omega
      have hq2 : (t : Int) ≤ 65536 - (q : Int) := by omega
      have htri : (t : Int) ≤ (r : Int) := by omega
      have htci : (t : Int) ≤ (cc : Int) := by omega
      rcases HL with ⟨hrun, hD0, hnull⟩ | ⟨pg, hpB, hrun, hD1, hpage⟩
      · obtain ⟨Z, hz0, hzs, hz1, hZ⟩ := zeroPage
        obtain ⟨pg, hpg⟩ : ∃ pg, wr.heap.size = pg := ⟨_, rfl⟩
        obtain ⟨wa, hwa⟩ : ∃ wa, wr.alloc (.cells Z 93) = wa := ⟨_, rfl⟩
        have hba : Below wr.heap.size wr wa := by rw [← hwa]; exact thenA (Below.refl _ _) _
        have hwn : wa.heap[pg]? = some (.cells Z 93 (0, 0)) := by rw [← hwa, ← hpg]; exact (MapKept.heap_alloc wr _).1
        have HMA := hid (HMK.out.below hba)
        have c3a := HMA.out.cells.2.2.2
        have hBpg : B ≤ pg := by have := HBEL.out.size; have := HB.out; omega
        have HFR := hid (fun (wm : World) (hown : wm.ownsMap Tryd.prog 58 ptrElem mb (K1 + 1) (D1.put (.int .u64 k) (.lit (.int .i64 pg)))) (hgr : wa.grownBy wm (some mb)) => (show MemAt B wm p mb (K1 + 1) (D1.put (.int .u64 k) (.lit (.int .i64 pg))) { m with f := putF m.f s (zs.take j) } ∧ Keep W wm ∧ Below B W wm ∧ (D1.put (.int .u64 k) (.lit (.int .i64 pg))).atKey (.int .u64 k) .nil = .lit (.int .i64 pg) ∧ wm.heap[pg]? = some (.cells Z 93 (0, 0)) from by
          have hs := save_of_grown hgr
          obtain ⟨es, ck, hmb⟩ := HMA.out.mblock
          have hne : pg ≠ mb := fun e => by rw [← e, hwn] at hmb; cases hmb
          have hkey : WideAt.IsKeyLit (.int .u64 k) := Maps.keyOf_int_mk (P := Tryd.prog) Tryd.underlying58 (wf64 hk64) |> fun h => (keyed.key h)
          refine ⟨HMA.out.fresh hD0 hBpg (fun k' g' h' => ?_) ⟨List.replicate 65536 0, ?_, List.length_replicate, fun i _ => zeros_getD i⟩ hown hs hkey, ?_, ?_, ?_, ?_⟩
          · have := HMK.out.page_lt k' g' h'; omega
          · rw [hwn, hZ]
          · exact HKEEP.out.trans ((Keep.of_below hba).trans (Keep.of_save hs hmb rfl))
          · exact (HBEL.out.trans (hba.mono (by have := HBEL.out.size; have := HB.out; omega))).trans (hs.below (by have := hba.size; have := HBEL.out.size; have := HB.out; omega) HMA.out.bm)
          · exact Maps.atKey_put_same HMA.out.isMap hkey _ _
          · exact (hs.block pg (Array.getElem?_eq_some_iff.1 hwn).1 hne).trans hwn))
        have hmapa := HMA.out.map
        have hK1m := HKK.out.2
        have hkeyk : keyOf Tryd.prog 58 (.int .u64 (k : Int)) = some (.int .u64 (k : Int)) := Maps.keyOf_int_mk Tryd.underlying58 (wf64 hk64)
        clear hwn hba
        have hsl := slice_page pg q hq
        subst hwa
        subst hpg
        have HSTEP2 := hid (fun (wm : World) (h1 : MemAt B wm p mb (K1 + 1) (D1.put (.int .u64 k) (.lit (.int .i64 wr.heap.size))) { m with f := putF m.f s (zs.take j) }) (h2 : Keep W wm) (h3 : Below B W wm) (h4 : (D1.put (.int .u64 k) (.lit (.int .i64 wr.heap.size))).atKey (.int .u64 k) .nil = .lit (.int .i64 wr.heap.size)) (h5 : wm.heap[wr.heap.size]? = some (.cells ((List.replicate 65536 (0 : Int)).map (Value.int .u8)).toArray 93 (0, 0))) (w2 : World) =>
          HSTEP.out wm w2 (K1 + 1) (D1.put (.int .u64 k) (.lit (.int .i64 wr.heap.size))) wr.heap.size (List.replicate 65536 0) HKK.out.1 h1 h2 h3 h4 hBpg h5 List.length_replicate (fun i hi => (zeros_getD i).trans (hnull i hi).symm))
        have hfit : q + t ≤ (List.replicate 65536 (0 : Int)).length := by rw [List.length_replicate]; omega
        have HZ2 := hid hZ
        clear hnull hZ HSTEP hD0
        by_cases htc : t = cc
        · subst htc
          obtain rfl : r = t := by omega
          go_wp2_with (first
            | (at_mapUpdate
               refine wpList_mapUpdate_own _ rfl _ _ _ 45 rfl 58 87 keyed Tryd.underlying45 ptrElem mb K1 D1 rfl hmapa hK1m (.int .u64 (k : Int)) (.pointer (some ⟨wr.heap.size, 0, none⟩)) (.int .u64 (k : Int)) (by go_simp) rfl hkeyk (.lit (.int .i64 wr.heap.size)) [] rfl ?_
               intro w1 hown1 hgrow1
               obtain ⟨hn1, hn2, hn3, hn4, hn5⟩ := HFR.out w1 hown1 hgrow1
               rw [HZ2.out] at hn5
               have hsrc := HSRC.out w1 hn2 hn3
               have HST := hid (HSTEP2.out w1 hn1 hn2 hn3 hn4 hn5)
               clear hown1 hgrow1 hn1 hn2 hn3 hn4 HFR HSTEP2 hmapa)
            | (refine copy_list (by rfl) (.tmp 32) (.tmp 33) (by rfl) (g := wr.heap.size) (off := q) (dl := 65536 - q) (dc := 65536 - q) (sl := r) (sc := r) (q := b) (o2 := off + j) (M := r) (by go_simp) (by go_simp) hn5 hlen hmn.out hfit hsrc ?_; intro w2 hh2 hs2 hz2))
          have HN := hid (HST.out w2 hh2.out hs2)
          clear HST hh2 hs2 hz2 hfit hsrc hlen hn5
          go_wp2
          go_roundw
          case rel => exact ⟨_, j + r, 0, 0, _, rfl, rfl, hrel, by simpa using hrel2, by omega, by omega, fun h => by omega, HN⟩
          case measure => simp; omega
        · go_wp2_with (first
            | (at_mapUpdate
               refine wpList_mapUpdate_own _ rfl _ _ _ 45 rfl 58 87 keyed Tryd.underlying45 ptrElem mb K1 D1 rfl hmapa hK1m (.int .u64 (k : Int)) (.pointer (some ⟨wr.heap.size, 0, none⟩)) (.int .u64 (k : Int)) (by go_simp) rfl hkeyk (.lit (.int .i64 wr.heap.size)) [] rfl ?_
               intro w1 hown1 hgrow1
               obtain ⟨hn1, hn2, hn3, hn4, hn5⟩ := HFR.out w1 hown1 hgrow1
               rw [HZ2.out] at hn5
               have hsrc := HSRC.out w1 hn2 hn3
               have HST := hid (HSTEP2.out w1 hn1 hn2 hn3 hn4 hn5)
               clear hown1 hgrow1 hn1 hn2 hn3 hn4 HFR HSTEP2 hmapa)
            | (refine copy_list (by rfl) (.tmp 32) (.tmp 33) (by rfl) (g := wr.heap.size) (off := q) (dl := 65536 - q) (dc := 65536 - q) (sl := r) (sc := cc) (q := b) (o2 := off + j) (M := t) (by go_simp) (by go_simp) hn5 hlen hmn.out hfit hsrc ?_; intro w2 hh2 hs2 hz2))
          have HN := hid (HST.out w2 hh2.out hs2)
          clear HST hh2 hs2 hz2 hfit hsrc hlen hn5
          go_wp2
          go_roundw
          case rel => exact ⟨_, j + t, r - t, _, _, rfl, rfl, hrel, hrel2, by omega, by omega, fun _ => by rw [Nat.add_assoc], HN⟩
          case measure => simp; omega
      · obtain ⟨L, hL, hLl, hLf⟩ := hpage
        have hsl := slice_page pg q hq
        have hsrc := HSRC.out wr HKEEP.out HBEL.out
        have hfit : q + t ≤ L.length := by omega
        have HST := hid (fun w2 => HSTEP.out wr w2 K1 D1 pg L (by have := HKK.out.1; omega) HMK.out HKEEP.out HBEL.out hD1 hpB hL hLl hLf)
        have HD1 := hid hD1
        clear hLl hLf HSTEP HSRC hD1
        by_cases htc : t = cc
        · subst htc
          obtain rfl : r = t := by omega
          go_wp2_with (refine copy_list (by rfl) (.tmp 32) (.tmp 33) (by rfl) (g := pg) (off := q) (dl := 65536 - q) (dc := 65536 - q) (sl := r) (sc := r) (q := b) (o2 := off + j) (M := r) (by go_simp) (by go_simp) hL hlen hmn.out hfit hsrc ?_; intro w2 hh2 hs2 hz2)
          have HN := hid (HST.out w2 hh2.out hs2)
          clear HST hh2 hs2 hz2 hfit hsrc hlen hL
          go_wp2
          go_roundw
          case rel => exact ⟨_, j + r, 0, 0, _, rfl, rfl, hrel, by simpa using hrel2, by omega, by omega, fun h => by omega, HN⟩
          case measure => simp; omega
        · go_wp2_with (refine copy_list (by rfl) (.tmp 32) (.tmp 33) (by rfl) (g := pg) (off := q) (dl := 65536 - q) (dc := 65536 - q) (sl := r) (sc := cc) (q := b) (o2 := off + j) (M := t) (by go_simp) (by go_simp) hL hlen hmn.out hfit hsrc ?_; intro w2 hh2 hs2 hz2)
          have HN := hid (HST.out w2 hh2.out hs2)
          clear HST hh2 hs2 hz2 hfit hsrc hlen hL
          go_wp2
          go_roundw
          case rel => exact ⟨_, j + t, r - t, _, _, rfl, rfl, hrel, hrel2, by omega, by omega, fun _ => by rw [Nat.add_assoc], HN⟩
          case measure => simp; omega
    · obtain rfl : r = 0 := by omega
      have HG2 : Hid (PutTo B W p mb K m zs s n wr) := by
        have h1 := HR.out
        have h2 : j = n := by omega
        rw [← h2]; exact HG.out
      go_wp2
      go_end0
      exact ⟨rfl, HG2.out⟩
end Go.Proofs.YtcgjlbpokmlkbaaDoor.Mem
