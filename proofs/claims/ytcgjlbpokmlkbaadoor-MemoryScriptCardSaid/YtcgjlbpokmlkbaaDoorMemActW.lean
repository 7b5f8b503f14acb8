/-
  MEMORY: a call of both: Write.
-/
import Derived.Test.YtcgjlbpokmlkbaaDoorMemAct
namespace Go.Proofs.YtcgjlbpokmlkbaaDoor.Mem
open Go.RowKit Go.Proofs.YtcgjlbpokmlkbaaDoor.Instr Go.Proofs.YtcgjlbpokmlkbaaDoor.Num
set_option linter.unusedVariables false

theorem getD_app {xs ys : List Int} {i : Nat} (h : i < xs.length) : (xs ++ ys).getD i 0 = xs.getD i 0 := by
  simp [List.getD_eq_getElem?_getD, List.getElem?_append_left h]
theorem Bytes.lowB {B : Nat} {w w' : World} {a : Option Addr} {zs : List Int} (h : Bytes w a zs) (hlow : ∀ b off, a = some ⟨b, off, none⟩ → zs ≠ [] → b < B) (hb : Below B w w') : Bytes w' a zs := by
  refine ⟨h.byte, h.size, ?_⟩
  by_cases h9 : zs = []
  · exact .inl h9
  rcases h.at_ with h0 | ⟨b, off, rfl, hc⟩
  · exact .inl h0
  · exact .inr ⟨b, off, rfl, fun i hi => (hb.cell (p := ⟨b, off + i, none⟩) (hlow b off rfl h9)).trans (hc i hi)⟩
theorem src_of {B : Nat} {w : World} {a : Option Addr} {zs : List Int} {n : Nat} (h : Bytes w a zs) (hn : zs.length = n) (hlow : ∀ b off, a = some ⟨b, off, none⟩ → zs ≠ [] → b < B) : ∃ b off, ∀ w', Below B w w' →
    (0 < n → a = some ⟨b, off, none⟩ ∧ (∀ i, i < n → w'.cell? ⟨b, off + i, none⟩ = some (.int .u8 (zs.getD i 0))) ∧ ∃ o, w'.heap[b]? = some o ∧ (isRef o = false ∨ b < B)) := by
  by_cases h0 : zs = []
  · exact ⟨0, 0, fun w' _ hp => by subst h0; simp at hn; omega⟩
  · rcases h.at_ with h1 | ⟨b, off, rfl, hc⟩
    · exact absurd h1 h0
    · refine ⟨b, off, fun w' hb hp => ?_⟩
      have hcw : ∀ i, i < n → w'.cell? ⟨b, off + i, none⟩ = some (.int .u8 (zs.getD i 0)) := fun i hi => (hb.cell (p := ⟨b, off + i, none⟩) (hlow b off rfl h0)).trans (hc i (by omega))
      exact ⟨rfl, hcw, (heap_some (World.block_lt_of_cell? _ _ (hcw 0 hp))).imp fun o ho => ⟨ho, .inr (hlow b off rfl h0)⟩⟩
set_option maxRecDepth 100000 in
set_option maxHeartbeats 4000000 in
theorem act_write {B : Nat} {W : World} {p q K : Nat} {m : Mm} (hM : MemIs B W p K m) (hI : RefIs B W q K m) (hB : B ≤ W.heap.size) (op o v : Int) (x : Nat) (a : Option Addr) (n c : Nat) (zs : List Int) (hx : x ≤ 4294967295) (hn : zs.length = n) (hz : Bytes W a zs) (hl : n ≤ 300) (hlow : ∀ b off, a = some ⟨b, off, none⟩ → zs ≠ [] → b < B) (hK : K + 300 ≤ 1000000) :
    Calls Tryd.prog 12 #[.pointer (some ⟨p, 0, none⟩), .pointer (some ⟨q, 0, none⟩), .agg #[.int .i64 4, .int .i64 op, .int .u32 x, .int .u32 o, .int .u32 v, .slice a n c]] W fun e w' => e = .returned (.bool true) ∧ Both B W p q (K + 300) w' := by
  have hb0 := thenA (Below.refl W.heap.size W) (y6 4 op x o v a n c)
  have hk := act_box W 4 op x o v a n c
  have C0 := hid (LentBytes_any a n c zs (W.alloc (y6 4 op x o v a n c)) hn (hz.below hb0).nums (by omega))
  have HM := hid (hM.below hb0)
  have HI := hid (hI.below hb0)
  have HB0 := hid (hb0.mono hB)
  have HBs := hid hB
  have HN := hid hn
  have HZ := hid (hz.below hb0)
  have HL := hid hl
  have HLW := hid hlow
  have HK := hid hK
  have HX := hid hx
  have HOK := hid hM.ok
  clear hM hI hb0 hB hn hz hl hlow hK hx
  go_enter Tryd.func12, Tryd.ntmps12
  go_wp2_with fail
  refine C0.out.mono ?_
  rintro e w1 ⟨rfl, hh1, hb1⟩
  obtain ⟨G, hG⟩ : ∃ G, (W.alloc (y6 4 op x o v a n c)).heap.size = G := ⟨_, rfl⟩
  rw [hG] at hh1 hb1 ⊢
  have hb1' : Below G w1 w1.drew := (Below.refl G w1).drew
  have hBG : B ≤ G := by have := HBs.out; simp at hG; omega
  have hGs : G < w1.heap.size := (Array.getElem?_eq_some_iff.1 hh1).1
  have hbd : Below w1.heap.size w1 w1.drew := (Below.refl _ _).drew
  have hb1r : Below (W.alloc (y6 4 op x o v a n c)).heap.size (W.alloc (y6 4 op x o v a n c)) w1 := by rw [hG]; exact hb1
  have hk1 : w1.heap[W.heap.size]? = some (y6 4 op x o v a n c) := (hb1.block _ (by simp at hG; omega)).trans hk
  have hk1d : w1.drew.heap[W.heap.size]? = some (y6 4 op x o v a n c) := hk1
  have hh1d : w1.drew.heap[G]? = some (.cells ((zs ++ marksBytes n).map (Value.int .u8)).toArray 5 (0, 0)) := hh1
  have hs1 := act_cells hk1
  have hs1d := act_cells hk1d
  have HM1 := hid ((HM.out.below hb1r).below hbd)
  have HI1 := hid ((HI.out.below hb1r).below hbd)
  have HB1 := hid ((HB0.out.trans (hb1.mono hBG)).trans (hbd.mono (by omega)))
  have HZ1 := hid ((HZ.out.below hb1r).below hbd)
  have HGB := hid hBG
  have HH1 := hid hh1d
  have HK1 := hid hk1d
  have HGS := hid hGs
  have C1 := hid (Write_any HM1.out (Nat.le_trans hBG (by simp; omega)) G 0 (some ⟨G, 0, none⟩) n (n + 3) x zs HN.out HZ.out.byte (by omega) (by have := HL.out; omega) HX.out (fun h0 => ⟨rfl, fun i hi => by
    have := nums_of_heap hh1d i (by rw [List.length_append, HN.out]; omega)
    rw [getD_app (by rw [HN.out]; exact hi)] at this
    exact this, _, hh1d, .inl (u8_own _ _)⟩) (by have := HK.out; have := HL.out; omega))
  clear hh1 hb1 hk1 hk hb1r hbd hk1d hh1d HM HI HB0 HZ hb1' hGs hBG hG C0
  obtain ⟨b, off, hsrc⟩ := src_of HZ1.out HN.out HLW.out
  have HC2 := hid (fun (w2 : World) (hi : RefIs B w2 q K m) (hb : Below B w1.drew w2) => Write_ref hi HOK.out (Nat.le_trans HBs.out (Nat.le_trans (show W.heap.size ≤ w1.drew.heap.size from HB1.out.size) hb.size)) b off a n c x zs HN.out HZ1.out.byte (by have := HL.out; omega) HX.out (hsrc w2 hb) (by have := HK.out; have := HL.out; omega))
  have HML : Hid ((zs ++ marksBytes n).length = n + 3) := by show _ = _; simp [marksBytes, HN.out]
  have HC3 := hid (fun (w3 : World) (hh : w3.heap[G]? = some (.cells ((zs ++ marksBytes n).map (Value.int .u8)).toArray 5 (0, 0))) (hb : Below B w1.drew w3) => kept_yes (some ⟨G, 0, none⟩) a n c zs w3 HN.out (bytes_heap hh (marks_bytes HZ1.out.byte n) (by rw [HML.out]; have := HL.out; omega)) (Bytes.lowB HZ1.out HLW.out hb) (by have := HL.out; omega))
  clear hsrc
  go_wp2
  go_region_held3 (fun w' => w'.cell? ⟨W.heap.size, 0, none⟩ = some (.int .i64 4) ∧ w'.cell? ⟨W.heap.size, 1, none⟩ = some (.int .i64 op) ∧ w'.cell? ⟨W.heap.size, 2, none⟩ = some (.int .u32 x) ∧ w'.cell? ⟨W.heap.size, 3, none⟩ = some (.int .u32 o) ∧ w'.cell? ⟨W.heap.size, 4, none⟩ = some (.int .u32 v) ∧ w'.cell? ⟨W.heap.size, 5, none⟩ = some (.slice a n c))
    (first | assumption | exact act_cells (by assumption))
    (first
      | (go_at_call 19; refine C1.out.mono ?_; rintro e w2 ⟨rfl, hw2⟩; have hk2 := hw2.2.1.block _ _ HK1.out (act_own _ _ _ _ _ _ _ _); have hg2 := hw2.2.1.block _ _ HH1.out (u8_own _ _); have hs2 := act_cells hk2)
      | (go_at_call 31; refine (HC2.out _ (HI1.out.keep hw2.2.1) hw2.2.2).mono ?_; rintro e w3 ⟨rfl, hw3⟩; have hk3 := hw3.2.1.block _ _ hk2 (act_ref _ _ _ _ _ _ _ _); have hg3 := hw3.2.1.block _ _ hg2 (u8_ref _ _); have hs3 := act_cells hk3)
      | (go_at_call 32; refine (HC3.out _ hg3 (hw2.2.2.trans hw3.2.2)).mono ?_; rintro e w4 ⟨rfl, hb4⟩; have hk4 := (hb4.block _ (Array.getElem?_eq_some_iff.1 hk3).1).trans hk3; have hs4 := act_cells hk4))
  have hg4 := (hb4.block _ (Array.getElem?_eq_some_iff.1 hg3).1).trans hg3
  have C5 := hid (over_block G n (n + 3) w4 (by rw [← HML.out]; exact Byted.of hg4) (by omega) (by have := HL.out; omega))
  have HM4 := hid ((hw2.1.keepR hw3.2.1).below hb4)
  have HI4 := hid (hw3.1.below hb4)
  have HB4 := hid ((((HB1.out.trans hw2.2.2).trans hw3.2.2)).trans (hb4.mono (Nat.le_trans HGB.out (Nat.le_of_lt (Array.getElem?_eq_some_iff.1 hg3).1))))
  have HG4 := hid hg4
  clear hg2 hg3 hg4 hw2 hw3 hb4 hk2 hk3 hs2 hs3 C1 HC2 HC3 HM1 HI1
  go_wp2_with fail
  refine C5.out.mono ?_
  rintro e w5 ⟨rfl, hsv⟩
  have HM5 := hid (HM4.out.save hsv HG4.out (u8_own _ _))
  have HI5 := hid (HI4.out.save hsv HG4.out (u8_ref _ _))
  have HB5 := hid (HB4.out.trans (hsv.below (Nat.le_trans HGB.out (Nat.le_of_lt (Array.getElem?_eq_some_iff.1 HG4.out).1)) HGB.out))
  clear hsv HM4 HI4 HB4
  go_wp2
  go_ret
  exact ⟨ret_bool (by simp), _, HM5.out.mono (by have := HL.out; omega), HI5.out.mono (by have := HL.out; omega), HB5.out⟩
end Go.Proofs.YtcgjlbpokmlkbaaDoor.Mem
