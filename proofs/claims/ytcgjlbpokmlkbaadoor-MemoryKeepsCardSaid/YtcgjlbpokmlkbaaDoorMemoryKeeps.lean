/-
  MEMORY: the walk of MemoryKeeps.
-/
import Derived.Test.YtcgjlbpokmlkbaaDoorMemKeepsP
namespace Go.Proofs.YtcgjlbpokmlkbaaDoor
open Go.RowKit Go.Proofs.YtcgjlbpokmlkbaaDoor.Instr Go.Proofs.YtcgjlbpokmlkbaaDoor.Num Go.Proofs.YtcgjlbpokmlkbaaDoor.Mem
set_option linter.unusedVariables false
set_option maxRecDepth 100000 in
set_option maxHeartbeats 4000000 in
theorem memoryKeeps_walk (W : World) (x : Int) (hx : 0 ≤ x ∧ x ≤ 4294967295) (y : Int) (hy : 0 ≤ y ∧ y ≤ 4294967295) (v : Int) (hv : 0 ≤ v ∧ v ≤ 4294967295) (a : Option Addr) (len cap : Nat) (zs : List Int) (hl : zs.length = len) (hz : Bytes W a zs) (hlc : len ≤ cap) (hcm : cap ≤ 140737488351232) (hT : Arit W) :
    Calls Tryd.prog 5 #[.int .u32 x, .int .u32 y, .int .u32 v, .slice a len cap] W fun e w' => e = .returned (.bool true) ∧ Below W.heap.size W w' := by
  have HT := hid hT
  have HV := hid hv
  have HX := hid hx
  have HY := hid hy
  obtain ⟨x0, x1⟩ := hx
  obtain ⟨y0, y1⟩ := hy
  obtain ⟨v0, v1⟩ := hv
  clear hT
  by_cases hsmall : len < 12 ∨ 100 < len
  · have h1 : (len : Int) < 12 ∨ (100 : Int) < (len : Int) := by omega
    have hbb := fun (w : World) => w
    clear hz hl hsmall
    rcases h1 with h1 | h1
    all_goals
      go_enter Tryd.func5, Tryd.ntmps5
      go_wp2_with fail
      refine (awake_any W HT.out).mono ?_
      rintro e w1 ⟨rfl, hb1⟩
      have HB1 := hid hb1
      clear hb1
      go_wp2_with fail
      refine (fresh_any w1).mono ?_
      rintro e w2 ⟨p, rfl, hm, hb2⟩
      have HB2 := hid (thenB HB1.out hb2)
      clear hm hb2
      go_wp2
      go_ret
      exact ⟨rfl, HB2.out⟩
  · have h1 : ¬ (len : Int) < 12 := by omega
    have h2 : ¬ (100 : Int) < (len : Int) := by omega
    by_cases hout : x + y < 4 ∨ 65536 < x + y + (len : Int) - 4
    · clear hz hl
      have hF : x + y < 4 ∨ (4 ≤ x + y ∧ 65536 < x + y + (len : Int) - 4) := by omega
      clear hout hsmall
      rcases hF with h3 | ⟨h3, h4⟩
      all_goals
        go_enter Tryd.func5, Tryd.ntmps5
        go_wp2_with fail
        refine (awake_any W HT.out).mono ?_
        rintro e w1 ⟨rfl, hb1⟩
        have HB1 := hid hb1
        clear hb1
        go_wp2_with fail
        refine (fresh_any w1).mono ?_
        rintro e w2 ⟨p, rfl, hm, hb2⟩
        have HB2 := hid (thenB HB1.out hb2)
        clear hm hb2
        go_wp2
        go_ret
        exact ⟨rfl, HB2.out⟩
    · have h3 : ¬ x + y < 4 := by omega
      have h4 : ¬ 65536 < x + y + (len : Int) - 4 := by omega
      have h5 : x + y ≤ 65536 := by omega
      obtain ⟨bs, hbs⟩ : ∃ bs : Nat, (bs : Int) = x + y - 4 := ⟨(x + y - 4).toNat, by omega⟩
      obtain ⟨b, off, rfl, hcells⟩ := hz.at (by omega)
      have hblt : b < W.heap.size := World.block_lt_of_cell? W _ (hcells 0 (by omega))
      have HZ := hid hz
      have HL := hid hl
      have HBS := hid hbs
      have HLEN := hid (show 12 ≤ len ∧ len ≤ 100 from by omega)
      have HLC := hid hlc
      clear hz hcells hl hsmall hout hbs
      go_enter Tryd.func5, Tryd.ntmps5
      go_wp2_with fail
      refine (awake_any W HT.out).mono ?_
      rintro e w1 ⟨rfl, hb1⟩
      have HB1 := hid hb1
      clear hb1
      go_wp2_with fail
      refine (fresh_any w1).mono ?_
      rintro e w2 ⟨p, rfl, hm, hb2⟩
      have H0 := hid (show KeepsAt W p bs 0 w2.heap.size (w2.heap.size + 1) (w2.heap.size + 1 + 1) zs (((w2.alloc (.cells #[.int .i64 54, .int .i64 59, .int .i64 58] 3)).alloc (.cells #[.int .i64 40, .int .i64 47, .int .i64 45] 3)).alloc (.cells #[.int .u32 4294967295, .int .u32 65535, .int .u32 255] 22)) from by
        have hb3 := thenA (thenA (thenA (Below.refl w2.heap.size w2) (.cells #[.int .i64 54, .int .i64 59, .int .i64 58] 3)) (.cells #[.int .i64 40, .int .i64 47, .int .i64 45] 3)) (.cells #[.int .u32 4294967295, .int .u32 65535, .int .u32 255] 22)
        refine ⟨⟨⟨1, 2, fun _ => 0⟩, rfl, rfl, (hm.below hb3).lower HB1.out.size, fun h => absurd h (Nat.lt_irrefl 0)⟩, thenB (thenB HB1.out hb2) hb3, ?_, ?_, ?_⟩
        · exact ((thenA (thenA (Below.refl _ _) (.cells #[.int .i64 40, .int .i64 47, .int .i64 45] 3)) (.cells #[.int .u32 4294967295, .int .u32 65535, .int .u32 255] 22)).block _ (by simp)).trans (MapKept.heap_alloc w2 _).1
        · have := (MapKept.heap_alloc (w2.alloc (.cells #[.int .i64 54, .int .i64 59, .int .i64 58] 3)) (.cells #[.int .i64 40, .int .i64 47, .int .i64 45] 3)).1
          rw [World.size_alloc] at this
          exact ((thenA (Below.refl _ _) (.cells #[.int .u32 4294967295, .int .u32 65535, .int .u32 255] 22)).block _ (by simp)).trans this
        · have := (MapKept.heap_alloc ((w2.alloc (.cells #[.int .i64 54, .int .i64 59, .int .i64 58] 3)).alloc (.cells #[.int .i64 40, .int .i64 47, .int .i64 45] 3)) (.cells #[.int .u32 4294967295, .int .u32 65535, .int .u32 255] 22)).1
          rw [World.size_alloc, World.size_alloc] at this
          exact this)
      clear hm hb2 HB1
      obtain ⟨wA, hwA⟩ : ∃ wA, (((w2.alloc (.cells #[.int .i64 54, .int .i64 59, .int .i64 58] 3)).alloc (.cells #[.int .i64 40, .int .i64 47, .int .i64 45] 3)).alloc (.cells #[.int .u32 4294967295, .int .u32 65535, .int .u32 255] 22)) = wA := ⟨_, rfl⟩
      rw [hwA] at H0
      go_wp2
      clear hwA
      obtain ⟨g1, hg1⟩ : ∃ g1, w2.heap.size = g1 := ⟨_, rfl⟩
      rw [hg1] at H0 ⊢
      obtain ⟨g2, hg2⟩ : ∃ g2, g1 + 1 = g2 := ⟨_, rfl⟩
      rw [hg2] at H0 ⊢
      obtain ⟨g3, hg3⟩ : ∃ g3, g2 + 1 = g3 := ⟨_, rfl⟩
      rw [hg3] at H0 ⊢
      rw [← HBS.out]
      clear hg1 hg2 hg3
      go_loopw [16] (fun vi wr => ∃ k : Nat, vi = .int .i64 k ∧ k ≤ 3 ∧ Hid (KeepsAt W p bs k g1 g2 g3 zs wr)) (fun vi _ => 3 - (intOf vi).toNat)
      case atStart => exact ⟨0, rfl, by omega, H0⟩
      case round =>
        obtain ⟨k, rfl, hk, HR⟩ := hrel
        clear H0
        have hk3 : k = 0 ∨ k = 1 ∨ k = 2 ∨ k = 3 := by omega
        rcases hk3 with rfl | rfl | rfl | rfl
        · clear hk
          obtain ⟨⟨m, hmn, hmm, hm, _⟩, hbel, hsets, hops, hmasks⟩ := HR.out
          have hlen := HL.out
          have hln := HLEN.out
          have hbs := HBS.out
          obtain ⟨s, hs⟩ : ∃ s : Nat, s = bs + 4 := ⟨_, rfl⟩
          have hs2 : (s : Int) = x + y := by omega
          have HS2 := hid hs2
          obtain ⟨ob, hob⟩ := heap_some (w := wr) (Nat.lt_of_lt_of_le hblt hbel.size)
          have CW := Write_any hm hbel.size b off (some ⟨b, off, none⟩) len cap bs zs HL.out HZ.out.byte HLC.out hcm (by omega) (fun _ => ⟨rfl, fun i hi => bytes_cells (HZ.out.below hbel) i (by omega), ob, hob, .inr hblt⟩) (by omega)
          have e1 : m.write bs zs = ({ m with f := putF m.f bs zs }, 0) := by unfold Mm.write; rw [if_pos]; simp [Mm.has, hmn, hlen]; omega
          rw [e1] at CW
          have CW := hid CW
          have HK4 := hid (fun (w : World) (h : Keep wr w) => KeepsAt.keep HR.out h)
          have c1 := (three_cells hsets).1
          obtain ⟨m1, hm1⟩ : ∃ m1 : Mm, { m with f := putF m.f bs zs } = m1 := ⟨_, rfl⟩
          have hm1n : m1.n = 1 ∧ m1.most = 2 ∧ m1.f = putF m.f bs zs := by rw [← hm1]; exact ⟨hmn, hmm, rfl⟩
          rw [hm1] at CW
          have e2 : m1.store 54 s v = ({ m1 with f := putF m1.f s ((bytesN v).take 4) }, 0) := by
            unfold Mm.store
            rw [if_pos (by rfl), if_pos (by simp [Mm.has, wd, hm1n.1]; omega)]
            rfl
          obtain ⟨m2, hm2⟩ : ∃ m2 : Mm, { m1 with f := putF m1.f s ((bytesN v).take 4) } = m2 := ⟨_, rfl⟩
          rw [hm2] at e2
          have hm2n : m2.n = 1 ∧ m2.most = 2 ∧ m2.f = putF (putF m.f bs zs) (bs + 4) ((bytesN v).take 4) := by rw [← hm2, ← hs, ← hm1n.2.2]; exact ⟨hm1n.1, hm1n.2.1, rfl⟩
          have e3 : m2.load 40 s = (v, 0) := by
            unfold Mm.load
            rw [if_pos (by rfl), if_pos (by simp [Mm.has, wd, hm2n.1]; omega)]
            have := (keeps_load (putF m.f bs zs) s v HV.out).1
            rw [show loadV 40 m2.f s = leW m2.f s 4 from rfl, hm2n.2.2, ← hs, this]
          have e4 : m2.grow 0 = (m2, 1) := by
            unfold Mm.grow
            rw [if_pos (by rw [hm2n.1, hm2n.2.1]; decide)]
            exact Prod.ext rfl (by rw [hm2n.1]; rfl)
          have e5 : m2.read bs len = (rowF m2.f bs len, 0) := by
            unfold Mm.read
            rw [if_pos (by simp [Mm.has, hm2n.1]; omega), if_pos (by omega)]
          have HROW := hid (show (rowF m2.f bs len).take 4 = zs.take 4 ∧ (rowF m2.f bs len).drop 8 = zs.drop 8 ∧ rowF m2.f bs 4 = zs.take 4 from by
            have h := keeps_row m.f zs ((bytesN v).take 4) bs len hlen (by simp [bytesN]; omega)
            rw [← hm2n.2.2] at h
            exact ⟨h.1, h.2, by rw [← rowF_take _ _ len _ (by omega)]; exact h.1⟩)
          have hrb : ∀ z ∈ rowF m2.f bs len, 0 ≤ z ∧ z < 256 := by
            intro z hz
            obtain ⟨i, hi, rfl⟩ := List.mem_iff_getElem.1 hz
            rw [rowF_length] at hi
            have := rowF_getD m2.f len bs i hi
            rw [getD_lt (by rw [rowF_length]; exact hi)] at this
            rw [this, hm2n.2.2]
            exact putF_byte (fun a => putF_byte hm.ok.byte HZ.out.byte bs a) (fun z hz => bytesN_byte v z (List.mem_of_mem_take hz)) _ _
          have HRB := hid hrb
          have E2 := hid e2
          have E3 := hid e3
          have E4 := hid e4
          have E5 := hid e5
          have HM2 := hid hm2n
          have HBEL := hid hbel
          clear hm hbel hsets hops hmasks hlen hln hbs hs hs2 hob e1 e2 e3 e4 e5 hm1 hm2 hm1n hm2n hrb hmn hmm
          go_wp2_with fail
          refine CW.out.mono ?_
          rintro e w1 ⟨rfl, hW1⟩
          have hk1 := hW1.2.1
          have CS := Store_any hW1.1 (Nat.le_trans HBEL.out.size hk1.size) (by have := HLEN.out; omega) 54 x y v s HX.out HY.out ⟨v0, by omega⟩ HS2.out (HT.out.below (HBEL.out.trans hW1.2.2))
          rw [E2.out] at CS
          have CS := hid CS
          have HK1 := hid hk1
          have HB1 := hid (HBEL.out.trans hW1.2.2)
          have c1 := (three_cells (HK4.out w1 hk1).1).1
          clear CW hW1 hk1
          go_wp2_with fail
          refine CS.out.mono ?_
          rintro e w2 ⟨rfl, hW2⟩
          have HK2 := hid (HK1.out.trans hW2.2.1)
          have HB2 := hid (HB1.out.trans hW2.2.2)
          have CL := Load_any hW2.1 40 x y s HX.out HY.out HS2.out (HT.out.below HB2.out)
          rw [E3.out] at CL
          have CL := hid CL
          have HMM := hid hW2.1
          have c2 := (three_cells (HK4.out w2 HK2.out).2.1).1
          clear CS hW2 HK1 HB1 c1
          go_wp2_with fail
          refine CL.out.mono ?_
          rintro e w3 ⟨rfl, hb3⟩
          have HK3 := hid (HK2.out.trans (Keep.of_below hb3))
          have HB3 := hid (thenB HB2.out hb3)
          have CG := Grow_any (HMM.out.below hb3) HB3.out.size 0 (by decide)
          rw [E4.out] at CG
          have CG := hid CG
          clear CL hb3 HMM HK2 HB2 c2
          go_wp2_with fail
          refine CG.out.mono ?_
          rintro e w4 ⟨rfl, hW4⟩
          have HK5 := hid (HK3.out.trans hW4.2.1)
          have HB4 := hid (HB3.out.trans hW4.2.2)
          have CR := Read_any hW4.1 bs len (by have := HBS.out; omega) (by have := HLEN.out; omega)
          rw [E5.out] at CR
          have CR := hid CR
          have HMM := hid hW4.1
          clear CG hW4 HK3 HB3
          go_wp2_with fail
          refine CR.out.mono ?_
          rintro e w5 ⟨h5, hb5⟩
          have hrl := rowF_length m2.f len bs
          rcases h5 with ⟨g, rfl, hgw, hh⟩ | ⟨_, h0⟩
          · rw [hrl]
            have hrow : Bytes w5 (some ⟨g, 0, none⟩) (rowF m2.f bs len) := bytes_heap hh HRB.out (by rw [hrl]; have := HLEN.out; omega)
            have hzr : Bytes w5 (some ⟨b, off, none⟩) zs := HZ.out.below (thenB HB4.out hb5)
            have CQ1 := hid (fun n => same_quiet (SameBytes_yes (some ⟨g, 0, none⟩) (some ⟨b, off, none⟩) 4 len 4 cap (zs.take 4) (w5.drewN n) (by have := HL.out; have := HLEN.out; simp; omega) (by have := HL.out; have := HLEN.out; simp; omega)
              (by have h := bytes_part (hrow.below (drewnK (n := n) (Below.refl w5.heap.size w5))) 0 4; rw [List.drop_zero, HROW.out.1] at h; exact h) (by have h := bytes_part (hzr.below (drewnK (n := n) (Below.refl w5.heap.size w5))) 0 4; rw [List.drop_zero] at h; exact h)))
            have CQ2 := hid (fun n => same_quiet (SameBytes_yes (some ⟨g, 8, none⟩) (some ⟨b, off + 8, none⟩) (len - 8) (len - 8) (len - 8) (cap - 8) (zs.drop 8) (w5.drewN n) (by have := HL.out; simp; omega) (by have := HL.out; simp; omega)
              (by have h := bytes_part (hrow.below (drewnK (n := n) (Below.refl w5.heap.size w5))) 8 (len - 8); rw [HROW.out.2.1, List.take_of_length_le (by have := HL.out; simp; omega)] at h; rw [Nat.zero_add] at h; exact h) (by have h := bytes_part (hzr.below (drewnK (n := n) (Below.refl w5.heap.size w5))) 8 (len - 8); rw [List.take_of_length_le (by have := HL.out; simp; omega)] at h; exact h)))
            have HNX := hid (fun (w : World) (h : Below w5.heap.size w5 w) => (show KeepsAt W p bs 1 g1 g2 g3 zs w from by
              have hkk := HK4.out w ((HK5.out.trans (Keep.of_below hb5)).trans (Keep.of_below h))
              have hb6 := thenB hb5 h
              exact ⟨⟨m2, HM2.out.1, HM2.out.2.1, (HMM.out.below hb6).mono (by have := HLEN.out; omega), fun _ => HROW.out.2.2⟩, thenB HB4.out hb6, hkk.1, hkk.2.1, hkk.2.2⟩))
            have hmask := (and_masks v HV.out).1
            have c3 := (three_cells (HK4.out w5 (HK5.out.trans (Keep.of_below hb5))).2.2).1
            have n1 : ¬ len = 8 := by have := HLEN.out; omega
            have n2 : ¬ cap = 8 := by have := HLEN.out; have := HLC.out; omega
            have n3 : 4 ≤ len := by have := HLEN.out; omega
            have n4 : 8 ≤ len := by have := HLEN.out; omega
            have n5 : 4 ≤ cap := by have := HLEN.out; have := HLC.out; omega
            have n6 : 8 ≤ cap := by have := HLEN.out; have := HLC.out; omega
            have n7 : len ≤ cap := HLC.out
            have n8 : (4 : Int) ≤ (len : Int) := by omega
            have n9 : (8 : Int) ≤ (len : Int) := by omega
            clear hrow hzr hh hb5 hgw CR HK5 HB4 HMM HK4 HROW HRB E2 E3 E4 E5 HM2 HBEL HR hrl
            go_wp2
            go_quiet ((go_at_call 21; first | (with_reducible exact Calls.quiet_of_same (CQ1.out _)) | (with_reducible exact Calls.quiet_of_same (CQ2.out _))))
            go_wp2
            go_roundw
            case rel => exact ⟨1, rfl, by omega, HNX.out _ (drewnK (Below.refl _ _))⟩
            case measure => simp [intOf]
          · exfalso
            have h1 := congrArg List.length h0
            rw [hrl] at h1
            have := HLEN.out
            simp at h1
            omega
        · clear hk
          obtain ⟨⟨m, hmn, hmm, hm, _⟩, hbel, hsets, hops, hmasks⟩ := HR.out
          have hlen := HL.out
          have hln := HLEN.out
          have hbs := HBS.out
          obtain ⟨s, hs⟩ : ∃ s : Nat, s = bs + 4 := ⟨_, rfl⟩
          have hs2 : (s : Int) = x + y := by omega
          have HS2 := hid hs2
          obtain ⟨ob, hob⟩ := heap_some (w := wr) (Nat.lt_of_lt_of_le hblt hbel.size)
          have CW := Write_any hm hbel.size b off (some ⟨b, off, none⟩) len cap bs zs HL.out HZ.out.byte HLC.out hcm (by omega) (fun _ => ⟨rfl, fun i hi => bytes_cells (HZ.out.below hbel) i (by omega), ob, hob, .inr hblt⟩) (by omega)
          have e1 : m.write bs zs = ({ m with f := putF m.f bs zs }, 0) := by unfold Mm.write; rw [if_pos]; simp [Mm.has, hmn, hlen]; omega
          rw [e1] at CW
          have CW := hid CW
          have HK4 := hid (fun (w : World) (h : Keep wr w) => KeepsAt.keep HR.out h)
          have c1 := (three_cells hsets).2.1
          obtain ⟨m1, hm1⟩ : ∃ m1 : Mm, { m with f := putF m.f bs zs } = m1 := ⟨_, rfl⟩
          have hm1n : m1.n = 1 ∧ m1.most = 2 ∧ m1.f = putF m.f bs zs := by rw [← hm1]; exact ⟨hmn, hmm, rfl⟩
          rw [hm1] at CW
          have e2 : m1.store 59 s v = ({ m1 with f := putF m1.f s ((bytesN v).take 2) }, 0) := by
            unfold Mm.store
            rw [if_pos (by rfl), if_pos (by simp [Mm.has, wd, hm1n.1]; omega)]
            rfl
          obtain ⟨m2, hm2⟩ : ∃ m2 : Mm, { m1 with f := putF m1.f s ((bytesN v).take 2) } = m2 := ⟨_, rfl⟩
          rw [hm2] at e2
          have hm2n : m2.n = 1 ∧ m2.most = 2 ∧ m2.f = putF (putF m.f bs zs) (bs + 4) ((bytesN v).take 2) := by rw [← hm2, ← hs, ← hm1n.2.2]; exact ⟨hm1n.1, hm1n.2.1, rfl⟩
          have e3 : m2.load 47 s = ((v % 65536), 0) := by
            unfold Mm.load
            rw [if_pos (by rfl), if_pos (by simp [Mm.has, wd, hm2n.1]; omega)]
            have := (keeps_load (putF m.f bs zs) s v HV.out).2.1
            rw [show loadV 47 m2.f s = leW m2.f s 2 from rfl, hm2n.2.2, ← hs, this]
          have e4 : m2.grow 0 = (m2, 1) := by
            unfold Mm.grow
            rw [if_pos (by rw [hm2n.1, hm2n.2.1]; decide)]
            exact Prod.ext rfl (by rw [hm2n.1]; rfl)
          have e5 : m2.read bs len = (rowF m2.f bs len, 0) := by
            unfold Mm.read
            rw [if_pos (by simp [Mm.has, hm2n.1]; omega), if_pos (by omega)]
          have HROW := hid (show (rowF m2.f bs len).take 4 = zs.take 4 ∧ (rowF m2.f bs len).drop 6 = zs.drop 6 ∧ rowF m2.f bs 4 = zs.take 4 from by
            have h := keeps_row m.f zs ((bytesN v).take 2) bs len hlen (by simp [bytesN]; omega)
            rw [← hm2n.2.2] at h
            exact ⟨h.1, h.2, by rw [← rowF_take _ _ len _ (by omega)]; exact h.1⟩)
          have hrb : ∀ z ∈ rowF m2.f bs len, 0 ≤ z ∧ z < 256 := by
            intro z hz
            obtain ⟨i, hi, rfl⟩ := List.mem_iff_getElem.1 hz
            rw [rowF_length] at hi
            have := rowF_getD m2.f len bs i hi
            rw [getD_lt (by rw [rowF_length]; exact hi)] at this
            rw [this, hm2n.2.2]
            exact putF_byte (fun a => putF_byte hm.ok.byte HZ.out.byte bs a) (fun z hz => bytesN_byte v z (List.mem_of_mem_take hz)) _ _
          have HRB := hid hrb
          have E2 := hid e2
          have E3 := hid e3
          have E4 := hid e4
          have E5 := hid e5
          have HM2 := hid hm2n
          have HBEL := hid hbel
          clear hm hbel hsets hops hmasks hlen hln hbs hs hs2 hob e1 e2 e3 e4 e5 hm1 hm2 hm1n hm2n hrb hmn hmm
          go_wp2_with fail
          refine CW.out.mono ?_
          rintro e w1 ⟨rfl, hW1⟩
          have hk1 := hW1.2.1
          have CS := Store_any hW1.1 (Nat.le_trans HBEL.out.size hk1.size) (by have := HLEN.out; omega) 59 x y v s HX.out HY.out ⟨v0, by omega⟩ HS2.out (HT.out.below (HBEL.out.trans hW1.2.2))
          rw [E2.out] at CS
          have CS := hid CS
          have HK1 := hid hk1
          have HB1 := hid (HBEL.out.trans hW1.2.2)
          have c1 := (three_cells (HK4.out w1 hk1).1).2.1
          clear CW hW1 hk1
          go_wp2_with fail
          refine CS.out.mono ?_
          rintro e w2 ⟨rfl, hW2⟩
          have HK2 := hid (HK1.out.trans hW2.2.1)
          have HB2 := hid (HB1.out.trans hW2.2.2)
          have CL := Load_any hW2.1 47 x y s HX.out HY.out HS2.out (HT.out.below HB2.out)
          rw [E3.out] at CL
          have CL := hid CL
          have HMM := hid hW2.1
          have c2 := (three_cells (HK4.out w2 HK2.out).2.1).2.1
          clear CS hW2 HK1 HB1 c1
          go_wp2_with fail
          refine CL.out.mono ?_
          rintro e w3 ⟨rfl, hb3⟩
          have HK3 := hid (HK2.out.trans (Keep.of_below hb3))
          have HB3 := hid (thenB HB2.out hb3)
          have CG := Grow_any (HMM.out.below hb3) HB3.out.size 0 (by decide)
          rw [E4.out] at CG
          have CG := hid CG
          clear CL hb3 HMM HK2 HB2 c2
          go_wp2_with fail
          refine CG.out.mono ?_
          rintro e w4 ⟨rfl, hW4⟩
          have HK5 := hid (HK3.out.trans hW4.2.1)
          have HB4 := hid (HB3.out.trans hW4.2.2)
          have CR := Read_any hW4.1 bs len (by have := HBS.out; omega) (by have := HLEN.out; omega)
          rw [E5.out] at CR
          have CR := hid CR
          have HMM := hid hW4.1
          clear CG hW4 HK3 HB3
          go_wp2_with fail
          refine CR.out.mono ?_
          rintro e w5 ⟨h5, hb5⟩
          have hrl := rowF_length m2.f len bs
          rcases h5 with ⟨g, rfl, hgw, hh⟩ | ⟨_, h0⟩
          · rw [hrl]
            have hrow : Bytes w5 (some ⟨g, 0, none⟩) (rowF m2.f bs len) := bytes_heap hh HRB.out (by rw [hrl]; have := HLEN.out; omega)
            have hzr : Bytes w5 (some ⟨b, off, none⟩) zs := HZ.out.below (thenB HB4.out hb5)
            have CQ1 := hid (fun n => same_quiet (SameBytes_yes (some ⟨g, 0, none⟩) (some ⟨b, off, none⟩) 4 len 4 cap (zs.take 4) (w5.drewN n) (by have := HL.out; have := HLEN.out; simp; omega) (by have := HL.out; have := HLEN.out; simp; omega)
              (by have h := bytes_part (hrow.below (drewnK (n := n) (Below.refl w5.heap.size w5))) 0 4; rw [List.drop_zero, HROW.out.1] at h; exact h) (by have h := bytes_part (hzr.below (drewnK (n := n) (Below.refl w5.heap.size w5))) 0 4; rw [List.drop_zero] at h; exact h)))
            have CQ2 := hid (fun n => same_quiet (SameBytes_yes (some ⟨g, 6, none⟩) (some ⟨b, off + 6, none⟩) (len - 6) (len - 6) (len - 6) (cap - 6) (zs.drop 6) (w5.drewN n) (by have := HL.out; simp; omega) (by have := HL.out; simp; omega)
              (by have h := bytes_part (hrow.below (drewnK (n := n) (Below.refl w5.heap.size w5))) 6 (len - 6); rw [HROW.out.2.1, List.take_of_length_le (by have := HL.out; simp; omega)] at h; rw [Nat.zero_add] at h; exact h) (by have h := bytes_part (hzr.below (drewnK (n := n) (Below.refl w5.heap.size w5))) 6 (len - 6); rw [List.take_of_length_le (by have := HL.out; simp; omega)] at h; exact h)))
            have HNX := hid (fun (w : World) (h : Below w5.heap.size w5 w) => (show KeepsAt W p bs 2 g1 g2 g3 zs w from by
              have hkk := HK4.out w ((HK5.out.trans (Keep.of_below hb5)).trans (Keep.of_below h))
              have hb6 := thenB hb5 h
              exact ⟨⟨m2, HM2.out.1, HM2.out.2.1, (HMM.out.below hb6).mono (by have := HLEN.out; omega), fun _ => HROW.out.2.2⟩, thenB HB4.out hb6, hkk.1, hkk.2.1, hkk.2.2⟩))
            have hmask := (and_masks v HV.out).2.1
            have c3 := (three_cells (HK4.out w5 (HK5.out.trans (Keep.of_below hb5))).2.2).2.1
            have n1 : ¬ len = 6 := by have := HLEN.out; omega
            have n2 : ¬ cap = 6 := by have := HLEN.out; have := HLC.out; omega
            have n3 : 4 ≤ len := by have := HLEN.out; omega
            have n4 : 6 ≤ len := by have := HLEN.out; omega
            have n5 : 4 ≤ cap := by have := HLEN.out; have := HLC.out; omega
            have n6 : 6 ≤ cap := by have := HLEN.out; have := HLC.out; omega
            have n7 : len ≤ cap := HLC.out
            have n8 : (4 : Int) ≤ (len : Int) := by omega
            have n9 : (6 : Int) ≤ (len : Int) := by omega
            clear hrow hzr hh hb5 hgw CR HK5 HB4 HMM HK4 HROW HRB E2 E3 E4 E5 HM2 HBEL HR hrl
            go_wp2
            go_quiet ((go_at_call 21; first | (with_reducible exact Calls.quiet_of_same (CQ1.out _)) | (with_reducible exact Calls.quiet_of_same (CQ2.out _))))
            go_wp2
            go_roundw
            case rel => exact ⟨2, rfl, by omega, HNX.out _ (drewnK (Below.refl _ _))⟩
            case measure => simp [intOf]
          · exfalso
            have h1 := congrArg List.length h0
            rw [hrl] at h1
            have := HLEN.out
            simp at h1
            omega
        · clear hk
          obtain ⟨⟨m, hmn, hmm, hm, _⟩, hbel, hsets, hops, hmasks⟩ := HR.out
          have hlen := HL.out
          have hln := HLEN.out
          have hbs := HBS.out
          obtain ⟨s, hs⟩ : ∃ s : Nat, s = bs + 4 := ⟨_, rfl⟩
          have hs2 : (s : Int) = x + y := by omega
          have HS2 := hid hs2
          obtain ⟨ob, hob⟩ := heap_some (w := wr) (Nat.lt_of_lt_of_le hblt hbel.size)
          have CW := Write_any hm hbel.size b off (some ⟨b, off, none⟩) len cap bs zs HL.out HZ.out.byte HLC.out hcm (by omega) (fun _ => ⟨rfl, fun i hi => bytes_cells (HZ.out.below hbel) i (by omega), ob, hob, .inr hblt⟩) (by omega)
          have e1 : m.write bs zs = ({ m with f := putF m.f bs zs }, 0) := by unfold Mm.write; rw [if_pos]; simp [Mm.has, hmn, hlen]; omega
          rw [e1] at CW
          have CW := hid CW
          have HK4 := hid (fun (w : World) (h : Keep wr w) => KeepsAt.keep HR.out h)
          have c1 := (three_cells hsets).2.2
          obtain ⟨m1, hm1⟩ : ∃ m1 : Mm, { m with f := putF m.f bs zs } = m1 := ⟨_, rfl⟩
          have hm1n : m1.n = 1 ∧ m1.most = 2 ∧ m1.f = putF m.f bs zs := by rw [← hm1]; exact ⟨hmn, hmm, rfl⟩
          rw [hm1] at CW
          have e2 : m1.store 58 s v = ({ m1 with f := putF m1.f s ((bytesN v).take 1) }, 0) := by
            unfold Mm.store
            rw [if_pos (by rfl), if_pos (by simp [Mm.has, wd, hm1n.1]; omega)]
            rfl
          obtain ⟨m2, hm2⟩ : ∃ m2 : Mm, { m1 with f := putF m1.f s ((bytesN v).take 1) } = m2 := ⟨_, rfl⟩
          rw [hm2] at e2
          have hm2n : m2.n = 1 ∧ m2.most = 2 ∧ m2.f = putF (putF m.f bs zs) (bs + 4) ((bytesN v).take 1) := by rw [← hm2, ← hs, ← hm1n.2.2]; exact ⟨hm1n.1, hm1n.2.1, rfl⟩
          have e3 : m2.load 45 s = ((v % 256), 0) := by
            unfold Mm.load
            rw [if_pos (by rfl), if_pos (by simp [Mm.has, wd, hm2n.1]; omega)]
            have := (keeps_load (putF m.f bs zs) s v HV.out).2.2
            rw [show loadV 45 m2.f s = leW m2.f s 1 from rfl, hm2n.2.2, ← hs, this]
          have e4 : m2.grow 0 = (m2, 1) := by
            unfold Mm.grow
            rw [if_pos (by rw [hm2n.1, hm2n.2.1]; decide)]
            exact Prod.ext rfl (by rw [hm2n.1]; rfl)
          have e5 : m2.read bs len = (rowF m2.f bs len, 0) := by
            unfold Mm.read
            rw [if_pos (by simp [Mm.has, hm2n.1]; omega), if_pos (by omega)]
          have HROW := hid (show (rowF m2.f bs len).take 4 = zs.take 4 ∧ (rowF m2.f bs len).drop 5 = zs.drop 5 ∧ rowF m2.f bs 4 = zs.take 4 from by
            have h := keeps_row m.f zs ((bytesN v).take 1) bs len hlen (by simp [bytesN]; omega)
            rw [← hm2n.2.2] at h
            exact ⟨h.1, h.2, by rw [← rowF_take _ _ len _ (by omega)]; exact h.1⟩)
          have hrb : ∀ z ∈ rowF m2.f bs len, 0 ≤ z ∧ z < 256 := by
            intro z hz
            obtain ⟨i, hi, rfl⟩ := List.mem_iff_getElem.1 hz
            rw [rowF_length] at hi
            have := rowF_getD m2.f len bs i hi
            rw [getD_lt (by rw [rowF_length]; exact hi)] at this
            rw [this, hm2n.2.2]
            exact putF_byte (fun a => putF_byte hm.ok.byte HZ.out.byte bs a) (fun z hz => bytesN_byte v z (List.mem_of_mem_take hz)) _ _
          have HRB := hid hrb
          have E2 := hid e2
          have E3 := hid e3
          have E4 := hid e4
          have E5 := hid e5
          have HM2 := hid hm2n
          have HBEL := hid hbel
          clear hm hbel hsets hops hmasks hlen hln hbs hs hs2 hob e1 e2 e3 e4 e5 hm1 hm2 hm1n hm2n hrb hmn hmm
          go_wp2_with fail
          refine CW.out.mono ?_
          rintro e w1 ⟨rfl, hW1⟩
          have hk1 := hW1.2.1
          have CS := Store_any hW1.1 (Nat.le_trans HBEL.out.size hk1.size) (by have := HLEN.out; omega) 58 x y v s HX.out HY.out ⟨v0, by omega⟩ HS2.out (HT.out.below (HBEL.out.trans hW1.2.2))
          rw [E2.out] at CS
          have CS := hid CS
          have HK1 := hid hk1
          have HB1 := hid (HBEL.out.trans hW1.2.2)
          have c1 := (three_cells (HK4.out w1 hk1).1).2.2
          clear CW hW1 hk1
          go_wp2_with fail
          refine CS.out.mono ?_
          rintro e w2 ⟨rfl, hW2⟩
          have HK2 := hid (HK1.out.trans hW2.2.1)
          have HB2 := hid (HB1.out.trans hW2.2.2)
          have CL := Load_any hW2.1 45 x y s HX.out HY.out HS2.out (HT.out.below HB2.out)
          rw [E3.out] at CL
          have CL := hid CL
          have HMM := hid hW2.1
          have c2 := (three_cells (HK4.out w2 HK2.out).2.1).2.2
          clear CS hW2 HK1 HB1 c1
          go_wp2_with fail
          refine CL.out.mono ?_
          rintro e w3 ⟨rfl, hb3⟩
          have HK3 := hid (HK2.out.trans (Keep.of_below hb3))
          have HB3 := hid (thenB HB2.out hb3)
          have CG := Grow_any (HMM.out.below hb3) HB3.out.size 0 (by decide)
          rw [E4.out] at CG
          have CG := hid CG
          clear CL hb3 HMM HK2 HB2 c2
          go_wp2_with fail
          refine CG.out.mono ?_
          rintro e w4 ⟨rfl, hW4⟩
          have HK5 := hid (HK3.out.trans hW4.2.1)
          have HB4 := hid (HB3.out.trans hW4.2.2)
          have CR := Read_any hW4.1 bs len (by have := HBS.out; omega) (by have := HLEN.out; omega)
          rw [E5.out] at CR
          have CR := hid CR
          have HMM := hid hW4.1
          clear CG hW4 HK3 HB3
          go_wp2_with fail
          refine CR.out.mono ?_
          rintro e w5 ⟨h5, hb5⟩
          have hrl := rowF_length m2.f len bs
          rcases h5 with ⟨g, rfl, hgw, hh⟩ | ⟨_, h0⟩
          · rw [hrl]
            have hrow : Bytes w5 (some ⟨g, 0, none⟩) (rowF m2.f bs len) := bytes_heap hh HRB.out (by rw [hrl]; have := HLEN.out; omega)
            have hzr : Bytes w5 (some ⟨b, off, none⟩) zs := HZ.out.below (thenB HB4.out hb5)
            have CQ1 := hid (fun n => same_quiet (SameBytes_yes (some ⟨g, 0, none⟩) (some ⟨b, off, none⟩) 4 len 4 cap (zs.take 4) (w5.drewN n) (by have := HL.out; have := HLEN.out; simp; omega) (by have := HL.out; have := HLEN.out; simp; omega)
              (by have h := bytes_part (hrow.below (drewnK (n := n) (Below.refl w5.heap.size w5))) 0 4; rw [List.drop_zero, HROW.out.1] at h; exact h) (by have h := bytes_part (hzr.below (drewnK (n := n) (Below.refl w5.heap.size w5))) 0 4; rw [List.drop_zero] at h; exact h)))
            have CQ2 := hid (fun n => same_quiet (SameBytes_yes (some ⟨g, 5, none⟩) (some ⟨b, off + 5, none⟩) (len - 5) (len - 5) (len - 5) (cap - 5) (zs.drop 5) (w5.drewN n) (by have := HL.out; simp; omega) (by have := HL.out; simp; omega)
              (by have h := bytes_part (hrow.below (drewnK (n := n) (Below.refl w5.heap.size w5))) 5 (len - 5); rw [HROW.out.2.1, List.take_of_length_le (by have := HL.out; simp; omega)] at h; rw [Nat.zero_add] at h; exact h) (by have h := bytes_part (hzr.below (drewnK (n := n) (Below.refl w5.heap.size w5))) 5 (len - 5); rw [List.take_of_length_le (by have := HL.out; simp; omega)] at h; exact h)))
            have HNX := hid (fun (w : World) (h : Below w5.heap.size w5 w) => (show KeepsAt W p bs 3 g1 g2 g3 zs w from by
              have hkk := HK4.out w ((HK5.out.trans (Keep.of_below hb5)).trans (Keep.of_below h))
              have hb6 := thenB hb5 h
              exact ⟨⟨m2, HM2.out.1, HM2.out.2.1, (HMM.out.below hb6).mono (by have := HLEN.out; omega), fun _ => HROW.out.2.2⟩, thenB HB4.out hb6, hkk.1, hkk.2.1, hkk.2.2⟩))
            have hmask := (and_masks v HV.out).2.2
            have c3 := (three_cells (HK4.out w5 (HK5.out.trans (Keep.of_below hb5))).2.2).2.2
            have n1 : ¬ len = 5 := by have := HLEN.out; omega
            have n2 : ¬ cap = 5 := by have := HLEN.out; have := HLC.out; omega
            have n3 : 4 ≤ len := by have := HLEN.out; omega
            have n4 : 5 ≤ len := by have := HLEN.out; omega
            have n5 : 4 ≤ cap := by have := HLEN.out; have := HLC.out; omega
            have n6 : 5 ≤ cap := by have := HLEN.out; have := HLC.out; omega
            have n7 : len ≤ cap := HLC.out
            have n8 : (4 : Int) ≤ (len : Int) := by omega
            have n9 : (5 : Int) ≤ (len : Int) := by omega
            clear hrow hzr hh hb5 hgw CR HK5 HB4 HMM HK4 HROW HRB E2 E3 E4 E5 HM2 HBEL HR hrl
            go_wp2
            go_quiet ((go_at_call 21; first | (with_reducible exact Calls.quiet_of_same (CQ1.out _)) | (with_reducible exact Calls.quiet_of_same (CQ2.out _))))
            go_wp2
            go_roundw
            case rel => exact ⟨3, rfl, by omega, HNX.out _ (drewnK (Below.refl _ _))⟩
            case measure => simp [intOf]
          · exfalso
            have h1 := congrArg List.length h0
            rw [hrl] at h1
            have := HLEN.out
            simp at h1
            omega
        · clear hk
          obtain ⟨⟨m, hmn, hmm, hm, hrow4⟩, hbel, _, _, _⟩ := HR.out
          have hr4 := hrow4 (by omega)
          have CG := Grow_any hm hbel.size 1 (by decide)
          obtain ⟨m2, hm2⟩ : ∃ m2 : Mm, { m with n := m.n + 1 } = m2 := ⟨_, rfl⟩
          have e4 : m.grow 1 = (m2, 1) := by
            unfold Mm.grow
            rw [if_pos (by rw [hmn, hmm]; decide), hm2, hmn]
            rfl
          have hm2n : m2.n = 2 ∧ m2.f = m.f := by rw [← hm2, hmn]; exact ⟨rfl, rfl⟩
          have e5 : m2.read bs len = (rowF m.f bs len, 0) := by
            have := HBS.out
            have := HLEN.out
            unfold Mm.read
            rw [if_pos (by simp [Mm.has, hm2n.1]; omega), if_pos (by omega), hm2n.2]
          rw [e4] at CG
          have CG := hid CG
          have hrb : ∀ z ∈ rowF m.f bs len, 0 ≤ z ∧ z < 256 := by
            intro z hz
            obtain ⟨i, hi, rfl⟩ := List.mem_iff_getElem.1 hz
            rw [rowF_length] at hi
            have := rowF_getD m.f len bs i hi
            rw [getD_lt (by rw [rowF_length]; exact hi)] at this
            rw [this]
            exact hm.ok.byte _
          have HRB := hid hrb
          have HR4 := hid (show (rowF m.f bs len).take 4 = zs.take 4 from by rw [rowF_take _ _ len _ (by have := HLEN.out; omega)]; exact hr4)
          have E5 := hid e5
          have HM2 := hid hm2n
          have HBEL := hid hbel
          clear hm hbel e4 e5 hm2 hm2n hrb hmn hmm hrow4 hr4
          go_wp2_with fail
          refine CG.out.mono ?_
          rintro e w4 ⟨rfl, hW4⟩
          have HB4 := hid (HBEL.out.trans hW4.2.2)
          have CR := Read_any hW4.1 bs len (by have := HBS.out; omega) (by have := HLEN.out; omega)
          rw [E5.out] at CR
          have CR := hid CR
          have HMM := hid hW4.1
          clear CG hW4
          go_wp2_with fail
          refine CR.out.mono ?_
          rintro e w5 ⟨h5, hb5⟩
          have hrl := rowF_length m.f len bs
          rcases h5 with ⟨g, rfl, hgw, hh⟩ | ⟨_, h0⟩
          · rw [hrl]
            have hrow : Bytes w5 (some ⟨g, 0, none⟩) (rowF m.f bs len) := bytes_heap hh HRB.out (by rw [hrl]; have := HLEN.out; omega)
            have hzr : Bytes w5 (some ⟨b, off, none⟩) zs := HZ.out.below (thenB HB4.out hb5)
            have CQ1 := hid (fun n => same_quiet (SameBytes_yes (some ⟨g, 0, none⟩) (some ⟨b, off, none⟩) 4 len 4 cap (zs.take 4) (w5.drewN n) (by have := HL.out; have := HLEN.out; simp; omega) (by have := HL.out; have := HLEN.out; simp; omega)
              (by have h := bytes_part (hrow.below (drewnK (n := n) (Below.refl w5.heap.size w5))) 0 4; rw [List.drop_zero, HR4.out] at h; exact h) (by have h := bytes_part (hzr.below (drewnK (n := n) (Below.refl w5.heap.size w5))) 0 4; rw [List.drop_zero] at h; exact h)))
            have CQ2 := hid (fun n => same_quiet (show Calls Tryd.prog 13 #[.pointer (some ⟨p, 0, none⟩)] (w5.drewN n) fun e w' => e = .returned (.int .u32 2) ∧ w5.drewN n = w' from by
              have h := Pages_any ((HMM.out.below hb5).below (drewnK (n := n) (Below.refl w5.heap.size w5)))
              rw [HM2.out.1] at h
              exact h))
            have HNX := hid (fun (w : World) (h : Below w5.heap.size w5 w) => thenB (thenB HB4.out hb5) h)
            have n3 : 4 ≤ len := by have := HLEN.out; omega
            have n5 : 4 ≤ cap := by have := HLEN.out; have := HLC.out; omega
            have n7 : len ≤ cap := HLC.out
            have n8 : (4 : Int) ≤ (len : Int) := by omega
            clear hrow hzr hh hb5 hgw CR HB4 HMM HR4 HRB E5 HM2 HBEL HR hrl
            go_wp2
            go_quiet (first | (go_at_call 21; (with_reducible exact Calls.quiet_of_same (CQ1.out _))) | (go_at_call 13; (with_reducible exact Calls.quiet_of_same (CQ2.out _))))
            go_wp2
            go_ret
            exact ⟨rfl, HNX.out _ (drewnK (Below.refl _ _))⟩
          · exfalso
            have h1 := congrArg List.length h0
            rw [hrl] at h1
            have := HLEN.out
            simp at h1
            omega
end Go.Proofs.YtcgjlbpokmlkbaaDoor
