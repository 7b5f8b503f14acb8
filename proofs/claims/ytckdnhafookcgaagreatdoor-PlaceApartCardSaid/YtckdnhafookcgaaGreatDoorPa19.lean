import Derived.Test.YtckdnhafookcgaaGreatDoorPa18
import Derived.Test.YtckdnhafookcgaaGreatDoorPa04
import Derived.Test.YtckdnhafookcgaaGreatDoorCards
import Derived.Test.YtckdnhafookcgaaGreatDoorTie
namespace Go.Proofs.YtckdnhafookcgaaGreatDoor.Instr
end Go.Proofs.YtckdnhafookcgaaGreatDoor.Instr
namespace Go.Proofs.YtckdnhafookcgaaGreatDoor.Mod
end Go.Proofs.YtckdnhafookcgaaGreatDoor.Mod
namespace Go.Proofs.YtckdnhafookcgaaGreatDoor.Val
end Go.Proofs.YtckdnhafookcgaaGreatDoor.Val
namespace Go.Proofs.YtckdnhafookcgaaGreatDoor.Mem
end Go.Proofs.YtckdnhafookcgaaGreatDoor.Mem
namespace Go.Proofs.YtckdnhafookcgaaGreatDoor.Pl
open Go.RowKit Go.Shelf Go.Proofs.YtckdnhafookcgaaGreatDoor.Instr Go.Proofs.YtckdnhafookcgaaGreatDoor.Mod Go.Proofs.YtckdnhafookcgaaGreatDoor.Val
open Go.Proofs.YtckdnhafookcgaaGreatDoor.Mem (MemIs MemAt Wrote Keep isOwn Mm Read_any Write_hole Stay Out WroteH)
set_option linter.unusedVariables false

/-- Where a call laid bytes of its own. -/
def Lie (W : World) (a : Option Addr) (zs : List Int) : Prop := zs = [] ∨ ∃ g, a = some ⟨g, 0, none⟩ ∧ W.heap[g]? = some (.cells (zs.map (Value.int .u8)).toArray 5 (0, 0))
theorem Lie.bytes {W : World} {a : Option Addr} {zs : List Int} (h : Lie W a zs) (hz : ∀ z ∈ zs, 0 ≤ z ∧ z < 256) (hl : zs.length ≤ 1) : Bytes W a zs := by
  rcases h with h | ⟨g, rfl, hh⟩
  · exact ⟨hz, by omega, .inl h⟩
  · exact Mem.bytes_heap hh hz (by omega)
theorem Lie.keep {W W' : World} {a : Option Addr} {zs : List Int} (h : Lie W a zs) (hk : Keep W W') : Lie W' a zs := by
  rcases h with h | ⟨g, rfl, hh⟩
  · exact .inl h
  · exact .inr ⟨g, rfl, hk.cells hh rfl⟩
theorem Lie.below {W W' : World} {a : Option Addr} {zs : List Int} (h : Lie W a zs) (hb : Below W.heap.size W W') : Lie W' a zs := h.keep (Keep.of_below hb)
theorem got_lie {W w' : World} {zs : List Int} {e : Int} {en : Ending} (h : Mem.GotB W zs e en w') : ∃ a, en = .returned (.tuple #[.slice a zs.length zs.length, .int .i64 e]) ∧ Lie w' a zs := by
  rcases h with ⟨g, h1, h2, h3⟩ | ⟨h1, h2⟩
  · exact ⟨_, h1, .inr ⟨g, rfl, h3⟩⟩
  · exact ⟨none, by rw [h1, h2]; rfl, .inl h2⟩
/-- One byte read: what is refused, is refused as a byte's write is. -/
theorem read_one (mm : Mm) (s : Nat) (h : mm.ok) : ∃ zs eo, mm.read s 1 = (zs, eo) ∧ zs.length ≤ 1 ∧ (∀ z ∈ zs, 0 ≤ z ∧ z < 256) ∧ ∀ b, (mm.write s [b]).2 = eo := by
  unfold Mem.Mm.read Mem.Mm.write
  cases hh : mm.has s 1
  · refine ⟨[], 220, by simp, by simp, by simp, fun b => ?_⟩
    show (if mm.has s 1 then _ else _ : Mm × Int).2 = 220
    rw [hh]; rfl
  · refine ⟨Mem.rowF mm.f s 1, 0, by simp, by simp [Mem.rowF], fun z hz => ?_, fun b => ?_⟩
    · simp [Mem.rowF] at hz
      rw [hz]
      exact h.byte _
    · show (if mm.has s 1 then _ else _ : Mm × Int).2 = 0
      rw [hh]; rfl
set_option maxRecDepth 100000 in
set_option maxHeartbeats 8000000 in
theorem apart_go (m : Md) (n s : Nat) (v b : Int) (w : World) (hm : ModAt w.heap.size w m) (hf : m.fits) (hr : m.ranged) (hn : n ≤ 4294967295) (hs : s ≤ 4294967295) (hv : 0 ≤ v ∧ v < 4294967296) (hb : 0 ≤ b ∧ b < 256) (hT : Tb w) :
    Calls Tryz.prog 5 #[.agg m.v, .int .u32 n, .int .u32 v, .int .u32 s, .int .u8 b] w fun e w' => e = .returned (.bool true) ∧ Below w.heap.size w w' := by
  have HM := hid hm
  have HF := hid hf
  have HR := hid hr
  have HT := hid hT
  have HV := hid hv
  have HBB := hid hb
  have CL := hid (fun W (hb : Below w.heap.size w W) => Large_any m W ((hm.below hb).more hb.size) hf)
  have CW := hid (fun W (hb : Below w.heap.size w W) => wide_any m W ((hm.below hb).more hb.size) hf (fun l hl => hr.n0 l (List.mem_append_right _ hl)))
  have CN := hid (fun W (hb : Below w.heap.size w W) (hs : m.small 5000) => New_any m W ⟨(hm.below hb).more hb.size, small_few' hs (by omega) hf, hr, hs⟩ (hT.on hb))
  have hb0 := (Below.refl w.heap.size w).alloc (Nat.le_refl _) (.cells m.v 32)
  have HB0 := hid hb0
  have HX := hid (NB.made w m.v)
  have CA := hid (awake_p (w.alloc (.cells m.v 32)) (hT.on hb0))
  unfold Large at CL
  unfold SomeBool at CW
  unfold NewQ at CN
  unfold Md.v at CL CW CN CA HX HB0 ⊢
  clear hm hf hr hT hv hb hb0
  go_enter Tryz.func5, Tryz.ntmps5
  go_wp2_with fail
  refine CA.out.mono ?_
  rintro e w1 ⟨rfl, hb1⟩
  have HB1 := hid (thenB HB0.out hb1)
  have HX1 := hid (HX.out.below hb1)
  obtain ⟨n0, n1, n2, n3, n4, n5, n6, n7, n8, n9, n10⟩ := HX1.out.cs
  have C1 := hid (CL.out w1 HB1.out)
  clear CA hb1 CL HX HB0
  go_wp2_with fail
  refine C1.out.mono ?_
  rintro e w2 ⟨bl, rfl, hsm, hb2⟩
  have HB2 := hid (thenB HB1.out hb2)
  have HSM := hid hsm
  have HX2 := hid (HX1.out.below hb2)
  clear C1 hb2 HB1 hsm HX1 n0 n1 n2 n3 n4 n5 n6 n7 n8 n9 n10
  cases bl with
  | true =>
    clear HSM
    go_wp2
    go_ret
    exact ⟨rfl, HB2.out⟩
  | false =>
    have HS := hid (HSM.out rfl)
    clear HSM
    obtain ⟨n0, n1, n2, n3, n4, n5, n6, n7, n8, n9, n10⟩ := HX2.out.cs
    have C1 := hid (CW.out w2 HB2.out)
    clear CW
    go_wp2_with fail
    refine C1.out.mono ?_
    rintro e w3 ⟨bw, rfl, hb3⟩
    have HB3 := hid (thenB HB2.out hb3)
    have HX3 := hid (HX2.out.below hb3)
    clear C1 hb3 HB2 HX2 n0 n1 n2 n3 n4 n5 n6 n7 n8 n9 n10
    cases bw with
    | true =>
      go_wp2
      go_ret
      exact ⟨rfl, HB3.out⟩
    | false =>
      obtain ⟨n0, n1, n2, n3, n4, n5, n6, n7, n8, n9, n10⟩ := HX3.out.cs
      have C1 := hid (CN.out w3 HB3.out HS.out)
      go_wp2_with fail
      refine C1.out.mono ?_
      rintro e w4 ⟨hq, hb4⟩
      have HB4 := hid (thenB HB3.out hb4)
      have C2 := hid (CN.out w4 HB4.out HS.out)
      have HX4 := hid (HX3.out.below hb4)
      clear C1 hb4 CN HX3 n0 n1 n2 n3 n4 n5 n6 n7 n8 n9 n10
      obtain ⟨n0, n1, n2, n3, n4, n5, n6, n7, n8, n9, n10⟩ := HX4.out.cs
      rcases hq with ⟨er, hne, hnp, rfl⟩ | ⟨x, hi, p, H, gb, d, tv, mv, hnp, rfl, hbare, hpl⟩
      · have HNP := hid hnp
        have HNE := hid hne
        clear hnp hne
        go_wp2_with fail
        refine C2.out.mono ?_
        rintro e w5 ⟨hq, hb5⟩
        have HB5 := hid (thenB HB4.out hb5)
        have hq2 : e = .returned (.tuple #[.pointer none, .int .i64 er]) := by
          rcases hq with ⟨er2, h1, h2, h3⟩ | ⟨x, hi, p, H, gb, d, tv, mv, h1, _⟩
          · rw [HNP.out] at h2
            simp only [Prod.mk.injEq] at h2
            rw [h3, h2.1]
          · rw [HNP.out] at h1
            simp only [Prod.mk.injEq] at h1
            exact absurd h1.1 HNE.out
        subst hq2
        have hne : (er != 0) = true := by simpa using HNE.out
        clear C2 hq hb5 HB3 HB4 n0 n1 n2 n3 n4 n5 n6 n7 n8 n9 n10 HX4
        go_wp2
        go_ret
        exact ⟨rfl, HB5.out⟩
      · have HNP := hid hnp
        have HPL := hid hpl
        clear hnp hpl hbare
        go_wp2_with fail
        refine C2.out.mono ?_
        rintro e w5 ⟨hq, hb5⟩
        have HB5 := hid (thenB HB4.out hb5)
        obtain ⟨hi2, q, H2, gq, d2, tv2, mv2, rfl, hpl2⟩ : ∃ hi2 q H2 gq d2 tv2 mv2, e = .returned (.tuple #[.pointer (some ⟨q, 0, none⟩), .int .i64 0]) ∧ PlAt w4.heap.size hi2 w5 q H2 gq 1048576 d2 tv2 mv2 x := by
          rcases hq with ⟨er2, h1, h2, h3⟩ | ⟨x2, hi2, p2, H2, gb2, d2, tv2, mv2, h1, h2, h3, h4⟩
          · rw [HNP.out] at h2
            simp only [Prod.mk.injEq] at h2
            exact absurd h2.1.symm h1
          · rw [HNP.out] at h1
            simp only [Prod.mk.injEq, true_and] at h1
            subst h1
            exact ⟨hi2, p2, H2, gb2, d2, tv2, mv2, h2, h4⟩
        have HPQ := hid hpl2
        have HPL5 := hid (HPL.out.below hb5)
        have HB45 := hid hb5
        clear hq hb5 hpl2 C2 n0 n1 n2 n3 n4 n5 n6 n7 n8 n9 n10 HX4
        have hbel4 := HB4.out.size
        have QP := hid HPL5.out.q
        have QQ := hid HPQ.out.q
        have HLO := hid (show w.heap.size ≤ w3.heap.size ∧ w3.heap.size ≤ hi ∧ hi ≤ gb ∧ gb < w4.heap.size ∧ w4.heap.size ≤ hi2 ∧ hi2 ≤ q ∧ hi2 ≤ gq from ⟨HB3.out.size, HPL.out.lh, HPL.out.hg, HPL.out.gs.lt, HPQ.out.lh, HPQ.out.hp, HPQ.out.hg⟩)
        have CG := hid (Global_q QQ.out n hn)
        have CS := hid (SetGlobal_yes HPL5.out n hn v HV.out)
        unfold SetQ at CS
        obtain ⟨z, hz⟩ : ∃ z, globalG x.gs n = z := ⟨_, rfl⟩
        rw [hz] at CG
        have HZ := hid hz
        obtain ⟨z1, z2⟩ := z
        dsimp only at CG
        clear hz hbel4
        go_wp2_with fail
        refine CG.out.mono ?_
        rintro e w6 ⟨rfl, rfl⟩
        go_wp2_with fail
        refine CS.out.mono ?_
        rintro e w6 ⟨rfl, hp6, hsv, hsz⟩
        have QP6 := hid hp6.q
        have QQ6 := hid (QQ.out.save hsv (by have := HLO.out; omega) (by have := HLO.out; omega))
        have HSV := hid hsv
        have HB6 := hid (HB5.out.trans (hsv.below HB5.out.size (by have := HLO.out; omega)))
        have CG6 := hid (Global_q QQ6.out n hn)
        rw [HZ.out] at CG6
        dsimp only at CG6
        generalize setE x (d.gl.map (·.mu)) n = se
        generalize (setX x (d.gl.map (·.mu)) n v).gs = gs6 at QP6
        clear hp6 hsv hsz CS CG HZ
        go_wp2_with fail
        refine CG6.out.mono ?_
        rintro e w6b ⟨rfl, rfl⟩
        have CM := hid (Memory_q QP6.out)
        clear CG6
        cases hme : x.me with
        | none =>
          have hmv : mv = .pointer none := by
            have := HPL.out.me
            rw [hme] at this
            exact this
          have hmv2 : mv2 = .pointer none := by
            have := HPQ.out.me
            rw [hme] at this
            exact this
          subst hmv hmv2
          have CM2 := hid (Memory_q QQ6.out)
          clear hme
          go_wp2_with fail
          refine CM.out.mono ?_
          rintro e w7 ⟨rfl, rfl⟩
          go_wp2_with fail
          refine CM2.out.mono ?_
          rintro e w7 ⟨rfl, rfl⟩
          go_wp2
          go_ret
          exact ⟨rfl, HB6.out⟩
        | some mm =>
          obtain ⟨pm, rfl, hmp⟩ : ∃ pm, mv = .pointer (some ⟨pm, 0, none⟩) ∧ MemIs hi w4 pm 1048576 mm := by
            have := HPL.out.me
            rw [hme] at this
            exact this
          obtain ⟨qm, rfl, hmq⟩ : ∃ pm, mv2 = .pointer (some ⟨pm, 0, none⟩) ∧ MemIs hi2 w5 pm 1048576 mm := by
            have := HPQ.out.me
            rw [hme] at this
            exact this
          obtain ⟨mb, D, K', hK', hA4⟩ := hmp
          have HOUT := hid (fun E => hA4.out (C := w4.heap.size) (E := E) (Nat.le_refl _))
          have HA6 := hid ((hA4.below HB45.out).save HSV.out HPL5.out.gs rfl)
          have HM6 := hid (hmq.save HSV.out HPL5.out.gs rfl)
          have HKK := hid hK'
          clear hA4 hmq hme hK'
          obtain ⟨zs, eo, hrd, hzl, hzb, hwr⟩ := read_one mm s HM6.out.ok
          have CQ6 := hid (Memory_q QQ6.out)
          have CR6 := hid (Read_any HM6.out s 1 hs (by omega))
          rw [hrd] at CR6
          have HRD := hid hrd
          have HZL := hid hzl
          have HZB := hid hzb
          have HWR := hid hwr
          dsimp only at CR6
          clear hrd hzl hzb hwr
          go_wp2_with fail
          refine CM.out.mono ?_
          rintro e w7 ⟨rfl, rfl⟩
          go_wp2_with fail
          refine CQ6.out.mono ?_
          rintro e w7 ⟨rfl, rfl⟩
          go_wp2_with fail
          refine CR6.out.mono ?_
          rintro e w7 ⟨hgot, hb7⟩
          obtain ⟨ax, rfl, hlx⟩ := got_lie hgot
          have HLX := hid (hlx.below (belowAlloc w7 (.cells #[.int .u8 b] 5)))
          have QQ8 := hid ((QQ6.out.below hb7).below (belowAlloc w7 (.cells #[.int .u8 b] 5)))
          have HM8 := hid ((HM6.out.below hb7).below (belowAlloc w7 (.cells #[.int .u8 b] 5)))
          have HB8 := hid (thenA (thenB HB6.out hb7) (.cells #[.int .u8 b] 5))
          have hA8 := (HA6.out.below hb7).below (belowAlloc w7 (.cells #[.int .u8 b] 5))
          have CM7 := hid (Memory_q (QP6.out.below hb7))
          have CW8 := hid (Write_hole hA8 (HOUT.out _) (Nat.le_refl _) (by have h1 := HLO.out; have h2 := HB45.out.size; have h3 := HSV.out.size; have h4 := hb7.size; simp; omega) w7.heap.size 0 (some ⟨w7.heap.size, 0, none⟩) 1 1 s [b] rfl (fun z hz => by rw [List.mem_singleton.1 hz]; exact HBB.out) (by omega) (by omega) hs
            (fun _ => ⟨rfl, fun i hi' => by
              obtain rfl : i = 0 := by omega
              simp, ⟨_, heap_alloc_new w7 _, .inl rfl⟩⟩) (by have := HKK.out; omega))
          rw [HWR.out b] at CW8
          unfold WroteH at CW8
          clear CM CQ6 CR6 hlx hgot hb7 hA8 HOUT HA6 HM6 QP6 QQ6 HWR HKK
          go_wp2_with fail
          refine CM7.out.mono ?_
          rintro e w8 ⟨rfl, rfl⟩
          go_wp2_with fail
          refine CW8.out.mono ?_
          rintro e w9 ⟨rfl, hk9, hb9, hst9⟩
          have QQ9 := hid (QQ8.out.keep hk9)
          have HM9 := hid (HM8.out.stay (fun j h1 h2 => hst9 j (by have := HLO.out; omega) h2))
          have HLX9 := hid (HLX.out.keep hk9)
          have HB9 := hid (HB8.out.trans (hb9.mono (by have := HLO.out; omega)))
          clear CM7 CW8 hk9 hb9 hst9 QQ8 HM8 HLX HB8
          have CQ9 := hid (Memory_q QQ9.out)
          have CR9 := hid (Read_any HM9.out s 1 hs (by omega))
          rw [HRD.out] at CR9
          dsimp only at CR9
          go_wp2_with fail
          refine CQ9.out.mono ?_
          rintro e w10 ⟨rfl, rfl⟩
          go_wp2_with fail
          refine CR9.out.mono ?_
          rintro e w10 ⟨hgot, hb10⟩
          obtain ⟨ay, rfl, hly⟩ := got_lie hgot
          have CS := hid (SameBytes_yes ax ay zs.length zs.length zs.length zs.length zs w10 rfl rfl ((HLX9.out.below hb10).bytes HZB.out HZL.out) (hly.bytes HZB.out HZL.out))
          have HB10 := hid (thenB HB9.out hb10)
          clear hgot hb10 hly CQ9 CR9 HLX9 HM9 QQ9 HZB HZL HRD
          generalize zs.length = L at CS
          go_wp2_with fail
          refine CS.out.mono ?_
          rintro e w11 ⟨rfl, rfl⟩
          go_wp2
          go_ret
          exact ⟨rfl, HB10.out⟩
end Go.Proofs.YtckdnhafookcgaaGreatDoor.Pl
namespace Go.Proofs.YtckdnhafookcgaaGreatDoor
open Go.RowKit
set_option linter.unusedVariables false
theorem placeApart_walk (w : World) (m : Mod.Md) (hm : Mod.ModAt w.heap.size w m) (hf : m.fits) (_hc : m.caps) (hr : m.ranged) (n : Int) (hn : 0 ≤ n ∧ n ≤ 4294967295) (v : Int) (hv : 0 ≤ v ∧ v ≤ 4294967295) (s : Int) (hs : 0 ≤ s ∧ s ≤ 4294967295) (b : Int) (hb : 0 ≤ b ∧ b ≤ 255) (hT : Instr.Nams w ∧ Utf.Tabs w ∧ Num.Arit w) :
    Calls Tryz.prog 5 #[.agg m.v, .int .u32 n, .int .u32 v, .int .u32 s, .int .u8 b] w fun e w' => e = .returned (.bool true) ∧ Below w.heap.size w w' := by
  obtain ⟨S, rfl⟩ : ∃ S : Nat, s = (S : Int) := ⟨s.toNat, by omega⟩
  obtain ⟨N, rfl⟩ : ∃ N : Nat, n = (N : Int) := ⟨n.toNat, by omega⟩
  exact Pl.apart_go m N S v b w hm hf hr (by omega) (by omega) (by omega) (by omega) ⟨hT.1, hT.2.1, hT.2.2⟩
end Go.Proofs.YtckdnhafookcgaaGreatDoor

namespace Go.Proofs.YtckdnhafookcgaaGreatDoor.placeApart
open Go.ChangeShapes Go.WideShapes Go.ChangeAt Go.RowKit
open Go.ChangeMaps (open_string shut_string)
set_option linter.unusedVariables false

set_option maxRecDepth 100000 in
theorem lifted (os : Os) (started : os.Started) (H : Type) (enc : TypeId × Value → H) :
    ReturnsInHanded {} Tryz.checked os 5 .any (fun w args => (Rows.placeApartSpec.pre enc Tryz.prog Tryz.f5 [] false w args ∧ laidMetH Tryz.prog laid4 w) ∧ sizedMet enc Tryz.prog Tryz.f5 (OpenSpec.ofChange Rows.placeApartSpec) false w args)
      (Rows.placeApartSpec.post enc Tryz.prog Tryz.f5 false true false false) := by
  refine returnsInHanded_of_change_and (C := Tryz.checked) (X := fun w _ => laidMetH Tryz.prog laid4 w) (fun _ _ _ hh h => h.of_heap hh) ownK started (by kernel_rfl) Tryz.func5
    (ChangeSpec.witness_shaped (enc := enc) (C := Tryz.checked) (os := os) (X := fun w _ => laidMetH Tryz.prog laid4 w) false (World.laidAll Tryz.prog os laid4) #[.agg #[.slice none 0 0, .slice none 0 0, .slice none 0 0, .slice none 0 0, .slice none 0 0, .slice none 0 0, .slice none 0 0, .bool false, .int .u32 0, .slice none 0 0, .slice none 0 0], .int .u32 0, .int .u32 0, .int .u32 0, .int .u8 0] 8 (World.laidAll_os _ _ _)
      (World.shaped_of_ZipB (by kernel_rfl) (by kernel_rfl)) (by kernel_rfl) (by kernel_rfl) (by kernel_rfl)
      (by rw [MakeChecks.laidMetH_plain _ _ _ (by kernel_rfl)]; exact laidMet_laidAll _ (by kernel_rfl) (by kernel_rfl))) ?_
  intro W base args ds gs before hval0 hW _ hsz0 hL _
  have hval : ∀ (j : Nat) t v, Tryz.f5.params[j]? = some t → args[j]? = some v → Value.okWide Tryz.prog W .any base t v := hval0
  have hW' := hW
  obtain ⟨p, q, hA0, hV, rfl, hfz, hnd⟩ := hW
  have hA : DataW.TrodAll enc Tryz.prog W 0 (fun _ => true) true Tryz.f5.params.toList args.toList ds p := hA0
  have hsz : (DataW.weightsEach Tryz.prog (Tryz.f5.params.toList ++ Rows.placeApartSpec.plain.varTypes Tryz.prog) (ds ++ gs)).all (· ≤ reachBytes) = true := hsz0
  rw [Tryz.params5] at hA hval hsz
  obtain ⟨v0, vs0, d0, ds0, p0, q0, hargs, rfl, rfl, h0, r0⟩ := trodAll_cons hA
  obtain ⟨v1, vs1, d1, ds1, p1, q1, rfl, rfl, rfl, h1, r1⟩ := trodAll_cons r0
  obtain ⟨v2, vs2, d2, ds2, p2, q2, rfl, rfl, rfl, h2, r2⟩ := trodAll_cons r1
  obtain ⟨v3, vs3, d3, ds3, p3, q3, rfl, rfl, rfl, h3, r3⟩ := trodAll_cons r2
  obtain ⟨v4, vs4, d4, ds4, p4, q4, rfl, rfl, rfl, h4, r4⟩ := trodAll_cons r3
  obtain ⟨rfl, rfl, rfl⟩ := trodAll_nil r4
  obtain rfl : args = #[v0, v1, v2, v3, v4] := by cases args; simp_all
  obtain ⟨rfl, rfl⟩ := trodVars_none hV
  have k0 := h0
  have lt0 : ∀ x ∈ p0, x.block < W.heap.size := by obtain ⟨m, hm⟩ := k0; exact DataW.trod_lt m _ _ _ hm
  obtain ⟨m0, rfl, hm0, hf0, hc0, hr0⟩ := Mod.open_moduleR hsz 0 rfl rfl (hval 0 32 v0 rfl rfl) k0
  obtain ⟨a1, rfl, rfl, rfl, w1⟩ := open_int Tryz.underlying28 (hval 1 28 v1 rfl rfl) h1
  have b1 := bounds_u32 w1
  obtain ⟨a2, rfl, rfl, rfl, w2⟩ := open_int Tryz.underlying28 (hval 2 28 v2 rfl rfl) h2
  have b2 := bounds_u32 w2
  obtain ⟨a3, rfl, rfl, rfl, w3⟩ := open_int Tryz.underlying28 (hval 3 28 v3 rfl rfl) h3
  have b3 := bounds_u32 w3
  obtain ⟨a4, rfl, rfl, rfl, w4⟩ := open_int Tryz.underlying5 (hval 4 5 v4 rfl rfl) h4
  have b4 := bounds_u8 w4
  rw [MakeChecks.laidMetH_plain _ _ _ (by kernel_rfl)] at hL
  have hT := tabs_4 hL
  clear hA0 hval0
  refine (placeApart_walk W m0 hm0 hf0 hc0 hr0 a1 b1 a2 b2 a3 b3 a4 b4 hT).mono fun e W' ⟨he, bel⟩ => ?_
  subst he
  exact ⟨_, rfl, _, _, _, [], _, [], hW', trodAll_mk1 (shut_bool Tryz.underlying4 _), (trodAll_cons_mk (Below.trod laidOutK (by kernel_rfl) (of_decide_eq_true (by kernel_rfl)) k0 bel lt0) (trodAll_cons_mk (shut_int Tryz.underlying28 w1) (trodAll_cons_mk (shut_int Tryz.underlying28 w2) (trodAll_cons_mk (shut_int Tryz.underlying28 w3) (trodAll_cons_mk (shut_int Tryz.underlying5 w4) trodAll_mk0))))), rfl, bel.frame _, fun h => by cases h⟩
end Go.Proofs.YtckdnhafookcgaaGreatDoor.placeApart
