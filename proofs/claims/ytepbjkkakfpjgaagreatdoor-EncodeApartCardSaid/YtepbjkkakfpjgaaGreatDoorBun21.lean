import Derived.Test.YtepbjkkakfpjgaaGreatDoorBun20
import Derived.Test.YtepbjkkakfpjgaaGreatDoorBun14
import Derived.Test.YtepbjkkakfpjgaaGreatDoorBun15
import Derived.Deep.RegionHeld3
/-
  ENCODE: EncodeApart, walked (tools/gen_encapart.py).
-/
namespace Go.Proofs.YtepbjkkakfpjgaaGreatDoor.Enc
open Go.RowKit Go.Proofs.YtepbjkkakfpjgaaGreatDoor.Leb Go.Proofs.YtepbjkkakfpjgaaGreatDoor.Instr Go.Proofs.YtepbjkkakfpjgaaGreatDoor.Mod
set_option linter.unusedVariables false

theorem held_out22 {w w1 : World} {p0 p1 p2 p3 p4 p5 p6 p7 p8 p9 p10 p11 p12 p13 p14 p15 p16 p17 p18 p19 p20 p21 : Addr} {v0 v1 v2 v3 v4 v5 v6 v7 v8 v9 v10 v11 v12 v13 v14 v15 v16 v17 v18 v19 v20 v21 : Value} (h : Below w.heap.size w w1 ∧ w1.cell? p0 = some v0 ∧ w1.cell? p1 = some v1 ∧ w1.cell? p2 = some v2 ∧ w1.cell? p3 = some v3 ∧ w1.cell? p4 = some v4 ∧ w1.cell? p5 = some v5 ∧ w1.cell? p6 = some v6 ∧ w1.cell? p7 = some v7 ∧ w1.cell? p8 = some v8 ∧ w1.cell? p9 = some v9 ∧ w1.cell? p10 = some v10 ∧ w1.cell? p11 = some v11 ∧ w1.cell? p12 = some v12 ∧ w1.cell? p13 = some v13 ∧ w1.cell? p14 = some v14 ∧ w1.cell? p15 = some v15 ∧ w1.cell? p16 = some v16 ∧ w1.cell? p17 = some v17 ∧ w1.cell? p18 = some v18 ∧ w1.cell? p19 = some v19 ∧ w1.cell? p20 = some v20 ∧ w1.cell? p21 = some v21) : Below w.heap.size w w1 := h.1
theorem held_keep22 {w w1 w2 : World} {p0 p1 p2 p3 p4 p5 p6 p7 p8 p9 p10 p11 p12 p13 p14 p15 p16 p17 p18 p19 p20 p21 : Addr} {v0 v1 v2 v3 v4 v5 v6 v7 v8 v9 v10 v11 v12 v13 v14 v15 v16 v17 v18 v19 v20 v21 : Value} (h : Below w.heap.size w w1 ∧ w1.cell? p0 = some v0 ∧ w1.cell? p1 = some v1 ∧ w1.cell? p2 = some v2 ∧ w1.cell? p3 = some v3 ∧ w1.cell? p4 = some v4 ∧ w1.cell? p5 = some v5 ∧ w1.cell? p6 = some v6 ∧ w1.cell? p7 = some v7 ∧ w1.cell? p8 = some v8 ∧ w1.cell? p9 = some v9 ∧ w1.cell? p10 = some v10 ∧ w1.cell? p11 = some v11 ∧ w1.cell? p12 = some v12 ∧ w1.cell? p13 = some v13 ∧ w1.cell? p14 = some v14 ∧ w1.cell? p15 = some v15 ∧ w1.cell? p16 = some v16 ∧ w1.cell? p17 = some v17 ∧ w1.cell? p18 = some v18 ∧ w1.cell? p19 = some v19 ∧ w1.cell? p20 = some v20 ∧ w1.cell? p21 = some v21) (hb : Below w1.heap.size w1 w2) : Below w.heap.size w w2 ∧ w2.cell? p0 = some v0 ∧ w2.cell? p1 = some v1 ∧ w2.cell? p2 = some v2 ∧ w2.cell? p3 = some v3 ∧ w2.cell? p4 = some v4 ∧ w2.cell? p5 = some v5 ∧ w2.cell? p6 = some v6 ∧ w2.cell? p7 = some v7 ∧ w2.cell? p8 = some v8 ∧ w2.cell? p9 = some v9 ∧ w2.cell? p10 = some v10 ∧ w2.cell? p11 = some v11 ∧ w2.cell? p12 = some v12 ∧ w2.cell? p13 = some v13 ∧ w2.cell? p14 = some v14 ∧ w2.cell? p15 = some v15 ∧ w2.cell? p16 = some v16 ∧ w2.cell? p17 = some v17 ∧ w2.cell? p18 = some v18 ∧ w2.cell? p19 = some v19 ∧ w2.cell? p20 = some v20 ∧ w2.cell? p21 = some v21 := by
  obtain ⟨h, h0, h1, h2, h3, h4, h5, h6, h7, h8, h9, h10, h11, h12, h13, h14, h15, h16, h17, h18, h19, h20, h21⟩ := h
  exact ⟨thenB h hb, keep hb h0, keep hb h1, keep hb h2, keep hb h3, keep hb h4, keep hb h5, keep hb h6, keep hb h7, keep hb h8, keep hb h9, keep hb h10, keep hb h11, keep hb h12, keep hb h13, keep hb h14, keep hb h15, keep hb h16, keep hb h17, keep hb h18, keep hb h19, keep hb h20, keep hb h21⟩
set_option maxRecDepth 100000 in
set_option maxHeartbeats 8000000 in
theorem encodeApart_walk (w : World) (a : Md) (ha : ModAt w.heap.size w a) (fa : a.fits) (ca : a.caps) (ra : a.ranged) (b : Md) (hb : ModAt w.heap.size w b) (fb : b.fits) (cb : b.caps) (rb : b.ranged) (hT : Nams w ∧ Utf.Tabs w) :
    Calls Tryz.prog 3 #[.agg a.v, .agg b.v] w fun e w' => e = .returned (.bool true) ∧ Below w.heap.size w w' := by
  have hb0 := (Below.refl w.heap.size w).alloc (Nat.le_refl _) (.cells a.v 32)
  have hb1 := thenA hb0 (.cells b.v 32)
  have HB := hid hb1
  have HA0 := hid (ha.on hb1)
  have HC0 := hid (hb.on hb1)
  have HXA := hid ((BoxAt.made w a.v 32).keep ((Below.refl _ _).alloc (Nat.le_refl _) (.cells b.v 32)))
  have HXB := hid (BoxAt.made (w.alloc (.cells a.v 32)) b.v 32)
  rw [World.size_alloc] at HXB
  have FA := hid fa
  have FB := hid fb
  have RA := hid ra
  have RB := hid rb
  have AW := hid (awake8 _ (hT.1.below hb1) (hT.2.below hb1))
  have HT := hid (hT.1.below hb1)
  have HU := hid (hT.2.below hb1)
  unfold Md.v at HB HA0 HC0 HXA HXB AW HT HU ⊢
  clear ha hb fa fb ca cb ra rb hT hb0 hb1
  go_enter Tryz.func3, Tryz.ntmps3
  go_wp2_with fail
  refine AW.out.mono ?_
  rintro e1 w1 ⟨rfl, hb⟩
  have HB1 := hid (thenB HB.out hb)
  have HA1 := hid (HA0.out.on hb)
  have HC1 := hid (HC0.out.on hb)
  have HXA1 := hid (HXA.out.keep hb)
  have HXB1 := hid (HXB.out.keep hb)
  have HT1 := hid (HT.out.below hb)
  have HU1 := hid (HU.out.below hb)
  clear HB HA0 HC0 HXA HXB HT HU hb AW
  have x0 := HXA1.out 0 _ rfl
  have y0 := HXB1.out 0 _ rfl
  have x1 := HXA1.out 1 _ rfl
  have y1 := HXB1.out 1 _ rfl
  have x2 := HXA1.out 2 _ rfl
  have y2 := HXB1.out 2 _ rfl
  have x3 := HXA1.out 3 _ rfl
  have y3 := HXB1.out 3 _ rfl
  have x4 := HXA1.out 4 _ rfl
  have y4 := HXB1.out 4 _ rfl
  have x5 := HXA1.out 5 _ rfl
  have y5 := HXB1.out 5 _ rfl
  have x6 := HXA1.out 6 _ rfl
  have y6 := HXB1.out 6 _ rfl
  have x7 := HXA1.out 7 _ rfl
  have y7 := HXB1.out 7 _ rfl
  have x8 := HXA1.out 8 _ rfl
  have y8 := HXB1.out 8 _ rfl
  have x9 := HXA1.out 9 _ rfl
  have y9 := HXB1.out 9 _ rfl
  have x10 := HXA1.out 10 _ rfl
  have y10 := HXB1.out 10 _ rfl
  have C := hid (Big_any a w1 HA1.out FA.out)
  unfold Md.v at C
  go_wp2_with fail
  refine C.out.mono ?_
  rintro e2 w2 ⟨g1, rfl, hs1, hb⟩
  have HB2 := hid (thenB HB1.out hb)
  have HA2 := hid (HA1.out.on hb)
  have HC2 := hid (HC1.out.on hb)
  have HXA2 := hid (HXA1.out.keep hb)
  have HXB2 := hid (HXB1.out.keep hb)
  have HT2 := hid (HT1.out.below hb)
  have HU2 := hid (HU1.out.below hb)
  clear HB1 HA1 HC1 HXA1 HXB1 HT1 HU1 hb C x0 y0 x1 y1 x2 y2 x3 y3 x4 y4 x5 y5 x6 y6 x7 y7 x8 y8 x9 y9 x10 y10
  have x0 := HXA2.out 0 _ rfl
  have y0 := HXB2.out 0 _ rfl
  have x1 := HXA2.out 1 _ rfl
  have y1 := HXB2.out 1 _ rfl
  have x2 := HXA2.out 2 _ rfl
  have y2 := HXB2.out 2 _ rfl
  have x3 := HXA2.out 3 _ rfl
  have y3 := HXB2.out 3 _ rfl
  have x4 := HXA2.out 4 _ rfl
  have y4 := HXB2.out 4 _ rfl
  have x5 := HXA2.out 5 _ rfl
  have y5 := HXB2.out 5 _ rfl
  have x6 := HXA2.out 6 _ rfl
  have y6 := HXB2.out 6 _ rfl
  have x7 := HXA2.out 7 _ rfl
  have y7 := HXB2.out 7 _ rfl
  have x8 := HXA2.out 8 _ rfl
  have y8 := HXB2.out 8 _ rfl
  have x9 := HXA2.out 9 _ rfl
  have y9 := HXB2.out 9 _ rfl
  have x10 := HXA2.out 10 _ rfl
  have y10 := HXB2.out 10 _ rfl
  cases g1 with
  | true =>
    clear hs1
    go_wp2
    go_ret
    exact ⟨rfl, HB2.out⟩
  | false =>
    have SA := hid (hs1 rfl).1
    clear hs1
    have C := hid (Big_any b w2 HC2.out FB.out)
    unfold Md.v at C
    go_wp2_with fail
    refine C.out.mono ?_
    rintro e3 w3 ⟨g2, rfl, hs2, hb⟩
    have HB3 := hid (thenB HB2.out hb)
    have HA3 := hid (HA2.out.on hb)
    have HC3 := hid (HC2.out.on hb)
    have HXA3 := hid (HXA2.out.keep hb)
    have HXB3 := hid (HXB2.out.keep hb)
    have HT3 := hid (HT2.out.below hb)
    have HU3 := hid (HU2.out.below hb)
    clear HB2 HA2 HC2 HXA2 HXB2 HT2 HU2 hb C x0 y0 x1 y1 x2 y2 x3 y3 x4 y4 x5 y5 x6 y6 x7 y7 x8 y8 x9 y9 x10 y10
    have x0 := HXA3.out 0 _ rfl
    have y0 := HXB3.out 0 _ rfl
    have x1 := HXA3.out 1 _ rfl
    have y1 := HXB3.out 1 _ rfl
    have x2 := HXA3.out 2 _ rfl
    have y2 := HXB3.out 2 _ rfl
    have x3 := HXA3.out 3 _ rfl
    have y3 := HXB3.out 3 _ rfl
    have x4 := HXA3.out 4 _ rfl
    have y4 := HXB3.out 4 _ rfl
    have x5 := HXA3.out 5 _ rfl
    have y5 := HXB3.out 5 _ rfl
    have x6 := HXA3.out 6 _ rfl
    have y6 := HXB3.out 6 _ rfl
    have x7 := HXA3.out 7 _ rfl
    have y7 := HXB3.out 7 _ rfl
    have x8 := HXA3.out 8 _ rfl
    have y8 := HXB3.out 8 _ rfl
    have x9 := HXA3.out 9 _ rfl
    have y9 := HXB3.out 9 _ rfl
    have x10 := HXA3.out 10 _ rfl
    have y10 := HXB3.out 10 _ rfl
    cases g2 with
    | true =>
      clear hs2
      go_wp2
      go_ret
      exact ⟨rfl, HB3.out⟩
    | false =>
      have SB := hid (hs2 rfl).1
      clear hs2
      have YA := hid (ready_of HT3.out HU3.out HA3.out FA.out RA.out SA.out)
      have YB := hid (ready_of HT3.out HU3.out HC3.out FB.out RB.out SB.out)
      have AP := hid (fun h1 h2 => apart_is YA.out YB.out SA.out SB.out h1 h2)
      have C := hid (Module_any a w3 YA.out (fun h => fit_of _ h SA.out (enc_few SA.out)))
      obtain ⟨ea, hea⟩ : ∃ e, (modR a).2 = e := ⟨_, rfl⟩
      rw [hea] at C AP
      unfold Md.v at C
      clear hea
      go_wp2_with fail
      refine C.out.mono ?_
      rintro e4 w4 ⟨p4, n4, c4, rfl, hn4, hy4, hz4, hb⟩
      have HN4 := hid hn4
      have HY4 := hid hy4
      clear hn4 hy4 hz4 YA YB
      have HB4 := hid (thenB HB3.out hb)
      have HA4 := hid (HA3.out.on hb)
      have HC4 := hid (HC3.out.on hb)
      have HXA4 := hid (HXA3.out.keep hb)
      have HXB4 := hid (HXB3.out.keep hb)
      have HT4 := hid (HT3.out.below hb)
      have HU4 := hid (HU3.out.below hb)
      clear HB3 HA3 HC3 HXA3 HXB3 HT3 HU3 hb C x0 y0 x1 y1 x2 y2 x3 y3 x4 y4 x5 y5 x6 y6 x7 y7 x8 y8 x9 y9 x10 y10
      have x0 := HXA4.out 0 _ rfl
      have y0 := HXB4.out 0 _ rfl
      have x1 := HXA4.out 1 _ rfl
      have y1 := HXB4.out 1 _ rfl
      have x2 := HXA4.out 2 _ rfl
      have y2 := HXB4.out 2 _ rfl
      have x3 := HXA4.out 3 _ rfl
      have y3 := HXB4.out 3 _ rfl
      have x4 := HXA4.out 4 _ rfl
      have y4 := HXB4.out 4 _ rfl
      have x5 := HXA4.out 5 _ rfl
      have y5 := HXB4.out 5 _ rfl
      have x6 := HXA4.out 6 _ rfl
      have y6 := HXB4.out 6 _ rfl
      have x7 := HXA4.out 7 _ rfl
      have y7 := HXB4.out 7 _ rfl
      have x8 := HXA4.out 8 _ rfl
      have y8 := HXB4.out 8 _ rfl
      have x9 := HXA4.out 9 _ rfl
      have y9 := HXB4.out 9 _ rfl
      have x10 := HXA4.out 10 _ rfl
      have y10 := HXB4.out 10 _ rfl
      have C := hid (Module_any b w4 (ready_of HT4.out HU4.out HC4.out FB.out RB.out SB.out) (fun h => fit_of _ h SB.out (enc_few SB.out)))
      obtain ⟨eb, heb⟩ : ∃ e, (modR b).2 = e := ⟨_, rfl⟩
      rw [heb] at C AP
      unfold Md.v at C
      clear heb
      go_wp2_with fail
      refine C.out.mono ?_
      rintro e5 w5 ⟨p5, n5, c5, rfl, hn5, hy5, hz5, hb⟩
      have HN5 := hid hn5
      have HY5 := hid hy5
      have HY6 := hid (HY4.out.below hb)
      clear hn5 hy5 hz5 HY4
      have HB5 := hid (thenB HB4.out hb)
      have HA5 := hid (HA4.out.on hb)
      have HC5 := hid (HC4.out.on hb)
      have HXA5 := hid (HXA4.out.keep hb)
      have HXB5 := hid (HXB4.out.keep hb)
      have HT5 := hid (HT4.out.below hb)
      have HU5 := hid (HU4.out.below hb)
      clear HB4 HA4 HC4 HXA4 HXB4 HT4 HU4 hb C x0 y0 x1 y1 x2 y2 x3 y3 x4 y4 x5 y5 x6 y6 x7 y7 x8 y8 x9 y9 x10 y10
      have x0 := HXA5.out 0 _ rfl
      have y0 := HXB5.out 0 _ rfl
      have x1 := HXA5.out 1 _ rfl
      have y1 := HXB5.out 1 _ rfl
      have x2 := HXA5.out 2 _ rfl
      have y2 := HXB5.out 2 _ rfl
      have x3 := HXA5.out 3 _ rfl
      have y3 := HXB5.out 3 _ rfl
      have x4 := HXA5.out 4 _ rfl
      have y4 := HXB5.out 4 _ rfl
      have x5 := HXA5.out 5 _ rfl
      have y5 := HXB5.out 5 _ rfl
      have x6 := HXA5.out 6 _ rfl
      have y6 := HXB5.out 6 _ rfl
      have x7 := HXA5.out 7 _ rfl
      have y7 := HXB5.out 7 _ rfl
      have x8 := HXA5.out 8 _ rfl
      have y8 := HXB5.out 8 _ rfl
      have x9 := HXA5.out 9 _ rfl
      have y9 := HXB5.out 9 _ rfl
      have x10 := HXA5.out 10 _ rfl
      have y10 := HXB5.out 10 _ rfl
      by_cases kea : ea = 0
      rotate_left
      · have q1 : (ea == 0) = false := by simpa using kea
        have q2 : (ea != 0) = true := by simpa using kea
        clear AP
        go_wp2
        go_ret
        exact ⟨rfl, HB5.out⟩
      subst kea
      by_cases keb : eb = 0
      rotate_left
      · have q1 : (eb == 0) = false := by simpa using keb
        have q2 : (eb != 0) = true := by simpa using keb
        clear AP
        go_wp2
        go_ret
        exact ⟨rfl, HB5.out⟩
      subst keb
      have HAP := hid (AP.out rfl rfl)
      clear AP
      have CB := hid (fun (W : World) (h : Below w5.heap.size w5 W) => sameBytes_is p4 p5 n4 c4 n5 c5 (modR a).1 (modR b).1 W HN4.out HN5.out (HY6.out.below h) (HY5.out.below h))
      have CW := hid (fun (W : World) (h : Below w5.heap.size w5 W) => SameWasm_any a b W (HA5.out.on h) (HC5.out.on h) FA.out FB.out RA.out.db RB.out.db)
      rw [HAP.out] at CB
      obtain ⟨s, hs⟩ : ∃ s, is (Same a b) = s := ⟨_, rfl⟩
      rw [hs] at CB CW
      unfold Md.v at CW
      clear hs HAP HN4 HN5 HY5 HY6 SA SB FA FB RA RB HA5 HC5 HT5 HU5
      have hS0 : Below w5.heap.size w5 w5.drew ∧ w5.drew.cell? ⟨w.heap.size, 0, none⟩ = some (.slice a.ty'.a a.ty.length a.ty'.c) ∧ w5.drew.cell? ⟨w.heap.size, 1, none⟩ = some (.slice a.im'.a a.im.length a.im'.c) ∧ w5.drew.cell? ⟨w.heap.size, 2, none⟩ = some (.slice a.fu'.a a.fu.length a.fu'.c) ∧ w5.drew.cell? ⟨w.heap.size, 3, none⟩ = some (.slice a.tb'.a a.tb.length a.tb'.c) ∧ w5.drew.cell? ⟨w.heap.size, 4, none⟩ = some (.slice a.me'.a a.me.length a.me'.c) ∧ w5.drew.cell? ⟨w.heap.size, 5, none⟩ = some (.slice a.gl'.a a.gl.length a.gl'.c) ∧ w5.drew.cell? ⟨w.heap.size, 6, none⟩ = some (.slice a.ex'.a a.ex.length a.ex'.c) ∧ w5.drew.cell? ⟨w.heap.size, 7, none⟩ = some (.bool a.st) ∧ w5.drew.cell? ⟨w.heap.size, 8, none⟩ = some (.int .u32 a.sn) ∧ w5.drew.cell? ⟨w.heap.size, 9, none⟩ = some (.slice a.el'.a a.el.length a.el'.c) ∧ w5.drew.cell? ⟨w.heap.size, 10, none⟩ = some (.slice a.da'.a a.da.length a.da'.c) ∧ w5.drew.cell? ⟨w.heap.size + 1, 0, none⟩ = some (.slice b.ty'.a b.ty.length b.ty'.c) ∧ w5.drew.cell? ⟨w.heap.size + 1, 1, none⟩ = some (.slice b.im'.a b.im.length b.im'.c) ∧ w5.drew.cell? ⟨w.heap.size + 1, 2, none⟩ = some (.slice b.fu'.a b.fu.length b.fu'.c) ∧ w5.drew.cell? ⟨w.heap.size + 1, 3, none⟩ = some (.slice b.tb'.a b.tb.length b.tb'.c) ∧ w5.drew.cell? ⟨w.heap.size + 1, 4, none⟩ = some (.slice b.me'.a b.me.length b.me'.c) ∧ w5.drew.cell? ⟨w.heap.size + 1, 5, none⟩ = some (.slice b.gl'.a b.gl.length b.gl'.c) ∧ w5.drew.cell? ⟨w.heap.size + 1, 6, none⟩ = some (.slice b.ex'.a b.ex.length b.ex'.c) ∧ w5.drew.cell? ⟨w.heap.size + 1, 7, none⟩ = some (.bool b.st) ∧ w5.drew.cell? ⟨w.heap.size + 1, 8, none⟩ = some (.int .u32 b.sn) ∧ w5.drew.cell? ⟨w.heap.size + 1, 9, none⟩ = some (.slice b.el'.a b.el.length b.el'.c) ∧ w5.drew.cell? ⟨w.heap.size + 1, 10, none⟩ = some (.slice b.da'.a b.da.length b.da'.c) := ⟨(Below.refl w5.heap.size w5).drew, x0, x1, x2, x3, x4, x5, x6, x7, x8, x9, x10, y0, y1, y2, y3, y4, y5, y6, y7, y8, y9, y10⟩
      clear HXA5 HXB5
      go_wp2
      (first | go_loud (go_region_held3 (fun w' => Below w5.heap.size w5 w' ∧ w'.cell? ⟨w.heap.size, 0, none⟩ = some (.slice a.ty'.a a.ty.length a.ty'.c) ∧ w'.cell? ⟨w.heap.size, 1, none⟩ = some (.slice a.im'.a a.im.length a.im'.c) ∧ w'.cell? ⟨w.heap.size, 2, none⟩ = some (.slice a.fu'.a a.fu.length a.fu'.c) ∧ w'.cell? ⟨w.heap.size, 3, none⟩ = some (.slice a.tb'.a a.tb.length a.tb'.c) ∧ w'.cell? ⟨w.heap.size, 4, none⟩ = some (.slice a.me'.a a.me.length a.me'.c) ∧ w'.cell? ⟨w.heap.size, 5, none⟩ = some (.slice a.gl'.a a.gl.length a.gl'.c) ∧ w'.cell? ⟨w.heap.size, 6, none⟩ = some (.slice a.ex'.a a.ex.length a.ex'.c) ∧ w'.cell? ⟨w.heap.size, 7, none⟩ = some (.bool a.st) ∧ w'.cell? ⟨w.heap.size, 8, none⟩ = some (.int .u32 a.sn) ∧ w'.cell? ⟨w.heap.size, 9, none⟩ = some (.slice a.el'.a a.el.length a.el'.c) ∧ w'.cell? ⟨w.heap.size, 10, none⟩ = some (.slice a.da'.a a.da.length a.da'.c) ∧ w'.cell? ⟨w.heap.size + 1, 0, none⟩ = some (.slice b.ty'.a b.ty.length b.ty'.c) ∧ w'.cell? ⟨w.heap.size + 1, 1, none⟩ = some (.slice b.im'.a b.im.length b.im'.c) ∧ w'.cell? ⟨w.heap.size + 1, 2, none⟩ = some (.slice b.fu'.a b.fu.length b.fu'.c) ∧ w'.cell? ⟨w.heap.size + 1, 3, none⟩ = some (.slice b.tb'.a b.tb.length b.tb'.c) ∧ w'.cell? ⟨w.heap.size + 1, 4, none⟩ = some (.slice b.me'.a b.me.length b.me'.c) ∧ w'.cell? ⟨w.heap.size + 1, 5, none⟩ = some (.slice b.gl'.a b.gl.length b.gl'.c) ∧ w'.cell? ⟨w.heap.size + 1, 6, none⟩ = some (.slice b.ex'.a b.ex.length b.ex'.c) ∧ w'.cell? ⟨w.heap.size + 1, 7, none⟩ = some (.bool b.st) ∧ w'.cell? ⟨w.heap.size + 1, 8, none⟩ = some (.int .u32 b.sn) ∧ w'.cell? ⟨w.heap.size + 1, 9, none⟩ = some (.slice b.el'.a b.el.length b.el'.c) ∧ w'.cell? ⟨w.heap.size + 1, 10, none⟩ = some (.slice b.da'.a b.da.length b.da'.c))
          (first | assumption | exact held_keep22 (by assumption) (by assumption))
          (first | (go_at_call 11; (with_reducible refine (CB.out _ (held_out22 (by assumption))).mono ?_); rintro e8 w8 ⟨rfl, hb8⟩) | (go_at_call 12; (with_reducible refine (CW.out _ (held_out22 (by assumption))).mono ?_); rintro e9 w9 ⟨rfl, hb9⟩))) | fail)
      have H9 := hid (HB5.out.trans ((held_out22 (by assumption)).mono HB5.out.size))
      all_goals try go_wp2
      go_ret
      exact ⟨ret_bool (by simp), H9.out⟩
end Go.Proofs.YtepbjkkakfpjgaaGreatDoor.Enc
namespace Go.Proofs.YtepbjkkakfpjgaaGreatDoor
open Go.RowKit
set_option linter.unusedVariables false
theorem encodeApart_walk (w : World) (a : Mod.Md) (ha : Mod.ModAt w.heap.size w a) (fa : a.fits) (ca : a.caps) (ra : a.ranged) (b : Mod.Md) (hb : Mod.ModAt w.heap.size w b) (fb : b.fits) (cb : b.caps) (rb : b.ranged) (hT : Instr.Nams w ∧ Utf.Tabs w) :
    Calls Tryz.prog 3 #[.agg a.v, .agg b.v] w fun e w' => e = .returned (.bool true) ∧ Below w.heap.size w w' := Enc.encodeApart_walk w a ha fa ca ra b hb fb cb rb hT
end Go.Proofs.YtepbjkkakfpjgaaGreatDoor
