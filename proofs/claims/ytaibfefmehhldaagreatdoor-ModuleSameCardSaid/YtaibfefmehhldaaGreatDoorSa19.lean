import Derived.Test.YtaibfefmehhldaaGreatDoorSa17
import Derived.Test.YtaibfefmehhldaaGreatDoorSa11
import Derived.Test.YtaibfefmehhldaaGreatDoorSa09
import Derived.Test.YtaibfefmehhldaaGreatDoorSa18
import Derived.Test.YtaibfefmehhldaaGreatDoorSa04
import Derived.Deep.RegionHeld3
namespace Go.Proofs.YtaibfefmehhldaaGreatDoor.Instr
end Go.Proofs.YtaibfefmehhldaaGreatDoor.Instr
namespace Go.Proofs.YtaibfefmehhldaaGreatDoor.Mod
open Go.RowKit Go.Proofs.YtaibfefmehhldaaGreatDoor.Instr
set_option linter.unusedVariables false

theorem held_out22 {w w1 : World} {p0 p1 p2 p3 p4 p5 p6 p7 p8 p9 p10 p11 p12 p13 p14 p15 p16 p17 p18 p19 p20 p21 : Addr} {v0 v1 v2 v3 v4 v5 v6 v7 v8 v9 v10 v11 v12 v13 v14 v15 v16 v17 v18 v19 v20 v21 : Value} (h : Below w.heap.size w w1 ∧ w1.cell? p0 = some v0 ∧ w1.cell? p1 = some v1 ∧ w1.cell? p2 = some v2 ∧ w1.cell? p3 = some v3 ∧ w1.cell? p4 = some v4 ∧ w1.cell? p5 = some v5 ∧ w1.cell? p6 = some v6 ∧ w1.cell? p7 = some v7 ∧ w1.cell? p8 = some v8 ∧ w1.cell? p9 = some v9 ∧ w1.cell? p10 = some v10 ∧ w1.cell? p11 = some v11 ∧ w1.cell? p12 = some v12 ∧ w1.cell? p13 = some v13 ∧ w1.cell? p14 = some v14 ∧ w1.cell? p15 = some v15 ∧ w1.cell? p16 = some v16 ∧ w1.cell? p17 = some v17 ∧ w1.cell? p18 = some v18 ∧ w1.cell? p19 = some v19 ∧ w1.cell? p20 = some v20 ∧ w1.cell? p21 = some v21) : Below w.heap.size w w1 := h.1
theorem held_keep22 {w w1 w2 : World} {p0 p1 p2 p3 p4 p5 p6 p7 p8 p9 p10 p11 p12 p13 p14 p15 p16 p17 p18 p19 p20 p21 : Addr} {v0 v1 v2 v3 v4 v5 v6 v7 v8 v9 v10 v11 v12 v13 v14 v15 v16 v17 v18 v19 v20 v21 : Value} (h : Below w.heap.size w w1 ∧ w1.cell? p0 = some v0 ∧ w1.cell? p1 = some v1 ∧ w1.cell? p2 = some v2 ∧ w1.cell? p3 = some v3 ∧ w1.cell? p4 = some v4 ∧ w1.cell? p5 = some v5 ∧ w1.cell? p6 = some v6 ∧ w1.cell? p7 = some v7 ∧ w1.cell? p8 = some v8 ∧ w1.cell? p9 = some v9 ∧ w1.cell? p10 = some v10 ∧ w1.cell? p11 = some v11 ∧ w1.cell? p12 = some v12 ∧ w1.cell? p13 = some v13 ∧ w1.cell? p14 = some v14 ∧ w1.cell? p15 = some v15 ∧ w1.cell? p16 = some v16 ∧ w1.cell? p17 = some v17 ∧ w1.cell? p18 = some v18 ∧ w1.cell? p19 = some v19 ∧ w1.cell? p20 = some v20 ∧ w1.cell? p21 = some v21) (hb : Below w1.heap.size w1 w2) : Below w.heap.size w w2 ∧ w2.cell? p0 = some v0 ∧ w2.cell? p1 = some v1 ∧ w2.cell? p2 = some v2 ∧ w2.cell? p3 = some v3 ∧ w2.cell? p4 = some v4 ∧ w2.cell? p5 = some v5 ∧ w2.cell? p6 = some v6 ∧ w2.cell? p7 = some v7 ∧ w2.cell? p8 = some v8 ∧ w2.cell? p9 = some v9 ∧ w2.cell? p10 = some v10 ∧ w2.cell? p11 = some v11 ∧ w2.cell? p12 = some v12 ∧ w2.cell? p13 = some v13 ∧ w2.cell? p14 = some v14 ∧ w2.cell? p15 = some v15 ∧ w2.cell? p16 = some v16 ∧ w2.cell? p17 = some v17 ∧ w2.cell? p18 = some v18 ∧ w2.cell? p19 = some v19 ∧ w2.cell? p20 = some v20 ∧ w2.cell? p21 = some v21 := by
  obtain ⟨h, h0, h1, h2, h3, h4, h5, h6, h7, h8, h9, h10, h11, h12, h13, h14, h15, h16, h17, h18, h19, h20, h21⟩ := h
  exact ⟨thenB h hb, keep hb h0, keep hb h1, keep hb h2, keep hb h3, keep hb h4, keep hb h5, keep hb h6, keep hb h7, keep hb h8, keep hb h9, keep hb h10, keep hb h11, keep hb h12, keep hb h13, keep hb h14, keep hb h15, keep hb h16, keep hb h17, keep hb h18, keep hb h19, keep hb h20, keep hb h21⟩
set_option maxRecDepth 100000 in
set_option maxHeartbeats 8000000 in
theorem moduleSame_walk (w : World) (a b : Md) (ha : ModAt w.heap.size w a) (hb : ModAt w.heap.size w b) (fa : a.fits) (fb : b.fits) (ra : a.ranged) (rb : b.ranged) (hT : Nams w ∧ Utf.Tabs w) :
    Calls Tryz.prog 3 #[.agg a.v, .agg b.v] w fun e w' => e = .returned (.bool true) ∧ Below w.heap.size w w' := by
  have hb0 := (Below.refl w.heap.size w).alloc (Nat.le_refl _) (.cells a.v 32)
  have hb1 := thenA hb0 (.cells b.v 32)
  have HB0 := hid hb1
  have HA0 := hid (ha.on hb1)
  have HM0 := hid (hb.on hb1)
  have HXA0 := hid ((BoxAt.made w a.v 32).keep ((Below.refl _ _).alloc (Nat.le_refl _) (.cells b.v 32)))
  have HXB0 := hid (BoxAt.made (w.alloc (.cells a.v 32)) b.v 32)
  rw [World.size_alloc] at HXB0
  have FA := hid fa
  have FB := hid fb
  have RA := hid ra
  have RB := hid rb
  have HT0 := hid (hT.1.below hb1)
  have HU0 := hid (hT.2.below hb1)
  have C := hid (Big_any a _ HA0.out fa)
  unfold Md.v at HB0 HA0 HM0 HXA0 HXB0 HT0 HU0 C ⊢
  clear ha hb fa fb ra rb hT hb0 hb1
  go_enter Tryz.func3, Tryz.ntmps3
  have x0 := HXA0.out 0 _ rfl
  have x1 := HXA0.out 1 _ rfl
  have x2 := HXA0.out 2 _ rfl
  have x3 := HXA0.out 3 _ rfl
  have x4 := HXA0.out 4 _ rfl
  have x5 := HXA0.out 5 _ rfl
  have x6 := HXA0.out 6 _ rfl
  have x7 := HXA0.out 7 _ rfl
  have x8 := HXA0.out 8 _ rfl
  have x9 := HXA0.out 9 _ rfl
  have x10 := HXA0.out 10 _ rfl
  have y0 := HXB0.out 0 _ rfl
  have y1 := HXB0.out 1 _ rfl
  have y2 := HXB0.out 2 _ rfl
  have y3 := HXB0.out 3 _ rfl
  have y4 := HXB0.out 4 _ rfl
  have y5 := HXB0.out 5 _ rfl
  have y6 := HXB0.out 6 _ rfl
  have y7 := HXB0.out 7 _ rfl
  have y8 := HXB0.out 8 _ rfl
  have y9 := HXB0.out 9 _ rfl
  have y10 := HXB0.out 10 _ rfl
  go_wp2_with fail
  refine C.out.mono ?_
  rintro e1 w1 ⟨g1, rfl, hs1, hb⟩
  have HB1 := hid (thenB HB0.out hb)
  have HA1 := hid (HA0.out.on hb)
  have HM1 := hid (HM0.out.on hb)
  have HXA1 := hid (HXA0.out.keep hb)
  have HXB1 := hid (HXB0.out.keep hb)
  have HT1 := hid (HT0.out.below hb)
  have HU1 := hid (HU0.out.below hb)
  clear HB0 HA0 HM0 HXA0 HXB0 HT0 HU0 hb C x0 y0 x1 y1 x2 y2 x3 y3 x4 y4 x5 y5 x6 y6 x7 y7 x8 y8 x9 y9 x10 y10
  cases g1 with
  | true =>
    clear hs1
    go_wp2
    go_ret
    exact ⟨rfl, HB1.out⟩
  | false =>
    have SA := hid (hs1 rfl).1
    clear hs1
    have C := hid (Big_any b _ HM1.out FB.out)
    unfold Md.v at C
    have x0 := HXA1.out 0 _ rfl
    have x1 := HXA1.out 1 _ rfl
    have x2 := HXA1.out 2 _ rfl
    have x3 := HXA1.out 3 _ rfl
    have x4 := HXA1.out 4 _ rfl
    have x5 := HXA1.out 5 _ rfl
    have x6 := HXA1.out 6 _ rfl
    have x7 := HXA1.out 7 _ rfl
    have x8 := HXA1.out 8 _ rfl
    have x9 := HXA1.out 9 _ rfl
    have x10 := HXA1.out 10 _ rfl
    have y0 := HXB1.out 0 _ rfl
    have y1 := HXB1.out 1 _ rfl
    have y2 := HXB1.out 2 _ rfl
    have y3 := HXB1.out 3 _ rfl
    have y4 := HXB1.out 4 _ rfl
    have y5 := HXB1.out 5 _ rfl
    have y6 := HXB1.out 6 _ rfl
    have y7 := HXB1.out 7 _ rfl
    have y8 := HXB1.out 8 _ rfl
    have y9 := HXB1.out 9 _ rfl
    have y10 := HXB1.out 10 _ rfl
    go_wp2_with fail
    refine C.out.mono ?_
    rintro e2 w2 ⟨g2, rfl, hs2, hb⟩
    have HB2 := hid (thenB HB1.out hb)
    have HA2 := hid (HA1.out.on hb)
    have HM2 := hid (HM1.out.on hb)
    have HXA2 := hid (HXA1.out.keep hb)
    have HXB2 := hid (HXB1.out.keep hb)
    have HT2 := hid (HT1.out.below hb)
    have HU2 := hid (HU1.out.below hb)
    clear HB1 HA1 HM1 HXA1 HXB1 HT1 HU1 hb C x0 y0 x1 y1 x2 y2 x3 y3 x4 y4 x5 y5 x6 y6 x7 y7 x8 y8 x9 y9 x10 y10
    cases g2 with
    | true =>
      clear hs2
      go_wp2
      go_ret
      exact ⟨rfl, HB2.out⟩
    | false =>
      clear hs2
      have C1 := hid (fun (W : World) (h : Below w2.heap.size w2 W) => Same_any a b W (HA2.out.on h) (HM2.out.on h) FA.out FB.out)
      have C2 := hid (fun (W : World) (h : Below w2.heap.size w2 W) => SameWasm_any a b W (HA2.out.on h) (HM2.out.on h) FA.out FB.out RA.out.db RB.out.db)
      have C3 := hid (fun (W : World) (h : Below w2.heap.size w2 W) => Same_any a a W (HA2.out.on h) (HA2.out.on h) FA.out FA.out)
      rw [is_yes (p := Same a a) (same_iff.1 rfl)] at C3
      obtain ⟨s, hs⟩ : ∃ s, is (Same a b) = s := ⟨_, rfl⟩
      rw [hs] at C1 C2
      clear hs
      unfold Md.v at C1 C2 C3
      have x0 := HXA2.out 0 _ rfl
      have x1 := HXA2.out 1 _ rfl
      have x2 := HXA2.out 2 _ rfl
      have x3 := HXA2.out 3 _ rfl
      have x4 := HXA2.out 4 _ rfl
      have x5 := HXA2.out 5 _ rfl
      have x6 := HXA2.out 6 _ rfl
      have x7 := HXA2.out 7 _ rfl
      have x8 := HXA2.out 8 _ rfl
      have x9 := HXA2.out 9 _ rfl
      have x10 := HXA2.out 10 _ rfl
      have y0 := HXB2.out 0 _ rfl
      have y1 := HXB2.out 1 _ rfl
      have y2 := HXB2.out 2 _ rfl
      have y3 := HXB2.out 3 _ rfl
      have y4 := HXB2.out 4 _ rfl
      have y5 := HXB2.out 5 _ rfl
      have y6 := HXB2.out 6 _ rfl
      have y7 := HXB2.out 7 _ rfl
      have y8 := HXB2.out 8 _ rfl
      have y9 := HXB2.out 9 _ rfl
      have y10 := HXB2.out 10 _ rfl
      have hS0 : Below w2.heap.size w2 w2.drew ∧ w2.drew.cell? ⟨w.heap.size, 0, none⟩ = some (.slice a.ty'.a a.ty.length a.ty'.c) ∧ w2.drew.cell? ⟨w.heap.size, 1, none⟩ = some (.slice a.im'.a a.im.length a.im'.c) ∧ w2.drew.cell? ⟨w.heap.size, 2, none⟩ = some (.slice a.fu'.a a.fu.length a.fu'.c) ∧ w2.drew.cell? ⟨w.heap.size, 3, none⟩ = some (.slice a.tb'.a a.tb.length a.tb'.c) ∧ w2.drew.cell? ⟨w.heap.size, 4, none⟩ = some (.slice a.me'.a a.me.length a.me'.c) ∧ w2.drew.cell? ⟨w.heap.size, 5, none⟩ = some (.slice a.gl'.a a.gl.length a.gl'.c) ∧ w2.drew.cell? ⟨w.heap.size, 6, none⟩ = some (.slice a.ex'.a a.ex.length a.ex'.c) ∧ w2.drew.cell? ⟨w.heap.size, 7, none⟩ = some (.bool a.st) ∧ w2.drew.cell? ⟨w.heap.size, 8, none⟩ = some (.int .u32 a.sn) ∧ w2.drew.cell? ⟨w.heap.size, 9, none⟩ = some (.slice a.el'.a a.el.length a.el'.c) ∧ w2.drew.cell? ⟨w.heap.size, 10, none⟩ = some (.slice a.da'.a a.da.length a.da'.c) ∧ w2.drew.cell? ⟨w.heap.size + 1, 0, none⟩ = some (.slice b.ty'.a b.ty.length b.ty'.c) ∧ w2.drew.cell? ⟨w.heap.size + 1, 1, none⟩ = some (.slice b.im'.a b.im.length b.im'.c) ∧ w2.drew.cell? ⟨w.heap.size + 1, 2, none⟩ = some (.slice b.fu'.a b.fu.length b.fu'.c) ∧ w2.drew.cell? ⟨w.heap.size + 1, 3, none⟩ = some (.slice b.tb'.a b.tb.length b.tb'.c) ∧ w2.drew.cell? ⟨w.heap.size + 1, 4, none⟩ = some (.slice b.me'.a b.me.length b.me'.c) ∧ w2.drew.cell? ⟨w.heap.size + 1, 5, none⟩ = some (.slice b.gl'.a b.gl.length b.gl'.c) ∧ w2.drew.cell? ⟨w.heap.size + 1, 6, none⟩ = some (.slice b.ex'.a b.ex.length b.ex'.c) ∧ w2.drew.cell? ⟨w.heap.size + 1, 7, none⟩ = some (.bool b.st) ∧ w2.drew.cell? ⟨w.heap.size + 1, 8, none⟩ = some (.int .u32 b.sn) ∧ w2.drew.cell? ⟨w.heap.size + 1, 9, none⟩ = some (.slice b.el'.a b.el.length b.el'.c) ∧ w2.drew.cell? ⟨w.heap.size + 1, 10, none⟩ = some (.slice b.da'.a b.da.length b.da'.c) := ⟨(Below.refl w2.heap.size w2).drew, x0, x1, x2, x3, x4, x5, x6, x7, x8, x9, x10, y0, y1, y2, y3, y4, y5, y6, y7, y8, y9, y10⟩
      go_wp2
      (first | go_loud (go_region_held3 (fun w' => Below w2.heap.size w2 w' ∧ w'.cell? ⟨w.heap.size, 0, none⟩ = some (.slice a.ty'.a a.ty.length a.ty'.c) ∧ w'.cell? ⟨w.heap.size, 1, none⟩ = some (.slice a.im'.a a.im.length a.im'.c) ∧ w'.cell? ⟨w.heap.size, 2, none⟩ = some (.slice a.fu'.a a.fu.length a.fu'.c) ∧ w'.cell? ⟨w.heap.size, 3, none⟩ = some (.slice a.tb'.a a.tb.length a.tb'.c) ∧ w'.cell? ⟨w.heap.size, 4, none⟩ = some (.slice a.me'.a a.me.length a.me'.c) ∧ w'.cell? ⟨w.heap.size, 5, none⟩ = some (.slice a.gl'.a a.gl.length a.gl'.c) ∧ w'.cell? ⟨w.heap.size, 6, none⟩ = some (.slice a.ex'.a a.ex.length a.ex'.c) ∧ w'.cell? ⟨w.heap.size, 7, none⟩ = some (.bool a.st) ∧ w'.cell? ⟨w.heap.size, 8, none⟩ = some (.int .u32 a.sn) ∧ w'.cell? ⟨w.heap.size, 9, none⟩ = some (.slice a.el'.a a.el.length a.el'.c) ∧ w'.cell? ⟨w.heap.size, 10, none⟩ = some (.slice a.da'.a a.da.length a.da'.c) ∧ w'.cell? ⟨w.heap.size + 1, 0, none⟩ = some (.slice b.ty'.a b.ty.length b.ty'.c) ∧ w'.cell? ⟨w.heap.size + 1, 1, none⟩ = some (.slice b.im'.a b.im.length b.im'.c) ∧ w'.cell? ⟨w.heap.size + 1, 2, none⟩ = some (.slice b.fu'.a b.fu.length b.fu'.c) ∧ w'.cell? ⟨w.heap.size + 1, 3, none⟩ = some (.slice b.tb'.a b.tb.length b.tb'.c) ∧ w'.cell? ⟨w.heap.size + 1, 4, none⟩ = some (.slice b.me'.a b.me.length b.me'.c) ∧ w'.cell? ⟨w.heap.size + 1, 5, none⟩ = some (.slice b.gl'.a b.gl.length b.gl'.c) ∧ w'.cell? ⟨w.heap.size + 1, 6, none⟩ = some (.slice b.ex'.a b.ex.length b.ex'.c) ∧ w'.cell? ⟨w.heap.size + 1, 7, none⟩ = some (.bool b.st) ∧ w'.cell? ⟨w.heap.size + 1, 8, none⟩ = some (.int .u32 b.sn) ∧ w'.cell? ⟨w.heap.size + 1, 9, none⟩ = some (.slice b.el'.a b.el.length b.el'.c) ∧ w'.cell? ⟨w.heap.size + 1, 10, none⟩ = some (.slice b.da'.a b.da.length b.da'.c))
          (first | assumption | exact held_keep22 (by assumption) (by assumption))
          (first | (go_at_call 5; (with_reducible refine (C1.out _ (held_out22 (by assumption))).mono ?_); rintro e8 w8 ⟨rfl, hb8⟩) | (go_at_call 5; (with_reducible refine (C3.out _ (held_out22 (by assumption))).mono ?_); rintro e8 w8 ⟨rfl, hb8⟩) | (go_at_call 6; (with_reducible refine (C2.out _ (held_out22 (by assumption))).mono ?_); rintro e8 w8 ⟨rfl, hb8⟩))) | fail)
      have hbR := held_out22 (by assumption)
      clear C1 C2 C3 hS0 x0 y0 x1 y1 x2 y2 x3 y3 x4 y4 x5 y5 x6 y6 x7 y7 x8 y8 x9 y9 x10 y10
      have HB := hid (thenB HB2.out hbR)
      have HA := hid (HA2.out.on hbR)
      have HX := hid (HXA2.out.keep hbR)
      have HT := hid (HT2.out.below hbR)
      have HU := hid (HU2.out.below hbR)
      clear hbR HB2 HA2 HM2 HXA2 HXB2 HT2 HU2
      have C := hid (S.copyW_any a w8 HA.out SA.out FA.out RA.out.ef)
      unfold CopyP at C
      unfold Md.v at C
      have x0 := HX.out 0 _ rfl
      have x1 := HX.out 1 _ rfl
      have x2 := HX.out 2 _ rfl
      have x3 := HX.out 3 _ rfl
      have x4 := HX.out 4 _ rfl
      have x5 := HX.out 5 _ rfl
      have x6 := HX.out 6 _ rfl
      have x7 := HX.out 7 _ rfl
      have x8 := HX.out 8 _ rfl
      have x9 := HX.out 9 _ rfl
      have x10 := HX.out 10 _ rfl
      go_wp2_with fail
      refine C.out.mono ?_
      rintro e4 w4 ⟨c, rfl, hbc, hmc, hoc, hfc, hb⟩
      have al := (Below.refl w4.heap.size w4).alloc (Nat.le_refl _) (.cells c.v 32)
      have PB5 := hid (hb.trans (al.mono hb.size))
      have QC := hid al
      have ZC := hid hb.size
      have HC := hid (hmc.on al)
      have HXC := hid (BoxAt.made w4 c.v 32)
      have IN := hid (inp_core hbc SA.out FA.out (hmc.on al))
      have BC := hid hbc
      have FC := hid hfc
      have HO := hid hoc
      have EC := hid (ef_core hbc RA.out.ef)
      have DC := hid (db_core hbc RA.out.db)
      have C5 := hid (Copy_own c (w4.alloc (.cells c.v 32)) IN.out)
      unfold Md.v at PB5 QC HC HXC IN C5
      clear hb hbc hmc hoc hfc al C IN x0 x1 x2 x3 x4 x5 x6 x7 x8 x9 x10
      have z0 := HXC.out 0 _ rfl
      have z1 := HXC.out 1 _ rfl
      have z2 := HXC.out 2 _ rfl
      have z3 := HXC.out 3 _ rfl
      have z4 := HXC.out 4 _ rfl
      have z5 := HXC.out 5 _ rfl
      have z6 := HXC.out 6 _ rfl
      have z7 := HXC.out 7 _ rfl
      have z8 := HXC.out 8 _ rfl
      have z9 := HXC.out 9 _ rfl
      have z10 := HXC.out 10 _ rfl
      go_wp2_with fail
      refine C5.out.mono ?_
      rintro e6 w6 ⟨d, rfl, hod, hb⟩
      clear C5 z0 z1 z2 z3 z4 z5 z6 z7 z8 z9 z10
      have al := (Below.refl w6.heap.size w6).alloc (Nat.le_refl _) (.cells d.v 32)
      have hb6 := hb.trans (al.mono hb.size)
      have PB7 := hid (thenB PB5.out hb6)
      have QC7 := hid (thenB QC.out hb6)
      have HXC7 := hid (HXC.out.keep hb6)
      have OD := hid (hod.box (.cells d.v 32))
      have HXD := hid (BoxAt.made w6 d.v 32)
      have ZD := hid (show w4.heap.size + 1 ≤ w6.heap.size by have := hb.size; simpa using this)
      have ND := hid (OD.out.bare.trans BC.out)
      have DD := hid (db_core OD.out.bare DC.out)
      have FD := hid (OD.out.facts FC.out EC.out).2.2
      have C := hid (SameWasm_any d a (w6.alloc (.cells d.v 32)) (OD.out.facts FC.out EC.out).1 (HA.out.on (show Below w8.heap.size w8 (w6.alloc (.cells d.v 32)) from PB7.out)) FD.out FA.out DD.out RA.out.db)
      rw [is_yes (same_iff.1 ND.out)] at C
      have HX7 := hid (HX.out.keep PB7.out)
      unfold Md.v at PB7 QC7 HXC7 OD HXD C HX7
      clear hb al hod hb6 PB5 QC HXC
      have u0 := HXD.out 0 _ rfl
      have u1 := HXD.out 1 _ rfl
      have u2 := HXD.out 2 _ rfl
      have u3 := HXD.out 3 _ rfl
      have u4 := HXD.out 4 _ rfl
      have u5 := HXD.out 5 _ rfl
      have u6 := HXD.out 6 _ rfl
      have u7 := HXD.out 7 _ rfl
      have u8 := HXD.out 8 _ rfl
      have u9 := HXD.out 9 _ rfl
      have u10 := HXD.out 10 _ rfl
      have x0 := HX7.out 0 _ rfl
      have x1 := HX7.out 1 _ rfl
      have x2 := HX7.out 2 _ rfl
      have x3 := HX7.out 3 _ rfl
      have x4 := HX7.out 4 _ rfl
      have x5 := HX7.out 5 _ rfl
      have x6 := HX7.out 6 _ rfl
      have x7 := HX7.out 7 _ rfl
      have x8 := HX7.out 8 _ rfl
      have x9 := HX7.out 9 _ rfl
      have x10 := HX7.out 10 _ rfl
      go_wp2_with fail
      refine C.out.mono ?_
      rintro e9 w9 ⟨rfl, hb⟩
      clear C u0 u1 u2 u3 u4 u5 u6 u7 u8 u9 u10 x0 x1 x2 x3 x4 x5 x6 x7 x8 x9 x10
      have PB9 := hid (thenB PB7.out hb)
      have QC9 := hid (thenB QC7.out hb)
      have HXC9 := hid (HXC7.out.keep hb)
      have HXD9 := hid (HXD.out.keep hb)
      have OD9 := hid (OD.out.on (SameC.of_below hb (Nat.le_refl _)) hb.size)
      have ZZ := hid (show w6.heap.size + 1 ≤ w9.heap.size by have := hb.size; simpa using this)
      have C := hid (overW_any w8.heap.size w4.heap.size c w9 (HO.out.frameC (SameC.of_below QC9.out (Nat.le_refl _))) ZC.out QC9.out.size FC.out)
      unfold Md.v at C
      clear hb PB7 QC7 HXC7 HXD OD HX7
      have z0 := HXC9.out 0 _ rfl
      have z1 := HXC9.out 1 _ rfl
      have z2 := HXC9.out 2 _ rfl
      have z3 := HXC9.out 3 _ rfl
      have z4 := HXC9.out 4 _ rfl
      have z5 := HXC9.out 5 _ rfl
      have z6 := HXC9.out 6 _ rfl
      have z7 := HXC9.out 7 _ rfl
      have z8 := HXC9.out 8 _ rfl
      have z9 := HXC9.out 9 _ rfl
      have z10 := HXC9.out 10 _ rfl
      go_wp2_with fail
      refine C.out.mono ?_
      rintro e10 w10 ⟨rfl, w0, hw0, hov⟩
      clear C z0 z1 z2 z3 z4 z5 z6 z7 z8 z9 z10
      have al := (Below.refl w9.heap.size w9).alloc (Nat.le_refl _) (.cells c.v 32)
      unfold Md.v at al
      rw [← hw0] at al
      have hz0 : w9.heap.size + 1 = w0.heap.size := by rw [hw0]; simp
      have PB10 := hid (PB9.out.trans ((al.mono PB9.out.size).trans hov.kept.below))
      have OD10 := hid ((OD9.out.on (SameC.of_below al (Nat.le_refl _)) al.size).on (hov.same (by simp) (Nat.le_refl _)) hov.kept.below.size)
      have HXD10 := hid (show BoxAt w10 w6.heap.size d.v from fun j x hj => hov.kept.cell (p := ⟨w6.heap.size, j, none⟩) (by have := ZD.out; show w4.heap.size ≤ w6.heap.size; omega) (HXD9.out.keep al j x hj))
      have C := hid (SameWasm_any d a w10 (OD10.out.facts FC.out EC.out).1 (HA.out.on PB10.out) FD.out FA.out DD.out RA.out.db)
      rw [is_yes (same_iff.1 ND.out)] at C
      have HX10 := hid (HX.out.keep PB10.out)
      have Z10 := hid (show w9.heap.size ≤ w10.heap.size by have := hov.kept.below.size; omega)
      unfold Md.v at HXD10 C HX10
      clear al hz0 hov hw0 PB9 QC9 HXC9 HXD9 OD9 HO HC
      have u0 := HXD10.out 0 _ rfl
      have u1 := HXD10.out 1 _ rfl
      have u2 := HXD10.out 2 _ rfl
      have u3 := HXD10.out 3 _ rfl
      have u4 := HXD10.out 4 _ rfl
      have u5 := HXD10.out 5 _ rfl
      have u6 := HXD10.out 6 _ rfl
      have u7 := HXD10.out 7 _ rfl
      have u8 := HXD10.out 8 _ rfl
      have u9 := HXD10.out 9 _ rfl
      have u10 := HXD10.out 10 _ rfl
      have x0 := HX10.out 0 _ rfl
      have x1 := HX10.out 1 _ rfl
      have x2 := HX10.out 2 _ rfl
      have x3 := HX10.out 3 _ rfl
      have x4 := HX10.out 4 _ rfl
      have x5 := HX10.out 5 _ rfl
      have x6 := HX10.out 6 _ rfl
      have x7 := HX10.out 7 _ rfl
      have x8 := HX10.out 8 _ rfl
      have x9 := HX10.out 9 _ rfl
      have x10 := HX10.out 10 _ rfl
      go_wp2_with fail
      refine C.out.mono ?_
      rintro e11 w11 ⟨rfl, hb⟩
      clear C u0 u1 u2 u3 u4 u5 u6 u7 u8 u9 u10 x0 x1 x2 x3 x4 x5 x6 x7 x8 x9 x10
      have PB11 := hid (thenB PB10.out hb)
      have HXD11 := hid (HXD10.out.keep hb)
      have OD11 := hid (OD10.out.on (SameC.of_below hb (Nat.le_refl _)) hb.size)
      have ZL := hid (show w4.heap.size + 1 ≤ w11.heap.size by have := hb.size; have := Z10.out; have := ZZ.out; have := ZD.out; omega)
      obtain ⟨lo, hlo⟩ : ∃ n, n = w4.heap.size + 1 := ⟨_, rfl⟩
      rw [World.size_alloc, ← hlo] at OD11
      rw [← hlo] at ZL
      have LO := hid (show w8.heap.size ≤ lo by have := ZC.out; omega)
      have C := hid (overW_any lo w11.heap.size d w11 (OD11.out.facts FC.out EC.out).2.1 ZL.out (Nat.le_refl _) FD.out)
      unfold Md.v at C
      clear hb hlo PB10 HXD10 OD10 HX10 OD11
      have u0 := HXD11.out 0 _ rfl
      have u1 := HXD11.out 1 _ rfl
      have u2 := HXD11.out 2 _ rfl
      have u3 := HXD11.out 3 _ rfl
      have u4 := HXD11.out 4 _ rfl
      have u5 := HXD11.out 5 _ rfl
      have u6 := HXD11.out 6 _ rfl
      have u7 := HXD11.out 7 _ rfl
      have u8 := HXD11.out 8 _ rfl
      have u9 := HXD11.out 9 _ rfl
      have u10 := HXD11.out 10 _ rfl
      go_wp2_with fail
      refine C.out.mono ?_
      rintro e12 w12 ⟨rfl, w0, hw0, hov⟩
      clear C u0 u1 u2 u3 u4 u5 u6 u7 u8 u9 u10
      have al := (Below.refl w11.heap.size w11).alloc (Nat.le_refl _) (.cells d.v 32)
      unfold Md.v at al
      rw [← hw0] at al
      have PB12 := hid (PB11.out.trans ((al.mono PB11.out.size).trans (hov.kept.below.mono LO.out)))
      have C := hid (awake_any w12 (HT.out.below PB12.out) (HU.out.below PB12.out))
      clear al hw0 hov PB11 HXD11
      go_wp2_with fail
      refine C.out.mono ?_
      rintro e13 w13 ⟨rfl, hb⟩
      have H9 := hid (HB.out.trans ((PB12.out.trans (hb.mono PB12.out.size)).mono HB.out.size))
      clear C hb
      all_goals try go_wp2
      go_ret
      exact ⟨rfl, H9.out⟩
end Go.Proofs.YtaibfefmehhldaaGreatDoor.Mod
namespace Go.Proofs.YtaibfefmehhldaaGreatDoor
open Go.RowKit
set_option linter.unusedVariables false
theorem moduleSame_walk (w : World) (a : Mod.Md) (ha : Mod.ModAt w.heap.size w a) (fa : a.fits) (ca : a.caps) (ra : a.ranged) (b : Mod.Md) (hb : Mod.ModAt w.heap.size w b) (fb : b.fits) (cb : b.caps) (rb : b.ranged) (hT : Instr.Nams w ∧ Utf.Tabs w) :
    Calls Tryz.prog 3 #[.agg a.v, .agg b.v] w fun e w' => e = .returned (.bool true) ∧ Below w.heap.size w w' :=
  Mod.moduleSame_walk w a b ha hb fa fb ra rb hT
end Go.Proofs.YtaibfefmehhldaaGreatDoor
