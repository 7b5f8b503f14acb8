import Derived.Test.YtepbjkkakfpjgaaGreatDoorMc20
import Derived.Deep.RegionHeld3
namespace Go.Proofs.YtepbjkkakfpjgaaGreatDoor.Mod
open Go.RowKit Go.Proofs.YtepbjkkakfpjgaaGreatDoor.Instr
set_option linter.unusedVariables false

set_option maxRecDepth 100000 in
set_option maxHeartbeats 8000000 in
theorem moduleChecks_walk (w : World) (a : Md) (ha : ModAt w.heap.size w a) (fa : a.fits) (ra : a.ranged) (n : Nat) (hn : n < 4294967296) (na : ByteArray) (k : Int) (hT : Nams w ∧ Utf.Tabs w) :
    Calls Tryz.prog 6 #[.agg a.v, .int .u32 (n : Int), .string na, .int .i64 k] w fun e w' => e = .returned (.bool true) ∧ Below w.heap.size w w' := by
  have hb1 := (Below.refl w.heap.size w).alloc (Nat.le_refl _) (.cells a.v 32)
  have HB := hid hb1
  have HA0 := hid (ha.on hb1)
  have HXA := hid (BoxAt.made w a.v 32)
  have FA := hid fa
  have RA := hid ra
  have HT := hid (hT.1.below hb1)
  have HU := hid (hT.2.below hb1)
  have HN := hid hn
  have C := hid (Big_any a _ HA0.out fa)
  unfold Md.v at HB HA0 HXA HT HU C ⊢
  clear ha fa ra hT hb1 hn
  go_enter Tryz.func6, Tryz.ntmps6
  have X0 := HXA.out
  have x0 := X0 0 _ rfl
  have x1 := X0 1 _ rfl
  have x2 := X0 2 _ rfl
  have x3 := X0 3 _ rfl
  have x4 := X0 4 _ rfl
  have x5 := X0 5 _ rfl
  have x6 := X0 6 _ rfl
  have x7 := X0 7 _ rfl
  have x8 := X0 8 _ rfl
  have x9 := X0 9 _ rfl
  have x10 := X0 10 _ rfl
  clear X0
  go_wp2_with fail
  refine C.out.mono ?_
  rintro e1 w1 ⟨g1, rfl, hs1, hb⟩
  have HB1 := hid (thenB HB.out hb)
  have HA1 := hid (HA0.out.on hb)
  have HXA1 := hid (HXA.out.keep hb)
  have HT1 := hid (HT.out.below hb)
  have HU1 := hid (HU.out.below hb)
  clear HB HA0 HXA HT HU hb C x0 x1 x2 x3 x4 x5 x6 x7 x8 x9 x10
  have x0 := HXA1.out 0 _ rfl
  have x1 := HXA1.out 1 _ rfl
  have x2 := HXA1.out 2 _ rfl
  have x3 := HXA1.out 3 _ rfl
  have x4 := HXA1.out 4 _ rfl
  have x5 := HXA1.out 5 _ rfl
  have x6 := HXA1.out 6 _ rfl
  have x7 := HXA1.out 7 _ rfl
  have x8 := HXA1.out 8 _ rfl
  have x9 := HXA1.out 9 _ rfl
  have x10 := HXA1.out 10 _ rfl
  cases g1 with
  | true =>
    clear hs1
    go_wp2
    go_ret
    exact ⟨rfl, HB1.out⟩
  | false =>
    have SA := hid (hs1 rfl).1
    clear hs1
    have C := hid (copyWasm_any a w1 HA1.out SA.out)
    unfold Md.v at C
    go_wp2_with fail
    refine C.out.mono ?_
    rintro e2 w2 ⟨b, rfl, hm2, he2, hb⟩
    have BE := hid he2
    have FB := hid (fits_core he2 FA.out)
    have WB := hid (few_core he2 (few_of FA.out SA.out))
    have RB := hid (ranged_core he2 RA.out)
    have WA := hid (few_of FA.out SA.out)
    have HC2x := hid (hm2.on ((Below.refl w2.heap.size w2).alloc (Nat.le_refl _) (.cells b.v 32)))
    have HXC2x := hid (BoxAt.made w2 b.v 32)
    have hb2 := hb.trans (((Below.refl w2.heap.size w2).alloc (Nat.le_refl _) (.cells b.v 32)).mono hb.size)
    clear he2 hm2 hb C
    unfold Md.v at HC2x HXC2x hb2 ⊢
    have HB2 := hid (thenB HB1.out hb2)
    have HA2 := hid (HA1.out.on hb2)
    have HXA2 := hid (HXA1.out.keep hb2)
    have HT2 := hid (HT1.out.below hb2)
    have HU2 := hid (HU1.out.below hb2)
    have HC2 := HC2x
    have HXC2 := HXC2x
    clear HC2x HXC2x HB1 HA1 HXA1 HT1 HU1 hb2 x0 x1 x2 x3 x4 x5 x6 x7 x8 x9 x10
    have x0 := HXA2.out 0 _ rfl
    have x1 := HXA2.out 1 _ rfl
    have x2 := HXA2.out 2 _ rfl
    have x3 := HXA2.out 3 _ rfl
    have x4 := HXA2.out 4 _ rfl
    have x5 := HXA2.out 5 _ rfl
    have x6 := HXA2.out 6 _ rfl
    have x7 := HXA2.out 7 _ rfl
    have x8 := HXA2.out 8 _ rfl
    have x9 := HXA2.out 9 _ rfl
    have x10 := HXA2.out 10 _ rfl
    have y0 := HXC2.out 0 _ rfl
    have y1 := HXC2.out 1 _ rfl
    have y2 := HXC2.out 2 _ rfl
    have y3 := HXC2.out 3 _ rfl
    have y4 := HXC2.out 4 _ rfl
    have y5 := HXC2.out 5 _ rfl
    have y6 := HXC2.out 6 _ rfl
    have y7 := HXC2.out 7 _ rfl
    have y8 := HXC2.out 8 _ rfl
    have y9 := HXC2.out 9 _ rfl
    have y10 := HXC2.out 10 _ rfl
    have ET := hid (typeOf_core BE.out n)
    have EF := hid (find_core BE.out na k)
    obtain ⟨⟨⟨t1, t2⟩, t3⟩, ht⟩ : ∃ t, a.typeOf n = t := ⟨_, rfl⟩
    obtain ⟨⟨f1, f2⟩, hf⟩ : ∃ t, a.find na k = t := ⟨_, rfl⟩
    rw [ht] at ET
    rw [hf] at EF
    have HTT := hid ht
    have HFF := hid hf
    clear ht hf
    have C := hid (TypeOf_any b n _ HC2.out FB.out HN.out)
    rw [ET.out] at C
    dsimp only at C
    unfold Md.v at C
    go_wp2_with fail
    refine C.out.mono ?_
    rintro e3 w3 ⟨rfl, hb⟩
    have hbx := hb.trans (((Below.refl w3.heap.size w3).alloc (Nat.le_refl _) (.cells #[.int .i64 t1, .int .i64 t2] 50)).mono hb.size)
    have HTP3 := hid (BoxAt.made w3 #[.int .i64 t1, .int .i64 t2] 50)
    clear hb
    have HB3 := hid (thenB HB2.out hbx)
    have HA3 := hid (HA2.out.on hbx)
    have HXA3 := hid (HXA2.out.keep hbx)
    have HT3 := hid (HT2.out.below hbx)
    have HU3 := hid (HU2.out.below hbx)
    have HC3 := hid (HC2.out.on hbx)
    have HXC3 := hid (HXC2.out.keep hbx)
    clear HB2 HA2 HXA2 HT2 HU2 HC2 HXC2 hbx C y0 y1 y2 y3 y4 y5 y6 y7 y8 y9 y10 x0 x1 x2 x3 x4 x5 x6 x7 x8 x9 x10
    have x0 := HXA3.out 0 _ rfl
    have x1 := HXA3.out 1 _ rfl
    have x2 := HXA3.out 2 _ rfl
    have x3 := HXA3.out 3 _ rfl
    have x4 := HXA3.out 4 _ rfl
    have x5 := HXA3.out 5 _ rfl
    have x6 := HXA3.out 6 _ rfl
    have x7 := HXA3.out 7 _ rfl
    have x8 := HXA3.out 8 _ rfl
    have x9 := HXA3.out 9 _ rfl
    have x10 := HXA3.out 10 _ rfl
    have y0 := HXC3.out 0 _ rfl
    have y1 := HXC3.out 1 _ rfl
    have y2 := HXC3.out 2 _ rfl
    have y3 := HXC3.out 3 _ rfl
    have y4 := HXC3.out 4 _ rfl
    have y5 := HXC3.out 5 _ rfl
    have y6 := HXC3.out 6 _ rfl
    have y7 := HXC3.out 7 _ rfl
    have y8 := HXC3.out 8 _ rfl
    have y9 := HXC3.out 9 _ rfl
    have y10 := HXC3.out 10 _ rfl
    have C := hid (refTypeOf_any a n (w3.alloc (.cells #[.int .i64 t1, .int .i64 t2] 50)) HA3.out FA.out HN.out)
    rw [HTT.out] at C
    dsimp only at C
    unfold Md.v at C
    go_wp2_with fail
    refine C.out.mono ?_
    rintro e4 w4 ⟨rfl, hb⟩
    have hbx := hb.trans (((Below.refl w4.heap.size w4).alloc (Nat.le_refl _) (.cells #[.int .i64 t1, .int .i64 t2] 50)).mono hb.size)
    have HTQ4 := hid (BoxAt.made w4 #[.int .i64 t1, .int .i64 t2] 50)
    have HTP4 := hid (HTP3.out.keep hbx)
    clear hb HTP3
    have HB4 := hid (thenB HB3.out hbx)
    have HA4 := hid (HA3.out.on hbx)
    have HXA4 := hid (HXA3.out.keep hbx)
    have HT4 := hid (HT3.out.below hbx)
    have HU4 := hid (HU3.out.below hbx)
    have HC4 := hid (HC3.out.on hbx)
    have HXC4 := hid (HXC3.out.keep hbx)
    clear HB3 HA3 HXA3 HT3 HU3 HC3 HXC3 hbx C x0 x1 x2 x3 x4 x5 x6 x7 x8 x9 x10 y0 y1 y2 y3 y4 y5 y6 y7 y8 y9 y10
    have x0 := HXA4.out 0 _ rfl
    have x1 := HXA4.out 1 _ rfl
    have x2 := HXA4.out 2 _ rfl
    have x3 := HXA4.out 3 _ rfl
    have x4 := HXA4.out 4 _ rfl
    have x5 := HXA4.out 5 _ rfl
    have x6 := HXA4.out 6 _ rfl
    have x7 := HXA4.out 7 _ rfl
    have x8 := HXA4.out 8 _ rfl
    have x9 := HXA4.out 9 _ rfl
    have x10 := HXA4.out 10 _ rfl
    have y0 := HXC4.out 0 _ rfl
    have y1 := HXC4.out 1 _ rfl
    have y2 := HXC4.out 2 _ rfl
    have y3 := HXC4.out 3 _ rfl
    have y4 := HXC4.out 4 _ rfl
    have y5 := HXC4.out 5 _ rfl
    have y6 := HXC4.out 6 _ rfl
    have y7 := HXC4.out 7 _ rfl
    have y8 := HXC4.out 8 _ rfl
    have y9 := HXC4.out 9 _ rfl
    have y10 := HXC4.out 10 _ rfl
    have C := hid (Find_any b na k (w4.alloc (.cells #[.int .i64 t1, .int .i64 t2] 50)) HC4.out FB.out)
    rw [EF.out] at C
    dsimp only at C
    unfold Md.v at C
    go_wp2_with fail
    refine C.out.mono ?_
    rintro e5 w5 ⟨rfl, hb⟩
    have HTP5 := hid (HTP4.out.keep hb)
    have HTQ5 := hid (HTQ4.out.keep hb)
    clear HTP4 HTQ4
    have HB5 := hid (thenB HB4.out hb)
    have HA5 := hid (HA4.out.on hb)
    have HXA5 := hid (HXA4.out.keep hb)
    have HT5 := hid (HT4.out.below hb)
    have HU5 := hid (HU4.out.below hb)
    have HC5 := hid (HC4.out.on hb)
    have HXC5 := hid (HXC4.out.keep hb)
    clear HB4 HA4 HXA4 HT4 HU4 HC4 HXC4 hb C x0 x1 x2 x3 x4 x5 x6 x7 x8 x9 x10 y0 y1 y2 y3 y4 y5 y6 y7 y8 y9 y10
    have x0 := HXA5.out 0 _ rfl
    have x1 := HXA5.out 1 _ rfl
    have x2 := HXA5.out 2 _ rfl
    have x3 := HXA5.out 3 _ rfl
    have x4 := HXA5.out 4 _ rfl
    have x5 := HXA5.out 5 _ rfl
    have x6 := HXA5.out 6 _ rfl
    have x7 := HXA5.out 7 _ rfl
    have x8 := HXA5.out 8 _ rfl
    have x9 := HXA5.out 9 _ rfl
    have x10 := HXA5.out 10 _ rfl
    have y0 := HXC5.out 0 _ rfl
    have y1 := HXC5.out 1 _ rfl
    have y2 := HXC5.out 2 _ rfl
    have y3 := HXC5.out 3 _ rfl
    have y4 := HXC5.out 4 _ rfl
    have y5 := HXC5.out 5 _ rfl
    have y6 := HXC5.out 6 _ rfl
    have y7 := HXC5.out 7 _ rfl
    have y8 := HXC5.out 8 _ rfl
    have y9 := HXC5.out 9 _ rfl
    have y10 := HXC5.out 10 _ rfl
    have C := hid (refFind_any a na k w5 HA5.out FA.out)
    rw [HFF.out] at C
    dsimp only at C
    unfold Md.v at C
    go_wp2_with fail
    refine C.out.mono ?_
    rintro e6 w6 ⟨rfl, hb⟩
    have HTP6 := hid (HTP5.out.keep hb)
    have HTQ6 := hid (HTQ5.out.keep hb)
    clear HTP5 HTQ5
    have HB6 := hid (thenB HB5.out hb)
    have HA6 := hid (HA5.out.on hb)
    have HXA6 := hid (HXA5.out.keep hb)
    have HT6 := hid (HT5.out.below hb)
    have HU6 := hid (HU5.out.below hb)
    have HC6 := hid (HC5.out.on hb)
    have HXC6 := hid (HXC5.out.keep hb)
    clear HB5 HA5 HXA5 HT5 HU5 HC5 HXC5 hb C x0 x1 x2 x3 x4 x5 x6 x7 x8 x9 x10 y0 y1 y2 y3 y4 y5 y6 y7 y8 y9 y10
    have x0 := HXA6.out 0 _ rfl
    have x1 := HXA6.out 1 _ rfl
    have x2 := HXA6.out 2 _ rfl
    have x3 := HXA6.out 3 _ rfl
    have x4 := HXA6.out 4 _ rfl
    have x5 := HXA6.out 5 _ rfl
    have x6 := HXA6.out 6 _ rfl
    have x7 := HXA6.out 7 _ rfl
    have x8 := HXA6.out 8 _ rfl
    have x9 := HXA6.out 9 _ rfl
    have x10 := HXA6.out 10 _ rfl
    have y0 := HXC6.out 0 _ rfl
    have y1 := HXC6.out 1 _ rfl
    have y2 := HXC6.out 2 _ rfl
    have y3 := HXC6.out 3 _ rfl
    have y4 := HXC6.out 4 _ rfl
    have y5 := HXC6.out 5 _ rfl
    have y6 := HXC6.out 6 _ rfl
    have y7 := HXC6.out 7 _ rfl
    have y8 := HXC6.out 8 _ rfl
    have y9 := HXC6.out 9 _ rfl
    have y10 := HXC6.out 10 _ rfl
    have t10 := HTP6.out 0 _ rfl
    have t11 := HTP6.out 1 _ rfl
    have t20 := HTQ6.out 0 _ rfl
    have t21 := HTQ6.out 1 _ rfl
    have C1 := hid (fun (W : World) (h : Below w6.heap.size w6 W) => ModCheck_any b W (HT6.out.below h) (HU6.out.below h) (HC6.out.on h) WB.out)
    have C2 := hid (fun (W : World) (h : Below w6.heap.size w6 W) => refChk_any a W (HA6.out.on h) WA.out (names_small SA.out))
    have C3 := hid (fun (W : World) (h : Below w6.heap.size w6 W) => Size_any b W (HC6.out.on h) WB.out)
    have C4 := hid (fun (W : World) (h : Below w6.heap.size w6 W) => refSize_any a W (HA6.out.on h) WA.out)
    have C5 := hid (fun (W : World) (h : Below w6.heap.size w6 W) => SameWasm_any b a W (HC6.out.on h) (HA6.out.on h) FB.out FA.out RB.out.db RA.out.db)
    have C6 := hid (fun (W : World) (h : Below w6.heap.size w6 W) => awake_any W (HT6.out.below h) (HU6.out.below h))
    rw [check_core BE.out] at C1
    rw [size_core BE.out] at C3
    rw [is_yes (same_iff.1 BE.out)] at C5
    obtain ⟨kc, hkc⟩ : ∃ z, a.check = z := ⟨_, rfl⟩
    obtain ⟨ks, hks⟩ : ∃ z, a.size = z := ⟨_, rfl⟩
    rw [hkc] at C1 C2
    rw [hks] at C3 C4
    unfold Md.v at C1 C2 C3 C4 C5
    clear hkc hks HTT HFF ET EF BE FA FB WA WB RA RB SA HA6 HC6 HT6 HU6 HN
    have hS0 : Below w6.heap.size w6 w6.drew ∧ w6.drew.cell? ⟨w.heap.size, 0, none⟩ = some (.slice a.ty'.a a.ty.length a.ty'.c) ∧ w6.drew.cell? ⟨w.heap.size, 1, none⟩ = some (.slice a.im'.a a.im.length a.im'.c) ∧ w6.drew.cell? ⟨w.heap.size, 2, none⟩ = some (.slice a.fu'.a a.fu.length a.fu'.c) ∧ w6.drew.cell? ⟨w.heap.size, 3, none⟩ = some (.slice a.tb'.a a.tb.length a.tb'.c) ∧ w6.drew.cell? ⟨w.heap.size, 4, none⟩ = some (.slice a.me'.a a.me.length a.me'.c) ∧ w6.drew.cell? ⟨w.heap.size, 5, none⟩ = some (.slice a.gl'.a a.gl.length a.gl'.c) ∧ w6.drew.cell? ⟨w.heap.size, 6, none⟩ = some (.slice a.ex'.a a.ex.length a.ex'.c) ∧ w6.drew.cell? ⟨w.heap.size, 7, none⟩ = some (.bool a.st) ∧ w6.drew.cell? ⟨w.heap.size, 8, none⟩ = some (.int .u32 a.sn) ∧ w6.drew.cell? ⟨w.heap.size, 9, none⟩ = some (.slice a.el'.a a.el.length a.el'.c) ∧ w6.drew.cell? ⟨w.heap.size, 10, none⟩ = some (.slice a.da'.a a.da.length a.da'.c) ∧ w6.drew.cell? ⟨w2.heap.size, 0, none⟩ = some (.slice b.ty'.a b.ty.length b.ty'.c) ∧ w6.drew.cell? ⟨w2.heap.size, 1, none⟩ = some (.slice b.im'.a b.im.length b.im'.c) ∧ w6.drew.cell? ⟨w2.heap.size, 2, none⟩ = some (.slice b.fu'.a b.fu.length b.fu'.c) ∧ w6.drew.cell? ⟨w2.heap.size, 3, none⟩ = some (.slice b.tb'.a b.tb.length b.tb'.c) ∧ w6.drew.cell? ⟨w2.heap.size, 4, none⟩ = some (.slice b.me'.a b.me.length b.me'.c) ∧ w6.drew.cell? ⟨w2.heap.size, 5, none⟩ = some (.slice b.gl'.a b.gl.length b.gl'.c) ∧ w6.drew.cell? ⟨w2.heap.size, 6, none⟩ = some (.slice b.ex'.a b.ex.length b.ex'.c) ∧ w6.drew.cell? ⟨w2.heap.size, 7, none⟩ = some (.bool b.st) ∧ w6.drew.cell? ⟨w2.heap.size, 8, none⟩ = some (.int .u32 b.sn) ∧ w6.drew.cell? ⟨w2.heap.size, 9, none⟩ = some (.slice b.el'.a b.el.length b.el'.c) ∧ w6.drew.cell? ⟨w2.heap.size, 10, none⟩ = some (.slice b.da'.a b.da.length b.da'.c) ∧ w6.drew.cell? ⟨w3.heap.size, 0, none⟩ = some (.int .i64 t1) ∧ w6.drew.cell? ⟨w3.heap.size, 1, none⟩ = some (.int .i64 t2) ∧ w6.drew.cell? ⟨w4.heap.size, 0, none⟩ = some (.int .i64 t1) ∧ w6.drew.cell? ⟨w4.heap.size, 1, none⟩ = some (.int .i64 t2) := ⟨(Below.refl w6.heap.size w6).drew, x0, x1, x2, x3, x4, x5, x6, x7, x8, x9, x10, y0, y1, y2, y3, y4, y5, y6, y7, y8, y9, y10, t10, t11, t20, t21⟩
    clear HXA6 HXC6 HTP6 HTQ6
    go_wp2
    (first | go_loud (go_region_held3 (fun w' => Below w6.heap.size w6 w' ∧ w'.cell? ⟨w.heap.size, 0, none⟩ = some (.slice a.ty'.a a.ty.length a.ty'.c) ∧ w'.cell? ⟨w.heap.size, 1, none⟩ = some (.slice a.im'.a a.im.length a.im'.c) ∧ w'.cell? ⟨w.heap.size, 2, none⟩ = some (.slice a.fu'.a a.fu.length a.fu'.c) ∧ w'.cell? ⟨w.heap.size, 3, none⟩ = some (.slice a.tb'.a a.tb.length a.tb'.c) ∧ w'.cell? ⟨w.heap.size, 4, none⟩ = some (.slice a.me'.a a.me.length a.me'.c) ∧ w'.cell? ⟨w.heap.size, 5, none⟩ = some (.slice a.gl'.a a.gl.length a.gl'.c) ∧ w'.cell? ⟨w.heap.size, 6, none⟩ = some (.slice a.ex'.a a.ex.length a.ex'.c) ∧ w'.cell? ⟨w.heap.size, 7, none⟩ = some (.bool a.st) ∧ w'.cell? ⟨w.heap.size, 8, none⟩ = some (.int .u32 a.sn) ∧ w'.cell? ⟨w.heap.size, 9, none⟩ = some (.slice a.el'.a a.el.length a.el'.c) ∧ w'.cell? ⟨w.heap.size, 10, none⟩ = some (.slice a.da'.a a.da.length a.da'.c) ∧ w'.cell? ⟨w2.heap.size, 0, none⟩ = some (.slice b.ty'.a b.ty.length b.ty'.c) ∧ w'.cell? ⟨w2.heap.size, 1, none⟩ = some (.slice b.im'.a b.im.length b.im'.c) ∧ w'.cell? ⟨w2.heap.size, 2, none⟩ = some (.slice b.fu'.a b.fu.length b.fu'.c) ∧ w'.cell? ⟨w2.heap.size, 3, none⟩ = some (.slice b.tb'.a b.tb.length b.tb'.c) ∧ w'.cell? ⟨w2.heap.size, 4, none⟩ = some (.slice b.me'.a b.me.length b.me'.c) ∧ w'.cell? ⟨w2.heap.size, 5, none⟩ = some (.slice b.gl'.a b.gl.length b.gl'.c) ∧ w'.cell? ⟨w2.heap.size, 6, none⟩ = some (.slice b.ex'.a b.ex.length b.ex'.c) ∧ w'.cell? ⟨w2.heap.size, 7, none⟩ = some (.bool b.st) ∧ w'.cell? ⟨w2.heap.size, 8, none⟩ = some (.int .u32 b.sn) ∧ w'.cell? ⟨w2.heap.size, 9, none⟩ = some (.slice b.el'.a b.el.length b.el'.c) ∧ w'.cell? ⟨w2.heap.size, 10, none⟩ = some (.slice b.da'.a b.da.length b.da'.c) ∧ w'.cell? ⟨w3.heap.size, 0, none⟩ = some (.int .i64 t1) ∧ w'.cell? ⟨w3.heap.size, 1, none⟩ = some (.int .i64 t2) ∧ w'.cell? ⟨w4.heap.size, 0, none⟩ = some (.int .i64 t1) ∧ w'.cell? ⟨w4.heap.size, 1, none⟩ = some (.int .i64 t2))
        (first | assumption | exact held_keep26 (by assumption) (by assumption))
        (first | (go_at_call 23; (with_reducible refine (C1.out _ (held_out26 (by assumption))).mono ?_); rintro e8 w8 ⟨rfl, hb8⟩) | (go_at_call 24; (with_reducible refine (C2.out _ (held_out26 (by assumption))).mono ?_); rintro e8 w8 ⟨rfl, hb8⟩) | (go_at_call 25; (with_reducible refine (C3.out _ (held_out26 (by assumption))).mono ?_); rintro e8 w8 ⟨rfl, hb8⟩) | (go_at_call 26; (with_reducible refine (C4.out _ (held_out26 (by assumption))).mono ?_); rintro e8 w8 ⟨rfl, hb8⟩) | (go_at_call 12; (with_reducible refine (C5.out _ (held_out26 (by assumption))).mono ?_); rintro e8 w8 ⟨rfl, hb8⟩) | (go_at_call 27; (with_reducible refine (C6.out _ (held_out26 (by assumption))).mono ?_); rintro e8 w8 ⟨rfl, hb8⟩))) | fail)
    have H9 := hid (HB6.out.trans ((held_out26 (by assumption)).mono HB6.out.size))
    all_goals try go_wp2
    go_ret
    exact ⟨ret_bool (by simp), H9.out⟩
end Go.Proofs.YtepbjkkakfpjgaaGreatDoor.Mod
namespace Go.Proofs.YtepbjkkakfpjgaaGreatDoor
open Go.RowKit
set_option linter.unusedVariables false
theorem moduleChecks_walk (w : World) (a : Mod.Md) (ha : Mod.ModAt w.heap.size w a) (fa : a.fits) (ca : a.caps) (ra : a.ranged) (n : Int) (hn : 0 ≤ n ∧ n ≤ 4294967295) (na : ByteArray) (k : Int) (hk : -9223372036854775808 ≤ k ∧ k ≤ 9223372036854775807) (hT : Instr.Nams w ∧ Utf.Tabs w) :
    Calls Tryz.prog 6 #[.agg a.v, .int .u32 n, .string na, .int .i64 k] w fun e w' => e = .returned (.bool true) ∧ Below w.heap.size w w' := by
  obtain ⟨j, rfl⟩ := Int.eq_ofNat_of_zero_le hn.1
  exact Mod.moduleChecks_walk w a ha fa ra j (by omega) na k hT
end Go.Proofs.YtepbjkkakfpjgaaGreatDoor
