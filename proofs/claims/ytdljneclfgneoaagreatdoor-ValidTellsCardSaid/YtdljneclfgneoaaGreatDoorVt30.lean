import Derived.Test.YtdljneclfgneoaaGreatDoorVt29
import Derived.Test.YtdljneclfgneoaaGreatDoorCards
import Derived.Test.YtdljneclfgneoaaGreatDoorTie
import Derived.Test.YtdljneclfgneoaaGreatDoorVt03
set_option linter.unusedVariables false
set_option linter.ambiguousOpen false
set_option maxRecDepth 100000
set_option maxHeartbeats 8000000
namespace Go.Proofs.YtdljneclfgneoaaGreatDoor
namespace Instr
end Instr
namespace Mod
end Mod
namespace Val
open Go.RowKit Go.Shelf Instr Mod
theorem ZD {w w1:World} {p0 p1 p2 p3 p4 p5 p6 p7 p8 p9 p10 p11 p12 p13 p14 p15 p16 p17 p18 p19 p20 p21:Addr} {v0 v1 v2 v3 v4 v5 v6 v7 v8 v9 v10 v11 v12 v13 v14 v15 v16 v17 v18 v19 v20 v21:Value} (h:Below w.heap.size w w1∧w1.cell? p0=some v0∧w1.cell? p1=some v1∧w1.cell? p2=some v2∧w1.cell? p3=some v3∧w1.cell? p4=some v4∧w1.cell? p5=some v5∧w1.cell? p6=some v6∧w1.cell? p7=some v7∧w1.cell? p8=some v8∧w1.cell? p9=some v9∧w1.cell? p10=some v10∧w1.cell? p11=some v11∧w1.cell? p12=some v12∧w1.cell? p13=some v13∧w1.cell? p14=some v14∧w1.cell? p15=some v15∧w1.cell? p16=some v16∧w1.cell? p17=some v17∧w1.cell? p18=some v18∧w1.cell? p19=some v19∧w1.cell? p20=some v20∧w1.cell? p21=some v21):Below w.heap.size w w1:=h.1
theorem zE4 {w w1 w2:World} {p0 p1 p2 p3 p4 p5 p6 p7 p8 p9 p10 p11 p12 p13 p14 p15 p16 p17 p18 p19 p20 p21:Addr} {v0 v1 v2 v3 v4 v5 v6 v7 v8 v9 v10 v11 v12 v13 v14 v15 v16 v17 v18 v19 v20 v21:Value} (h:Below w.heap.size w w1∧w1.cell? p0=some v0∧w1.cell? p1=some v1∧w1.cell? p2=some v2∧w1.cell? p3=some v3∧w1.cell? p4=some v4∧w1.cell? p5=some v5∧w1.cell? p6=some v6∧w1.cell? p7=some v7∧w1.cell? p8=some v8∧w1.cell? p9=some v9∧w1.cell? p10=some v10∧w1.cell? p11=some v11∧w1.cell? p12=some v12∧w1.cell? p13=some v13∧w1.cell? p14=some v14∧w1.cell? p15=some v15∧w1.cell? p16=some v16∧w1.cell? p17=some v17∧w1.cell? p18=some v18∧w1.cell? p19=some v19∧w1.cell? p20=some v20∧w1.cell? p21=some v21) (hb:Below w1.heap.size w1 w2):Below w.heap.size w w2∧w2.cell? p0=some v0∧w2.cell? p1=some v1∧w2.cell? p2=some v2∧w2.cell? p3=some v3∧w2.cell? p4=some v4∧w2.cell? p5=some v5∧w2.cell? p6=some v6∧w2.cell? p7=some v7∧w2.cell? p8=some v8∧w2.cell? p9=some v9∧w2.cell? p10=some v10∧w2.cell? p11=some v11∧w2.cell? p12=some v12∧w2.cell? p13=some v13∧w2.cell? p14=some v14∧w2.cell? p15=some v15∧w2.cell? p16=some v16∧w2.cell? p17=some v17∧w2.cell? p18=some v18∧w2.cell? p19=some v19∧w2.cell? p20=some v20∧w2.cell? p21=some v21:=by
 obtain⟨h,h0,h1,h2,h3,h4,h5,h6,h7,h8,h9,h10,h11,h12,h13,h14,h15,h16,h17,h18,h19,h20,h21⟩:=h;exact⟨zM h hb,kP hb h0,kP hb h1,kP hb h2,kP hb h3,kP hb h4,kP hb h5,kP hb h6,kP hb h7,kP hb h8,kP hb h9,kP hb h10,kP hb h11,kP hb h12,kP hb h13,kP hb h14,kP hb h15,kP hb h16,kP hb h17,kP hb h18,kP hb h19,kP hb h20,kP hb h21⟩
theorem rg_of {m:Md} (h:m.ranged):Rg m:=⟨h.ei,h.ef,h.sn⟩
theorem qp {n₀:Nat} {w:World}:∀(t:Il) (b off:Nat),zg n₀ w b off t→kr t
 | .nil,_,_,_=>trivial
 | .cons x l e r,b,off,⟨_,hx,_,_,⟨_,hl⟩,⟨_,he⟩,hr⟩=>by
  refine⟨hx.a.1,fun z hz=>(hx.tags z hz).1,?_,?_,qp r _ _ hr⟩
  ·rcases hl with h|⟨b',o',_,h⟩
   ·rw[h];trivial
   ·exact qp l _ _ h
  ·rcases he with h|⟨b',o',_,h⟩
   ·rw[h];trivial
   ·exact qp e _ _ h
theorem zCl {n₀:Nat} {w:World} {m:Md} (h:zN n₀ w m):∀l∈m.codes,kr l.t:=fun l hl=>by
 rcases (h.ls l hl).2 with h|⟨b,off,_,h⟩
 ·rw[h];trivial
 ·exact qp _ _ _ h
theorem zFi (a:Md) (n:Int) (w:World) (ha:zN w.heap.size w a) (fa:a.fits) (ra:a.ranged) (hT:Tb w) :
  Calls Tryz.prog 11 #[.agg a.v,.int .i64 n] w fun e w'=>e=.returned (.bool true)∧Below w.heap.size w w':=by
 obtain⟨W0,hW0⟩:∃W0,W0=w.alloc (.cells a.v 40):=⟨_,rfl⟩;have hb0:Below w.heap.size w W0:=by rw[hW0];exact zG _ _
 have hx0:zB W0 w.heap.size a.v:=by rw[hW0];exact zB.made w a.v _
 have HX0:=hid hx0;have HB0:=hid hb0;have HW:=hid hW0;have HM0:=hid (ha.on hb0);have HT0:=hid (hT.on hb0);have FA:=hid fa;have RA:=hid ra;have NN:=hid (zCl ha);have CL:=hid (zFD a W0 (ha.on hb0) fa);have hxx:=hx0;unfold zEA at CL;clear ha fa ra hT hb0 hx0 hW0;unfold Md.v at HW hxx CL ⊢;obtain⟨x0,x1,x2,x3,x4,x5,x6,x7,x8,x9,x10⟩:=zB.mod hxx;clear hxx
 go_enter Tryz.func11,Tryz.ntmps11
 go_upto_region 1 with fail
 rw[←HW.out];clear HW
 go_wp2_with fail
 refine CL.out.mono ?_;rintro e w1 ⟨big,rfl,hs,hb⟩;have HX1:=hid (HX0.out.keep hb);have HB1:=hid (zM HB0.out hb);have HM1:=hid (HM0.out.on hb);have HT1:=hid (HT0.out.on hb);clear hb HX0 HB0 HM0 HT0 CL x0 x1 x2 x3 x4 x5 x6 x7 x8 x9 x10
 cases big with
 | true =>
  clear hs;go_wp2;go_ret;exact⟨rfl,HB1.out⟩
 | false =>
  have SA:=hid (hs rfl);clear hs;have CC:=hid (zBO a w1 HM1.out SA.out);unfold zD9 at CC;have hxx:=HX1.out;unfold Md.v at CC hxx;obtain⟨x0,x1,x2,x3,x4,x5,x6,x7,x8,x9,x10⟩:=zB.mod hxx;clear hxx
  go_wp2_with fail
  refine CC.out.mono ?_;rintro e w2 ⟨b,rfl,hmb,heb,hb⟩;obtain⟨W2,hW2⟩:∃W2,W2=w2.alloc (.cells b.v 40):=⟨_,rfl⟩;obtain⟨gb,hgb⟩:∃g,w2.heap.size=g:=⟨_,rfl⟩;have hb2:Below w2.heap.size w2 W2:=by rw[hW2];exact zG _ _
  have hxb:zB W2 gb b.v:=by rw[hW2,←hgb];exact zB.made w2 b.v _
  have HBX:=hid hxb;have HMB:=hid (hmb.on hb2);have HMA:=hid (HM1.out.on (zM hb hb2));have HX2:=hid (HX1.out.keep (zM hb hb2));have HB2:=hid (zM HB1.out (zM hb hb2));have HT2:=hid (HT1.out.on (zM hb hb2));have BE:=hid heb;have FB:=hid (zAe heb FA.out);have WA:=hid (zGY FA.out SA.out);have WB:=hid (zGs heb (zGY FA.out SA.out));have RB:=hid (zB9 heb RA.out);have NM:=hid (zCj SA.out);have HW:=hid hW2;clear CC hmb heb hb hb2 hxb hW2 HM1 HX1 HB1 HT1 x0 x1 x2 x3 x4 x5 x6 x7 x8 x9 x10 SA;unfold Md.v at HW
  go_upto_region 4 with fail
  rw[←HW.out];clear HW hgb;have BD:=hid (fun (W:World) (hb:Below W2.heap.size W2 W)=>zGA b n W (HMB.out.on hb) WB.out (HT2.out.on hb).nt (HT2.out.on hb).ut (HT2.out.on hb).ar);have BR:=hid (fun (W:World) (hb:Below W2.heap.size W2 W)=>zJI a n W (HMA.out.on hb) WA.out NM.out);have CM:=hid (fun (W:World) (hb:Below W2.heap.size W2 W)=>zEG b W (HMB.out.on hb) WB.out (rg_of RB.out) (HT2.out.on hb).nt (HT2.out.on hb).ut (HT2.out.on hb).ar);have CR:=hid (fun (W:World) (hb:Below W2.heap.size W2 W)=>zHL a W (HMA.out.on hb) WA.out (rg_of RA.out) NM.out NN.out);have CS:=hid (fun (W:World) (hb:Below W2.heap.size W2 W)=>zBm b a W (HMB.out.on hb) (HMA.out.on hb) FB.out FA.out RB.out.db RA.out.db);have CA:=hid (fun (W:World) (hb:Below W2.heap.size W2 W)=>zHz W (HT2.out.on hb));rw[ya (same_iff.1 BE.out)] at CS;unfold zG0 at BD;unfold zDw at CM;rw[zFU BE.out] at BD;rw[zDU BE.out] at CM;rw[←zFk _ NN.out n] at BR;obtain⟨⟨E,At⟩,hE⟩:∃E,Md.body a n=E:=⟨_,rfl⟩;obtain⟨⟨k1,k2,k3,k4⟩,hK⟩:∃E,qK a=E:=⟨_,rfl⟩;rw[hE] at BD BR;rw[hK] at CM CR;clear hE hK HMB HMA HT2 BE FA FB WA WB RA RB NM NN;unfold Md.v at BD BR CM CR CS;have hxx:=HX2.out;have hyy:=HBX.out;unfold Md.v at hxx hyy;obtain⟨x0,x1,x2,x3,x4,x5,x6,x7,x8,x9,x10⟩:=zB.mod hxx;obtain⟨y0,y1,y2,y3,y4,y5,y6,y7,y8,y9,y10⟩:=zB.mod hyy;clear hxx hyy
  go_wp2_with fail
  refine (BD.out _ (Below.refl _ _)).mono ?_;rintro e w3 ⟨rfl,hb⟩;have HX3:=hid (HX2.out.keep hb);have HY3:=hid (HBX.out.keep hb);have PB3:=hid hb;clear hb BD HX2 HBX x0 x1 x2 x3 x4 x5 x6 x7 x8 x9 x10 y0 y1 y2 y3 y4 y5 y6 y7 y8 y9 y10;have hxx:=HX3.out;have hyy:=HY3.out;unfold Md.v at hxx hyy;obtain⟨x0,x1,x2,x3,x4,x5,x6,x7,x8,x9,x10⟩:=zB.mod hxx;obtain⟨y0,y1,y2,y3,y4,y5,y6,y7,y8,y9,y10⟩:=zB.mod hyy;clear hxx hyy
  go_wp2_with fail
  refine (BR.out _ PB3.out).mono ?_;rintro e w4 ⟨rfl,hb⟩;have HX4:=hid (HX3.out.keep hb);have HY4:=hid (HY3.out.keep hb);have PB4:=hid (zM PB3.out hb);clear hb BR HX3 HY3 PB3 x0 x1 x2 x3 x4 x5 x6 x7 x8 x9 x10 y0 y1 y2 y3 y4 y5 y6 y7 y8 y9 y10;have hxx:=HX4.out;have hyy:=HY4.out;unfold Md.v at hxx hyy;obtain⟨x0,x1,x2,x3,x4,x5,x6,x7,x8,x9,x10⟩:=zB.mod hxx;obtain⟨y0,y1,y2,y3,y4,y5,y6,y7,y8,y9,y10⟩:=zB.mod hyy;clear hxx hyy;have HB4:=hid (zM HB2.out PB4.out);have C1:=hid (show ∀(W:World) (h:Below w4.heap.size w4 W),Calls Tryz.prog 49 #[.agg #[.slice b.ty'.a b.ty.length b.ty'.c,.slice b.im'.a b.im.length b.im'.c,.slice b.fu'.a b.fu.length b.fu'.c,.slice b.tb'.a b.tb.length b.tb'.c,.slice b.me'.a b.me.length b.me'.c,.slice b.gl'.a b.gl.length b.gl'.c,.slice b.ex'.a b.ex.length b.ex'.c,.bool b.st,.int .u32 b.sn,.slice b.el'.a b.el.length b.el'.c,.slice b.da'.a b.da.length b.da'.c]] W (fun e w'=>e=.returned (.agg #[.int .i64 k1,.int .i64 k2,.int .i64 k3,.int .i64 k4])∧Below W.heap.size W w') from fun W h=>CM.out W (zM PB4.out h));have C2:=hid (show ∀(W:World) (h:Below w4.heap.size w4 W),Calls Tryz.prog 50 #[.agg #[.slice a.ty'.a a.ty.length a.ty'.c,.slice a.im'.a a.im.length a.im'.c,.slice a.fu'.a a.fu.length a.fu'.c,.slice a.tb'.a a.tb.length a.tb'.c,.slice a.me'.a a.me.length a.me'.c,.slice a.gl'.a a.gl.length a.gl'.c,.slice a.ex'.a a.ex.length a.ex'.c,.bool a.st,.int .u32 a.sn,.slice a.el'.a a.el.length a.el'.c,.slice a.da'.a a.da.length a.da'.c]] W (fun e w'=>e=.returned (.agg #[.int .i64 k1,.int .i64 k2,.int .i64 k3,.int .i64 k4])∧Below W.heap.size W w') from fun W h=>CR.out W (zM PB4.out h));have C3:=hid (fun (W:World) (h:Below w4.heap.size w4 W)=>CS.out W (zM PB4.out h));have C4:=hid (fun (W:World) (h:Below w4.heap.size w4 W)=>CA.out W (zM PB4.out h));have q1:=zER;have q2:=Jw;have hS0:Below w4.heap.size w4 w4.drew∧w4.drew.cell? ⟨w.heap.size,0,none⟩=some (.slice a.ty'.a a.ty.length a.ty'.c)∧w4.drew.cell? ⟨w.heap.size,1,none⟩=some (.slice a.im'.a a.im.length a.im'.c)∧w4.drew.cell? ⟨w.heap.size,2,none⟩=some (.slice a.fu'.a a.fu.length a.fu'.c)∧w4.drew.cell? ⟨w.heap.size,3,none⟩=some (.slice a.tb'.a a.tb.length a.tb'.c)∧w4.drew.cell? ⟨w.heap.size,4,none⟩=some (.slice a.me'.a a.me.length a.me'.c)∧w4.drew.cell? ⟨w.heap.size,5,none⟩=some (.slice a.gl'.a a.gl.length a.gl'.c)∧w4.drew.cell? ⟨w.heap.size,6,none⟩=some (.slice a.ex'.a a.ex.length a.ex'.c)∧w4.drew.cell? ⟨w.heap.size,7,none⟩=some (.bool a.st)∧w4.drew.cell? ⟨w.heap.size,8,none⟩=some (.int .u32 a.sn)∧w4.drew.cell? ⟨w.heap.size,9,none⟩=some (.slice a.el'.a a.el.length a.el'.c)∧w4.drew.cell? ⟨w.heap.size,10,none⟩=some (.slice a.da'.a a.da.length a.da'.c)∧w4.drew.cell? ⟨gb,0,none⟩=some (.slice b.ty'.a b.ty.length b.ty'.c)∧w4.drew.cell? ⟨gb,1,none⟩=some (.slice b.im'.a b.im.length b.im'.c)∧w4.drew.cell? ⟨gb,2,none⟩=some (.slice b.fu'.a b.fu.length b.fu'.c)∧w4.drew.cell? ⟨gb,3,none⟩=some (.slice b.tb'.a b.tb.length b.tb'.c)∧w4.drew.cell? ⟨gb,4,none⟩=some (.slice b.me'.a b.me.length b.me'.c)∧w4.drew.cell? ⟨gb,5,none⟩=some (.slice b.gl'.a b.gl.length b.gl'.c)∧w4.drew.cell? ⟨gb,6,none⟩=some (.slice b.ex'.a b.ex.length b.ex'.c)∧w4.drew.cell? ⟨gb,7,none⟩=some (.bool b.st)∧w4.drew.cell? ⟨gb,8,none⟩=some (.int .u32 b.sn)∧w4.drew.cell? ⟨gb,9,none⟩=some (.slice b.el'.a b.el.length b.el'.c)∧w4.drew.cell? ⟨gb,10,none⟩=some (.slice b.da'.a b.da.length b.da'.c):=⟨(Below.refl _ _).drew,x0,x1,x2,x3,x4,x5,x6,x7,x8,x9,x10,y0,y1,y2,y3,y4,y5,y6,y7,y8,y9,y10⟩
  clear CM CR CS CA PB4 HX4 HY4 HB2 x0 x1 x2 x3 x4 x5 x6 x7 x8 x9 x10 y0 y1 y2 y3 y4 y5 y6 y7 y8 y9 y10;go_wp2
  (go_region_held3 (fun w'=>Below w4.heap.size w4 w'∧w'.cell? ⟨w.heap.size,0,none⟩=some (.slice a.ty'.a a.ty.length a.ty'.c)∧w'.cell? ⟨w.heap.size,1,none⟩=some (.slice a.im'.a a.im.length a.im'.c)∧w'.cell? ⟨w.heap.size,2,none⟩=some (.slice a.fu'.a a.fu.length a.fu'.c)∧w'.cell? ⟨w.heap.size,3,none⟩=some (.slice a.tb'.a a.tb.length a.tb'.c)∧w'.cell? ⟨w.heap.size,4,none⟩=some (.slice a.me'.a a.me.length a.me'.c)∧w'.cell? ⟨w.heap.size,5,none⟩=some (.slice a.gl'.a a.gl.length a.gl'.c)∧w'.cell? ⟨w.heap.size,6,none⟩=some (.slice a.ex'.a a.ex.length a.ex'.c)∧w'.cell? ⟨w.heap.size,7,none⟩=some (.bool a.st)∧w'.cell? ⟨w.heap.size,8,none⟩=some (.int .u32 a.sn)∧w'.cell? ⟨w.heap.size,9,none⟩=some (.slice a.el'.a a.el.length a.el'.c)∧w'.cell? ⟨w.heap.size,10,none⟩=some (.slice a.da'.a a.da.length a.da'.c)∧w'.cell? ⟨gb,0,none⟩=some (.slice b.ty'.a b.ty.length b.ty'.c)∧w'.cell? ⟨gb,1,none⟩=some (.slice b.im'.a b.im.length b.im'.c)∧w'.cell? ⟨gb,2,none⟩=some (.slice b.fu'.a b.fu.length b.fu'.c)∧w'.cell? ⟨gb,3,none⟩=some (.slice b.tb'.a b.tb.length b.tb'.c)∧w'.cell? ⟨gb,4,none⟩=some (.slice b.me'.a b.me.length b.me'.c)∧w'.cell? ⟨gb,5,none⟩=some (.slice b.gl'.a b.gl.length b.gl'.c)∧w'.cell? ⟨gb,6,none⟩=some (.slice b.ex'.a b.ex.length b.ex'.c)∧w'.cell? ⟨gb,7,none⟩=some (.bool b.st)∧w'.cell? ⟨gb,8,none⟩=some (.int .u32 b.sn)∧w'.cell? ⟨gb,9,none⟩=some (.slice b.el'.a b.el.length b.el'.c)∧w'.cell? ⟨gb,10,none⟩=some (.slice b.da'.a b.da.length b.da'.c))
    (first|assumption|exact zE4 (by assumption) (by assumption))
    (first|(go_at_call 49;(with_reducible refine (C1.out _ (ZD (by assumption))).mono ?_);rintro e8 w9 ⟨rfl,hb8⟩)|(go_at_call 50;(with_reducible refine (C2.out _ (ZD (by assumption))).mono ?_);rintro e8 w9 ⟨rfl,hb8⟩)|(go_at_call 39;(with_reducible refine (C3.out _ (ZD (by assumption))).mono ?_);rintro e8 w9 ⟨rfl,hb8⟩)|(go_at_call 51;(with_reducible refine (C4.out _ (ZD (by assumption))).mono ?_);rintro e8 w9 ⟨rfl,hb8⟩)))
  have H9:=hid (zM HB4.out (ZD (by assumption)))
  all_goals try go_wp2
  go_ret;exact⟨zA (by simp),H9.out⟩
end Val
section
open Go.RowKit
theorem JP (W:World) (m0:Mod.Md) (hm0:Mod.zN W.heap.size W m0) (hf0:m0.fits) (_hc0:m0.caps) (hr0:m0.ranged) (a1:Int) (_b1:-9223372036854775808≤a1∧a1≤9223372036854775807) (hT:Instr.kC W∧Utf.Tabs W∧Num.ZX W) :
  Calls Tryz.prog 11 #[.agg m0.v,.int .i64 a1] W fun e w'=>e=.returned (.bool true)∧Below W.heap.size W w' :=
 Val.zFi m0 a1 W hm0 hf0 hr0 ⟨hT.1,hT.2.1,hT.2.2⟩
end
namespace validTells
open Go.ChangeShapes Go.WideShapes Go.ChangeAt Go.RowKit
open Go.ChangeMaps (open_string shut_string)
theorem lifted (os:Os) (started:os.Started) (H:Type) (enc:TypeId×Value→H) :
  ReturnsInHanded {} Tryz.checked os 11 .any (fun w args=>(Rows.validTellsSpec.pre enc Tryz.prog Tryz.f11 [] false w args∧laidMetH Tryz.prog zCW w)∧sizedMet enc Tryz.prog Tryz.f11 (OpenSpec.ofChange Rows.validTellsSpec) false w args)
   (Rows.validTellsSpec.post enc Tryz.prog Tryz.f11 false true false false):=by
 refine returnsInHanded_of_change_and (C:=Tryz.checked) (X:=fun w _=>laidMetH Tryz.prog zCW w) (fun _ _ _ hh h=>h.of_heap hh) zJy started (by kernel_rfl) Tryz.func11
  (ChangeSpec.witness_shaped (enc:=enc) (C:=Tryz.checked) (os:=os) (X:=fun w _=>laidMetH Tryz.prog zCW w) false (World.laidAll Tryz.prog os zCW) #[.agg #[.slice none 0 0,.slice none 0 0,.slice none 0 0,.slice none 0 0,.slice none 0 0,.slice none 0 0,.slice none 0 0,.bool false,.int .u32 0,.slice none 0 0,.slice none 0 0],.int .i64 0] 8 (World.laidAll_os _ _ _)
    (World.shaped_of_ZipB (by kernel_rfl) (by kernel_rfl)) (by kernel_rfl) (by kernel_rfl) (by kernel_rfl)
    (by rw[MakeChecks.laidMetH_plain _ _ _ (by kernel_rfl)];exact laidMet_laidAll _ (by kernel_rfl) (by kernel_rfl))) ?_
 intro W base args ds gs before hval0 hW _ hsz0 hL _;have hval:∀(j:Nat) t v,Tryz.f11.params[j]?=some t→args[j]?=some v→Value.okWide Tryz.prog W .any base t v:=hval0;have hW':=hW;obtain⟨p,q,hA0,hV,rfl,hfz,hnd⟩:=hW;have hA:DataW.TrodAll enc Tryz.prog W 0 (fun _=>true) true Tryz.f11.params.toList args.toList ds p:=hA0;have hsz:(DataW.weightsEach Tryz.prog (Tryz.f11.params.toList++Rows.validTellsSpec.plain.varTypes Tryz.prog) (ds++gs)).all (·≤reachBytes)=true:=hsz0;rw[Tryz.params11] at hA hval hsz;obtain⟨v0,vs0,d0,ds0,p0,q0,hargs,rfl,rfl,h0,r0⟩:=trodAll_cons hA;obtain⟨v1,vs1,d1,ds1,p1,q1,rfl,rfl,rfl,h1,r1⟩:=trodAll_cons r0;obtain⟨rfl,rfl,rfl⟩:=trodAll_nil r1;obtain rfl:args=#[v0,v1]:=by cases args;simp_all
 obtain⟨rfl,rfl⟩:=trodVars_none hV;have k0:=h0;have lt0:∀x∈p0,x.block<W.heap.size:=by obtain⟨m,hm⟩:=k0;exact DataW.trod_lt m _ _ _ hm
 obtain⟨m0,rfl,hm0,hf0,hc0,hr0⟩:=Mod.zBo hsz 0 rfl rfl (hval 0 40 v0 rfl rfl) k0;obtain⟨a1,rfl,rfl,rfl,w1⟩:=open_int Tryz.underlying3 (hval 1 3 v1 rfl rfl) h1;have b1:=bounds_i64 w1;rw[MakeChecks.laidMetH_plain _ _ _ (by kernel_rfl)] at hL;have hT:=zIt hL;clear hA0 hval0;refine (JP W m0 hm0 hf0 hc0 hr0 a1 b1 hT).mono fun e W' ⟨he,bel⟩=>?_
 subst he;exact⟨_,rfl,_,_,_,[],_,[],hW',trodAll_mk1 (shut_bool Tryz.underlying4 _),(trodAll_cons_mk (Below.trod zFm (by kernel_rfl) (of_decide_eq_true (by kernel_rfl)) k0 bel lt0) (trodAll_cons_mk (shut_int Tryz.underlying3 w1) trodAll_mk0)),rfl,bel.frame _,fun h=>by cases h⟩
theorem over:Rows.validTellsRow.holds Tryz.pinned (OpenSpec.ofChange Rows.validTellsSpec) :=
 OpenClaim.holds_of_wide 11 Tryz.f11 rfl rfl rfl rfl rfl rfl rfl ⟨rfl,rfl,rfl,rfl,rfl⟩ rfl rfl rfl rfl rfl (by kernel_rfl) Tryz.func11 zJq
  (of_decide_eq_true (by kernel_rfl)) (by unfold Func.isWrapper;first|(rw[if_pos (by decide +kernel)];kernel_rfl)|(rw[if_neg (by decide +kernel)];exact⟨rfl,rfl⟩))
  (fun os started H enc _=>lifted os started H enc)
end validTells
end Go.Proofs.YtdljneclfgneoaaGreatDoor
