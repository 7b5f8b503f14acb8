import Derived.Test.YtdljneclfgneoaaGreatDoorVt08
import Derived.Test.YtdljneclfgneoaaGreatDoorVt05
import Derived.Deep.RegionHeld3
import Derived.Deep.Cut
import Derived.Laws.StructEq
import Derived.Shelf.Abstract
import Derived.Shelf.RegionOpen
import Derived.OwnWalkIn
import Derived.TacticsInMore
import Derived.LoopNIn
import Derived.LoopIn
set_option linter.unusedVariables false
set_option linter.ambiguousOpen false
set_option maxRecDepth 100000
set_option maxHeartbeats 8000000
namespace Go.Proofs.YtdljneclfgneoaaGreatDoor
namespace Instr
end Instr
namespace Mod
end Mod
namespace Stk
end Stk
namespace Leb
end Leb
namespace Kind
end Kind
namespace Stk
open Go.RowKit
theorem J5 {w w2 W:World} {x y:Value} {g o:Nat} {t0 t1 t2 t3:Value} (hx:Bx w2 w.heap.size x y) (c0:w2.cell? ⟨g,o,none⟩=some t0) (c1:w2.cell? ⟨g,o+1,none⟩=some t1) (c2:w2.cell? ⟨g,o+2,none⟩=some t2) (c3:w2.cell? ⟨g,o+3,none⟩=some t3) (h:Below w2.heap.size w2 W) :
  Below w2.heap.size w2 W∧W.cell? ⟨w.heap.size,0,none⟩=some x∧W.cell? ⟨g,o,none⟩=some t0∧W.cell? ⟨g,o+1,none⟩=some t1∧W.cell? ⟨g,o+2,none⟩=some t2∧W.cell? ⟨g,o+3,none⟩=some t3 :=
 ⟨h,(hx.below h).c0,keep h c0,keep h c1,keep h c2,keep h c3⟩
theorem zEy (h:Int) (a:Option Addr) (n c:Nat) (l:List Fr) (w:World) (hs:qm w.heap.size w a n c l) :
  Calls Tryz.prog 287 #[.agg #[.int .i64 h,.slice a n c]] w fun e w'=>vH w (yl h l) e w':=by
 obtain⟨W0,hW0,hb,hx,hy,hsz⟩:=yw w (.int .i64 h) (.slice a n c);have hsW:=hs.on hb;have c0:=hx.c0;have c1:=hx.c1;have HB:=hid hb;have HX:=hid hx;have HY:=hid hy;have HW:=hid hW0;have HS:=hid hsz;have HRE:Hid (yl h l=yl h l):=rfl;obtain⟨r,hr⟩:∃r,r=yl h l:=⟨_,rfl⟩;rw[←hr];clear HRE;clear hb hx hy hW0 hsz
 cases hv:valid h l with
 | false =>
  have HE:Hid (r=bad 2):=hid (by rw[hr];simp[yl,hv]);have CC:=hid (vr h a n c l W0 hsW hv);clear hs hsW hv hr
  go_enter Tryz.func287,Tryz.ntmps287
  go_upto_region 1 with fail
  rw[←HW.out]
  go_wp2_with fail
  refine CC.out.mono ?_;rintro e w1 ⟨rfl,hb1⟩;have hx1:=HX.out.below hb1;have hy1:=HY.out.below hb1;have f0:=hx1.f 0;have f1:=hx1.f 1;have k0:=hx1.c0;have k1:=hx1.c1;have HX1:=hid hx1;have HY1:=hid hy1;have HB1:=hid (HB.out.trans (hb1.mono HB.out.size));clear hx1 hy1 hb1 c0 c1 CC
  go_upto_region 2 with fail
  obtain⟨w2,hw2⟩:∃w2,w2=(w1.setCell ⟨w.heap.size,0,none⟩ (.int .i64 0)).setCell ⟨w.heap.size,1,none⟩ (.slice none 0 0):=⟨_,rfl⟩;rw[←hw2];have hy2:Bx w2 (w.heap.size+1) (.int .i64 0) (.slice none 0 0):=by rw[hw2];exact (HY1.out.far (by simp) _).far (by simp) _
  have HB2:Hid (Below w.heap.size w w2):=hid (by rw[hw2];exact (HB1.out.setCell (by simp) _).setCell (by simp) _);have HY2:=hid hy2;have f0:=hy2.f 0;have f1:=hy2.f 1;have k0:=hy2.c0;have k1:=hy2.c1;clear hy2 hw2 HX1 HY1 HB1;go_wp2;exact bodyPost_ret (zX Tryz.results287 _ _ (w.heap.size+1) rfl (kW HY2.out _ _)) rfl (yT (h:=0) (z:=0) (v:=.bool true) ((HB2.out.setCell (by simp) _).setCell (by simp) _) HE.out)
 | true =>
  have CC:=hid (kV h a n c l W0 hsW hv);have HV:=hid hv;have HR:=hid hr;have HLN:=hid hs.len;clear hs hsW hv hr;obtain⟨hh0,hh1,hne,hle⟩:=yK HV.out;obtain⟨m,rfl⟩:∃m,n=m+1:=⟨n-1,by have:=HLN.out;have:=List.length_pos_iff.2 hne;omega⟩;have hm:m≤1000:=by have:=HLN.out;omega
  have hfi:=ki HV.out;have HT:=hid (fun (W:World) (g c':Nat) (ho:yG (w.heap.size+2) W (.slice (some ⟨g,0,none⟩) (m+1) c') l)=>YO ho HLN.out hm);obtain⟨f,hf⟩:∃f,zl l=f:=⟨_,rfl⟩;rw[hf] at HT hfi;obtain⟨op,ba,re,de⟩:=f;dsimp only[zFZ] at HT hfi;obtain⟨hb0,hb1',hr0,hr1⟩:=hfi;rw[Nat.add_sub_cancel] at CC;have CW:=hid (fun W=>JC h re ⟨op,ba,re,de⟩ W hh0 hh1 hb0 hb1' hr0 (by omega));have HR1:Hid (r=if (without h re ⟨op,ba,re,de⟩).2≠0 then bad (without h re ⟨op,ba,re,de⟩).2 else if ba<(without h re ⟨op,ba,re,de⟩).1 then bad 201 else ⟨(without h re ⟨op,ba,re,de⟩).1+re,l.take m,0⟩):=hid (by rw[HR.out];simp[yl,HV.out,hf,HLN.out])
  have hx0:0≤(without h re ⟨op,ba,re,de⟩).1∧(without h re ⟨op,ba,re,de⟩).1≤1073741824:=by
   simp only[without]
   repeat' split
   all_goals simp only
   all_goals omega
  obtain⟨x,y,hxy⟩:∃x y,without h re ⟨op,ba,re,de⟩=(x,y):=⟨_,_,rfl⟩;rw[hxy] at CW HR1 hx0;dsimp only at CW HR1 hx0;have HX0:=hid hx0;have kx:IntKind.i64.wrap (x+re)=x+re:=qi (by omega) (by omega);have HRE:=hid (And.intro hr0 hr1);clear hxy hf HR hh0 hh1 hb0 hb1' hr0 hr1 hne hle HV hx0
  go_enter Tryz.func287,Tryz.ntmps287
  go_upto_region 1 with fail
  rw[←HW.out]
  go_wp2_with fail
  refine CC.out.mono ?_;rintro e w1 ⟨g,c',rfl,ho,hb1⟩;have HM0:=hid (Mid.of (h:=h) HB.out HX.out HY.out HS.out ho hb1);have hx1:=HX.out.below hb1;have f0:=hx1.f 0;have f1:=hx1.f 1;have k0:=hx1.c0;have k1:=hx1.c1;clear hx1 hb1 ho c0 c1 CC
  go_upto_region 2 with fail
  obtain⟨w2,hw2⟩:∃w2,w2=(w1.setCell ⟨w.heap.size,0,none⟩ (.int .i64 h)).setCell ⟨w.heap.size,1,none⟩ (.slice (some ⟨g,0,none⟩) (m+1) c'):=⟨_,rfl⟩;rw[←hw2] at HM0 ⊢;clear hw2 f0 f1 k0 k1 HB HX HY HS HW;have hp:=HM0.out.par;have hy:=HM0.out.res;have p0:=hp.c0;have p1:=hp.c1;have pf0:=hp.f 0;have pf1:=hp.f 1;have r0:=hy.c0;have r1:=hy.c1;have rf0:=hy.f 0;have rf1:=hy.f 1;clear hp hy;obtain⟨t0,t1,t2,t3⟩:=HT.out _ _ _ HM0.out.own;have hS:=J5 HM0.out.par t0 t1 t2 t3 (Below.refl _ _);have HKP:=hid (fun (W:World) (h:Below w2.heap.size w2 W)=>J5 HM0.out.par t0 t1 t2 t3 h);have HGB:=hid (kQ HM0.out.own);clear HT;go_wp2
  go_region_held3 (fun w'=>Below w2.heap.size w2 w'∧w'.cell? ⟨w.heap.size,0,none⟩=some (.int .i64 h)∧w'.cell? ⟨g,m*4,none⟩=some (.int .i64 op)∧w'.cell? ⟨g,m*4+1,none⟩=some (.int .i64 ba)∧w'.cell? ⟨g,m*4+2,none⟩=some (.int .i64 re)∧w'.cell? ⟨g,m*4+3,none⟩=some (.bool de))
   (first
     | (with_reducible assumption)
     | (with_reducible exact HKP.out _ hb3)
     | (with_reducible exact HKP.out _ ((Below.refl _ _).drew)))
   (first
     | (go_at_call 326;refine (CW.out _).mono ?_;rintro e w3 ⟨rfl,hb3'⟩;have hb3:Below w2.heap.size w2 w3:=(by first|exact hb3'|exact ZG hb3')))
  have hpp:=HM0.out.par.below hb3;have hyy:=HM0.out.res.below hb3;have HO3:=hid (HM0.out.own.below hb3);have HB3:=hid (HM0.out.below.trans (hb3.mono HM0.out.below.size));have HPP:=hid hpp;have HYY:=hid hyy;have t0:=keep hb3 t0;have t1:=keep hb3 t1;have t2:=keep hb3 t2;have t3:=keep hb3 t3;have p0:=hpp.c0;have p1:=hpp.c1;have pf0:=hpp.f 0;have pf1:=hpp.f 1;have r0:=hyy.c0;have r1:=hyy.c1;have rf0:=hyy.f 0;have rf1:=hyy.f 1;clear hpp hyy hb3 hb3' HM0 HKP hS CW
  by_cases g1:y=0
  rotate_left
  ·have HE:Hid (r=bad y):=hid (by rw[HR1.out,if_pos g1])
   have g1b:(y != 0)=true:=by simp[g1]
   clear HR1;go_wp2;exact bodyPost_ret (zX Tryz.results287 _ _ (w.heap.size+1) rfl (kW HYY.out _ _)) rfl (yT (h:=0) (z:=0) (v:=.bool true) ((HB3.out.setCell (by simp) _).setCell (by simp) _) HE.out)
  subst g1
  by_cases g2:ba<x
  ·have HE:Hid (r=bad 201):=hid (by rw[HR1.out,if_neg (by simp),if_pos g2])
   clear HR1;go_wp2;exact bodyPost_ret (zX Tryz.results287 _ _ (w.heap.size+1) rfl (kW HYY.out _ _)) rfl (yT (h:=0) (z:=0) (v:=.bool true) ((HB3.out.setCell (by simp) _).setCell (by simp) _) HE.out)
  have HE:Hid (r=⟨x+re,l.take m,0⟩):=hid (by rw[HR1.out,if_neg (by simp),if_neg g2]);clear HR1
  go_upto_region 10 with fail
  obtain⟨w4,hw4⟩:∃w4,w4=w3.setCell ⟨w.heap.size,0,none⟩ (.int .i64 (x+re)):=⟨_,rfl⟩;rw[←hw4];have hp4:Bx w4 w.heap.size (.int .i64 (x+re)) (.slice (some ⟨g,0,none⟩) (m+1) c'):=by rw[hw4];exact HPP.out.set0 _
  have hy4:Bx w4 (w.heap.size+1) (.int .i64 0) (.slice none 0 0):=by rw[hw4];exact HYY.out.far (by simp) _
  have HO4:Hid (yG (w.heap.size+2) w4 (.slice (some ⟨g,0,none⟩) (m+1) c') l):=hid (by rw[hw4];exact HO3.out.set (by simp) _);have HB4:Hid (Below w.heap.size w w4):=hid (by rw[hw4];exact HB3.out.setCell (by simp) _);have hcp:m≤c':=by have:=HO4.out.cap HLN.out;omega
  have hcp1:(m:Int)≤(c':Int):=by omega
  have p0:=hp4.c0;have p1:=hp4.c1;have pf0:=hp4.f 0;have pf1:=hp4.f 1;have HP4:=hid hp4;have HY4:=hid hy4;have km:IntKind.i64.wrap (m:Int)=m:=qi (by omega) (by omega);clear hw4 hp4 hy4 HO3 HB3 HPP HYY t0 t1 t2 t3 r0 r1 rf0 rf1
  go_upto_region 11 with fail
  obtain⟨w5,hw5⟩:∃w5,w5=w4.setCell ⟨w.heap.size,1,none⟩ (.slice (some ⟨g,0,none⟩) m c'):=⟨_,rfl⟩;rw[←hw5];have hp5:Bx w5 w.heap.size (.int .i64 (x+re)) (.slice (some ⟨g,0,none⟩) m c'):=by rw[hw5];exact HP4.out.set1 _
  have hy5:Bx w5 (w.heap.size+1) (.int .i64 0) (.slice none 0 0):=by rw[hw5];exact HY4.out.far (by simp) _
  have HO5:Hid (yG (w.heap.size+2) w5 (.slice (some ⟨g,0,none⟩) m c') (l.take m)):=hid (by rw[hw5];exact (HO4.out.take HLN.out).set (by simp) _);have HB5:Hid (Below w.heap.size w w5):=hid (by rw[hw5];exact HB4.out.setCell (by simp) _);have p0:=hp5.c0;have p1:=hp5.c1;have r0:=hy5.c0;have r1:=hy5.c1;have rf0:=hy5.f 0;have rf1:=hy5.f 1;have HY5:=hid hy5;clear hw5 hp5 hy5 HO4 HB4 HP4 HY4;go_wp2;exact bodyPost_ret (zX Tryz.results287 _ _ (w.heap.size+1) rfl (kW HY5.out _ _)) rfl (YL HE.out ((HO5.out.set (by simp) _).set (by simp) _) ((HB5.out.setCell (by simp) _).setCell (by simp) _))
end Stk
namespace Val
open Go.RowKit Instr Mod
open Stk (Fr R ji vP qM yu yl yW vT qm vH yG valid zl)
def ckA (v:Array Value) (lo re h:Int) (sl:Value) (cnt at_ er:Int):Array Value :=
 #[v.getD 0 undef,v.getD 1 undef,v.getD 2 undef,v.getD 3 undef,v.getD 4 undef,v.getD 5 undef,v.getD 6 undef,v.getD 7 undef,v.getD 8 undef,v.getD 9 undef,v.getD 10 undef,.int .i64 lo,.int .i64 re,.int .i64 h,sl,.int .i64 cnt,.int .i64 at_,.int .i64 er]
def Bk (W:World) (g:Nat) (v:Array Value) (lo re h:Int) (sl:Value) (cnt at_ er:Int):Prop:=W.heap[g]?=some (.cells (ckA v lo re h sl cnt at_ er) 256 (0,0))
section
variable {W W':World} {g:Nat} {v:Array Value} {lo re h cnt at_ er:Int} {sl:Value}
theorem Bk.lt (b:Bk W g v lo re h sl cnt at_ er):g<W.heap.size:=(Array.getElem?_eq_some_iff.1 b).1
theorem Bk.cell (b:Bk W g v lo re h sl cnt at_ er) (j:Nat):W.cell? ⟨g,j,none⟩=(ckA v lo re h sl cnt at_ er)[j]?:=cell_of_row W g j _ _ _ b
theorem Bk.c11 (b:Bk W g v lo re h sl cnt at_ er):W.cell? ⟨g,11,none⟩=some (.int .i64 lo):=b.cell 11
theorem Bk.c12 (b:Bk W g v lo re h sl cnt at_ er):W.cell? ⟨g,12,none⟩=some (.int .i64 re):=b.cell 12
theorem Bk.c13 (b:Bk W g v lo re h sl cnt at_ er):W.cell? ⟨g,13,none⟩=some (.int .i64 h):=b.cell 13
theorem Bk.c14 (b:Bk W g v lo re h sl cnt at_ er):W.cell? ⟨g,14,none⟩=some sl:=b.cell 14
theorem Bk.c15 (b:Bk W g v lo re h sl cnt at_ er):W.cell? ⟨g,15,none⟩=some (.int .i64 cnt):=b.cell 15
theorem Bk.c16 (b:Bk W g v lo re h sl cnt at_ er):W.cell? ⟨g,16,none⟩=some (.int .i64 at_):=b.cell 16
theorem Bk.c17 (b:Bk W g v lo re h sl cnt at_ er):W.cell? ⟨g,17,none⟩=some (.int .i64 er):=b.cell 17
theorem Bk.f (b:Bk W g v lo re h sl cnt at_ er) (j:Nat):W.frozen? ⟨g,j,none⟩=false:=frozen_of_row W g j _ _ b
theorem Bk.set13 (b:Bk W g v lo re h sl cnt at_ er) (x:Int):Bk (W.setCell ⟨g,13,none⟩ (.int .i64 x)) g v lo re x sl cnt at_ er:=heap_setCell_same W g 13 _ _ _ b
theorem Bk.set14 (b:Bk W g v lo re h sl cnt at_ er) (x:Value):Bk (W.setCell ⟨g,14,none⟩ x) g v lo re h x cnt at_ er:=heap_setCell_same W g 14 _ _ _ b
theorem Bk.set15 (b:Bk W g v lo re h sl cnt at_ er) (x:Int):Bk (W.setCell ⟨g,15,none⟩ (.int .i64 x)) g v lo re h sl x at_ er:=heap_setCell_same W g 15 _ _ _ b
theorem Bk.set16 (b:Bk W g v lo re h sl cnt at_ er) (x:Int):Bk (W.setCell ⟨g,16,none⟩ (.int .i64 x)) g v lo re h sl cnt x er:=heap_setCell_same W g 16 _ _ _ b
theorem Bk.set17 (b:Bk W g v lo re h sl cnt at_ er) (x:Int):Bk (W.setCell ⟨g,17,none⟩ (.int .i64 x)) g v lo re h sl cnt at_ x:=heap_setCell_same W g 17 _ _ _ b
theorem Bk.below (b:Bk W g v lo re h sl cnt at_ er) (hb:Below W.heap.size W W'):Bk W' g v lo re h sl cnt at_ er:=(hb.block g b.lt).trans b
end
structure YC (g:Nat) (W:World) (a:Option Addr) (n c:Nat) (l:List Fr):Prop where
 st:qm W.heap.size W a n c l
 ne:∀b off,a=some ⟨b,off,none⟩→b≠g
theorem YC.on {g:Nat} {W W':World} {a:Option Addr} {n c:Nat} {l:List Fr} (h:YC g W a n c l) (hb:Below W.heap.size W W'):YC g W' a n c l:=⟨h.st.on hb,h.ne⟩
theorem YC.set {g:Nat} {W:World} {a:Option Addr} {n c:Nat} {l:List Fr} (h:YC g W a n c l) (j:Nat) (u:Value):YC g (W.setCell ⟨g,j,none⟩ u) a n c l:=by
 refine⟨⟨?_,h.st.len,h.st.cap,h.st.fit⟩,h.ne⟩;have hz:(W.setCell ⟨g,j,none⟩ u).heap.size=W.heap.size:=by simp[World.setCell]
 rw[hz]
 rcases h.st.rows with h1|⟨b,off,ha,hb,hc⟩
 ·exact .inl h1
 ·exact .inr ⟨b,off,ha,hb,fun i hi q hq v hv=>(World.cell?_setCell_far _ ⟨g,j,none⟩ _ _ (Ne.symm (h.ne b off ha))).trans (hc i hi q hq v hv)⟩
structure Mo (n₀:Nat) (m:Md) (W:World):Prop where
 md:zN n₀ W m
 ar:Num.ZX W
 ag:0<n₀
theorem Mo.below {n₀:Nat} {m:Md} {W W':World} (h:Mo n₀ m W) (hb:Below n₀ W W'):Mo n₀ m W':=⟨h.md.below hb,fun j hj=>(hb.cell (p:=⟨0,j,none⟩) h.ag).trans (h.ar j hj),h.ag⟩
structure Ck (g n₀:Nat) (m:Md) (lo re:Int) (s:St) (W:World):Prop where
 blk:∃a n c,Bk W g m.v lo re s.h (.slice a n c) s.cnt s.at_ s.er∧YC g W a n c s.l
 mo:Mo n₀ m W
 le:n₀≤g
theorem Ck.md {g n₀:Nat} {m:Md} {lo re:Int} {s:St} {W:World} (h:Ck g n₀ m lo re s W):zN n₀ W m:=h.mo.md
theorem Ck.lt {g n₀:Nat} {m:Md} {lo re:Int} {s:St} {W:World} (h:Ck g n₀ m lo re s W):g<W.heap.size:=by
 obtain⟨a,n,c,hb,_⟩:=h.blk;exact hb.lt
theorem Ck.on {g n₀:Nat} {m:Md} {lo re:Int} {s:St} {W W':World} (h:Ck g n₀ m lo re s W) (hb:Below W.heap.size W W'):Ck g n₀ m lo re s W':=by
 obtain⟨a,n,c,hk,hf⟩:=h.blk;exact⟨⟨a,n,c,hk.below hb,hf.on hb⟩,h.mo.below (hb.mono (by have:=hk.lt;have:=h.le;omega)),h.le⟩
theorem uS {n₀ g:Nat} {W:World} {m:Md} (h:Mo n₀ m W) (hg:n₀≤g) (j:Nat) (u:Value):Mo n₀ m (W.setCell ⟨g,j,none⟩ u):=h.below ((Below.refl _ _).setCell hg u)
theorem Ck.put {g n₀:Nat} {m:Md} {lo re:Int} {s:St} {w w1:World} {r:R} {a:Option Addr} {n c:Nat} (h:Ck g n₀ m lo re s w) (hb:Below w.heap.size w w1) (hf:YC g w1 a n c r.l) :
  Ck g n₀ m lo re (s.put r) (((w1.setCell ⟨g,13,none⟩ (.int .i64 r.h)).setCell ⟨g,14,none⟩ (.slice a n c)).setCell ⟨g,17,none⟩ (.int .i64 r.e)) ∧
   zF g w (((w1.setCell ⟨g,13,none⟩ (.int .i64 r.h)).setCell ⟨g,14,none⟩ (.slice a n c)).setCell ⟨g,17,none⟩ (.int .i64 r.e)):=by
 have h1:=h.on hb;obtain⟨a',n',c',hk,_⟩:=h1.blk;refine⟨⟨⟨a,n,c,((hk.set13 r.h).set14 (.slice a n c)).set17 r.e,((hf.set _ _).set _ _).set _ _⟩,uS (uS (uS h1.mo h.le _ _) h.le _ _) h.le _ _,h.le⟩,?_⟩;exact (((zF.of_below hb).setCell (p:=⟨g,13,none⟩) (.inl rfl) (.int .i64 r.h)).setCell (p:=⟨g,14,none⟩) (.inl rfl) (.slice a n c)).setCell (p:=⟨g,17,none⟩) (.inl rfl) (.int .i64 r.e)
theorem ve {w w':World} {r:R} {e:Ending} {g:Nat} (hm:vH w r e w') (hl:r.l.length≤1000000) (hg:g<w.heap.size) :
  ∃a n c,e=.returned (.tuple #[.agg #[.int .i64 r.h,.slice a n c],.int .i64 r.e])∧YC g w' a n c r.l∧Below w.heap.size w w':=by
 obtain⟨a,n,c,rfl,ho,hb⟩:=hm;obtain⟨a',c',hv,hst⟩:=ho.slice hl;simp only[Value.slice.injEq] at hv;obtain⟨rfl,rfl,rfl⟩:=hv;refine⟨_,_,_,rfl,⟨hst,fun b off hab=>?_⟩,hb⟩;subst hab;have:=(World.ownsRow.lt ho.row b ?_).1
 ·omega
 ·rcases ho.row.2 with ⟨h0,_⟩|⟨g',cap,cur,h0,_⟩
  ·simp at h0
  ·simp only[Value.slice.injEq,Option.some.injEq,Addr.mk.injEq] at h0
   obtain⟨⟨rfl,rfl,_⟩,_⟩:=h0;rfl
theorem vw {h:Int} {l:List Fr} (hv:¬valid h l=false):l.length≤1000:=(Stk.yK (by simpa using hv)).2.2.2
theorem zEt (h:Int) (l:List Fr) (n:Int):(ji h l n).l.length≤1000000:=by
 unfold ji
 split
 ·simp[Stk.bad]
 ·rename_i hv;have:=vw hv
  split;· simp[Stk.bad]
  split;· simp[Stk.bad]
  simp only;omega
theorem zGQ (h:Int) (l:List Fr) (n:Int):(vP h l n).l.length≤1000000:=by
 unfold vP
 split
 ·simp[Stk.bad]
 ·rename_i hv;have:=vw hv
  split;· simp[Stk.bad]
  split;· simp only;omega
  simp[Stk.bad]
theorem zEh (h:Int) (l:List Fr):(qM h l).l.length≤1000000:=by
 unfold qM
 split
 ·simp[Stk.bad]
 ·rename_i hv;have:=vw hv
  simp only[List.length_set];omega
theorem zDy (h:Int) (l:List Fr) (o e:Int):(yu h l o e).l.length≤1000000:=by
 unfold yu
 split
 ·simp[Stk.bad]
 ·rename_i hv;have:=vw hv
  split;· simp[Stk.bad]
  split;· simp[Stk.bad]
  simp only[List.length_append,List.length_cons,List.length_nil];omega
theorem zDZ (h:Int) (l:List Fr):(yl h l).l.length≤1000000:=by
 unfold yl
 split
 ·simp[Stk.bad]
 ·rename_i hv;have:=vw hv
  split;· simp[Stk.bad]
  split;· simp[Stk.bad]
  simp only[List.length_take];omega
theorem Ck.below {g n₀:Nat} {m:Md} {lo re:Int} {s:St} {w w':World} (h:Ck g n₀ m lo re s w) (hs:zF g w w'):Below n₀ w w':=hs.below (by have:=h.lt;have:=h.le;omega) h.le
def Done (g n₀:Nat) (m:Md) (lo re:Int) (w:World) (s':St) (e:Ending) (w':World):Prop:=e=.returned (.tuple #[])∧Ck g n₀ m lo re s' w'∧zF g w w'
theorem qh (g n₀:Nat) (m:Md) (lo re:Int) (s:St) (x:Int) (w:World) (h:Ck g n₀ m lo re s w) :
  Calls Tryz.prog 276 #[.pointer (some ⟨g,0,none⟩),.int .i64 x] w (Done g n₀ m lo re w (zv x s)):=by
 obtain⟨a,n,c,hk,hf⟩:=h.blk;have HC:=hid h
 by_cases h0:s.er=0
 ·have HE:=hid (show zv x s=⟨s.h,s.l,s.cnt,s.at_,x⟩ by unfold zv;rw[if_pos h0])
  have HQ:=hid (show Ck g n₀ m lo re ⟨s.h,s.l,s.cnt,s.at_,x⟩ (w.setCell ⟨g,17,none⟩ (.int .i64 x)) from ⟨⟨a,n,c,hk.set17 x,hf.set _ _⟩,uS h.mo h.le _ _,h.le⟩);have c17:=hk.c17;have f17:=hk.f 17;rw[h0] at c17;clear h hk hf h0
  go_enter Tryz.func276,Tryz.ntmps276
  go_wp2
  go_end0
  refine⟨rfl,?_,(zF.refl g w).setCell (.inl rfl) _⟩;rw[HE.out];exact HQ.out
 ·have HE:=hid (show zv x s=s by unfold zv;rw[if_neg h0])
  have c17:=hk.c17;clear h hk hf
  go_enter Tryz.func276,Tryz.ntmps276
  go_wp2;refine bodyPost_ret (results_none rfl _ _ _) rfl ⟨rfl,?_,zF.refl _ _⟩;rw[HE.out];exact HC.out
theorem zBg (g n₀:Nat) (m:Md) (lo re:Int) (s:St) (k:Int) (w:World) (h:Ck g n₀ m lo re s w) :
  Calls Tryz.prog 284 #[.pointer (some ⟨g,0,none⟩),.int .i64 k] w (Done g n₀ m lo re w (qL k s)):=by
 obtain⟨a,n,c,hk,hf⟩:=h.blk;have HC:=hid h
 by_cases h0:s.er=0
 ·have HE:=hid (show qL k s=s.put (ji s.h s.l k) by unfold qL;rw[if_pos h0])
  have c17:=hk.c17;rw[h0] at c17;have HK1:=hid hk;have HLT:=hid h.lt;have CC:=hid (Stk.push_any s.h a n c s.l k w hf.st);have c13:=hk.c13;have c14:=hk.c14;clear h hk hf h0
  go_enter Tryz.func284,Tryz.ntmps284
  go_wp2_with fail
  refine CC.out.mono ?_;intro e1 w1 hm1;obtain⟨a1,n1,c1,rfl,hf1,hb1⟩:=ve hm1 (zEt _ _ _) HLT.out;have hk1:=HK1.out.below hb1;have f13:=hk1.f 13;have f14:=hk1.f 14;have f17:=hk1.f 17;have d13:=hk1.c13;have d14:=hk1.c14;have d17:=hk1.c17;have HP:=hid (HC.out.put hb1 hf1);clear hk1 hf1 hb1 hm1 CC c13 c14 c17;go_wp2
  go_end0
  obtain⟨hP,hS⟩:=HP.out;refine⟨rfl,?_,hS⟩;rw[HE.out];exact hP
 ·have HE:=hid (show qL k s=s by unfold qL;rw[if_neg h0])
  have c17:=hk.c17;clear h hk hf
  go_enter Tryz.func284,Tryz.ntmps284
  go_wp2;refine bodyPost_ret (results_none rfl _ _ _) rfl ⟨rfl,?_,zF.refl _ _⟩;rw[HE.out];exact HC.out
theorem ue (g n₀:Nat) (m:Md) (lo re:Int) (s:St) (k:Int) (w:World) (h:Ck g n₀ m lo re s w) (hk0:k≤9223372036854775807) :
  Calls Tryz.prog 282 #[.pointer (some ⟨g,0,none⟩),.int .i64 k] w (Done g n₀ m lo re w (zx k s)):=by
 obtain⟨a,n,c,hk,hf⟩:=h.blk;have HC:=hid h
 by_cases h0:s.er=0
 ·have HE:=hid (show zx k s=s.put (vP s.h s.l k) by unfold zx;rw[if_pos h0])
  have c17:=hk.c17;rw[h0] at c17;have HK1:=hid hk;have HLT:=hid h.lt;have CC:=hid (Stk.pop_any s.h a n c s.l k w hf.st hk0);have c13:=hk.c13;have c14:=hk.c14;clear h hk hf h0
  go_enter Tryz.func282,Tryz.ntmps282
  go_wp2_with fail
  refine CC.out.mono ?_;intro e1 w1 hm1;obtain⟨a1,n1,c1,rfl,hf1,hb1⟩:=ve hm1 (zGQ _ _ _) HLT.out;have hk1:=HK1.out.below hb1;have f13:=hk1.f 13;have f14:=hk1.f 14;have f17:=hk1.f 17;have d13:=hk1.c13;have d14:=hk1.c14;have d17:=hk1.c17;have HP:=hid (HC.out.put hb1 hf1);clear hk1 hf1 hb1 hm1 CC c13 c14 c17;go_wp2
  go_end0
  obtain⟨hP,hS⟩:=HP.out;refine⟨rfl,?_,hS⟩;rw[HE.out];exact hP
 ·have HE:=hid (show zx k s=s by unfold zx;rw[if_neg h0])
  have c17:=hk.c17;clear h hk hf
  go_enter Tryz.func282,Tryz.ntmps282
  go_wp2;refine bodyPost_ret (results_none rfl _ _ _) rfl ⟨rfl,?_,zF.refl _ _⟩;rw[HE.out];exact HC.out
theorem zBD (g n₀:Nat) (m:Md) (lo re:Int) (s:St)  (w:World) (h:Ck g n₀ m lo re s w) :
  Calls Tryz.prog 278 #[.pointer (some ⟨g,0,none⟩)] w (Done g n₀ m lo re w (jl s)):=by
 obtain⟨a,n,c,hk,hf⟩:=h.blk;have HC:=hid h
 by_cases h0:s.er=0
 ·have HE:=hid (show jl s=s.put (qM s.h s.l) by unfold jl;rw[if_pos h0])
  have c17:=hk.c17;rw[h0] at c17;have HK1:=hid hk;have HLT:=hid h.lt;have CC:=hid (Stk.zFr s.h a n c s.l w hf.st);have c13:=hk.c13;have c14:=hk.c14;clear h hk hf h0
  go_enter Tryz.func278,Tryz.ntmps278
  go_wp2_with fail
  refine CC.out.mono ?_;intro e1 w1 hm1;obtain⟨a1,n1,c1,rfl,hf1,hb1⟩:=ve hm1 (zEh _ _) HLT.out;have hk1:=HK1.out.below hb1;have f13:=hk1.f 13;have f14:=hk1.f 14;have f17:=hk1.f 17;have d13:=hk1.c13;have d14:=hk1.c14;have d17:=hk1.c17;have HP:=hid (HC.out.put hb1 hf1);clear hk1 hf1 hb1 hm1 CC c13 c14 c17;go_wp2
  go_end0
  obtain⟨hP,hS⟩:=HP.out;refine⟨rfl,?_,hS⟩;rw[HE.out];exact hP
 ·have HE:=hid (show jl s=s by unfold jl;rw[if_neg h0])
  have c17:=hk.c17;clear h hk hf
  go_enter Tryz.func278,Tryz.ntmps278
  go_wp2;refine bodyPost_ret (results_none rfl _ _ _) rfl ⟨rfl,?_,zF.refl _ _⟩;rw[HE.out];exact HC.out
theorem Jb (g n₀:Nat) (m:Md) (lo re:Int) (s:St) (o r:Int) (w:World) (h:Ck g n₀ m lo re s w) :
  Calls Tryz.prog 279 #[.pointer (some ⟨g,0,none⟩),.int .i64 o,.int .i64 r] w (Done g n₀ m lo re w (yI o r s)):=by
 obtain⟨a,n,c,hk,hf⟩:=h.blk;have HC:=hid h
 by_cases h0:s.er=0
 ·have HE:=hid (show yI o r s=s.put (yu s.h s.l o r) by unfold yI;rw[if_pos h0])
  have c17:=hk.c17;rw[h0] at c17;have HK1:=hid hk;have HLT:=hid h.lt;have CC:=hid (Stk.zFH s.h a n c s.l o r w hf.st);have c13:=hk.c13;have c14:=hk.c14;clear h hk hf h0
  go_enter Tryz.func279,Tryz.ntmps279
  go_wp2_with fail
  refine CC.out.mono ?_;intro e1 w1 hm1;obtain⟨a1,n1,c1,rfl,hf1,hb1⟩:=ve hm1 (zDy _ _ _ _) HLT.out;have hk1:=HK1.out.below hb1;have f13:=hk1.f 13;have f14:=hk1.f 14;have f17:=hk1.f 17;have d13:=hk1.c13;have d14:=hk1.c14;have d17:=hk1.c17;have HP:=hid (HC.out.put hb1 hf1);clear hk1 hf1 hb1 hm1 CC c13 c14 c17;go_wp2
  go_end0
  obtain⟨hP,hS⟩:=HP.out;refine⟨rfl,?_,hS⟩;rw[HE.out];exact hP
 ·have HE:=hid (show yI o r s=s by unfold yI;rw[if_neg h0])
  have c17:=hk.c17;clear h hk hf
  go_enter Tryz.func279,Tryz.ntmps279
  go_wp2;refine bodyPost_ret (results_none rfl _ _ _) rfl ⟨rfl,?_,zF.refl _ _⟩;rw[HE.out];exact HC.out
theorem zEV (g n₀:Nat) (m:Md) (lo re:Int) (s:St) (own:Int) (w:World) (h:Ck g n₀ m lo re s w) :
  Calls Tryz.prog 243 #[.pointer (some ⟨g,0,none⟩),.int .i64 own] w (Done g n₀ m lo re w (jo own s)):=by
 obtain⟨a,n,c,hk,hf⟩:=h.blk;have HC:=hid h
 by_cases h0:s.er=0
 ·have HE:=hid (show jo own s=St.put ⟨s.h,s.l,s.cnt,own,s.er⟩ (yl s.h s.l) by unfold jo;rw[if_pos h0])
  have c17:=hk.c17;rw[h0] at c17;have hk1:=hk.set16 own;have h1:Ck g n₀ m lo re ⟨s.h,s.l,s.cnt,own,s.er⟩ (w.setCell ⟨g,16,none⟩ (.int .i64 own)):=⟨⟨a,n,c,hk1,hf.set _ _⟩,uS h.mo h.le _ _,h.le⟩;have HS1:Hid (zF g w (w.setCell ⟨g,16,none⟩ (.int .i64 own))):=hid ((zF.refl g w).setCell (.inl rfl) _);have HC1:=hid h1;have HK1:=hid hk1;have HLT:=hid h1.lt;have CC:=hid (Stk.zEy s.h a n c s.l (w.setCell ⟨g,16,none⟩ (.int .i64 own)) (hf.set 16 _).st);have f16:=hk.f 16;have c16:=hk.c16;clear h hk hk1 hf h1 h0
  go_enter Tryz.func243,Tryz.ntmps243
  go_upto_region 2 with fail
  obtain⟨w0,hw0⟩:∃u,u=w.setCell ⟨g,16,none⟩ (.int .i64 own):=⟨_,rfl⟩;rw[←hw0] at HC1 HK1 CC HLT HS1 ⊢;clear c17 c16 f16 hw0;have c13:=HK1.out.c13;have c14:=HK1.out.c14
  go_wp2_with fail
  refine CC.out.mono ?_;intro e1 w1 hm1;obtain⟨a1,n1,c1,rfl,hf1,hb1⟩:=ve hm1 (zDZ _ _) HLT.out;have hk1:=HK1.out.below hb1;have f13:=hk1.f 13;have f14:=hk1.f 14;have f17:=hk1.f 17;have d13:=hk1.c13;have d14:=hk1.c14;have d17:=hk1.c17;have HP:=hid (HC1.out.put hb1 hf1);clear hk1 hf1 hb1 hm1 CC c13 c14;go_wp2
  go_end0
  obtain⟨hP,hS⟩:=HP.out;refine⟨rfl,?_,(HS1.out.trans hS)⟩;rw[HE.out];exact hP
 ·have HE:=hid (show jo own s=s by unfold jo;rw[if_neg h0])
  have c17:=hk.c17;clear h hk hf
  go_enter Tryz.func243,Tryz.ntmps243
  go_wp2;refine bodyPost_ret (results_none rfl _ _ _) rfl ⟨rfl,?_,zF.refl _ _⟩;rw[HE.out];exact HC.out
theorem YR (g n₀:Nat) (m:Md) (lo re:Int) (s:St) (k:Int) (w:World) (h:Ck g n₀ m lo re s w) (hk:0≤k∧k<4294967296) :
  Calls Tryz.prog 283 #[.pointer (some ⟨g,0,none⟩),.int .u32 k] w (fun e w'=>e=.returned (.int .i64 (ze k s).1)∧Ck g n₀ m lo re (ze k s).2 w'∧zF g w w'):=by
 obtain⟨a,n,c,hB,hf⟩:=h.blk;have HC:=hid h
 by_cases h0:s.er=0
 ·have HE:=hid (show ze k s=((yW s.h s.l k).1,zv (yW s.h s.l k).2 s) by unfold ze;rw[if_pos h0])
  have hw:IntKind.i64.wrap k=k:=by rw[IntKind.wrap_i64];omega
  have c13:=hB.c13;have c14:=hB.c14;have c17:=hB.c17;rw[h0] at c17;have CC:=hid (Stk.zE9 s.h a n c s.l k w hf.st);obtain⟨x,hx⟩:∃x,yW s.h s.l k=x:=⟨_,rfl⟩;rw[hx] at CC HE;clear h hB hf h0 hk hx
  go_enter Tryz.func283,Tryz.ntmps283
  go_wp2_with fail
  refine CC.out.mono ?_;rintro e1 w1 ⟨rfl,hb1⟩;have HC1:=hid (HC.out.on hb1);have HB1:=hid hb1;have C2:=hid (qh g n₀ m lo re s x.2 w1 HC1.out);clear CC c13 c14 c17 hb1
  go_wp2_with fail
  refine C2.out.mono ?_;rintro e2 w2 ⟨rfl,hc2,hs2⟩;have HC2:=hid hc2;have HS2:=hid ((zF.of_below HB1.out).trans hs2);clear C2 hc2 hs2;go_wp2;go_ret;rw[HE.out];exact⟨rfl,HC2.out,HS2.out⟩
 ·have HE:=hid (show ze k s=(0,s) by unfold ze;rw[if_neg h0])
  have c17:=hB.c17;clear h hB hf
  go_enter Tryz.func283,Tryz.ntmps283
  go_wp2;go_ret;rw[HE.out];exact⟨rfl,HC.out,zF.refl _ _⟩
end Val
namespace Kind
open Go.RowKit
theorem zDH (a b c d:Int) (w:World):(Op.equalIn 10000 26 (.agg #[.int .i64 a,.int .i64 b]) (.agg #[.int .i64 c,.int .i64 d])).run Tryz.prog w=.ok (a==c&&b==d) w:=by
 have u3:=Tryz.underlying3;have a3:=Tryz.isAgg3;have z3:=Tryz.sizeOf3;have hS:Tryz.prog.underlying 26=some (.struct (Tryz.prog.fieldsOf 26)):=by kernel_rfl
 have hp:Tryz.prog.stoodInHeld 26=false:=by kernel_rfl
 rw[show (10000:Nat)=9999+1 from rfl,run_equalIn_agg w 9999 26 _ _ hS hp];simp only[Program.fieldsOf,Tryz.underlying26]
 go_simp
 by_cases h1:a=c<;>by_cases h2:b=d<;>simp[h1,h2]
theorem Yt (op:BinOp) (x y:Operand) (xs ys:Array Value) (w:World):(eqGuard op 26 x y (.agg xs) (.agg ys)).run Tryz.prog w=.ok () w :=
 run_eqGuard_agg w op _ x y xs ys (by kernel_rfl)
theorem zGw (a b c d:Int) (s t:Bool) (w:World):(Op.equalIn 10000 127 (.agg #[.int .u32 a,.int .u32 b,.bool s]) (.agg #[.int .u32 c,.int .u32 d,.bool t])).run Tryz.prog w=.ok (a==c&&b==d&&s==t) w:=by
 have u3:=Tryz.underlying36;have a3:=Tryz.isAgg36;have z3:=Tryz.sizeOf36;have u4:=Tryz.underlying4;have a4:=Tryz.isAgg4;have z4:=Tryz.sizeOf4;have hS:Tryz.prog.underlying 127=some (.struct (Tryz.prog.fieldsOf 127)):=by kernel_rfl
 have hp:Tryz.prog.stoodInHeld 127=false:=by kernel_rfl
 rw[show (10000:Nat)=9999+1 from rfl,run_equalIn_agg w 9999 127 _ _ hS hp];simp only[Program.fieldsOf,Tryz.underlying127]
 go_simp
 by_cases h1:a=c<;>by_cases h2:b=d<;>by_cases h3:s=t<;>simp[h1,h2,h3]
theorem zAB (op:BinOp) (x y:Operand) (xs ys:Array Value) (w:World):(eqGuard op 127 x y (.agg xs) (.agg ys)).run Tryz.prog w=.ok () w :=
 run_eqGuard_agg w op _ x y xs ys (by kernel_rfl)
theorem JO (p r:Int) (w:World):Calls Tryz.prog 274 #[.agg #[.int .i64 p,.int .i64 r]] w
  fun e w'=>e=.returned (.agg #[.int .i64 (min (max p 0) 255),.int .i64 (min (max r 0) 1)])∧Below w.heap.size w w':=by
 go_enter Tryz.func274,Tryz.ntmps274
 go_wp2
 all_goals
  refine bodyPost_ret (v:=.agg #[.int .i64 (min (max p 0) 255),.int .i64 (min (max r 0) 1)]) ?_ rfl ⟨rfl,((Below.refl _ _).alloc (Nat.le_refl _) _).alloc (by simp) _⟩
  first
   | (simp[results,Tryz.results274,go_sem];done)
   | (simp[results,Tryz.results274,go_sem];omega)
theorem zHd {p r:Int} (h:jJ p r=true):min (max p 0) 255=p∧min (max r 0) 1=r:=by
 unfold jJ at h;simp at h;omega
theorem zHN {p r:Int} (h:jJ p r=false):¬(p=min (max p 0) 255∧r=min (max r 0) 1):=by
 rintro⟨h1,h2⟩;have:jJ p r=true:=by unfold jJ;simp;omega
 rw[h] at this;cases this
theorem zAn (w:World) (x y:Value) (t:TypeId):Below w.heap.size w (w.alloc (.cells #[x,y] t)).drew∧(w.alloc (.cells #[x,y] t)).drew.cell? ⟨w.heap.size,0,none⟩=some x∧(w.alloc (.cells #[x,y] t)).drew.cell? ⟨w.heap.size,1,none⟩=some y :=
 ⟨((Below.refl _ _).alloc (Nat.le_refl _) _).drew,by go_simp,by go_simp⟩
theorem zCw {w w1 w2:World} {x y:Value} {k:Nat} (h:Below w.heap.size w w1∧w1.cell? ⟨k,0,none⟩=some x∧w1.cell? ⟨k,1,none⟩=some y) (hb:Below w1.heap.size w1 w2) :
  Below w.heap.size w w2∧w2.cell? ⟨k,0,none⟩=some x∧w2.cell? ⟨k,1,none⟩=some y:=⟨zM h.1 hb,keep hb h.2.1,keep hb h.2.2⟩
theorem zEH {w w1:World} {x y:Value} {k:Nat} (h:Below w.heap.size w w1∧w1.cell? ⟨k,0,none⟩=some x∧w1.cell? ⟨k,1,none⟩=some y):Below w.heap.size w w1:=h.1
def yF (p r:Int):Int:=if jJ p r then 0 else 2
theorem check_any (p r:Int) (w:World):Calls Tryz.prog 235 #[.agg #[.int .i64 p,.int .i64 r]] w
  fun e w'=>e=.returned (.int .i64 (yF p r))∧Below w.heap.size w w':=by
 have q1:=zDH;have q2:=Yt;have hN:=fun w=>JO p r w
 by_cases h:jJ p r=true
 ·obtain⟨e1,e2⟩:=zHd h
  have HC:Hid (yF p r=0):=by unfold yF;rw[if_pos h];rfl
  simp only[e1,e2] at hN;clear h e1 e2
  go_enter Tryz.func235,Tryz.ntmps235
  go_wp2
  go_region_held3 (fun w'=>Below w.heap.size w w'∧w'.cell? ⟨w.heap.size,0,none⟩=some (.int .i64 p)∧w'.cell? ⟨w.heap.size,1,none⟩=some (.int .i64 r)) (first|assumption|exact zAn w _ _ _|exact zCw (by assumption) (by assumption))
   (first
     | (go_at_call 274;refine (hN _).mono ?_;rintro e w2 ⟨rfl,hb2⟩))
  go_wp2;go_ret;exact⟨zH HC.out.symm,zEH (x:=.int .i64 p) (y:=.int .i64 r) (k:=w.heap.size) (by assumption)⟩
 ·have h':jJ p r=false:=by simpa using h
  have hn:=zHN h';have HC:Hid (yF p r=2):=by unfold yF;rw[h'];rfl
  generalize min (max p 0) 255=m1 at *
  generalize min (max r 0) 1=m2 at *
  have hor:(p==m1)=false∧(p != m1)=true∨(r==m2)=false∧(r != m2)=true:=by
   by_cases h1:p=m1
   ·right
    have:r≠m2:=fun h2=>hn ⟨h1,h2⟩
    simp[this]
   ·left;simp[h1]
  clear h h' hn
  rcases hor with ⟨n1,n2⟩|⟨n1,n2⟩
  all_goals
   go_enter Tryz.func235,Tryz.ntmps235
   go_wp2
   go_region_held3 (fun w'=>Below w.heap.size w w'∧w'.cell? ⟨w.heap.size,0,none⟩=some (.int .i64 p)∧w'.cell? ⟨w.heap.size,1,none⟩=some (.int .i64 r)) (first|assumption|exact zAn w _ _ _|exact zCw (by assumption) (by assumption))
    (first
      | (go_at_call 274;refine (hN _).mono ?_;rintro e w2 ⟨rfl,hb2⟩))
   go_wp2;go_ret;exact⟨zH HC.out.symm,zEH (x:=.int .i64 p) (y:=.int .i64 r) (k:=w.heap.size) (by assumption)⟩
theorem YM (n x most:Int) (c:Bool) (w:World):Calls Tryz.prog 260 #[.agg #[.int .u32 n,.int .u32 x,.bool c],.int .u32 most] w
  fun e w'=>e=.returned (.agg #[.int .u32 (min n most),.int .u32 (if c then min (max x (min n most)) most else 0),.bool c])∧Below w.heap.size w w':=by
 cases c
 ·go_enter Tryz.func260,Tryz.ntmps260
  go_wp2
  all_goals
   refine bodyPost_ret (v:=.agg #[.int .u32 (min n most),.int .u32 0,.bool false]) ?_ rfl ⟨rfl,?_⟩
   ·simp[results,Tryz.results260,go_sem]
    try omega
   ·first|exact ((Below.refl _ _).alloc (Nat.le_refl _) _).alloc (by simp) _|trace_state
 ·go_enter Tryz.func260,Tryz.ntmps260
  go_wp2
  all_goals
   refine bodyPost_ret (v:=.agg #[.int .u32 (min n most),.int .u32 (min (max x (min n most)) most),.bool true]) ?_ rfl ⟨rfl,?_⟩
   ·simp[results,Tryz.results260,go_sem]
    try omega
   ·first|exact ((Below.refl _ _).alloc (Nat.le_refl _) _).alloc (by simp) _|trace_state
theorem zG4 {n x most:Int} {c:Bool} (h:qG n x c most=true):min n most=n∧(if c then min (max x (min n most)) most else 0)=x:=by
 unfold qG at h;cases c<;>simp at h ⊢<;>omega
theorem zFy {n x most:Int} {c:Bool} (h:qG n x c most=false):¬(n=min n most∧x=(if c then min (max x (min n most)) most else 0)):=by
 rintro⟨h1,h2⟩;have:qG n x c most=true:=by unfold qG;cases c<;>simp at h2 ⊢<;>omega
 rw[h] at this;cases this
def yC (n x:Int) (c:Bool) (most:Int):Int:=if qG n x c most then 0 else 2
theorem Jr (w:World) (x y z:Value) (t:TypeId):Below w.heap.size w (w.alloc (.cells #[x,y,z] t)).drew∧(w.alloc (.cells #[x,y,z] t)).drew.cell? ⟨w.heap.size,0,none⟩=some x∧(w.alloc (.cells #[x,y,z] t)).drew.cell? ⟨w.heap.size,1,none⟩=some y∧(w.alloc (.cells #[x,y,z] t)).drew.cell? ⟨w.heap.size,2,none⟩=some z :=
 ⟨((Below.refl _ _).alloc (Nat.le_refl _) _).drew,by go_simp,by go_simp,by go_simp⟩
theorem zA2 {w w1 w2:World} {x y z:Value} {k:Nat} (h:Below w.heap.size w w1∧w1.cell? ⟨k,0,none⟩=some x∧w1.cell? ⟨k,1,none⟩=some y∧w1.cell? ⟨k,2,none⟩=some z) (hb:Below w1.heap.size w1 w2) :
  Below w.heap.size w w2∧w2.cell? ⟨k,0,none⟩=some x∧w2.cell? ⟨k,1,none⟩=some y∧w2.cell? ⟨k,2,none⟩=some z:=⟨zM h.1 hb,keep hb h.2.1,keep hb h.2.2.1,keep hb h.2.2.2⟩
theorem zCQ {w w1:World} {x y z:Value} {k:Nat} (h:Below w.heap.size w w1∧w1.cell? ⟨k,0,none⟩=some x∧w1.cell? ⟨k,1,none⟩=some y∧w1.cell? ⟨k,2,none⟩=some z):Below w.heap.size w w1:=h.1
theorem JR (n x:Int) (c:Bool) (most:Int) (w:World):Calls Tryz.prog 208 #[.agg #[.int .u32 n,.int .u32 x,.bool c],.int .u32 most] w
  fun e w'=>e=.returned (.int .i64 (yC n x c most))∧Below w.heap.size w w':=by
 have q1:=zGw;have q2:=zAB;have hN:=fun w=>YM n x most c w
 by_cases h:qG n x c most=true
 ·obtain⟨e1,e2⟩:=zG4 h
  have HC:Hid (yC n x c most=0):=by unfold yC;rw[if_pos h];rfl
  rw[e2] at hN;simp only[e1] at hN;clear h e1 e2
  go_enter Tryz.func208,Tryz.ntmps208
  go_wp2
  go_region_held3 (fun w'=>Below w.heap.size w w'∧w'.cell? ⟨w.heap.size,0,none⟩=some (.int .u32 n)∧w'.cell? ⟨w.heap.size,1,none⟩=some (.int .u32 x)∧w'.cell? ⟨w.heap.size,2,none⟩=some (.bool c)) (first|assumption|exact Jr w _ _ _ _|exact zA2 (by assumption) (by assumption))
   (first
     | (go_at_call 260;refine (hN _).mono ?_;rintro e w2 ⟨rfl,hb2⟩))
  go_wp2;go_ret;exact⟨zH HC.out.symm,zCQ (x:=.int .u32 n) (y:=.int .u32 x) (z:=.bool c) (k:=w.heap.size) (by assumption)⟩
 ·have h':qG n x c most=false:=by simpa using h
  have hn:=zFy h';have HC:Hid (yC n x c most=2):=by unfold yC;rw[h'];rfl
  generalize (if c then min (max x (min n most)) most else 0)=m2 at *
  generalize min n most=m1 at *
  have hor:(n==m1)=false∧(n != m1)=true∨(x==m2)=false∧(x != m2)=true:=by
   by_cases h1:n=m1
   ·right
    have:x≠m2:=fun h2=>hn ⟨h1,h2⟩
    simp[this]
   ·left;simp[h1]
  clear h h' hn
  rcases hor with ⟨n1,n2⟩|⟨n1,n2⟩
  all_goals
   go_enter Tryz.func208,Tryz.ntmps208
   go_wp2
   go_region_held3 (fun w'=>Below w.heap.size w w'∧w'.cell? ⟨w.heap.size,0,none⟩=some (.int .u32 n)∧w'.cell? ⟨w.heap.size,1,none⟩=some (.int .u32 x)∧w'.cell? ⟨w.heap.size,2,none⟩=some (.bool c)) (first|assumption|exact Jr w _ _ _ _|exact zA2 (by assumption) (by assumption))
    (first
      | (go_at_call 260;refine (hN _).mono ?_;rintro e w2 ⟨rfl,hb2⟩))
   go_wp2;go_ret;exact⟨zH HC.out.symm,zCQ (x:=.int .u32 n) (y:=.int .u32 x) (z:=.bool c) (k:=w.heap.size) (by assumption)⟩
end Kind
namespace Mod
open Go.RowKit Instr
theorem Jo (n:Int) (w:World):Calls Tryz.prog 237 #[.int .i64 n] w fun e w'=>e=.returned (.bool (kD n))∧w=w':=by
 have H:Hid (kD n=(decide (n<0)||decide (2147483647<n))):=rfl
 by_cases h:n<0
 ·have HE:Hid (kD n=true):=by show _=_;rw[H.out];simp[h]
  go_enter Tryz.func237,Tryz.ntmps237
  go_wp2;go_ret;exact⟨zA HE.out.symm,rfl⟩
 ·have h':decide (n<0)=false:=by simpa using h
  have HE:Hid (kD n=decide (2147483647<n)):=by show _=_;rw[H.out,h',Bool.false_or]
  clear H
  go_enter Tryz.func237,Tryz.ntmps237
  go_wp2;go_ret;exact⟨zA HE.out.symm,rfl⟩
theorem zDj (x:Imp) (w:World):Calls Tryz.prog 165 #[.agg #[.string x.mo,.string x.na,.int .i64 x.ty]] w fun e w'=>e=.returned (.bool (jQ x))∧Below w.heap.size w w':=by
 unfold jQ;obtain⟨q,hq⟩:∃q,kD x.ty=q:=⟨_,rfl⟩;have C:=hid (fun w=>Jo x.ty w);rw[hq] at C ⊢;clear hq
 go_enter Tryz.func165,Tryz.ntmps165
 go_wp2_with fail
 refine (C.out _).mono ?_;rintro e w1 ⟨rfl,rfl⟩;go_wp2;go_ret;exact⟨rfl,(Below.refl _ _).alloc (Nat.le_refl _) _⟩
theorem zD0 (x:Fn) (w:World):Calls Tryz.prog 168 #[.agg #[.int .i64 x.ty,.int .i64 x.lo,.slice x.l.a x.l.t.len x.l.c]] w fun e w'=>e=.returned (.bool (yR x))∧Below w.heap.size w w':=by
 have H:Hid (yR x=(kD x.ty||(decide (x.lo<0)||decide (50000<x.lo)))):=rfl;obtain⟨q,hq⟩:∃q,kD x.ty=q:=⟨_,rfl⟩;have C:=hid (fun w=>Jo x.ty w);rw[hq] at C H;clear hq;obtain⟨lo,hlo⟩:∃lo,x.lo=lo:=⟨_,rfl⟩;rw[hlo] at H ⊢;clear hlo
 cases q with
 | true =>
  have HE:Hid (yR x=true):=by show _=_;rw[H.out];rfl
  go_enter Tryz.func168,Tryz.ntmps168
  go_wp2_with fail
  refine (C.out _).mono ?_;rintro e w1 ⟨rfl,rfl⟩;go_wp2;go_ret;exact⟨zA HE.out.symm,(Below.refl _ _).alloc (Nat.le_refl _) _⟩
 | false =>
  by_cases h:lo<0
  ·have HE:Hid (yR x=true):=by show _=_;rw[H.out];simp[h]
   go_enter Tryz.func168,Tryz.ntmps168
   go_wp2_with fail
   refine (C.out _).mono ?_;rintro e w1 ⟨rfl,rfl⟩;go_wp2;go_ret;exact⟨zA HE.out.symm,(Below.refl _ _).alloc (Nat.le_refl _) _⟩
  ·have h':decide (lo<0)=false:=by simpa using h
   have HE:Hid (yR x=decide (50000<lo)):=by show _=_;rw[H.out,h',Bool.false_or,Bool.false_or]
   go_enter Tryz.func168,Tryz.ntmps168
   go_wp2_with fail
   refine (C.out _).mono ?_;rintro e w1 ⟨rfl,rfl⟩;go_wp2;go_ret;exact⟨zA HE.out.symm,(Below.refl _ _).alloc (Nat.le_refl _) _⟩
theorem zDJ (x:Ex) (w:World):Calls Tryz.prog 171 #[.agg #[.string x.na,.int .i64 x.k,.int .u32 x.i]] w fun e w'=>e=.returned (.bool (yP x))∧Below w.heap.size w w':=by
 have H:Hid (yP x=(decide (x.k<0)||decide (3<x.k))):=rfl;obtain⟨lo,hlo⟩:∃lo,x.k=lo:=⟨_,rfl⟩;rw[hlo] at H ⊢;clear hlo
 by_cases h:lo<0
 ·have HE:Hid (yP x=true):=by show _=_;rw[H.out];simp[h]
  go_enter Tryz.func171,Tryz.ntmps171
  go_wp2;go_ret;exact⟨zA HE.out.symm,(Below.refl _ _).alloc (Nat.le_refl _) _⟩
 ·have h':decide (lo<0)=false:=by simpa using h
  have HE:Hid (yP x=decide (3<lo)):=by show _=_;rw[H.out,h',Bool.false_or]
  go_enter Tryz.func171,Tryz.ntmps171
  go_wp2;go_ret;exact⟨zA HE.out.symm,(Below.refl _ _).alloc (Nat.le_refl _) _⟩
theorem zD1 (s:ByteArray) (w:World):Calls Tryz.prog 154 #[.string s] w fun e w'=>e=.returned (.bool (qa s))∧Below w.heap.size w w':=by
 have HE:Hid (qa s=decide (1000<s.size)):=rfl
 go_enter Tryz.func154,Tryz.ntmps154
 go_wp2;go_ret;exact⟨zA (by rw[HE.out];simp;omega),Below.refl _ _⟩
theorem zDr (x:Int×Int) (w:World):Calls Tryz.prog 162 #[.agg #[.int .i64 x.1,.int .i64 x.2]] w fun e w'=>e=.returned (.bool (jS x))∧Below w.heap.size w w':=by
 have C:=hid (fun w=>Kind.check_any x.1 x.2 w);unfold Kind.yF at C;unfold jS;obtain⟨q,hq⟩:∃q,Kind.jJ x.1 x.2=q:=⟨_,rfl⟩;rw[hq] at C ⊢;clear hq
 cases q
 all_goals
  simp only[Bool.false_eq_true,if_true,if_false] at C
  go_enter Tryz.func162,Tryz.ntmps162
  go_wp2_with fail
  refine (C.out _).mono ?_;rintro e w1 ⟨rfl,hb1⟩;go_wp2;go_ret;exact⟨rfl,zM ((Below.refl _ _).alloc (Nat.le_refl _) _) hb1⟩
theorem zDx (x:Li) (g:Nat) (most:Int) (w:World) (hc:w.cell? ⟨g,0,none⟩=some (.int .u32 most)) :
  Calls Tryz.prog 240 #[.agg #[.int .u32 x.n,.int .u32 x.x,.bool x.c],.pointer (some ⟨g,0,none⟩)] w fun e w'=>e=.returned (.bool (beyond most x))∧Below w.heap.size w w':=by
 have C:=hid (fun w=>Kind.JR x.n x.x x.c most w);unfold Kind.yC at C;unfold beyond;obtain⟨q,hq⟩:∃q,Kind.qG x.n x.x x.c most=q:=⟨_,rfl⟩;rw[hq] at C ⊢;clear hq;have hg:=World.block_lt_of_cell? w _ hc
 cases q
 all_goals
  simp only[Bool.false_eq_true,if_true,if_false] at C
  go_enter Tryz.func240,Tryz.ntmps240
  go_wp2_with fail
  refine (C.out _).mono ?_;rintro e w1 ⟨rfl,hb1⟩;go_wp2;go_ret;exact⟨rfl,zM ((Below.refl _ _).alloc (Nat.le_refl _) _) hb1⟩
end Mod
namespace Mod
open Go.RowKit Go.Shelf Instr
theorem zHg:∀args w,(callFunc 240 args).run Tryz.prog w=.ok (.enter 240 args) w:=enters_of Tryz.func240 (by kernel_rfl) rfl
theorem Zh (l:List Li) (a:Option Addr) (n c:Nat) (most:Int) (w:World) (hn:l.length=n) (hr:Rows w.heap.size w a 3 (l.map Li.v)) (hl:n≤140737488351232) :
  Calls Tryz.prog 173 #[.slice a n c,.int .u32 most] w fun e w'=>e=.returned (.bool (l.any (beyond most)))∧Below w.heap.size w w':=by
 have hB:=(Below.refl w.heap.size w).alloc (Nat.le_refl _) (.cells #[.int .u32 most] 36);have hc:(w.alloc (.cells #[.int .u32 most] 36)).cell? ⟨w.heap.size,0,none⟩=some (.int .u32 most):=by go_simp
 have C:=hid (zIw l a n c (w.alloc (.cells #[.int .u32 most] 36)) hn ((hr.below hB).more hB.size) hl 240 #[.pointer (some ⟨w.heap.size,0,none⟩)] zHg (beyond most)
   (fun W x _ hW=>zDx x _ most W (kP hW hc)))
 have HB:=hid hB;clear hB hc hn hr
 go_enter Tryz.func173,Tryz.ntmps173
 go_wp2_with fail
 refine C.out.mono ?_;rintro e w1 ⟨rfl,hb1⟩;clear C;go_wp2;go_ret;exact⟨rfl,HB.out.trans (hb1.mono HB.out.size)⟩
theorem zHy (zs:List Int) (a:Option Addr) (n c:Nat) (w:World) (hT:Utf.Tabs w) (hn:zs.length=n) (hz:Bytes w a zs) :
  Calls Tryz.prog 233 #[.slice a n c] w fun e w'=>e=.returned (.int .i64 (Utf.jK zs))∧Below w.heap.size w w':=by
 have e1:=zDN hz n c hn;have C:=hid (Utf.zHY zs hz.byte w hT);clear hn hz
 go_enter Tryz.func233,Tryz.ntmps233
 go_wp2_with fail
 refine C.out.mono ?_;rintro e w1 ⟨rfl,hb1⟩;clear C;go_wp2;go_ret;exact⟨rfl,hb1⟩
theorem zBM (s:ByteArray) (w:World) (hT:Utf.Tabs w) (hs:s.size≤140737488351232):Calls Tryz.prog 159 #[.string s] w fun e w'=>e=.returned (.bool (yZ s))∧Below w.heap.size w w':=by
 unfold yZ;obtain⟨b,c,w1,e1,hz,hb1⟩:=zCN (numsOf s) (YV s) (by rw[numsOf_length];exact hs) w;rw[Jf] at e1;have C:=hid (zHy (numsOf s) _ _ c w1 (hT.below hb1) rfl hz);obtain⟨q,hq⟩:∃q,Utf.jK (numsOf s)=q:=⟨_,rfl⟩;rw[hq] at C ⊢;obtain⟨n,hn⟩:∃n,(numsOf s).length=n:=⟨_,rfl⟩;rw[hn] at C e1;have HB:=hid hb1;clear hq hn hz hb1 hT
 go_enter Tryz.func159,Tryz.ntmps159
 go_wp2_with fail
 refine C.out.mono ?_;rintro e w2 ⟨rfl,hb2⟩;clear C e1;go_wp2;go_ret;exact⟨rfl,zM HB.out hb2⟩
theorem zE2 (w:World):zCg w 154 qa:=⟨enters_of Tryz.func154 (by kernel_rfl) rfl,fun W s _ _=>zD1 s W⟩
theorem zEZ (w:World) (hT:Utf.Tabs w):zCg w 159 yZ:=⟨enters_of Tryz.func159 (by kernel_rfl) rfl,fun W s hs hW=>zBM s W (hT.below hW) hs⟩
end Mod
namespace Instr
open Go.RowKit Go.Shelf
attribute [local go_sem] Oper.semAt_some
theorem RoundIn.anyD {m m':Nat} {P:Program} {l:Nat} {f:FuncId} {tmps:Array Value} {assign body:Code} {w:World} {R:Ending→World→Prop}
  (h:RoundIn Fence.wide m P l f tmps assign body w R):RoundIn Fence.wide m' P l f tmps assign body w R:=⟨h.1,fun c cs _=>h.2 c cs (fun d h=>by cases h)⟩
theorem YieldAt.anyD {m m':Nat} {P:Program} {l:Nat} {args:Array Value} {W:World} {R:Ending→World→Prop} (h:YieldAt Fence.wide m P l args W R):YieldAt Fence.wide m' P l args W R:=by
 obtain⟨fn,tmps,assign,body,hy,hR⟩:=h;exact⟨fn,tmps,assign,body,hy,RoundIn.anyD hR⟩
def encs (p:Int×Ix):Array Value:=#[.int .i64 p.1,.agg p.2.vals]
theorem zDM (l n₀ n₁ N:Nat) (J Jx:List (Int×Ix)→World→Prop) (B:Nat) (hJ:AbidesFrom B J) (hn:n₀≤n₁)
  (hY:∀m pre x W,J pre W→pre.length<N→n₁≤W.heap.size→YieldAt Fence.wide m Tryz.prog l (encs x) W fun e W' =>
    (e=.returned (.bool true)∧J (pre++[x]) W'∧Kept n₀ n₁ W W')∨(e=.returned (.bool false)∧Jx (pre++[x]) W')) :
  ∀(m:Nat) (t:Il) (n:Nat) (a:Option Addr) (len cap:Nat) (d:Int) (pre:List (Int×Ix)) (W:World),t.count≤m→zD n₀ W a len t→J pre W→pre.length+t.count≤N→n₁≤W.heap.size→0≤d→d+t.deep≤4611686018427387904→len≤140737488351232 →
   CallsIn Fence.wide n Tryz.prog 298 #[.slice a len cap,.int .i64 d,.func (.yield l) #[] #[]] W fun e W' =>
    (e=.returned (.bool true)∧J (pre++t.walk d) W'∧Kept n₀ n₁ W W')∨(e=.returned (.bool false)∧∃q,q <+: t.walk d∧Jx (pre++q) W'):=by
 intro m
 induction m with
 | zero =>
  intro t n a len cap d pre W hm hl hJ0 hN hW hd0 hd1 hlen
  cases t with
  | cons x l e r=>simp only[Il.count] at hm;omega
  | nil =>
   have h0:len=0:=hl.1.symm;subst h0;clear hm hl hN hd1;refine callsIn_of_wp Tryz.func298 rfl trivial ?_ rfl;simp only[Tryz.ntmps298,List.size_toArray,List.length_cons,List.length_nil,Nat.reduceAdd,Nat.reduceSub,Array.replicate_succ,Array.replicate_zero,List.push_toArray,List.append_toArray,List.nil_append,List.cons_append]
   gi_wp2
   gi_loopw [11] (fun i wr=>i=.int .i64 0∧J pre wr∧Kept n₀ n₁ W wr) (fun _ _=>0)
   case atStart=>exact⟨rfl,hJ0,Kept.refl _ _ _⟩
   case round =>
    obtain⟨rfl,hJs,hk⟩:=hrel
    gi_wp2
    go_ret;exact .inl ⟨rfl,by simpa[Il.walk] using hJs,hk⟩
 | succ m ih =>
  intro t n a len cap d pre W hm hl hJ0 hN hW hd0 hd1 hlen;have hA:∀s W,J s W→∀o,J s (W.alloc o):=fun s W h o=>hJ s W _ none h (World.grownBy_alloc W o none) (fun r e=>by cases e)
  obtain⟨hl1,hl2⟩:=hl;have HT:=hid hm;have HN:=hid hN;have HD:=hid hd1;have HL:=hid hl1;clear hm hN hd1 hl1
  rcases hl2 with rfl|⟨b,off,rfl,hi⟩
  ·have h0:len=0:=HL.out.symm
   subst h0;refine callsIn_of_wp Tryz.func298 rfl trivial ?_ rfl;simp only[Tryz.ntmps298,List.size_toArray,List.length_cons,List.length_nil,Nat.reduceAdd,Nat.reduceSub,Array.replicate_succ,Array.replicate_zero,List.push_toArray,List.append_toArray,List.nil_append,List.cons_append]
   gi_wp2
   gi_loopw [11] (fun i wr=>i=.int .i64 0∧J pre wr∧Kept n₀ n₁ W wr) (fun _ _=>0)
   case atStart=>exact⟨rfl,hJ0,Kept.refl _ _ _⟩
   case round =>
    obtain⟨rfl,hJs,hk⟩:=hrel
    gi_wp2
    go_ret;exact .inl ⟨rfl,by simpa[Il.walk] using hJs,hk⟩
  ·refine callsIn_of_wp Tryz.func298 rfl trivial ?_ rfl
   simp only[Tryz.ntmps298,List.size_toArray,List.length_cons,List.length_nil,Nat.reduceAdd,Nat.reduceSub,Array.replicate_succ,Array.replicate_zero,List.push_toArray,List.append_toArray,List.nil_append,List.cons_append]
   gi_wp2
   gi_loopw [11] (fun i wr=>∃(k:Nat) (done:List (Int×Ix)) (rest:Il),i=.int .i64 k∧k≤len∧Hid (k+rest.len=len∧done++rest.walk d=t.walk d∧rest.count≤t.count∧rest.deep≤t.deep)∧zg n₀ wr b (off+k*8) rest∧J (pre++done) wr∧Kept n₀ n₁ W wr)
    (fun i _=>len-(intOf i).toNat)
   case atStart=>exact⟨0,[],t,rfl,Nat.zero_le _,⟨by have:=HL.out;omega,rfl,Nat.le_refl _,Nat.le_refl _⟩,by simpa using hi,by simpa using hJ0,Kept.refl _ _ _⟩
   case round =>
    obtain⟨k,done,rest,rfl,hk,HR,hir,hJs,hkw⟩:=hrel
    cases rest with
    | nil =>
     obtain⟨r1,r2,_,_⟩:=HR.out;have hkl:k=len:=by simpa[Il.len] using r1
     subst hkl
     gi_wp2
     go_ret;exact .inl ⟨rfl,by rw[←r2];simpa[Il.walk] using hJs,hkw⟩
    | cons x tl te r =>
     obtain⟨hbn,hx,⟨c0,c1,c2,c3,c4,c5,c6,c7⟩,ht,hLl,hLe,hir'⟩:=hir;have hlt:k<len:=by have:=HR.out.1;simp only[Il.len] at this;omega
     obtain⟨fn,tmps,assign,body,hy,hR⟩:=hY (n-1) (pre++done) (d,x) (wr.alloc (.cells x.vals 92)) (hA _ _ hJs _) (by
       have h1:=congrArg List.length HR.out.2.1;have h2:=jj t d;have h3:=HN.out;simp only[List.length_append,Il.walk,List.length_cons] at h1 ⊢;omega) (by have:=hkw.below.size;simp;omega)
     simp only[encs,Ix.vals] at hy hR;have hbx:=At.made x wr;have hg:n₁≤wr.heap.size:=Nat.le_trans hW hkw.below.size;have hw1:IntKind.i64.wrap (d+1)=d+1:=by have:=HD.out;rw[IntKind.wrap_i64];omega
     have hB1:Kept n₀ n₁ W (wr.alloc (.cells x.vals 92)):=hkw.alloc _ (Nat.le_trans hn hg)
     have hcounts:tl.count+te.count+r.count+1≤m+1∧tl.deep+1≤t.deep∧te.deep+1≤t.deep:=by
      have h1:=HR.out.2.2;have h2:=HT.out;simp only[Il.count,Il.deep] at h1;omega
     have HC:=hid hcounts;clear hcounts
     have hlens:(pre++done).length+1+tl.count+te.count+r.count≤N:=by
      have h1:=congrArg List.length HR.out.2.1;have h2:=HN.out;simp only[List.length_append,Il.walk,List.length_cons,jj] at h1 ⊢;omega
     have HLN:=hid hlens;clear hlens
     gi_wp2_with fail
     refine⟨fun h=>(by cases h),?_⟩;refine hR.mono ?_;clear hR hy;rintro e W2 (⟨rfl,hJ2,hk2⟩|⟨rfl,hx2⟩)
     ·have hb2:=hbx.kept hk2 hg
      obtain⟨d0,d1,d2,d3,d4,d5,d6,d7⟩:=hb2
      gi_wp2_with fail
      refine⟨trivial,fun h=>(by cases h),?_⟩;have hL2:zD n₀ W2 x.la x.ln tl:=zD.below (((Below.refl _ wr).alloc (Nat.le_trans hn hg) _).trans hk2.below) hLl
      refine (ih tl (n-1) x.la x.ln x.lc (d+1) (pre++done++[(d,x)]) W2 (by have:=HC.out;omega) hL2 hJ2 (by have:=HLN.out;simp only[List.length_append,List.length_cons,List.length_nil] at this ⊢;omega)
        (by have:=hk2.below.size;simp at this;omega) (by omega) (by have:=HC.out;have:=HD.out;omega) hx.ln).mono ?_
      rintro e W3 (⟨rfl,hJ3,hk3⟩|⟨rfl,q,hq,hx3⟩)
      ·have hb3:=hbx.kept (hk2.trans hk3) hg
       clear d0 d1 d2 d3 d4 d5 d6 d7;obtain⟨d0,d1,d2,d3,d4,d5,d6,d7⟩:=hb3
       gi_wp2_with fail
       refine⟨trivial,fun h=>(by cases h),?_⟩;have hL3:zD n₀ W3 x.ea x.en te:=zD.below ((((Below.refl _ wr).alloc (Nat.le_trans hn hg) _).trans hk2.below).trans hk3.below) hLe
       refine (ih te (n-1) x.ea x.en x.ec (d+1) (pre++done++[(d,x)]++tl.walk (d+1)) W3 (by have:=HC.out;omega) hL3 hJ3 (by have:=HLN.out;simp only[List.length_append,List.length_cons,List.length_nil,jj] at this ⊢;omega)
         (by have:=(hk2.trans hk3).below.size;simp at this;omega) (by omega) (by have:=HC.out;have:=HD.out;omega) hx.en).mono ?_
       rintro e W4 (⟨rfl,hJ4,hk4⟩|⟨rfl,q,hq,hx4⟩)
       ·clear d0 d1 d2 d3 d4 d5 d6 d7
        gi_wp2
        have hkz:Kept n₀ n₁ W W4:=hB1.trans ((hk2.trans hk3).trans hk4)
        go_roundw
        case rel =>
         refine⟨k+1,done++[(d,x)]++tl.walk (d+1)++te.walk (d+1),r,by simp,by omega,?_,?_,?_,hkz⟩
         ·have h1:=HR.out
          refine⟨by simp only[Il.len] at h1;omega,?_,by simp only[Il.count] at h1;omega,by simp only[Il.deep] at h1;omega⟩;rw[←h1.2.1];simp[Il.walk,List.append_assoc]
         ·have:=zg.below ((((((Below.refl _ wr).alloc (Nat.le_trans hn hg) (.cells x.vals 92)).trans hk2.below).trans hk3.below)).trans hk4.below) hir'
          rw[show off+(k+1)*8=off+k*8+8 by omega];exact this
         ·simpa[List.append_assoc] using hJ4
        case measure=>simp[intOf];omega
       ·gi_wp2
        go_ret;refine .inr ⟨rfl,done++[(d,x)]++tl.walk (d+1)++q,?_,by simpa[List.append_assoc] using hx4⟩;rw[←HR.out.2.1];obtain⟨z,hz⟩:=hq;exact⟨z++r.walk d,by rw[Il.walk,←hz];simp[List.append_assoc]⟩
      ·gi_wp2
       refine⟨trivial,?_⟩
       gi_wp2
       go_ret;refine .inr ⟨rfl,done++[(d,x)]++q,?_,by simpa[List.append_assoc] using hx3⟩;rw[←HR.out.2.1];obtain⟨z,hz⟩:=hq;exact⟨z++(te.walk (d+1)++r.walk d),by rw[Il.walk,←hz];simp[List.append_assoc]⟩
     ·gi_wp2
      refine⟨trivial,?_⟩
      gi_wp2
      refine⟨trivial,?_⟩
      gi_wp2
      go_ret;refine .inr ⟨rfl,done++[(d,x)],?_,by simpa[List.append_assoc] using hx2⟩;rw[←HR.out.2.1];exact⟨tl.walk (d+1)++(te.walk (d+1)++r.walk d),by simp[Il.walk,List.append_assoc]⟩
theorem zBw (n n₀ n₁ Bs:Nat) (a:Option Addr) (len cap:Nat) (t:Il) (w:World) (hBs:Bs<w.heap.size) (hn:n₀≤n₁) (hw:n₁≤w.heap.size)
  (hc:w.cell? ⟨Bs,0,none⟩=some (.slice a len cap)) (hl:zD n₀ w a len t) (hd:t.deep≤4611686018427387900) (hlen:len≤140737488351232) :
  SeqStopsK Fence.wide n Tryz.prog 297 #[.pointer (some ⟨Bs,0,none⟩)] encs (Kept n₀ n₁) (fun ys=>ys=t.walk 1) (fun pre=>pre <+: t.walk 1) t.count w:=fun l J Jx W hW hJ _ hY h0=>by
 have hc':=(hW.cell (p:=⟨Bs,0,none⟩) hBs).trans hc;have hp:=zDM l n₀ n₁ t.count J Jx W.heap.size hJ hn (fun m pre x W1 hj hl1 _=>YieldAt.anyD (hY pre x W1 hj hl1)) t.count t (n-1) a len cap 1 [] W (Nat.le_refl _) (hl.below (hW.mono (Nat.le_trans hn hw))) h0 (by simp) (Nat.le_trans hw hW.size) (by omega) (by omega) hlen;have C:=hid hp;clear hp hl hd hc hY;refine callsIn_of_wp Tryz.func297 rfl trivial ?_ rfl;simp only[Tryz.ntmps297,List.size_toArray,List.length_cons,List.length_nil,Nat.reduceAdd,Nat.reduceSub,Array.replicate_succ,Array.replicate_zero,List.push_toArray,List.append_toArray,List.nil_append,List.cons_append]
 gi_wp2_with fail
 refine⟨trivial,fun h=>(by cases h),?_⟩;refine C.out.mono ?_;clear C;rintro e W1 (⟨rfl,hJ1,_⟩|⟨rfl,q,hq,hx⟩)
 ·gi_wp2
  go_end0
  exact⟨⟨_,rfl⟩,.inl ⟨_,rfl,by simpa using hJ1⟩⟩
 ·gi_wp2
  go_end0
  exact⟨⟨_,rfl⟩,.inr ⟨q,hq,by simpa using hx⟩⟩
theorem zEe (n:Nat) (a:Option Addr) (len cap:Nat) (w:World) :
  CallsIn Fence.wide n Tryz.prog 258 #[.slice a len cap] w fun e w'=>e=.returned (.func (.func 297) #[] #[.pointer (some ⟨w.heap.size,0,none⟩)])∧w'=w.alloc (.cells #[.slice a len cap] 22):=by
 refine callsIn_of_wp Tryz.func258 rfl trivial ?_ rfl;simp only[Tryz.ntmps258,List.size_toArray,List.length_cons,List.length_nil,Nat.reduceAdd,Nat.reduceSub,Array.replicate_succ,Array.replicate_zero,List.push_toArray,List.append_toArray,List.nil_append,List.cons_append]
 gi_wp2
 go_ret;exact⟨rfl,rfl⟩
end Instr
namespace Instr
open Go.RowKit Go.Shelf
theorem zAN (W:World) (v:Value) (t:TypeId):(W.alloc (.cells #[v] t)).cell? ⟨W.heap.size,0,none⟩=some v∧(W.alloc (.cells #[v] t)).frozen? ⟨W.heap.size,0,none⟩=false:=by
 constructor<;>go_simp
theorem zCc {W:World} {a:Addr} {v:Value} (o:Obj) (h:W.cell? a=some v):(W.alloc o).cell? a=some v:=cell_kept h (World.grownBy_alloc W o none) (fun r e=>by cases e)
attribute [local go_sem] Oper.semAt_some
theorem zDp (x:Ix) (w:World) (hT:kC w):Calls Tryz.prog 259 #[.agg x.vals] w fun e w'=>e=.returned (.bool (zW x))∧Below w.heap.size w w':=by
 by_cases h:zc x.op=[]
 ·have:zW x=false:=by simp[zW,h]
  rw[this];exact zAW x w hT h
 ·have:zW x=(decide (zCI x=0)&&(decide (x.res=0)||decide (x.res=1))):=by simp[zW,h]
  rw[this];exact zCX x w hT h
def Yy (l:List (Int×Ix)):Bool:=decide (262144<l.length)||(l.any fun p=>decide (16384<p.2.tags.length))||decide (900<vM l)
theorem zDg (l:List (Int×Ix)) (p:Int×Ix):Yy (l++[p])=(Yy l||(decide (262144<l.length+1)||(decide (16384<p.2.tags.length)||decide (900<p.1)))):=by
 unfold Yy;rw[zBR];simp only[List.length_append,List.length_cons,List.length_nil,List.any_append,List.any_cons,List.any_nil,Bool.or_false];rw[Bool.eq_iff_iff];simp only[Bool.or_eq_true,decide_eq_true_eq]
 constructor
 ·rintro ((h|h|h)|h)
  ·right;left;omega
  ·left;left;right;exact h
  ·right;right;left;exact h
  ·rcases Int.le_total (vM l) p.1 with h1|h1
   ·right;right;right;omega
   ·left;right;omega
 ·rintro (((h|h)|h)|h|h|h)
  ·left;left;omega
  ·left;right;left;exact h
  ·right;omega
  ·left;left;omega
  ·left;right;right;exact h
  ·right;omega
theorem zC6 (t:Il):Yy (t.walk 1)=decide (262144<t.count∨900<t.deep∨t.tags=true):=by
 unfold Yy;rw[jj,ZV,zBv,Bool.eq_iff_iff];simp only[Bool.or_eq_true,decide_eq_true_eq]
 constructor
 ·rintro ((h|h)|h)
  ·exact .inl h
  ·exact .inr (.inr h)
  ·exact .inr (.inl (by omega))
 ·rintro (h|h|h)
  ·exact .inl (.inl h)
  ·exact .inr (by omega)
  ·exact .inl (.inr h)
def zDG (l:List (Int×Ix)):Bool:=l.all fun p=>zW p.2
theorem zAc (l:List (Int×Ix)) (p:Int×Ix):zDG (l++[p])=(zDG l&&zW p.2):=by simp[zDG,List.all_append]
theorem zBB (t:Il) (d:Int):zDG (t.walk d)=t.all:=Z9 t d
theorem JU {B:Nat} {w w':World} (h:Below w.heap.size w w'):KeepsFrom B w w':=⟨h.size,fun k _ _ hk _=>(h.block k (Array.getElem?_eq_some_iff.1 hk).1).trans hk⟩
theorem At.own {x:Ix} {g:Nat} {A B:World} {row:Option Nat} (h:At x g A) (hg:A.grownBy B row) (hr:∀r,row=some r→∃o:Obj,A.heap[r]?=some o∧o.isCells=false):At x g B :=
 ⟨cell_kept h.c0 hg hr,cell_kept h.c1 hg hr,cell_kept h.c2 hg hr,cell_kept h.c3 hg hr,cell_kept h.c4 hg hr,cell_kept h.c5 hg hr,cell_kept h.c6 hg hr,cell_kept h.c7 hg hr⟩
structure Chk (g:Nat) (r:Int) (n:Int) (m:Bool) (W:World):Prop where
 res:W.cell? ⟨g,0,none⟩=some (.int .i64 r)
 num:W.cell? ⟨g+1,0,none⟩=some (.int .i64 n)
 many:W.cell? ⟨g+2,0,none⟩=some (.bool m)
 fres:W.frozen? ⟨g,0,none⟩=false
 fnum:W.frozen? ⟨g+1,0,none⟩=false
 fmany:W.frozen? ⟨g+2,0,none⟩=false
theorem Chk.own {g:Nat} {r n:Int} {m:Bool} {A B:World} {row:Option Nat} (h:Chk g r n m A) (hg:A.grownBy B row) (hr:∀r,row=some r→∃o:Obj,A.heap[r]?=some o∧o.isCells=false):Chk g r n m B :=
 ⟨cell_kept h.res hg hr,cell_kept h.num hg hr,cell_kept h.many hg hr,(frozen_kept h.res hg hr).trans h.fres,(frozen_kept h.num hg hr).trans h.fnum,(frozen_kept h.many hg hr).trans h.fmany⟩
theorem Chk.below {g:Nat} {r n:Int} {m:Bool} {A B:World} (h:Chk g r n m A) (hb:Below A.heap.size A B):Chk g r n m B :=
 have f:∀p v,A.cell? p=some v→A.frozen? p=false→B.frozen? p=false:=fun p _ hc hf=>(hb.frozen (World.block_lt_of_cell? A p hc)).trans hf
 ⟨keep hb h.res,keep hb h.num,keep hb h.many,f _ _ h.res h.fres,f _ _ h.num h.fnum,f _ _ h.many h.fmany⟩
theorem Chk.next {g:Nat} {r n n' n2:Int} {m m' m2:Bool} {A:World} (h:Chk g r n m A) (hn:n'=n2) (hm:m'=m2):Chk g r n' m' ((A.setCell ⟨g+1,0,none⟩ (.int .i64 n2)).setCell ⟨g+1+1,0,none⟩ (.bool m2)):=by
 obtain⟨r1,r2,r3,f1,f2,f3⟩:=h;subst hn hm
 constructor<;>simp[go_sem, *]
theorem zA4 (a:Option Addr) (len cap:Nat) (t:Il) (w:World) (hT:kC w) (hl:zD w.heap.size w a len t) (hc:t.count≤4611686018427387900) (hlen:len≤140737488351232) :
  Calls Tryz.prog 207 #[.slice a len cap] w fun e w'=>e=.returned (.int .i64 (zJ t))∧Below w.heap.size w w':=by
 have HC:=hid hc;clear hc;refine (callsIn_wide (n:=3)).1 ?_;refine callsIn_of_wp_marks Tryz.func207 rfl trivial ?_ rfl;simp only[Tryz.ntmps207,List.size_toArray,List.length_cons,List.length_nil,Nat.reduceAdd,Nat.reduceSub,Array.replicate_succ,Array.replicate_zero,List.push_toArray,List.append_toArray,List.nil_append,List.cons_append]
 gi_wp2_with (refine⟨trivial,?_⟩;refine (zEe _ _ _ _ _).mono ?_;rintro e w' ⟨rfl,rfl⟩)
 have hS0:Chk w.heap.size 0 0 false (((w.alloc (.cells #[.int .i64 0] 47)).alloc (.cells #[.int .i64 0] 3)).alloc (.cells #[.bool false] 4)):=by constructor<;>go_simp
 have hb:=zAN (((w.alloc (.cells #[.int .i64 0] 47)).alloc (.cells #[.int .i64 0] 3)).alloc (.cells #[.bool false] 4)) (.slice a len cap) 22;have hS1:=hS0.below ((Below.refl _ _).alloc (Nat.le_refl _) (.cells #[.slice a len cap] 22));have hB0:Below w.heap.size w ((((w.alloc (.cells #[.int .i64 0] 47)).alloc (.cells #[.int .i64 0] 3)).alloc (.cells #[.bool false] 4)).alloc (.cells #[.slice a len cap] 22)):=zC (zC (zC (zC (Below.refl _ _) _) _) _) _;have hsz:((((w.alloc (.cells #[.int .i64 0] 47)).alloc (.cells #[.int .i64 0] 3)).alloc (.cells #[.bool false] 4)).alloc (.cells #[.slice a len cap] 22)).heap.size=w.heap.size+4:=by simp
 have hsz3:(((w.alloc (.cells #[.int .i64 0] 47)).alloc (.cells #[.int .i64 0] 3)).alloc (.cells #[.bool false] 4)).heap.size=w.heap.size+1+1+1:=by simp
 rw[hsz3] at hb;clear hS0 hsz3;obtain⟨W0,hW0⟩:∃W0,(((w.alloc (.cells #[.int .i64 0] 47)).alloc (.cells #[.int .i64 0] 3)).alloc (.cells #[.bool false] 4)).alloc (.cells #[.slice a len cap] 22)=W0:=⟨_,rfl⟩;rw[hW0] at hb hS1 hB0 hsz ⊢;clear hW0
 refine wpIn_rangeFunc_ownH rfl (by omega) (gf:=297) (lb:=#[.pointer (some ⟨w.heap.size+1+1+1,0,none⟩)]) rfl trivial (enters_of Tryz.func297 (by kernel_rfl) rfl)
  (zBw _ w.heap.size (w.heap.size+4) (w.heap.size+1+1+1) a len cap t W0 (by omega) (by omega) (by omega) hb.1 (hl.below hB0) (by have:=HC.out;have:=jY t;omega) hlen) (fun h k=>h.trans k) (zIz (by omega)) (Below.refl _ _) (fun _=>rfl)
  (fun pre W=>(zDG pre=true∧Chk w.heap.size 0 pre.length (Yy pre) W∧w.heap.size+4≤W.heap.size)∧Below w.heap.size w W)
  (fun c pre W=>(c=.ret∧zDG pre=false∧W.cell? ⟨w.heap.size,0,none⟩=some (.int .i64 2))∧Below w.heap.size w W)
  (OwnFrom.and (Own.from (fun s A B row hs hg hr=>⟨hs.1,hs.2.1.own hg hr,Nat.le_trans hs.2.2 hg.size⟩) _) (ownFrom_below (Nat.le_refl _) (by omega)))
  (fun c=>OwnFrom.and (Own.from (fun s A B row hs hg hr=>⟨hs.1,hs.2.1,cell_kept hs.2.2 hg hr⟩) _) (ownFrom_below (Nat.le_refl _) (by omega)))
  ⟨⟨rfl,by simpa[Yy,vM] using hS1,by omega⟩,hB0⟩
  (fun x a' W=>∃Bx,w.heap.size+4≤Bx∧At x.2 Bx W∧a'={ tmps:=#[.slice a len cap,undef,.pointer (some ⟨w.heap.size,0,none⟩),.pointer (some ⟨w.heap.size+1,0,none⟩),.pointer (some ⟨w.heap.size+1+1,0,none⟩),.int .i64 x.1,.pointer (some ⟨Bx,0,none⟩),.slice a len cap,.func (.func 297) #[] #[.pointer (some ⟨w.heap.size+1+1+1,0,none⟩)],.int .i64 x.1,.agg x.2.vals,undef,undef,undef,undef,undef,undef,undef,undef,undef,undef,undef,undef,undef,undef,undef,undef,undef,undef,undef,undef,undef],defers:=[] })
  (fun x a' _ X Y row hs hg hr=>by obtain⟨Bx,h1,h2,h3⟩:=hs;exact⟨Bx,h1,h2.own hg (fun r e=>(hr r e).2),h3⟩)
  ?assign ?body ?done ?stop
 case assign =>
  rintro l pre ⟨d,x⟩ W K ⟨⟨hla,hch,hz⟩,hB1⟩ hK;simp only[encs,Ix.vals] at hK ⊢
  gi_wp2
  exact hK _ _ ((KeepsOthers.alloc _ _).from _) ((Kept.refl _ _ W).alloc _ (by omega)) ⟨⟨hla,hch.below ((Below.refl _ _).alloc (Nat.le_refl _) _),by simp;omega⟩,zC hB1 _⟩ ⟨W.heap.size,hz,At.made x W,rfl⟩
 case body =>
  rintro l pre ⟨d,x⟩ a' W hl' ⟨r,hr⟩ ⟨⟨hla,hch,hz⟩,hB1⟩ ⟨Bx,hBx,bX,rfl⟩ hlt;clear hsz hl';have CL:=callsIn_wide (n:=3-1-1-1) |>.2 (zDp x W (hT.below hB1));obtain⟨q,hq⟩:∃q,zW x=q:=⟨_,rfl⟩;rw[hq] at CL;obtain⟨cnt,hcnt⟩:∃cnt:Int,(pre.length:Int)=cnt:=⟨_,rfl⟩;have hcb:0≤cnt∧cnt+1≤4611686018427387900:=by have:=HC.out;omega
  obtain⟨m,hm⟩:∃m,Yy pre=m:=⟨_,rfl⟩;have hsn:=zDg pre (d,x);have HSN:=hid hsn;have HQ:=hid hq;have HM:=hid hm;have HCN:=hid hcnt;have HLA:=hid hla;rw[hcnt,hm] at hch;clear hsn hq hm hcnt hla hlt;unfold Ix.vals at CL;simp only[Ix.vals];obtain⟨hc0,hc1⟩:=hcb;have hch':=hch;have bX':=bX;obtain⟨b0,b1,b2,b3,b4,b5,b6,b7⟩:=bX;obtain⟨r1,r2,r3,f1,f2,f3⟩:=hch
  gi_wp2_with fail
  refine⟨trivial,?_⟩;refine (CallsIn.inRound l CL).mono ?_;rintro e W3 ⟨rfl,hb3⟩;clear CL b0 b1 b2 b3 b4 b5 b6 b7 r1 r2 r3 f1 f2 f3;have hch3:=hch'.below hb3;obtain⟨r1,r2,r3,f1,f2,f3⟩:=hch3;have bX3:=bX'.below hb3;obtain⟨b0,b1,b2,b3,b4,b5,b6,b7⟩:=bX3;have hkf:KeepsFrom W0.heap.size W W3:=JU hb3;have hkp:Kept w.heap.size (w.heap.size+4) W W3:=Kept.of_below hb3 (by omega)
  cases q
  ·gi_wp2
   exact⟨hkf.trans ((KeepsOthers.setCell _ _ _).from _),⟨rfl,by rw[zAc,HQ.out,Bool.and_false],World.cell?_setCell_same' _ _ _ (by rw[r1];rfl)⟩,(zM hB1 hb3).setCell (p:=⟨w.heap.size,0,none⟩) (Nat.le_refl _) _⟩
  ·have hch3:Chk w.heap.size 0 cnt m W3:=hch'.below hb3
   have hln:(((pre++[(d,x)]).length:Nat):Int)=cnt+1:=by rw[←HCN.out];simp
   have HLN:=hid hln;clear hln
   gi_wp2
   all_goals
    refine⟨hkf.trans (((KeepsOthers.setCell _ _ _).trans (KeepsOthers.setCell _ _ _)).from _),(hkp.setCell (p:=⟨w.heap.size+1,0,none⟩) (by simp) (by simp) _).setCell (p:=⟨w.heap.size+1+1,0,none⟩) (by simp;omega) (by simp) _,
      ⟨by rw[zAc,HLA.out,HQ.out];rfl,hch3.next HLN.out ?_,by have:=hb3.size;simp[World.setCell];omega⟩,((zM hB1 hb3).setCell (p:=⟨w.heap.size+1,0,none⟩) (by simp) _).setCell (p:=⟨w.heap.size+1+1,0,none⟩) (by simp;omega) _⟩
    rw[HSN.out,HM.out];have hcn:=HCN.out
    cases m
    ·simp only[Bool.false_or]
     rw[Bool.eq_iff_iff];simp only[Bool.or_eq_true,decide_eq_true_eq]
     constructor<;>intro hh<;>first|rfl|trivial|contradiction|omega|trace_state
    ·simp_all
 case done =>
  rintro D ys W hD rfl ⟨⟨hla,hch,hz⟩,hB⟩ hK;rw[zBB] at hla;rw[zC6] at hch;obtain⟨m,hm⟩:∃m,decide (262144<t.count∨900<t.deep∨t.tags=true)=m:=⟨_,rfl⟩;rw[hm] at hch;have HR:Hid (zJ t=if m then 141 else 0):=by show _=_;unfold zJ;rw[if_pos hla,←hm];simp
  clear hm hla;obtain⟨r1,r2,r3,f1,f2,f3⟩:=hch
  cases m
  ·gi_wp2
   have hK':=(KeepsOthers.setCell W ⟨w.heap.size,0,none⟩ (.int .i64 0)).same D _ hK rfl;refine⟨by simp,.inl ⟨_,_,rfl,run_takeDeferred hK',?_⟩⟩;have hc5:=cell_kept (World.cell?_setCell_same' W ⟨w.heap.size,0,none⟩ (.int .i64 0) (by rw[r1];rfl)) (grownBy_putObj' _ D (.deferred none)) (fun r e=>by cases e;exact⟨_,hK',rfl⟩);refine⟨.int .i64 0,?_,by rw[HR.out];rfl,(hB.setCell (p:=⟨w.heap.size,0,none⟩) (Nat.le_refl _) _).trans (belowK_b (w:=w) (Nat.le_refl _) _ D _ _ (by omega) hK' rfl rfl)⟩;simp[results,Tryz.f207,go_sem,hc5]
  ·gi_wp2
   have hK':=(KeepsOthers.setCell W ⟨w.heap.size,0,none⟩ (.int .i64 141)).same D _ hK rfl;refine⟨by simp,.inl ⟨_,_,rfl,run_takeDeferred hK',?_⟩⟩;have hc5:=cell_kept (World.cell?_setCell_same' W ⟨w.heap.size,0,none⟩ (.int .i64 141) (by rw[r1];rfl)) (grownBy_putObj' _ D (.deferred none)) (fun r e=>by cases e;exact⟨_,hK',rfl⟩);refine⟨.int .i64 141,?_,by rw[HR.out];rfl,(hB.setCell (p:=⟨w.heap.size,0,none⟩) (Nat.le_refl _) _).trans (belowK_b (w:=w) (Nat.le_refl _) _ D _ _ (by omega) hK' rfl rfl)⟩;simp[results,Tryz.f207,go_sem,hc5]
 case stop =>
  rintro D c pre W hD hpre ⟨⟨rfl,hla,hc2⟩,hB⟩ hK
  have hall:t.all=false:=by
   rw[←zBB t 1];obtain⟨z,hz⟩:=hpre;unfold zDG at hla ⊢;rw[←hz,List.all_append,hla];rfl
  have HR:Hid (zJ t=2):=by show _=_;unfold zJ;rw[hall];rfl
  clear hall hla hpre
  gi_wp2
  refine⟨by simp,.inl ⟨_,_,rfl,run_takeDeferred hK,?_⟩⟩;have hc5:=cell_kept hc2 (grownBy_putObj' _ D (.deferred none)) (fun r e=>by cases e;exact⟨_,hK,rfl⟩);refine⟨.int .i64 2,?_,by rw[HR.out],hB.trans (belowK_b (w:=w) (Nat.le_refl _) W D _ _ (by omega) hK rfl rfl)⟩;simp[results,Tryz.f207,go_sem,hc5]
end Instr
namespace Val
open Go.RowKit Instr Mod
open Stk (Fr R ji vP qM yu yl yW vT qm vH yG valid zl)
theorem zC9 {k:Int} {z:List Int} {j:Nat} (hj:j<z.length) (b:Bool) (s:St):j0 k (z.drop j) b s=j0 k (z.drop (j+1)) (decide ((ze z[j] s).1=k)&&b) (ze z[j] s).2:=by
 rw[List.drop_eq_getElem_cons hj,j0]
theorem zFw (g n₀:Nat) (m:Md) (lo re:Int) (s:St) (ta:Option Addr) (tc:Nat) (tags:List Int) (last:Int) (w:World) (h:Ck g n₀ m lo re s w) (ht:zk n₀ w ta tags) (hz:∀z∈tags,0≤z∧z<4294967296) (hl:0≤last∧last<4294967296) (hlen:tags.length≤140737488351232) :
  Calls Tryz.prog 281 #[.pointer (some ⟨g,0,none⟩),.slice ta tags.length tc,.int .u32 last] w (Done g n₀ m lo re w (jD tags last s)):=by
 have HC:=hid h;have HZ:=hid hz;have HT:=hid ht;have C1:=hid (YR g n₀ m lo re s last w h hl);obtain⟨p,hp⟩:∃p,ze last s=p:=⟨_,rfl⟩;have HE:Hid (jD tags last s=if (j0 p.1 tags true p.2).1 then (j0 p.1 tags true p.2).2 else zv 214 (j0 p.1 tags true p.2).2):=by show _=_;rw[←hp];rfl
 rw[hp] at C1;obtain⟨k0,s1⟩:=p;simp only at C1 HE;obtain⟨len,hle⟩:∃n,tags.length=n:=⟨_,rfl⟩;have HLE:=hid hle;rw[hle] at hlen ⊢;clear h hz ht hp hle hl
 go_enter Tryz.func281,Tryz.ntmps281
 go_wp2_with fail
 refine C1.out.mono ?_;rintro e1 w1 ⟨rfl,hc1,hs1⟩;have HC1:=hid hc1;have HS1:=hid hs1;clear C1 hc1 hs1;go_wp2
 go_loopw [7,15] (fun vb vi wr=>∃(k:Nat) (b:Bool) (s':St),vi=.int .i64 k∧k≤len∧vb=.bool b∧Hid (j0 k0 tags true s1=j0 k0 (tags.drop k) b s')∧Hid (Ck g n₀ m lo re s' wr)∧Hid (zF g w wr)) (fun _ vi _=>len-(intOf vi).toNat)
 case atStart=>exact⟨0,true,s1,rfl,Nat.zero_le _,rfl,rfl,HC1,HS1⟩
 case round =>
  clear HC1 HS1;obtain⟨k,b,s',rfl,hk,rfl,HR,HK,HS⟩:=hrel
  by_cases hlt:k<len
  ·have hkl:k<tags.length:=by rw[HLE.out];exact hlt
   have hki:(k:Int)<(len:Int):=by omega
   obtain⟨z,hzz⟩:∃z,tags[k]=z:=⟨_,rfl⟩;have hb:=HC.out.below HS.out;have hta:=HT.out.below hb;have hzr:=HZ.out tags[k] (List.getElem_mem hkl);have hstep:=zC9 (k:=k0) hkl b s';rw[hzz] at hzr hstep
   have hcell:∃bb off,ta=some ⟨bb,off,none⟩∧wr.cell? ⟨bb,off+k,none⟩=some (.int .u32 z):=by
    rcases hta with h0|⟨bb,off,ha,_,hc⟩
    ·rw[h0] at hkl;simp at hkl
    ·refine⟨bb,off,ha,?_⟩
     have:=hc k hkl;rw[show tags.getD k 0=tags[k] by simp[hkl],hzz] at this;exact this
   obtain⟨bb,off,rfl,cz⟩:=hcell;have C2:=hid (YR g n₀ m lo re s' z wr HK.out hzr);obtain⟨q,hq⟩:∃q,ze z s'=q:=⟨_,rfl⟩;rw[hq] at C2 hstep;obtain⟨kz,s2⟩:=q;simp only at C2 hstep;have HST:=hid (HR.out.trans hstep);clear hzz hb hta hzr hstep hq hkl
   by_cases hkk:kz=k0
   ·subst hkk
    have e2:Hid (∀c:Bool,(decide (kz=kz)&&c)=c):=fun c=>by simp
    go_wp2_with fail
    refine C2.out.mono ?_;rintro e2 w2 ⟨rfl,hc2,hs2⟩;have HC2:=hid hc2;have HS2:=hid (HS.out.trans hs2);clear C2 hc2 hs2 cz;go_wp2
    go_roundw
    case rel=>exact⟨k+1,b,s2,by go_num,by omega,rfl,hid (by rw[HST.out,e2.out]),HC2,HS2⟩
    case measure=>simp[intOf];omega
   ·have e2:Hid (∀c:Bool,(decide (kz=k0)&&c)=false):=fun c=>by simp[hkk]
    have hkb:(kz==k0)=false:=by simpa using hkk
    go_wp2_with fail
    refine C2.out.mono ?_;rintro e2 w2 ⟨rfl,hc2,hs2⟩;have HC2:=hid hc2;have HS2:=hid (HS.out.trans hs2);clear C2 hc2 hs2 cz;go_wp2
    go_roundw
    case rel=>exact⟨k+1,false,s2,by go_num,by omega,rfl,hid (by rw[HST.out,e2.out]),HC2,HS2⟩
    case measure=>simp[intOf];omega
  ·obtain rfl:len=k:=by omega
   have hdr:tags.drop len=[]:=by rw[←HLE.out];simp
   have HF:=hid (show j0 k0 tags true s1=(b,s') by rw[HR.out,hdr];rfl);have HG1:=hid (show b=true→jD tags last s=s' from fun hb=>by rw[HE.out,HF.out,hb];rfl);have HG0:=hid (show b=false→jD tags last s=zv 214 s' from fun hb=>by rw[HE.out,HF.out,hb];rfl);clear hdr HR hk hlt HE HF
   cases b with
   | true =>
    have HG:=hid (HG1.out rfl);clear HG1 HG0;go_wp2
    go_end0
    refine⟨rfl,?_,HS.out⟩;rw[HG.out];exact HK.out
   | false =>
    have HG:=hid (HG0.out rfl);clear HG1 HG0;have C3:=hid (qh g n₀ m lo re s' 214 wr HK.out)
    go_wp2_with fail
    refine C3.out.mono ?_;rintro e3 w3 ⟨rfl,hc3,hs3⟩;have HC3:=hid hc3;have HS3:=hid (HS.out.trans hs3);clear C3 hc3 hs3;go_wp2
    go_end0
    refine⟨rfl,?_,HS3.out⟩;rw[HG.out];exact HC3.out
end Val
namespace Instr
def Ix.bare (x:Ix):Ix:=⟨x.op,x.res,x.a,x.b,x.n,x.tags,none,0,none,x.ln,0,none,x.en,0⟩
def Il.bare:Il→Il
 | .nil=>.nil
 | .cons x l e r=>.cons x.bare l.bare e.bare r.bare
def Il.app:Il→Il→Il
 | .nil,t=>t
 | .cons x l e r,t=>.cons x l e (r.app t)
def Il.fit:Il→Prop
 | .nil=>True
 | .cons x l e r=>l.len=x.ln∧e.len=x.en∧l.fit∧e.fit∧r.fit
theorem zD7:∀t:Il,t.app .nil=t
 | .nil=>rfl
 | .cons x l e r=>by rw[Il.app,zD7 r]
theorem zBA:∀t u v:Il,(t.app u).app v=t.app (u.app v)
 | .nil,_,_=>rfl
 | .cons x l e r,u,v=>by simp only[Il.app,zBA r]
theorem zBS:∀t u:Il,(t.app u).len=t.len+u.len
 | .nil,u=>by simp[Il.app,Il.len]
 | .cons x l e r,u=>by simp only[Il.app,Il.len,zBS r];omega
theorem zCU:∀t u:Il,(t.app u).bare=t.bare.app u.bare
 | .nil,_=>rfl
 | .cons x l e r,u=>by simp only[Il.app,Il.bare,zCU r]
theorem qX:∀t:Il,t.bare.len=t.len
 | .nil=>rfl
 | .cons x l e r=>by simp only[Il.bare,Il.len,qX r]
theorem bare_count:∀t:Il,t.bare.count=t.count
 | .nil=>rfl
 | .cons x l e r=>by simp only[Il.bare,Il.count,bare_count l,bare_count e,bare_count r]
theorem ZM:∀t:Il,t.bare.deep=t.deep
 | .nil=>rfl
 | .cons x l e r=>by simp only[Il.bare,Il.deep,ZM l,ZM e,ZM r]
theorem ZR:∀t:Il,t.bare.tags=t.tags
 | .nil=>rfl
 | .cons x l e r=>by simp only[Il.bare,Il.tags,ZR l,ZR e,ZR r];rfl
theorem YX:∀t:Il,t.bare.all=t.all
 | .nil=>rfl
 | .cons x l e r=>by simp only[Il.bare,Il.all,YX l,YX e,YX r];rfl
theorem zC3 (t:Il):zJ t.bare=zJ t:=by unfold zJ;rw[YX,bare_count,ZM,ZR]
end Instr
namespace Body
open Leb Kind Instr
def zn (op:Int):Nat :=
 if op=2∨op=3∨op=4 then 1
 else if op=12∨op=13∨op=16∨op=32∨op=33∨op=34∨op=35∨op=36 then 2
 else if op=17 then 3
 else if op=14 then 4
 else if op=40∨op=44∨op=45∨op=46∨op=47∨op=54∨op=58∨op=59 then 5
 else if op=63∨op=64 then 6
 else if op=65 then 7 else 0
def zGB (op res a b n:Int) (tags:List Int):Ix:=⟨op,res,a,b,n,tags,none,0,none,0,0,none,0,0⟩
structure Lr where
 t:Il
 q:Int
 n:Int
 s:Rd
structure Or where
 x:Ix
 l:Il
 e:Il
 n:Int
 s:Rd
def On (s s':Rd):Prop:=s'.2.1=0→s.2.1=0∧s.1≤s'.1
theorem On.trans {a b c:Rd} (h:On a b) (g:On b c):On a c:=fun hc=>⟨(h (g hc).1).1,Int.le_trans (h (g hc).1).2 (g hc).2⟩
end Body
/-
  BODY: reading by a stack of open lists,as a plain function;it gives what reading list by list gives.
-/
namespace Body
open Leb Kind Instr
structure Fr where
 x:Ix
 fl:Il
 t:Il
 oth:Bool
end Body
/-
  BODY: what is put is got: an instruction's fields by its operation;its bytes read;a list's bytes read,whatever follows.
-/
namespace Body
open Go.RowKit Leb Instr
open Kind (Rd)
theorem zJT:∀b1 b2 b3 b4 b5 b6 b7:Bool,bits .andNot .u8 (bit b1 1+bit b2 2+bit b3 4+bit b4 8+bit b5 16+bit b6 32+bit b7 64) 6=0↔(b1||b4||b5||b6||b7)=false:=by decide
theorem zIv:∀b1 b2 b3 b4 b5 b6 b7:Bool,bits .andNot .u8 (bit b1 1+bit b2 2+bit b3 4+bit b4 8+bit b5 16+bit b6 32+bit b7 64) 33=0↔(b2||b3||b4||b5||b7)=false:=by decide
theorem zII:∀b1 b2 b3 b4 b5 b6 b7:Bool,bits .andNot .u8 (bit b1 1+bit b2 2+bit b3 4+bit b4 8+bit b5 16+bit b6 32+bit b7 64) 97=0↔(b2||b3||b4||b5)=false:=by decide
theorem zJY:∀b1 b2 b3 b4 b5 b6 b7:Bool,bits .andNot .u8 (bit b1 1+bit b2 2+bit b3 4+bit b4 8+bit b5 16+bit b6 32+bit b7 64) 2=0↔(b1||b3||b4||b5||b6||b7)=false:=by decide
theorem zIR:∀b1 b2 b3 b4 b5 b6 b7:Bool,bits .andNot .u8 (bit b1 1+bit b2 2+bit b3 4+bit b4 8+bit b5 16+bit b6 32+bit b7 64) 18=0↔(b1||b3||b4||b6||b7)=false:=by decide
theorem zJd:∀b1 b2 b3 b4 b5 b6 b7:Bool,bits .andNot .u8 (bit b1 1+bit b2 2+bit b3 4+bit b4 8+bit b5 16+bit b6 32+bit b7 64) 8=0↔(b1||b2||b3||b5||b6||b7)=false:=by decide
theorem zJW:∀b1 b2 b3 b4 b5 b6 b7:Bool,bits .andNot .u8 (bit b1 1+bit b2 2+bit b3 4+bit b4 8+bit b5 16+bit b6 32+bit b7 64) 0=0↔(b1||b2||b3||b4||b5||b6||b7)=false:=by decide
theorem zEr (op:Int):(uD op=6∧zn op=5)∨(uD op=33∧zn op=1∧op≠4)∨(uD op=97∧zn op=1∧op=4)∨(uD op=2∧(zn op=2∨zn op=3)) ∨
  (uD op=18∧zn op=4)∨(uD op=8∧zn op=7)∨(uD op=0∧(zn op=0∨zn op=6)):=by
 unfold uD zn
 (repeat' split)<;>simp<;>omega
theorem yj (x:Ix):zW x=true↔zc x.op≠[]∧(x.res=0∨x.res=1)∧(x.res=0∨zn x.op=1)∧(x.a=0∨zn x.op=2∨zn x.op=3∨zn x.op=4∨zn x.op=5)∧(x.b=0∨zn x.op=5) ∧
  (x.n=0∨zn x.op=7)∧(x.tags.length=0∨zn x.op=4)∧(x.ln=0∨zn x.op=1)∧(x.en=0∨(zn x.op=1∧x.op=4)):=by
 unfold zW zCI ZJ;simp only[Bool.and_eq_true,Bool.or_eq_true,decide_eq_true_eq,and_assoc];refine and_congr_right fun _=>?_
 rw[and_comm];refine and_congr_right fun _=>?_
 rcases zEr x.op with ⟨hu,hk⟩|⟨hu,hk,h4⟩|⟨hu,hk,h4⟩|⟨hu,hk⟩|⟨hu,hk⟩|⟨hu,hk⟩|⟨hu,hk⟩<;>rw[hu]
 ·rw[zJT];simp[hk,and_assoc]
 ·rw[zIv];simp[hk,h4,and_assoc]
 ·rw[zII];simp[show zn 4=1 by decide,h4,and_assoc]
 ·rw[zJY];rcases hk with hk|hk<;>simp[hk,and_assoc]
 ·rw[zIR];simp[hk,and_assoc]
 ·rw[zJd];simp[hk,and_assoc]
 ·rw[zJW];rcases hk with hk|hk<;>simp[hk,and_assoc]
section
variable {zs:List Int} {op:Int} {s:Rd}
end
theorem zDP (op:Int):zn op=0∨zn op=1∨zn op=2∨zn op=3∨zn op=4∨zn op=5∨zn op=6∨zn op=7:=by
 unfold zn;(repeat' split)<;>simp
theorem zCV:∀ {t:Il},t.len=0→t=.nil
 | .nil,_=>rfl
 | .cons _ _ _ _,h=>by simp[Il.len] at h
def Lr.pre (t:Il) (r:Lr):Lr:=⟨t.app r.t,r.q,r.n,r.s⟩
end Body
/-
  BODY: bytes that end too early: the fault is told where they end.
-/
namespace Body
open Leb Instr
open Kind (Rd)
end Body
/-
  BODY: what is got may be,and is put in no more bytes.
-/
namespace Body
open Leb Instr
open Kind (Rd)
section
variable {zs:List Int} (hz:∀c∈zs,0≤c∧c<256)
include hz
end
end Body
end Go.Proofs.YtdljneclfgneoaaGreatDoor
