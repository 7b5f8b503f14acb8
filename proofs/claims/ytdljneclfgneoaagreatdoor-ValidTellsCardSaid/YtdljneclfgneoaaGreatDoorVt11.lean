import Derived.Test.YtdljneclfgneoaaGreatDoorVt10
import Derived.Deep.QuietTactic
import Derived.BigQuiet
import Derived.Deep.RegionWith
import Derived.Laws.EntriesVeiled
import Derived.Laws.BytesArg
set_option linter.unusedVariables false
set_option linter.ambiguousOpen false
set_option maxRecDepth 100000
set_option maxHeartbeats 8000000
namespace Go.Proofs.YtdljneclfgneoaaGreatDoor
namespace Instr
end Instr
namespace Mod
end Mod
namespace Stk
end Stk
namespace Kind
end Kind
namespace Mod
open Go.RowKit Go.Shelf Instr
attribute [local go_sem] Oper.semAt_some
def Fair (w:World) (l:Lst):Prop:=zD w.heap.size w l.a l.t.len l.t∧l.t.len≤140737488351232∧l.t.count≤1000000
theorem zB3 {m:Md} {w:World} (hm:zN w.heap.size w m) (hf:m.few):∀l∈m.codes,Fair w l:=fun l hl=>⟨hm.ls l hl,hf.fit.ls l hl,hf.cs l hl⟩
theorem Fair.at {w W:World} {l:Lst} (h:Fair w l) (hb:Below w.heap.size w W):zD W.heap.size W l.a l.t.len l.t:=h.1.on hb
def kZ {P:Lst→Prop} (pre:List {l:Lst // P l}):List Lst:=pre.map (·.1)
theorem Jg (m:Md) (P:Lst→Prop) (hP:∀l∈m.codes,P l):kZ (m.codes.attachWith P hP)=m.codes:=by simp[kZ]
theorem qb {w w':World} (h:Below w.heap.size w w'):KeepsOthers w w':=⟨h.size,fun k _ hk _=>(h.block k (Array.getElem?_eq_some_iff.1 hk).1).trans hk⟩
theorem zCR (pre:List Lst) (x:Lst) (a:Int):qQ (pre++[x]) a=if zJ x.t=0 then qQ pre a else zJ x.t:=by rw[Zf];rfl
structure Cod (g:Nat) (r:Int) (n:Int) (W:World):Prop where
 res:W.cell? ⟨g+1,0,none⟩=some (.int .i64 r)
 num:W.cell? ⟨g+1+1,0,none⟩=some (.int .i64 n)
 fres:W.frozen? ⟨g+1,0,none⟩=false
 fnum:W.frozen? ⟨g+1+1,0,none⟩=false
theorem Cod.own {g:Nat} {r n:Int} {A B:World} {row:Option Nat} (h:Cod g r n A) (hg:A.grownBy B row) (hr:∀r,row=some r→∃o:Obj,A.heap[r]?=some o∧o.isCells=false):Cod g r n B :=
 ⟨cell_kept h.res hg hr,cell_kept h.num hg hr,(frozen_kept h.res hg hr).trans h.fres,(frozen_kept h.num hg hr).trans h.fnum⟩
theorem Cod.below {g:Nat} {r n:Int} {A B:World} (h:Cod g r n A) (hb:Below A.heap.size A B):Cod g r n B :=
 have f:∀p v,A.cell? p=some v→A.frozen? p=false→B.frozen? p=false:=fun p _ hc hf=>(hb.frozen (World.block_lt_of_cell? A p hc)).trans hf
 ⟨kP hb h.res,kP hb h.num,f _ _ h.res h.fres,f _ _ h.num h.fnum⟩
theorem Cod.set {g:Nat} {r n n':Int} {A:World} (h:Cod g r n A):Cod g r n' (A.setCell ⟨g+1+1,0,none⟩ (.int .i64 n')):=by
 obtain⟨r1,r2,f1,f2⟩:=h
 constructor<;>simp[go_sem, *]
theorem zAV (m:Md) (w:World) (hT:kC w) (hm:zN w.heap.size w m) (hf:m.few) :
  Calls Tryz.prog 151 #[.agg m.v] w fun e w'=>e=.returned (.int .i64 (zu m.codes))∧Below w.heap.size w w':=by
 have HM:=hid hm;have HF:=hid hf;have hbx:=zB.made (((w.alloc (.cells m.v 40)).alloc (.cells #[.int .i64 0] 47)).alloc (.cells #[.int .i64 0] 47)) m.v 40;have hS0:Cod w.heap.size 0 0 (((w.alloc (.cells m.v 40)).alloc (.cells #[.int .i64 0] 47)).alloc (.cells #[.int .i64 0] 47)):=by constructor<;>go_simp
 have hS1:=hS0.below ((Below.refl _ _).alloc (Nat.le_refl _) (.cells m.v 40));have hB0:Below w.heap.size w ((((w.alloc (.cells m.v 40)).alloc (.cells #[.int .i64 0] 47)).alloc (.cells #[.int .i64 0] 47)).alloc (.cells m.v 40)):=zC (zC (zC (zC (Below.refl _ _) _) _) _) _;have hsz:((((w.alloc (.cells m.v 40)).alloc (.cells #[.int .i64 0] 47)).alloc (.cells #[.int .i64 0] 47)).alloc (.cells m.v 40)).heap.size=w.heap.size+4:=by simp
 simp only[World.size_alloc] at hbx;clear hm hf hS0;unfold Md.v at hbx hB0 hsz hS1 ⊢;refine (callsIn_wide (n:=3)).1 ?_;refine callsIn_of_wp_marks Tryz.func151 rfl trivial ?_ rfl;simp only[Tryz.ntmps151,List.size_toArray,List.length_cons,List.length_nil,Nat.reduceAdd,Nat.reduceSub,Array.replicate_succ,Array.replicate_zero,List.push_toArray,List.append_toArray,List.nil_append,List.cons_append]
 gi_wp2_with fail
 refine⟨trivial,?_⟩;refine (zGt _ m _).mono ?_;unfold Md.v;rintro e w' ⟨rfl,rfl⟩
 gi_wp2
 generalize ((((w.alloc (.cells #[.slice m.ty'.a m.ty.length m.ty'.c,.slice m.im'.a m.im.length m.im'.c,.slice m.fu'.a m.fu.length m.fu'.c,.slice m.tb'.a m.tb.length m.tb'.c,.slice m.me'.a m.me.length m.me'.c,.slice m.gl'.a m.gl.length m.gl'.c,.slice m.ex'.a m.ex.length m.ex'.c,.bool m.st,.int .u32 m.sn,.slice m.el'.a m.el.length m.el'.c,.slice m.da'.a m.da.length m.da'.c] 40)).alloc (.cells #[.int .i64 0] 47)).alloc (.cells #[.int .i64 0] 47)).alloc (.cells #[.slice m.ty'.a m.ty.length m.ty'.c,.slice m.im'.a m.im.length m.im'.c,.slice m.fu'.a m.fu.length m.fu'.c,.slice m.tb'.a m.tb.length m.tb'.c,.slice m.me'.a m.me.length m.me'.c,.slice m.gl'.a m.gl.length m.gl'.c,.slice m.ex'.a m.ex.length m.ex'.c,.bool m.st,.int .u32 m.sn,.slice m.el'.a m.el.length m.el'.c,.slice m.da'.a m.da.length m.da'.c] 40))=W0 at hbx hB0 hsz hS1 ⊢
 have HB0:=hid hB0
 refine wpIn_rangeFunc_ownF rfl (by omega) (gf:=272) (lb:=#[.pointer (some ⟨w.heap.size+1+1+1,0,none⟩)]) rfl trivial (enters_of Tryz.func272 (by kernel_rfl) rfl)
  (zCS _ w.heap.size (w.heap.size+1+1+1) m W0 (by omega) (by omega) hbx (HM.out.below hB0) HF.out.fit (Fair w) (zB3 HM.out HF.out)) (fun h k=>h.trans k) (zES (by omega)) (Below.refl _ _) (fun _=>rfl)
  (fun pre W=>((∀y∈kZ pre,zJ y.t≠141)∧Cod w.heap.size 0 (qQ (kZ pre) 0) W)∧Below w.heap.size w W)
  (fun c pre W=>(c=.ret∧(∃y∈kZ pre,zJ y.t=141)∧W.cell? ⟨w.heap.size+1,0,none⟩=some (.int .i64 141))∧Below w.heap.size w W)
  (OwnFrom.and (Own.from (fun s A B row hs hg hr=>⟨hs.1,hs.2.own hg hr⟩) _) (ownFrom_below (Nat.le_refl _) (by omega)))
  (fun c=>OwnFrom.and (Own.from (fun s A B row hs hg hr=>⟨hs.1,hs.2.1,cell_kept hs.2.2 hg hr⟩) _) (ownFrom_below (Nat.le_refl _) (by omega)))
  ⟨⟨by simp[kZ],hS1⟩,hB0⟩
  (fun x=>{ tmps:=#[.agg #[.slice m.ty'.a m.ty.length m.ty'.c,.slice m.im'.a m.im.length m.im'.c,.slice m.fu'.a m.fu.length m.fu'.c,.slice m.tb'.a m.tb.length m.tb'.c,.slice m.me'.a m.me.length m.me'.c,.slice m.gl'.a m.gl.length m.gl'.c,.slice m.ex'.a m.ex.length m.ex'.c,.bool m.st,.int .u32 m.sn,.slice m.el'.a m.el.length m.el'.c,.slice m.da'.a m.da.length m.da'.c],.pointer (some ⟨w.heap.size,0,none⟩),.pointer (some ⟨w.heap.size+1,0,none⟩),.pointer (some ⟨w.heap.size+1+1,0,none⟩),x.1.val,undef,.agg #[.slice m.ty'.a m.ty.length m.ty'.c,.slice m.im'.a m.im.length m.im'.c,.slice m.fu'.a m.fu.length m.fu'.c,.slice m.tb'.a m.tb.length m.tb'.c,.slice m.me'.a m.me.length m.me'.c,.slice m.gl'.a m.gl.length m.gl'.c,.slice m.ex'.a m.ex.length m.ex'.c,.bool m.st,.int .u32 m.sn,.slice m.el'.a m.el.length m.el'.c,.slice m.da'.a m.da.length m.da'.c],.func (.func 272) #[] #[.pointer (some ⟨w.heap.size+1+1+1,0,none⟩)],x.1.val,undef,undef,undef,undef,undef,undef,undef,undef,undef,undef],defers:=[] }) ?assign ?body ?done ?stop
 case assign =>
  intro l x W K hK
  gi_wp2
  simpa[zEj] using hK
 case body =>
  rintro l pre x W ⟨⟨hla,hch⟩,hB⟩ hlt;have CL:=callsIn_wide (n:=0) |>.2 (zA4 x.1.a x.1.t.len x.1.c x.1.t W (hT.below hB) (x.2.at hB) (by have:=x.2.2.2;omega) x.2.2.1);obtain⟨N,hN⟩:∃N:Int,qQ (kZ pre) 0=N:=⟨_,rfl⟩;obtain⟨C,hC⟩:∃C:Int,zJ x.1.t=C:=⟨_,rfl⟩;have HV:=hid (show kZ (pre++[x])=kZ pre++[x.1] by simp[kZ]);have HS:=hid (show qQ (kZ pre++[x.1]) 0=if C=0 then N else C by rw[zCR,hN,hC]);have HCC:=hid (show C=0∨C=141∨C=2 from hC▸kK x.1.t);have HC:=hid hC;rw[hN] at hch;rw[hC] at CL
  have CL2:=hid (CallsIn.mono (R':=fun e w'=>e=.returned (.int .i64 C)∧Cod w.heap.size 0 N w'∧Hid (Below W.heap.size W w')) CL (by
    rintro e w' ⟨rfl,hb⟩;exact⟨rfl,hch.below hb,hb⟩))
  have HLA:=hid hla;have HB:=hid hB;clear hN hC hsz hbx hS1 HM HF hB0 CL hla hB hch;unfold Lst.val
  rcases HCC.out with h|h|h
  ·have HS0:=hid (show qQ (kZ (pre++[x])) 0=N by rw[HV.out,HS.out,if_pos h])
   subst h
   gi_wp2_with (refine⟨trivial,?_⟩;refine (CallsIn.inRound l CL2.out).mono ?_;rintro e W3 ⟨rfl,hk3,hb3⟩)
   exact⟨qb hb3.out,yq.of_below hb3.out HB.out.size,⟨by rw[HV.out];intro y hy;rcases List.mem_append.1 hy with hy|hy;exact HLA.out y hy;rw[List.mem_singleton.1 hy,HC.out];omega,by rw[HS0.out];exact hk3⟩,HB.out.trans (hb3.out.mono HB.out.size)⟩
  ·have HY:=hid (show ∃y∈kZ (pre++[x]),zJ y.t=141 from ⟨x.1,by rw[HV.out];simp,by rw[HC.out,h]⟩)
   subst h
   gi_wp2_with (refine⟨trivial,?_⟩;refine (CallsIn.inRound l CL2.out).mono ?_;rintro e W3 ⟨rfl,⟨k1,k2,k3,k4⟩,hb3⟩)
   exact⟨(qb hb3.out).trans (KeepsOthers.setCell _ _ _),⟨rfl,HY.out,World.cell?_setCell_same' _ _ _ (by rw[k1];rfl)⟩,(HB.out.trans (hb3.out.mono HB.out.size)).setCell (p:=⟨w.heap.size+1,0,none⟩) (by simp) _⟩
  ·have HS0:=hid (show qQ (kZ (pre++[x])) 0=2 by rw[HV.out,HS.out,if_neg (by omega),h])
   subst h
   gi_wp2_with (refine⟨trivial,?_⟩;refine (CallsIn.inRound l CL2.out).mono ?_;rintro e W3 ⟨rfl,hk3,hb3⟩;have hk3':=hid hk3;obtain⟨k1,k2,k3,k4⟩:=hk3)
   exact⟨(qb hb3.out).trans (KeepsOthers.setCell _ _ _),(yq.of_below hb3.out HB.out.size).setCell (p:=⟨w.heap.size+1+1,0,none⟩) (by simp;omega) (by simp) _,
     ⟨by rw[HV.out];intro y hy;rcases List.mem_append.1 hy with hy|hy;exact HLA.out y hy;rw[List.mem_singleton.1 hy,HC.out];omega,by rw[HS0.out];exact hk3'.out.set⟩,(HB.out.trans (hb3.out.mono HB.out.size)).setCell (p:=⟨w.heap.size+1+1,0,none⟩) (by simp;omega) _⟩
 case done =>
  rintro D ys W hD rfl ⟨⟨hla,hch⟩,hB⟩ hK;rw[Jg] at hla hch;obtain⟨h1,_⟩:=Zx m.codes 0 hla (.inl rfl);rw[if_neg (by omega)] at h1;rw[h1] at hch;obtain⟨q,hq⟩:∃q,zu m.codes=q:=⟨_,rfl⟩;rw[hq] at hch;have HQ:=hid hq;clear hq h1 hla;obtain⟨r1,r2,f1,f2⟩:=hch
  gi_wp2
  have hK':=(KeepsOthers.setCell W ⟨w.heap.size+1,0,none⟩ (.int .i64 q)).same D _ hK rfl;refine⟨by simp,.inl ⟨_,_,rfl,run_takeDeferred hK',?_⟩⟩;have hc5:=cell_kept (World.cell?_setCell_same' W ⟨w.heap.size+1,0,none⟩ (.int .i64 q) (by rw[r1];rfl)) (grownBy_putObj' _ D (.deferred none)) (fun r e=>by cases e;exact⟨_,hK',rfl⟩);refine⟨.int .i64 q,?_,by rw[HQ.out],(hB.setCell (p:=⟨w.heap.size+1,0,none⟩) (by simp) _).trans (belowK_b (w:=w) (Nat.le_refl _) _ D _ _ (by omega) hK' rfl rfl)⟩;simp[results,Tryz.f151,go_sem,hc5]
 case stop =>
  rintro D c pre W hD hpre ⟨⟨rfl,⟨y,hy,hy1⟩,hc2⟩,hB⟩ hK
  have HR:Hid (zu m.codes=141):=by
   show _=_
   refine uY _ y ?_ hy1;rw[←Jg m (Fair w) (zB3 HM.out HF.out)];unfold kZ at hy ⊢;obtain⟨z,hz⟩:=hpre;rw[←hz,List.map_append];exact List.mem_append_left _ hy
  clear hy hy1 hpre
  gi_wp2
  refine⟨by simp,.inl ⟨_,_,rfl,run_takeDeferred hK,?_⟩⟩;have hc5:=cell_kept hc2 (grownBy_putObj' _ D (.deferred none)) (fun r e=>by cases e;exact⟨_,hK,rfl⟩);refine⟨.int .i64 141,?_,by rw[HR.out],hB.trans (belowK_b (w:=w) (Nat.le_refl _) W D _ _ (by omega) hK rfl rfl)⟩;simp[results,Tryz.f151,go_sem,hc5]
end Mod
namespace Mod
open Go.RowKit Go.Shelf Instr
theorem zB.all {W:World} {g:Nat} {m:Md} (h:zB W g m.v):W.cell? ⟨g,0,none⟩=some (.slice m.ty'.a m.ty.length m.ty'.c)∧W.cell? ⟨g,1,none⟩=some (.slice m.im'.a m.im.length m.im'.c)∧W.cell? ⟨g,2,none⟩=some (.slice m.fu'.a m.fu.length m.fu'.c) ∧
  W.cell? ⟨g,3,none⟩=some (.slice m.tb'.a m.tb.length m.tb'.c)∧W.cell? ⟨g,4,none⟩=some (.slice m.me'.a m.me.length m.me'.c)∧W.cell? ⟨g,5,none⟩=some (.slice m.gl'.a m.gl.length m.gl'.c)∧W.cell? ⟨g,6,none⟩=some (.slice m.ex'.a m.ex.length m.ex'.c) ∧
  W.cell? ⟨g,7,none⟩=some (.bool m.st)∧W.cell? ⟨g,8,none⟩=some (.int .u32 m.sn)∧W.cell? ⟨g,9,none⟩=some (.slice m.el'.a m.el.length m.el'.c)∧W.cell? ⟨g,10,none⟩=some (.slice m.da'.a m.da.length m.da'.c) :=
 ⟨h 0 _ rfl,h 1 _ rfl,h 2 _ rfl,h 3 _ rfl,h 4 _ rfl,h 5 _ rfl,h 6 _ rfl,h 7 _ rfl,h 8 _ rfl,h 9 _ rfl,h 10 _ rfl⟩
theorem jr {W:World} {g:Nat} {v0 v1 v2 v3 v4 v5 v6 v7 v8 v9 v10:Value} (h:zB W g #[v0,v1,v2,v3,v4,v5,v6,v7,v8,v9,v10]):W.cell? ⟨g,0,none⟩=some v0∧W.cell? ⟨g,1,none⟩=some v1∧W.cell? ⟨g,2,none⟩=some v2∧W.cell? ⟨g,3,none⟩=some v3∧W.cell? ⟨g,4,none⟩=some v4∧W.cell? ⟨g,5,none⟩=some v5∧W.cell? ⟨g,6,none⟩=some v6∧W.cell? ⟨g,7,none⟩=some v7∧W.cell? ⟨g,8,none⟩=some v8∧W.cell? ⟨g,9,none⟩=some v9∧W.cell? ⟨g,10,none⟩=some v10:=⟨h 0 _ rfl,h 1 _ rfl,h 2 _ rfl,h 3 _ rfl,h 4 _ rfl,h 5 _ rfl,h 6 _ rfl,h 7 _ rfl,h 8 _ rfl,h 9 _ rfl,h 10 _ rfl⟩
theorem zJz (m:Md) (g:Nat) (W:World) (hx:zB W g m.v) (hm:zN W.heap.size W m) (hf:m.few):Calls Tryz.prog 147 #[.pointer (some ⟨g,0,none⟩)] W fun e w'=>e=.returned (.int .i64 (qd (m.crowded) 141))∧Below W.heap.size W w':=by
 have C:=hid (zBx m W hm hf.fit);obtain⟨q,hq⟩:∃q,m.crowded=q:=⟨_,rfl⟩;rw[hq] at C ⊢;have E:=hid (fun w=>ye q 141 w);unfold Md.v at C;obtain⟨c0,c1,c2,c3,c4,c5,c6,c7,c8,c9,c10⟩:=hx.all;clear hx hm hf hq
 go_enter Tryz.func147,Tryz.ntmps147
 go_wp2_with fail
 refine C.out.mono ?_;rintro e w1 ⟨rfl,hb1⟩;clear C c0 c1 c2 c3 c4 c5 c6 c7 c8 c9 c10
 go_wp2_with fail
 refine (E.out _).mono ?_;rintro e w2 ⟨rfl,rfl⟩;go_wp2;go_ret;exact⟨rfl,hb1⟩
theorem zJu (m:Md) (g:Nat) (W:World) (hx:zB W g m.v) (hm:zN W.heap.size W m) (hf:m.few):Calls Tryz.prog 152 #[.pointer (some ⟨g,0,none⟩)] W fun e w'=>e=.returned (.int .i64 (qd (m.anyName qa) 3))∧Below W.heap.size W w':=by
 have C:=hid (Yx m 154 qa W hm hf.fit (zE2 W));obtain⟨q,hq⟩:∃q,m.anyName qa=q:=⟨_,rfl⟩;rw[hq] at C ⊢;have E:=hid (fun w=>ye q 3 w);unfold Md.v at C;obtain⟨c0,c1,c2,c3,c4,c5,c6,c7,c8,c9,c10⟩:=hx.all;clear hx hm hf hq
 go_enter Tryz.func152,Tryz.ntmps152
 go_wp2_with fail
 refine C.out.mono ?_;rintro e w1 ⟨rfl,hb1⟩;clear C c0 c1 c2 c3 c4 c5 c6 c7 c8 c9 c10
 go_wp2_with fail
 refine (E.out _).mono ?_;rintro e w2 ⟨rfl,rfl⟩;go_wp2;go_ret;exact⟨rfl,hb1⟩
theorem zJ1 (m:Md) (g:Nat) (W:World) (hx:zB W g m.v) (hm:zN W.heap.size W m) (hf:m.few):Calls Tryz.prog 155 #[.pointer (some ⟨g,0,none⟩)] W fun e w'=>e=.returned (.int .i64 (qd (m.heavy) 3))∧Below W.heap.size W w':=by
 have C:=hid (zEz m.da m.da'.a m.da.length m.da'.c W rfl hm.da hf.fit.da);unfold Md.heavy;obtain⟨q,hq⟩:∃q,decide (1048576<qq m.da)=q:=⟨_,rfl⟩;rw[hq] at C ⊢;have E:=hid (fun w=>ye q 3 w);obtain⟨c0,c1,c2,c3,c4,c5,c6,c7,c8,c9,c10⟩:=hx.all;clear hx hm hf hq
 go_enter Tryz.func155,Tryz.ntmps155
 go_wp2_with fail
 refine C.out.mono ?_;rintro e w1 ⟨rfl,hb1⟩;clear C c0 c1 c2 c3 c4 c5 c6 c7 c8 c9 c10
 go_wp2_with fail
 refine (E.out _).mono ?_;rintro e w2 ⟨rfl,rfl⟩;go_wp2;go_ret;exact⟨rfl,hb1⟩
theorem zJ2 (m:Md) (g:Nat) (W:World) (hx:zB W g m.v) (hm:zN W.heap.size W m) (hf:m.few) (hU:Utf.Tabs W):Calls Tryz.prog 158 #[.pointer (some ⟨g,0,none⟩)] W fun e w'=>e=.returned (.int .i64 (qd (m.anyName yZ) 2))∧Below W.heap.size W w':=by
 have C:=hid (Yx m 159 yZ W hm hf.fit (zEZ W hU));obtain⟨q,hq⟩:∃q,m.anyName yZ=q:=⟨_,rfl⟩;rw[hq] at C ⊢;have E:=hid (fun w=>ye q 2 w);unfold Md.v at C;obtain⟨c0,c1,c2,c3,c4,c5,c6,c7,c8,c9,c10⟩:=hx.all;clear hx hm hf hq
 go_enter Tryz.func158,Tryz.ntmps158
 go_wp2_with fail
 refine C.out.mono ?_;rintro e w1 ⟨rfl,hb1⟩;clear C c0 c1 c2 c3 c4 c5 c6 c7 c8 c9 c10
 go_wp2_with fail
 refine (E.out _).mono ?_;rintro e w2 ⟨rfl,rfl⟩;go_wp2;go_ret;exact⟨rfl,hb1⟩
theorem zJ3 (m:Md) (g:Nat) (W:World) (hx:zB W g m.v) (hm:zN W.heap.size W m) (hf:m.few):Calls Tryz.prog 160 #[.pointer (some ⟨g,0,none⟩)] W fun e w'=>e=.returned (.int .i64 (qd (m.ty.any jS) 2))∧Below W.heap.size W w':=by
 have C:=hid (zIZ m.ty m.ty'.a m.ty.length m.ty'.c W rfl hm.ty hf.fit.ty 162 #[] (enters_of Tryz.func162 (by kernel_rfl) rfl) jS (fun W' x _ _=>by simp only[Array.append_empty];exact zDr x W'));obtain⟨q,hq⟩:∃q,m.ty.any jS=q:=⟨_,rfl⟩;rw[hq] at C ⊢;have E:=hid (fun w=>ye q 2 w);obtain⟨c0,c1,c2,c3,c4,c5,c6,c7,c8,c9,c10⟩:=hx.all;clear hx hm hf hq
 go_enter Tryz.func160,Tryz.ntmps160
 go_wp2_with fail
 refine C.out.mono ?_;rintro e w1 ⟨rfl,hb1⟩;clear C c0 c1 c2 c3 c4 c5 c6 c7 c8 c9 c10
 go_wp2_with fail
 refine (E.out _).mono ?_;rintro e w2 ⟨rfl,rfl⟩;go_wp2;go_ret;exact⟨rfl,hb1⟩
theorem zJp (m:Md) (g:Nat) (W:World) (hx:zB W g m.v) (hm:zN W.heap.size W m) (hf:m.few):Calls Tryz.prog 163 #[.pointer (some ⟨g,0,none⟩)] W fun e w'=>e=.returned (.int .i64 (qd (m.im.any jQ) 2))∧Below W.heap.size W w':=by
 have C:=hid (zGl m.im m.im'.a m.im.length m.im'.c W rfl hm.im hf.fit.im 165 #[] (enters_of Tryz.func165 (by kernel_rfl) rfl) jQ (fun W' x _ _=>by simp only[Array.append_empty];exact zDj x W'));obtain⟨q,hq⟩:∃q,m.im.any jQ=q:=⟨_,rfl⟩;rw[hq] at C ⊢;have E:=hid (fun w=>ye q 2 w);obtain⟨c0,c1,c2,c3,c4,c5,c6,c7,c8,c9,c10⟩:=hx.all;clear hx hm hf hq
 go_enter Tryz.func163,Tryz.ntmps163
 go_wp2_with fail
 refine C.out.mono ?_;rintro e w1 ⟨rfl,hb1⟩;clear C c0 c1 c2 c3 c4 c5 c6 c7 c8 c9 c10
 go_wp2_with fail
 refine (E.out _).mono ?_;rintro e w2 ⟨rfl,rfl⟩;go_wp2;go_ret;exact⟨rfl,hb1⟩
theorem zJx (m:Md) (g:Nat) (W:World) (hx:zB W g m.v) (hm:zN W.heap.size W m) (hf:m.few):Calls Tryz.prog 166 #[.pointer (some ⟨g,0,none⟩)] W fun e w'=>e=.returned (.int .i64 (qd (m.fu.any yR) 2))∧Below W.heap.size W w':=by
 have C:=hid (zI2 m.fu m.fu'.a m.fu.length m.fu'.c W rfl hm.fu hf.fit.fu 168 #[] (enters_of Tryz.func168 (by kernel_rfl) rfl) yR (fun W' x _ _=>by simp only[Array.append_empty];exact zD0 x W'));obtain⟨q,hq⟩:∃q,m.fu.any yR=q:=⟨_,rfl⟩;rw[hq] at C ⊢;have E:=hid (fun w=>ye q 2 w);obtain⟨c0,c1,c2,c3,c4,c5,c6,c7,c8,c9,c10⟩:=hx.all;clear hx hm hf hq
 go_enter Tryz.func166,Tryz.ntmps166
 go_wp2_with fail
 refine C.out.mono ?_;rintro e w1 ⟨rfl,hb1⟩;clear C c0 c1 c2 c3 c4 c5 c6 c7 c8 c9 c10
 go_wp2_with fail
 refine (E.out _).mono ?_;rintro e w2 ⟨rfl,rfl⟩;go_wp2;go_ret;exact⟨rfl,hb1⟩
theorem zJV (m:Md) (g:Nat) (W:World) (hx:zB W g m.v) (hm:zN W.heap.size W m) (hf:m.few):Calls Tryz.prog 169 #[.pointer (some ⟨g,0,none⟩)] W fun e w'=>e=.returned (.int .i64 (qd (m.ex.any yP) 2))∧Below W.heap.size W w':=by
 have C:=hid (zGZ m.ex m.ex'.a m.ex.length m.ex'.c W rfl hm.ex hf.fit.ex 171 #[] (enters_of Tryz.func171 (by kernel_rfl) rfl) yP (fun W' x _ _=>by simp only[Array.append_empty];exact zDJ x W'));obtain⟨q,hq⟩:∃q,m.ex.any yP=q:=⟨_,rfl⟩;rw[hq] at C ⊢;have E:=hid (fun w=>ye q 2 w);obtain⟨c0,c1,c2,c3,c4,c5,c6,c7,c8,c9,c10⟩:=hx.all;clear hx hm hf hq
 go_enter Tryz.func169,Tryz.ntmps169
 go_wp2_with fail
 refine C.out.mono ?_;rintro e w1 ⟨rfl,hb1⟩;clear C c0 c1 c2 c3 c4 c5 c6 c7 c8 c9 c10
 go_wp2_with fail
 refine (E.out _).mono ?_;rintro e w2 ⟨rfl,rfl⟩;go_wp2;go_ret;exact⟨rfl,hb1⟩
theorem zJP (m:Md) (g:Nat) (W:World) (hx:zB W g m.v) (hm:zN W.heap.size W m) (hf:m.few):Calls Tryz.prog 172 #[.pointer (some ⟨g,0,none⟩)] W fun e w'=>e=.returned (.int .i64 (qd (m.tb.any (beyond 1048576)) 2))∧Below W.heap.size W w':=by
 have C:=hid (Zh m.tb m.tb'.a m.tb.length m.tb'.c 1048576 W rfl hm.tb hf.fit.tb);obtain⟨q,hq⟩:∃q,m.tb.any (beyond 1048576)=q:=⟨_,rfl⟩;rw[hq] at C ⊢;have E:=hid (fun w=>ye q 2 w);obtain⟨c0,c1,c2,c3,c4,c5,c6,c7,c8,c9,c10⟩:=hx.all;clear hx hm hf hq
 go_enter Tryz.func172,Tryz.ntmps172
 go_wp2_with fail
 refine C.out.mono ?_;rintro e w1 ⟨rfl,hb1⟩;clear C c0 c1 c2 c3 c4 c5 c6 c7 c8 c9 c10
 go_wp2_with fail
 refine (E.out _).mono ?_;rintro e w2 ⟨rfl,rfl⟩;go_wp2;go_ret;exact⟨rfl,hb1⟩
theorem zJR (m:Md) (g:Nat) (W:World) (hx:zB W g m.v) (hm:zN W.heap.size W m) (hf:m.few):Calls Tryz.prog 174 #[.pointer (some ⟨g,0,none⟩)] W fun e w'=>e=.returned (.int .i64 (qd (m.me.any (beyond 65536)) 2))∧Below W.heap.size W w':=by
 have C:=hid (Zh m.me m.me'.a m.me.length m.me'.c 65536 W rfl hm.me hf.fit.me);obtain⟨q,hq⟩:∃q,m.me.any (beyond 65536)=q:=⟨_,rfl⟩;rw[hq] at C ⊢;have E:=hid (fun w=>ye q 2 w);obtain⟨c0,c1,c2,c3,c4,c5,c6,c7,c8,c9,c10⟩:=hx.all;clear hx hm hf hq
 go_enter Tryz.func174,Tryz.ntmps174
 go_wp2_with fail
 refine C.out.mono ?_;rintro e w1 ⟨rfl,hb1⟩;clear C c0 c1 c2 c3 c4 c5 c6 c7 c8 c9 c10
 go_wp2_with fail
 refine (E.out _).mono ?_;rintro e w2 ⟨rfl,rfl⟩;go_wp2;go_ret;exact⟨rfl,hb1⟩
theorem zJ0 (m:Md) (g:Nat) (q0:Int) (W:World) (hx:zB W g m.v) (hm:zN W.heap.size W m) (hf:m.few) (hT:kC W) (hc:W.cell? ⟨g+1,0,none⟩=some (.int .i64 q0)) (hfr:W.frozen? ⟨g+1,0,none⟩=false) :
  Calls Tryz.prog 150 #[.pointer (some ⟨g,0,none⟩),.pointer (some ⟨g+1,0,none⟩)] W fun e w'=>e=.returned (.int .i64 (qd (zu m.codes==141) 141))∧∃w1,Below W.heap.size W w1∧w'=w1.setCell ⟨g+1,0,none⟩ (.int .i64 (zu m.codes)):=by
 have C:=hid (zAV m W hT hm hf);obtain⟨q,hq⟩:∃q,zu m.codes=q:=⟨_,rfl⟩;rw[hq] at C ⊢;have E:=hid (fun w=>ye (q==141) 141 w);have HK:=hid (show ∀w1,Below W.heap.size W w1→w1.cell? ⟨g+1,0,none⟩=some (.int .i64 q0)∧w1.frozen? ⟨g+1,0,none⟩=false from fun w1 hb=>⟨kP hb hc,(hb.frozen (p:=⟨g+1,0,none⟩) (World.block_lt_of_cell? W _ hc)).trans hfr⟩);unfold Md.v at C;obtain⟨c0,c1,c2,c3,c4,c5,c6,c7,c8,c9,c10⟩:=hx.all;clear hx hm hf hq hT hc hfr
 go_enter Tryz.func150,Tryz.ntmps150
 go_wp2_with fail
 refine C.out.mono ?_;rintro e w1 ⟨rfl,hb1⟩;obtain⟨k1,k2⟩:=HK.out w1 hb1;clear C c0 c1 c2 c3 c4 c5 c6 c7 c8 c9 c10
 go_wp2_with fail
 refine (E.out _).mono ?_;rintro e w2 ⟨rfl,rfl⟩;go_wp2;go_ret;exact⟨rfl,w1,hb1,rfl⟩
theorem zJr (g:Nat) (q:Int) (W:World) (hc:W.cell? ⟨g+1,0,none⟩=some (.int .i64 q)):Calls Tryz.prog 157 #[.pointer (some ⟨g+1,0,none⟩)] W fun e w'=>e=.returned (.int .i64 q)∧Below W.heap.size W w':=by
 go_enter Tryz.func157,Tryz.ntmps157
 go_wp2;go_ret;exact⟨rfl,Below.refl _ _⟩
theorem zJf (m:Md) (g:Nat) (W:World) (hx:zB W g m.v):Calls Tryz.prog 175 #[.pointer (some ⟨g,0,none⟩)] W fun e w'=>e=.returned (.int .i64 (qd (!m.st&&decide (m.sn≠0)) 2))∧Below W.heap.size W w':=by
 obtain⟨c0,c1,c2,c3,c4,c5,c6,c7,c8,c9,c10⟩:=hx.all;obtain⟨sn,hsn⟩:∃sn,m.sn=sn:=⟨_,rfl⟩;obtain⟨st,hst⟩:∃st,m.st=st:=⟨_,rfl⟩;rw[hsn] at c8 ⊢;rw[hst] at c7 ⊢;clear hx hsn hst;have E:=hid (fun b w=>ye b 2 w)
 cases st
 ·by_cases h:sn=0
  ·subst h
   go_enter Tryz.func175,Tryz.ntmps175
   go_wp2_with fail
   refine (E.out _ _).mono ?_;rintro e w2 ⟨rfl,rfl⟩;go_wp2;go_ret;exact⟨by simp,Below.refl _ _⟩
  ·have hn1:(sn==0)=false:=by simpa using h
   have hn2:(sn != 0)=true:=by simpa using h
   have HH:=hid h;clear h
   go_enter Tryz.func175,Tryz.ntmps175
   go_wp2_with fail
   refine (E.out _ _).mono ?_;rintro e w2 ⟨rfl,rfl⟩;go_wp2;go_ret;exact⟨by simp[HH.out],Below.refl _ _⟩
 ·go_enter Tryz.func175,Tryz.ntmps175
  go_wp2_with fail
  refine (E.out _ _).mono ?_;rintro e w2 ⟨rfl,rfl⟩;go_wp2;go_ret;exact⟨by simp,Below.refl _ _⟩
theorem kF {B:Nat} {w w':World} (h:Below B w w') (n:Nat):Below B w (w'.drewN n):=⟨h.os,h.tape,h.output,h.size,h.block⟩
theorem u64_in (x:Int) (h0:0≤x) (h1:x≤1000000000000000):IntKind.u64.wrap x=x:=by rw[IntKind.wrap_u64];omega
theorem zFL (m:Md) (n:Nat) (w:World) (hm:zN w.heap.size w m) (hf:m.fits) (hn:n<4294967296) :
  Calls Tryz.prog 201 #[.agg m.v,.int .u32 (n:Int)] w fun e w'=>e=.returned (.int .i64 (m.typeN n))∧Below w.heap.size w w':=by
 have hb0:=(Below.refl w.heap.size w).alloc (Nat.le_refl _) (.cells m.v 40);have HI:=hid (hm.on hb0).im;have HF:=hid (hm.on hb0).fu;have HB:=hid hb0;have HX:=hid (zB.made w m.v 40);have HE:Hid (m.typeN n=if n<m.im.length then ((m.im.map (·.ty)).getD n 0) else if n<m.im.length+m.fu.length then ((m.fu.map (·.ty)).getD (n-m.im.length) 0) else -1):=rfl;have li:=hf.im;have lf:=hf.fu;have HG:=hid (show ∀k (hk:k<m.im.length),(m.im.map (·.ty)).getD k 0=m.im[k].ty from fun k hk=>by simp[hk]);have HH:=hid (show ∀k (hk:k<m.fu.length),(m.fu.map (·.ty)).getD k 0=m.fu[k].ty from fun k hk=>by simp[hk]);have HV:=hid (zB.all (m:=m) (zB.made w m.v 40));unfold Md.v at HI HF HB HV ⊢;clear hm hf hb0 HX;have uz:=u64_in (n:Int) (by omega) (by omega);have ui:=u64_in (m.im.length:Int) (by omega) (by omega);have uf:=u64_in (m.fu.length:Int) (by omega) (by omega)
 by_cases h1:n<m.im.length
 ·have HR:=hid (show m.typeN n=m.im[n].ty by rw[HE.out,if_pos h1,HG.out n h1])
  obtain⟨b,off,ha,hb,hc⟩:=Rows.get HI.out h1;obtain⟨x,hx⟩:∃x,m.im[n]=x:=⟨_,rfl⟩;rw[hx] at hc HR
  generalize m.im'.a=ai at ha HB HI HF HV hc ⊢
  subst ha;have c2:=hc 2 (by omega) (.int .i64 x.ty) rfl;obtain⟨d0,d1,d2,_⟩:=HV.out;have h1i:(n:Int)<(m.im.length:Int):=by omega
  clear hx hc HE HG HH HI HF HV hb
  go_enter Tryz.func201,Tryz.ntmps201
  go_wp2
  go_quiet (fail)
  go_wp2;go_ret;exact⟨zH HR.out.symm,kF HB.out _⟩
 ·have h1i:¬(n:Int)<(m.im.length:Int):=by omega
  have us:=u64_in ((m.im.length:Int)+(m.fu.length:Int)) (by omega) (by omega)
  by_cases h2:n<m.im.length+m.fu.length
  ·obtain⟨k,rfl⟩:∃k,n=m.im.length+k:=⟨n-m.im.length,by omega⟩
   have hk:k<m.fu.length:=by omega
   have HR:=hid (show m.typeN (m.im.length+k)=m.fu[k].ty by rw[HE.out,if_neg h1,if_pos h2,Nat.add_sub_cancel_left,HH.out k hk]);obtain⟨b,off,ha,hb,hc⟩:=Rows.get HF.out hk;obtain⟨x,hx⟩:∃x,m.fu[k]=x:=⟨_,rfl⟩;rw[hx] at hc HR
   generalize m.fu'.a=ai at ha HB HI HF HV hc ⊢
   subst ha;have c0:(w.alloc (.cells #[.slice m.ty'.a m.ty.length m.ty'.c,.slice m.im'.a m.im.length m.im'.c,.slice (some ⟨b,off,none⟩) m.fu.length m.fu'.c,.slice m.tb'.a m.tb.length m.tb'.c,.slice m.me'.a m.me.length m.me'.c,.slice m.gl'.a m.gl.length m.gl'.c,.slice m.ex'.a m.ex.length m.ex'.c,.bool m.st,.int .u32 m.sn,.slice m.el'.a m.el.length m.el'.c,.slice m.da'.a m.da.length m.da'.c] 40)).cell? ⟨b,off+k*3,none⟩=some (.int .i64 x.ty):=hc 0 (by omega) (.int .i64 x.ty) rfl;obtain⟨d0,d1,d2,_⟩:=HV.out;clear hx hc HE HG HH HI HF HV hb h1 h2
   generalize m.im.length=A at *
   generalize m.fu.length=F at *
   have e1:((A+k:Nat):Int)=(A:Int)+(k:Int):=by omega
   rw[e1] at uz h1i ⊢;have ud:IntKind.u64.wrap ((A:Int)+(k:Int)-(A:Int))=(k:Int):=by rw[u64_in _ (by omega) (by omega)];omega
   have ud2:(A:Int)+(k:Int)-(A:Int)=(k:Int):=by omega
   have h2i:(A:Int)+(k:Int)<(A:Int)+(F:Int):=by omega
   have hki:(k:Int)<(F:Int):=by omega
   clear e1
   go_enter Tryz.func201,Tryz.ntmps201
   go_wp2
   go_quiet (fail)
   go_wp2;go_ret;exact⟨zH HR.out.symm,kF HB.out _⟩
  ·have HR:=hid (show m.typeN n=-1 by rw[HE.out,if_neg h1,if_neg h2])
   have h2i:¬(n:Int)<(m.im.length:Int)+(m.fu.length:Int):=by omega
   obtain⟨d0,d1,d2,_⟩:=HV.out;clear HE HG HH HI HF HV
   go_enter Tryz.func201,Tryz.ntmps201
   go_wp2
   go_quiet (fail)
   go_wp2;go_ret;exact⟨zH HR.out.symm,kF HB.out _⟩
theorem zAr {m:Md} {n:Nat} (h:m.typeN n<0∨(m.ty.length:Int)≤m.typeN n):m.typeOf n=((0,0),false):=by unfold Md.typeOf;rw[if_pos h]
theorem zAE {m:Md} {n k:Nat} (h:m.typeN n=k) (hk:k<m.ty.length):m.typeOf n=(m.ty[k],true):=by
 unfold Md.typeOf;rw[if_neg (by rw[h];omega),h];simp[hk]
theorem vU {a b a' b':Int} {c c':Bool} (h:((a,b),c)=((a',b'),c')):Ending.returned (.tuple #[.agg #[.int .i64 a,.int .i64 b],.bool c])=.returned (.tuple #[.agg #[.int .i64 a',.int .i64 b'],.bool c']):=by
 simp only[Prod.mk.injEq] at h;obtain⟨⟨rfl,rfl⟩,rfl⟩:=h;rfl
theorem Zt (m:Md) (n:Nat) (w:World) (hm:zN w.heap.size w m) (hf:m.fits) (hn:n<4294967296) :
  Calls Tryz.prog 105 #[.agg m.v,.int .u32 (n:Int)] w fun e w'=>e=.returned (.tuple #[.agg #[.int .i64 (m.typeOf n).1.1,.int .i64 (m.typeOf n).1.2],.bool (m.typeOf n).2])∧Below w.heap.size w w':=by
 have hb1:Below w.heap.size w ((w.alloc (.cells m.v 40)).alloc (.cells #[.int .i64 0,.int .i64 0] 26)):=zC (zC (Below.refl _ _) _) _;have HB:=hid hb1;have hm1:=hm.on hb1;have C:=hid (zFL m n _ hm1 hf hn);have hx:=(zB.made w m.v 40).keep ((Below.refl _ _).alloc (Nat.le_refl _) (.cells #[.int .i64 0,.int .i64 0] 26));have hr0:((w.alloc (.cells m.v 40)).alloc (.cells #[.int .i64 0,.int .i64 0] 26)).cell? ⟨w.heap.size+1,0,none⟩=some (.int .i64 0):=by go_simp
 have hr1:((w.alloc (.cells m.v 40)).alloc (.cells #[.int .i64 0,.int .i64 0] 26)).cell? ⟨w.heap.size+1,1,none⟩=some (.int .i64 0):=by go_simp
 have hf0:((w.alloc (.cells m.v 40)).alloc (.cells #[.int .i64 0,.int .i64 0] 26)).frozen? ⟨w.heap.size+1,0,none⟩=false:=by go_simp
 have hf1:((w.alloc (.cells m.v 40)).alloc (.cells #[.int .i64 0,.int .i64 0] 26)).frozen? ⟨w.heap.size+1,1,none⟩=false:=by go_simp
 have HK:=hid (show ∀w1,Below ((w.alloc (.cells m.v 40)).alloc (.cells #[.int .i64 0,.int .i64 0] 26)).heap.size ((w.alloc (.cells m.v 40)).alloc (.cells #[.int .i64 0,.int .i64 0] 26)) w1 →
     (w1.cell? ⟨w.heap.size,0,none⟩=some (.slice m.ty'.a m.ty.length m.ty'.c)∧w1.cell? ⟨w.heap.size+1,0,none⟩=some (.int .i64 0)∧w1.cell? ⟨w.heap.size+1,1,none⟩=some (.int .i64 0)∧w1.frozen? ⟨w.heap.size+1,0,none⟩=false∧w1.frozen? ⟨w.heap.size+1,1,none⟩=false)∧Rows w1.heap.size w1 m.ty'.a 2 (m.ty.map tyV) from fun w1 hb =>
   ⟨⟨(hx.keep hb).all.1,kP hb hr0,kP hb hr1,(hb.frozen (p:=⟨w.heap.size+1,0,none⟩) (World.block_lt_of_cell? _ _ hr0)).trans hf0,(hb.frozen (p:=⟨w.heap.size+1,1,none⟩) (World.block_lt_of_cell? _ _ hr1)).trans hf1⟩,(hm1.on hb).ty⟩)
 have hl:=hf.ty;have HN:=hid (fun h=>zAr (m:=m) (n:=n) h);have HY:=hid (fun k h hk=>zAE (m:=m) (n:=n) (k:=k) h hk);obtain⟨t,ht⟩:∃t,m.typeN n=t:=⟨_,rfl⟩;rw[ht] at C HN;have HT:=hid ht;unfold Md.v at C HB HK ⊢;clear hm hf hb1 hm1 hx hr0 hr1 hf0 hf1 ht
 by_cases h1:t<0
 ·have HR:=hid (HN.out (.inl h1))
  clear HN HY
  go_enter Tryz.func105,Tryz.ntmps105
  go_wp2_with fail
  refine C.out.mono ?_;rintro e w1 ⟨rfl,hb1⟩;obtain⟨⟨k0,k1,k2,k3,k4⟩,_⟩:=HK.out w1 hb1;have HB1:=hid (HB.out.trans (hb1.mono HB.out.size));clear C HK hb1 HB;go_wp2;refine bodyPost_ret (v:=.tuple #[.agg #[.int .i64 0,.int .i64 0],.bool false]) (by simp[results,Tryz.results105,go_sem,k1,k2]) rfl ⟨vU (by rw[HR.out]),(HB1.out.setCell (p:=⟨w.heap.size+1,0,none⟩) (by simp) _).setCell (p:=⟨w.heap.size+1,1,none⟩) (by simp) _⟩
 ·by_cases h2:(m.ty.length:Int)≤t
  ·have HR:=hid (HN.out (.inr h2))
   clear HN HY
   go_enter Tryz.func105,Tryz.ntmps105
   go_wp2_with fail
   refine C.out.mono ?_;rintro e w1 ⟨rfl,hb1⟩;obtain⟨⟨k0,k1,k2,k3,k4⟩,_⟩:=HK.out w1 hb1;have HB1:=hid (HB.out.trans (hb1.mono HB.out.size));clear C HK hb1 HB;go_wp2;refine bodyPost_ret (v:=.tuple #[.agg #[.int .i64 0,.int .i64 0],.bool false]) (by simp[results,Tryz.results105,go_sem,k1,k2]) rfl ⟨vU (by rw[HR.out]),(HB1.out.setCell (p:=⟨w.heap.size+1,0,none⟩) (by simp) _).setCell (p:=⟨w.heap.size+1,1,none⟩) (by simp) _⟩
  ·obtain⟨k,rfl⟩:∃k:Nat,t=k:=⟨t.toNat,by omega⟩
   have hk:k<m.ty.length:=by omega
   have HR:=hid (HY.out k HT.out hk);clear HN HY HT
   go_enter Tryz.func105,Tryz.ntmps105
   go_wp2_with fail
   refine C.out.mono ?_;rintro e w1 ⟨rfl,hb1⟩;obtain⟨⟨k0,k1,k2,k3,k4⟩,hrw⟩:=HK.out w1 hb1;obtain⟨b,off,ha,hb,hc⟩:=Rows.get hrw hk;rw[ha] at k0;obtain⟨x,hx⟩:∃x,m.ty[k]=x:=⟨_,rfl⟩;rw[hx] at hc HR;have c0:w1.cell? ⟨b,off+k*2,none⟩=some (.int .i64 x.1):=hc 0 (by omega) _ rfl;have c1:w1.cell? ⟨b,off+k*2+1,none⟩=some (.int .i64 x.2):=hc 1 (by omega) _ rfl;have HB1:=hid (HB.out.trans (hb1.mono HB.out.size));have hki:(k:Int)<(m.ty.length:Int):=by omega
   clear C HK hb1 HB hrw hc hx hb ha h1 h2;go_wp2;refine bodyPost_ret (v:=.tuple #[.agg #[.int .i64 x.1,.int .i64 x.2],.bool true]) (by simp[results,Tryz.results105,go_sem,k1,k2]) rfl ⟨vU (by rw[HR.out]),(HB1.out.setCell (p:=⟨w.heap.size+1,0,none⟩) (by simp) _).setCell (p:=⟨w.heap.size+1,1,none⟩) (by simp) _⟩
end Mod
namespace Val
open Go.RowKit Instr Mod
open Stk (Fr R ji vP qM yu yl yW vT qm vH yG valid zl)
theorem uC {n a:Int} (h:∀w,Calls Tryz.prog 252 #[.int .i64 n,.int .u32 a] w fun e w'=>e=.returned (.bool (decide (a<n)))∧w=w') (w:World) (k:Nat) :
  Calls Tryz.prog 252 #[.int .i64 n,.int .u32 a] (w.drewN k) fun e w''=>e=.returned (.bool (decide (a<n)))∧∃m,w''=w.drewN m :=
 Calls.quiet_of_same ((h _).mono fun _ _ h=>⟨h.1,h.2.symm⟩)
theorem ZW (n a:Int) (hn:0≤n∧n≤140737488351232) (ha:0≤a∧a<4294967296) (w:World):Calls Tryz.prog 252 #[.int .i64 n,.int .u32 a] w fun e w'=>e=.returned (.bool (decide (a<n)))∧w=w':=by
 have h1:=u64_in n hn.1 (by omega);have h2:=u64_in a ha.1 (by omega);clear hn ha
 go_enter Tryz.func252,Tryz.ntmps252
 go_wp2;go_ret;exact⟨rfl,rfl⟩
theorem Bk.mod {W:World} {g:Nat} {v0 v1 v2 v3 v4 v5 v6 v7 v8 v9 v10:Value} {lo re h cnt at_ er:Int} {sl:Value} (b:Bk W g #[v0,v1,v2,v3,v4,v5,v6,v7,v8,v9,v10] lo re h sl cnt at_ er) :
  W.cell? ⟨g,0,none⟩=some v0∧W.cell? ⟨g,1,none⟩=some v1∧W.cell? ⟨g,2,none⟩=some v2∧W.cell? ⟨g,3,none⟩=some v3∧W.cell? ⟨g,4,none⟩=some v4∧W.cell? ⟨g,5,none⟩=some v5∧W.cell? ⟨g,6,none⟩=some v6∧W.cell? ⟨g,7,none⟩=some v7 ∧
   W.cell? ⟨g,8,none⟩=some v8∧W.cell? ⟨g,9,none⟩=some v9∧W.cell? ⟨g,10,none⟩=some v10:=⟨b.cell 0,b.cell 1,b.cell 2,b.cell 3,b.cell 4,b.cell 5,b.cell 6,b.cell 7,b.cell 8,b.cell 9,b.cell 10⟩
def Bx2 (W:World) (g:Nat) (x y:Int):Prop:=W.heap[g]?=some (.cells #[.int .i64 x,.int .i64 y] 26 (0,0))
theorem Bx2.lt {W:World} {g:Nat} {x y:Int} (h:Bx2 W g x y):g<W.heap.size:=(Array.getElem?_eq_some_iff.1 h).1
theorem Bx2.made (W:World) (x y:Int):Bx2 (W.alloc (.cells #[.int .i64 x,.int .i64 y] 26)) W.heap.size x y:=heap_alloc_new W _
theorem Bx2.below {W W':World} {g:Nat} {x y:Int} (h:Bx2 W g x y) (hb:Below W.heap.size W W'):Bx2 W' g x y:=(hb.block g h.lt).trans h
theorem Bx2.c0 {W:World} {g:Nat} {x y:Int} (h:Bx2 W g x y):W.cell? ⟨g,0,none⟩=some (.int .i64 x):=cell_of_row W g 0 _ _ _ h
theorem Bx2.c1 {W:World} {g:Nat} {x y:Int} (h:Bx2 W g x y):W.cell? ⟨g,1,none⟩=some (.int .i64 y):=cell_of_row W g 1 _ _ _ h
theorem Bx2.f {W:World} {g:Nat} {x y:Int} (h:Bx2 W g x y) (j:Nat):W.frozen? ⟨g,j,none⟩=false:=frozen_of_row W g j _ _ h
theorem Bx2.set {W:World} {g:Nat} {x y:Int} (h:Bx2 W g x y) (u v:Int):Bx2 ((W.setCell ⟨g,0,none⟩ (.int .i64 u)).setCell ⟨g,1,none⟩ (.int .i64 v)) g u v :=
 heap_setCell_same _ g 1 _ _ _ (heap_setCell_same W g 0 _ _ _ h)
theorem uE {fn:Func} {p q:Tmp} (h:fn.results=#[.cell p 26,.tmp q]) (tmps:Array Value) (w:World) (g:Nat) {x y:Int} (hp:tmps.getD p undef=.pointer (some ⟨g,0,none⟩)) (hb:Bx2 w g x y) :
  (results fn tmps).run Tryz.prog w=.ok (.tuple #[.agg #[.int .i64 x,.int .i64 y],tmps.getD q undef]) w:=by
 have hp':tmps[p]?.getD undef=.pointer (some ⟨g,0,none⟩):=by simpa using hp
 simp[results,h,hp',asAddr,run_loadVar_row w g _ 26 _ _ _ hb Tryz.underlying26 rfl (by kernel_rfl)]
def vN (m:Md) (x:Ix) (w:World) (e:Ending) (w':World):Prop:=e=.returned (.tuple #[.agg #[.int .i64 (zT m x).1.1,.int .i64 (zT m x).1.2],.bool (zT m x).2])∧Below w.heap.size w w'
theorem zF2 (g n₀:Nat) (m:Md) (lo re:Int) (s:St) (x:Ix) (w:World) (h:Ck g n₀ m lo re s w) (hx:x.ok) (hfit:m.fits) (hop:x.op=16) :
  Calls Tryz.prog 285 #[.pointer (some ⟨g,0,none⟩),.agg x.vals] w (vN m x w):=by
 obtain⟨a,n,c,hk,hf⟩:=h.blk;have HA:=hid hx.a;have HE:Hid (zT m x=m.typeOf x.a.toNat):=by show _=_;unfold zT;rw[if_pos hop]
 obtain⟨op,res,xa,xb,xn,tags,ta,tc,la,ln,lc,ea,en,ec⟩:=x;simp only at hop HA;unfold vN;subst hop;obtain⟨k,rfl⟩:∃k:Nat,xa=k:=⟨xa.toNat,by have:=HA.out;omega⟩;simp only[Int.toNat_natCast] at HE;simp only[HE.out];unfold Ix.vals;simp only;obtain⟨W0,hW0⟩:∃W0,W0=(w.alloc (.cells #[.int .i64 16,.int .i64 res,.int .u32 k,.int .u32 xb,.int .i32 xn,.slice ta tags.length tc,.slice la ln lc,.slice ea en ec] 92)).alloc (.cells #[.int .i64 0,.int .i64 0] 26):=⟨_,rfl⟩;have hb0:Below w.heap.size w W0:=by rw[hW0];exact zC (zC (Below.refl _ _) _) _
 have hc2:W0.cell? ⟨w.heap.size,2,none⟩=some (.int .u32 k):=by rw[hW0];go_simp
 have hc0:W0.cell? ⟨w.heap.size,0,none⟩=some (.int .i64 16):=by rw[hW0];go_simp
 have hr:Bx2 W0 (w.heap.size+1) 0 0:=by rw[hW0];have:=Bx2.made (w.alloc (.cells #[.int .i64 16,.int .i64 res,.int .u32 k,.int .u32 xb,.int .i32 xn,.slice ta tags.length tc,.slice la ln lc,.slice ea en ec] 92)) 0 0;simpa using this
 have HW:=hid hW0;have HT:=hid (fun w' (hb:Below W0.heap.size W0 w')=>Zt m k w' (((h.on (hb0.trans (hb.mono hb0.size))).md).more (by have:=(h.on (hb0.trans (hb.mono hb0.size))).lt;have:=h.le;omega)) hfit (by have:=HA.out;omega));have hk0:=hk.below hb0;have HB:=hid hb0;have HR:=hid hr;obtain⟨v0,v1,v2,v3,v4,v5,v6,v7,v8,v9,v10,hv⟩:∃v0 v1 v2 v3 v4 v5 v6 v7 v8 v9 v10,m.v=#[v0,v1,v2,v3,v4,v5,v6,v7,v8,v9,v10]:=⟨_,_,_,_,_,_,_,_,_,_,_,rfl⟩;rw[hv] at hk0 HT;obtain⟨t,ht⟩:∃t,m.typeOf k=t:=⟨_,rfl⟩;rw[ht] at HT ⊢;obtain⟨⟨t1,t2⟩,tb⟩:=t;obtain⟨m0,m1,m2,m3,m4,m5,m6,m7,m8,m9,m10⟩:=hk0.mod;clear h hk hf hx hfit hb0 hr hk0 hv ht HE HA
 go_enter Tryz.func285,Tryz.ntmps285
 go_upto_region 1 with fail
 rw[←hW0];clear hW0
 go_upto_region 2 with fail
 go_region_with (go_at_call 105;refine (HT.out _ (Below.refl _ _).drew).mono ?_;rintro e w3 ⟨rfl,hb3⟩;replace hb3:=Stk.ZG hb3;have hr3:=HR.out.below hb3;have z0:=hr3.c0;have z1:=hr3.c1;have zf0:=hr3.f 0;have zf1:=hr3.f 1)
 all_goals go_wp2
 all_goals exact bodyPost_ret (uE Tryz.results285 _ _ (w.heap.size+1) rfl (hr3.set _ _)) rfl ⟨rfl,((HB.out.trans (hb3.mono HB.out.size)).setCell (by simp) _).setCell (by simp) _⟩
theorem zFx (g n₀:Nat) (m:Md) (lo re:Int) (s:St) (x:Ix) (w:World) (h:Ck g n₀ m lo re s w) (hx:x.ok) (hfit:m.fits) (hop:x.op=17) :
  Calls Tryz.prog 285 #[.pointer (some ⟨g,0,none⟩),.agg x.vals] w (vN m x w):=by
 obtain⟨a,n,c,hk,hf⟩:=h.blk;have HA:=hid hx.a;have HE:Hid (zT m x=if m.tb.length=0∨(m.ty.length:Int)≤x.a then ((0,0),false) else (m.ty.getD x.a.toNat (0,0),true)):=by show _=_;unfold zT;rw[if_neg (by omega)]
 obtain⟨op,res,xa,xb,xn,tags,ta,tc,la,ln,lc,ea,en,ec⟩:=x;simp only at hop HA;unfold vN;subst hop;obtain⟨k,rfl⟩:∃k:Nat,xa=k:=⟨xa.toNat,by have:=HA.out;omega⟩;simp only[Int.toNat_natCast] at HE;unfold Ix.vals;simp only;obtain⟨W0,hW0⟩:∃W0,W0=(w.alloc (.cells #[.int .i64 17,.int .i64 res,.int .u32 k,.int .u32 xb,.int .i32 xn,.slice ta tags.length tc,.slice la ln lc,.slice ea en ec] 92)).alloc (.cells #[.int .i64 0,.int .i64 0] 26):=⟨_,rfl⟩;have hb0:Below w.heap.size w W0:=by rw[hW0];exact zC (zC (Below.refl _ _) _) _
 have hc2:W0.cell? ⟨w.heap.size,2,none⟩=some (.int .u32 k):=by rw[hW0];go_simp
 have hc0:W0.cell? ⟨w.heap.size,0,none⟩=some (.int .i64 17):=by rw[hW0];go_simp
 have hr:Bx2 W0 (w.heap.size+1) 0 0:=by rw[hW0];have:=Bx2.made (w.alloc (.cells #[.int .i64 17,.int .i64 res,.int .u32 k,.int .u32 xb,.int .i32 xn,.slice ta tags.length tc,.slice la ln lc,.slice ea en ec] 92)) 0 0;simpa using this
 have HH:=hid (ZW m.ty.length k ⟨by omega,by have:=hfit.ty;omega⟩ ⟨by omega,by have:=HA.out;omega⟩);have hk0:=hk.below hb0;have HB:=hid hb0;have HR:=hid hr;have hrw:=(h.on hb0).md.ty;have bty:=hfit.ty;have r0:=hr.c0;have r1:=hr.c1;have rf0:=hr.f 0;have rf1:=hr.f 1;have hm0:W0.cell? ⟨g,0,none⟩=some (.slice m.ty'.a m.ty.length m.ty'.c):=hk0.cell 0;have hm3:W0.cell? ⟨g,3,none⟩=some (.slice m.tb'.a m.tb.length m.tb'.c):=hk0.cell 3
 by_cases h1:m.tb.length=0
 ·have HV:=hid (show zT m ⟨17,res,k,xb,xn,tags,ta,tc,la,ln,lc,ea,en,ec⟩=((0,0),false) by rw[HE.out,if_pos (.inl h1)])
  rw[h1] at hm3;simp only[HV.out];clear h hk hf hx hfit hb0 hr hk0 HE HA hrw
  go_enter Tryz.func285,Tryz.ntmps285
  go_upto_region 1 with fail
  rw[←hW0];clear hW0
  go_upto_region 3 with fail
  go_quiet (fail)
  go_wp2;exact bodyPost_ret (uE Tryz.results285 _ _ (w.heap.size+1) rfl (HR.out.set _ _)) rfl ⟨rfl,((kF HB.out _).setCell (by simp) _).setCell (by simp) _⟩
 ·have h1i:¬((m.tb.length:Nat):Int)=0:=by omega
  have h1b:(((m.tb.length:Nat):Int)==0)=false:=by simpa using h1
  by_cases h2:k<m.ty.length
  ·have h2i:(k:Int)<(m.ty.length:Int):=by omega
   have hd:decide ((k:Int)<(m.ty.length:Int))=true:=by simpa using h2
   have hgd:m.ty.getD k (0,0)=m.ty[k]:=by simp[h2]
   have HV:=hid (show zT m ⟨17,res,k,xb,xn,tags,ta,tc,la,ln,lc,ea,en,ec⟩=(m.ty[k],true) by rw[HE.out,if_neg (by omega),hgd]);obtain⟨b,off,ha,hb,hcc⟩:=Mod.Rows.get hrw h2;rw[ha] at hm0;obtain⟨t,ht⟩:∃t,m.ty[k]=t:=⟨_,rfl⟩;rw[ht] at hcc HV;have z0:W0.cell? ⟨b,off+k*2,none⟩=some (.int .i64 t.1):=hcc 0 (by omega) _ rfl;have z1:W0.cell? ⟨b,off+k*2+1,none⟩=some (.int .i64 t.2):=hcc 1 (by omega) _ rfl;have HQ:=hid (uC HH.out W0);rw[hd] at HQ;simp only[HV.out];clear h hk hf hx hfit hb0 hr hk0 HE HA hrw hd hgd ht hcc ha hb h1 h2 HH
   generalize m.ty.length=Y at *
   generalize m.tb.length=T at *
   go_enter Tryz.func285,Tryz.ntmps285
   go_upto_region 1 with fail
   rw[←hW0];clear hW0
   go_upto_region 3 with fail
   go_quiet (exact HQ.out _)
   go_upto_region 5 with fail
   go_region
   go_wp2;exact bodyPost_ret (uE Tryz.results285 _ _ (w.heap.size+1) rfl (HR.out.set _ _)) rfl ⟨rfl,(((kF HB.out _).setCell (by simp) _).setCell (by simp) _)⟩
  ·have h2i:¬(k:Int)<(m.ty.length:Int):=by omega
   have hd:decide ((k:Int)<(m.ty.length:Int))=false:=by simpa using h2
   have HV:=hid (show zT m ⟨17,res,k,xb,xn,tags,ta,tc,la,ln,lc,ea,en,ec⟩=((0,0),false) by rw[HE.out,if_pos (.inr (by omega))]);have HQ:=hid (uC HH.out W0);rw[hd] at HQ;simp only[HV.out];clear h hk hf hx hfit hb0 hr hk0 HE HA hrw hd h1 h2 HH
   generalize m.ty.length=Y at *
   generalize m.tb.length=T at *
   go_enter Tryz.func285,Tryz.ntmps285
   go_upto_region 1 with fail
   rw[←hW0];clear hW0
   go_upto_region 3 with fail
   go_quiet (exact HQ.out _)
   go_wp2;exact bodyPost_ret (uE Tryz.results285 _ _ (w.heap.size+1) rfl (HR.out.set _ _)) rfl ⟨rfl,(((kF HB.out _).setCell (by simp) _).setCell (by simp) _)⟩
theorem Zj (g n₀:Nat) (m:Md) (lo re:Int) (s:St) (x:Ix) (w:World) (h:Ck g n₀ m lo re s w) (hx:x.ok) (hfit:m.fits) (hop:x.op=16∨x.op=17) :
  Calls Tryz.prog 285 #[.pointer (some ⟨g,0,none⟩),.agg x.vals] w (vN m x w):=by
 rcases hop with hop|hop
 ·exact zF2 g n₀ m lo re s x w h hx hfit hop
 ·exact zFx g n₀ m lo re s x w h hx hfit hop
def yJ (m:Md) (lo:Int) (x:Ix) (w:World) (e:Ending) (w':World):Prop:=e=.returned (.int .i64 (zP m lo x))∧Below w.heap.size w w'
theorem zDf (g n₀:Nat) (m:Md) (lo re:Int) (s:St) (x:Ix) (w:World) (h:Ck g n₀ m lo re s w) (hx:x.ok) (hfit:m.fits) (hlo:0≤lo∧lo≤140737488351232) (hop:x.op=16∨x.op=17) :
  Calls Tryz.prog 277 #[.pointer (some ⟨g,0,none⟩),.agg x.vals] w (yJ m lo x w):=by
 have HL:=hid (show zP m lo x=if (zT m x).2 then 0 else 6 by unfold zP;rw[if_pos hop]);obtain⟨a,n,c,hk,hf⟩:=h.blk;have HA:=hid hx.a;obtain⟨W0,hW0⟩:∃W0,W0=w.alloc (.cells x.vals 92):=⟨_,rfl⟩;have hb0:Below w.heap.size w W0:=by rw[hW0];exact zC (Below.refl _ _) _
 have hat:At x w.heap.size W0:=by rw[hW0];exact At.made x w
 have hk0:=hk.below hb0;have HB:=hid hb0;have CC:=hid (Zj g n₀ m lo re s x W0 (h.on hb0) hx hfit hop);unfold vN at CC;obtain⟨q,hq⟩:∃q,zT m x=q:=⟨_,rfl⟩;rw[hq] at CC HL;obtain⟨⟨q1,q2⟩,q3⟩:=q
 have hop':x.op=16∨(x.op=17∧(x.op==16)=false):=by
  rcases hop with h|h
  ·exact .inl h
  ·exact .inr ⟨h,by rw[h];rfl⟩
 obtain⟨d0,d1,d2,d3,d4,d5,d6,d7⟩:=hat;clear h hk hf hx hfit hb0 hk0 hq;unfold yJ;unfold Ix.vals at CC hW0 ⊢;rw[HL.out];clear HL;clear hop
 rcases hop' with hop|⟨hop,-⟩
 ·rw[hop] at CC hW0 d0 ⊢
  go_enter Tryz.func277,Tryz.ntmps277
  go_upto_region 1 with fail
  rw[←hW0];clear hW0
  go_wp2_with fail
  refine CC.out.mono ?_;rintro e1 w1 ⟨rfl,hb1⟩;have HB1:=hid (HB.out.trans (hb1.mono HB.out.size));clear CC hb1 d0 d1 d2 d3 d4 d5 d6 d7
  cases q3
  ·go_wp2
   go_ret;exact⟨rfl,zC HB1.out _⟩
  ·go_wp2
   go_ret;exact⟨rfl,zC HB1.out _⟩
 ·rw[hop] at CC hW0 d0 ⊢
  go_enter Tryz.func277,Tryz.ntmps277
  go_upto_region 1 with fail
  rw[←hW0];clear hW0
  go_wp2_with fail
  refine CC.out.mono ?_;rintro e1 w1 ⟨rfl,hb1⟩;have HB1:=hid (HB.out.trans (hb1.mono HB.out.size));clear CC hb1 d0 d1 d2 d3 d4 d5 d6 d7
  cases q3
  ·go_wp2
   go_ret;exact⟨rfl,zC HB1.out _⟩
  ·go_wp2
   go_ret;exact⟨rfl,zC HB1.out _⟩
theorem zCs (g n₀:Nat) (m:Md) (lo re:Int) (s:St) (x:Ix) (w:World) (h:Ck g n₀ m lo re s w) (hx:x.ok) (hfit:m.fits) (hlo:0≤lo∧lo≤140737488351232) (hop:x.op=32∨x.op=33∨x.op=34) :
  Calls Tryz.prog 277 #[.pointer (some ⟨g,0,none⟩),.agg x.vals] w (yJ m lo x w):=by
 have HL:=hid (show zP m lo x=if x.a<lo then 0 else 6 by unfold zP;rw[if_neg (by omega),if_pos hop]);obtain⟨a,n,c,hk,hf⟩:=h.blk;have HA:=hid hx.a;obtain⟨W0,hW0⟩:∃W0,W0=w.alloc (.cells x.vals 92):=⟨_,rfl⟩;have hb0:Below w.heap.size w W0:=by rw[hW0];exact zC (Below.refl _ _) _
 have hat:At x w.heap.size W0:=by rw[hW0];exact At.made x w
 have hk0:=hk.below hb0;have HB:=hid hb0;have HQ:=hid (uC (ZW lo x.a hlo HA.out) W0);have c11:=hk0.c11;have d0:=hat.c0;have d2:=hat.c2;clear h hk hf hx hfit hb0 hk0 hat hlo;obtain⟨op,res,xa,xb,xn,tags,ta,tc,la,ln,lc,ea,en,ec⟩:=x;unfold yJ;unfold Ix.vals at hW0 ⊢;simp only at hop HA hW0 ⊢;simp only at HL HQ d0 d2;rw[HL.out]
 by_cases h1:xa<lo
 ·rw[if_pos h1]
  have hd:decide (xa<lo)=true:=by simpa using h1
  rw[hd] at HQ;clear HL h1 hd HA
  rcases hop with rfl|rfl|rfl
  all_goals
   go_enter Tryz.func277,Tryz.ntmps277
   go_upto_region 1 with fail
   rw[←hW0];clear hW0
   go_upto_region 22 with fail
   go_quiet (exact HQ.out _)
   go_wp2;go_ret;exact⟨rfl,kF HB.out _⟩
 ·rw[if_neg h1]
  have hd:decide (xa<lo)=false:=by simpa using h1
  rw[hd] at HQ;clear HL h1 hd HA
  rcases hop with rfl|rfl|rfl
  all_goals
   go_enter Tryz.func277,Tryz.ntmps277
   go_upto_region 1 with fail
   rw[←hW0];clear hW0
   go_upto_region 22 with fail
   go_quiet (exact HQ.out _)
   go_wp2;go_ret;exact⟨rfl,kF HB.out _⟩
theorem zEi (g n₀:Nat) (m:Md) (lo re:Int) (s:St) (x:Ix) (w:World) (h:Ck g n₀ m lo re s w) (hx:x.ok) (hfit:m.fits) (hlo:0≤lo∧lo≤140737488351232) (hop:x.op=35) :
  Calls Tryz.prog 277 #[.pointer (some ⟨g,0,none⟩),.agg x.vals] w (yJ m lo x w):=by
 have HL:=hid (show zP m lo x=if x.a<(m.gl.length:Int) then 0 else 6 by unfold zP;rw[if_neg (by omega),if_neg (by omega),if_pos (.inl hop),if_neg (c:=x.op=36∧_) (by omega)]);obtain⟨a,n,c,hk,hf⟩:=h.blk;have HA:=hid hx.a;obtain⟨W0,hW0⟩:∃W0,W0=w.alloc (.cells x.vals 92):=⟨_,rfl⟩;have hb0:Below w.heap.size w W0:=by rw[hW0];exact zC (Below.refl _ _) _
 have hat:At x w.heap.size W0:=by rw[hW0];exact At.made x w
 have hk0:=hk.below hb0;have HB:=hid hb0;have HQ:=hid (uC (ZW m.gl.length x.a ⟨by omega,by have:=hfit.gl;omega⟩ HA.out) W0);have c5:W0.cell? ⟨g,5,none⟩=some (.slice m.gl'.a m.gl.length m.gl'.c):=hk0.cell 5;have d0:=hat.c0;have d2:=hat.c2;have bgl:=hfit.gl;clear h hk hf hx hfit hb0 hk0 hat hlo;obtain⟨op,res,xa,xb,xn,tags,ta,tc,la,ln,lc,ea,en,ec⟩:=x;unfold yJ;unfold Ix.vals at hW0 ⊢;simp only at hop HA hW0 ⊢;simp only at HL HQ d0 d2;rw[HL.out];subst hop
 by_cases h1:xa<(m.gl.length:Int)
 ·rw[if_pos h1]
  have hd:decide (xa<(m.gl.length:Int))=true:=by simpa using h1
  rw[hd] at HQ;clear HL h1 hd HA
  generalize m.gl.length=G at *
  go_enter Tryz.func277,Tryz.ntmps277
  go_upto_region 1 with fail
  rw[←hW0];clear hW0
  go_upto_region 25 with fail
  go_quiet (exact HQ.out _)
  go_wp2;go_ret;exact⟨rfl,kF HB.out _⟩
 ·rw[if_neg h1]
  have hd:decide (xa<(m.gl.length:Int))=false:=by simpa using h1
  rw[hd] at HQ;clear HL h1 hd HA
  generalize m.gl.length=G at *
  go_enter Tryz.func277,Tryz.ntmps277
  go_upto_region 1 with fail
  rw[←hW0];clear hW0
  go_upto_region 25 with fail
  go_quiet (exact HQ.out _)
  go_wp2;go_ret;exact⟨rfl,kF HB.out _⟩
theorem zFV (g n₀:Nat) (m:Md) (lo re:Int) (s:St) (x:Ix) (w:World) (h:Ck g n₀ m lo re s w) (hx:x.ok) (hfit:m.fits) (hlo:0≤lo∧lo≤140737488351232) (hop:x.op=36) :
  Calls Tryz.prog 277 #[.pointer (some ⟨g,0,none⟩),.agg x.vals] w (yJ m lo x w):=by
 have HL:=hid (show zP m lo x=if x.a<(m.gl.length:Int) then (if (m.gl.map (·.mu)).getD x.a.toNat false=false then 212 else 0) else 6 by unfold zP;rw[if_neg (by omega),if_neg (by omega),if_pos (.inr hop)];simp only[hop,true_and]);obtain⟨a,n,c,hk,hf⟩:=h.blk;have HA:=hid hx.a;obtain⟨W0,hW0⟩:∃W0,W0=w.alloc (.cells x.vals 92):=⟨_,rfl⟩;have hb0:Below w.heap.size w W0:=by rw[hW0];exact zC (Below.refl _ _) _
 have hat:At x w.heap.size W0:=by rw[hW0];exact At.made x w
 have hk0:=hk.below hb0;have HB:=hid hb0;have HQ:=hid (uC (ZW m.gl.length x.a ⟨by omega,by have:=hfit.gl;omega⟩ HA.out));have c5:W0.cell? ⟨g,5,none⟩=some (.slice m.gl'.a m.gl.length m.gl'.c):=hk0.cell 5;have d0:=hat.c0;have d2:=hat.c2;have bgl:=hfit.gl;have hrw:=(h.on hb0).md.gl;clear h hk hf hx hfit hb0 hk0 hat hlo;obtain⟨op,res,xa,xb,xn,tags,ta,tc,la,ln,lc,ea,en,ec⟩:=x;unfold yJ;unfold Ix.vals at hW0 ⊢;simp only at hop HA hW0 ⊢;simp only at HL HQ d0 d2;rw[HL.out];subst hop
 by_cases h1:xa<(m.gl.length:Int)
 ·rw[if_pos h1]
  have hd:decide (xa<(m.gl.length:Int))=true:=by simpa using h1
  rw[hd] at HQ;obtain⟨k,rfl⟩:∃k:Nat,xa=k:=⟨xa.toNat,by have:=HA.out;omega⟩;have hkl:k<m.gl.length:=by omega
  have hgd:(m.gl.map (·.mu)).getD k false=m.gl[k].mu:=by simp[hkl]
  simp only[Int.toNat_natCast,hgd];obtain⟨b,off,ha,hb,hcc⟩:=Mod.Rows.get hrw hkl;rw[ha] at c5;obtain⟨t,ht⟩:∃t,m.gl[k]=t:=⟨_,rfl⟩;rw[ht] at hcc ⊢;have z0:W0.cell? ⟨b,off+k*2,none⟩=some (.bool t.mu):=hcc 0 (by omega) _ rfl;obtain⟨mu,hmu⟩:∃mu,t.mu=mu:=⟨_,rfl⟩;rw[hmu] at z0 ⊢;clear HL hd HA hcc hb ha ht hgd hrw hkl hmu
  generalize m.gl.length=G at *
  cases mu with
  | false =>
   go_enter Tryz.func277,Tryz.ntmps277
   go_upto_region 1 with fail
   rw[←hW0];clear hW0
   go_upto_region 23 with fail
   go_quiet (exact HQ.out _ _)
   go_wp2;go_ret;exact⟨rfl,kF HB.out _⟩
  | true =>
   go_enter Tryz.func277,Tryz.ntmps277
   go_upto_region 1 with fail
   rw[←hW0];clear hW0
   go_upto_region 23 with fail
   go_quiet (exact HQ.out _ _)
   obtain⟨W1,hW1⟩:∃W1,W1=W0.drewN nq:=⟨_,rfl⟩
   replace d0:=(show W1.cell? ⟨w.heap.size,0,none⟩=W0.cell? ⟨w.heap.size,0,none⟩ by rw[hW1];rfl).trans d0
   replace d2:=(show W1.cell? ⟨w.heap.size,2,none⟩=W0.cell? ⟨w.heap.size,2,none⟩ by rw[hW1];rfl).trans d2
   replace c5:=(show W1.cell? ⟨g,5,none⟩=W0.cell? ⟨g,5,none⟩ by rw[hW1];rfl).trans c5
   replace HB:=hid (show Below w.heap.size w W1 by rw[hW1];exact kF HB.out _)
   rw[←hW1];clear hW1
   go_upto_region 25 with fail
   go_quiet (exact HQ.out _ _)
   go_wp2;go_ret;exact⟨rfl,kF HB.out _⟩
 ·rw[if_neg h1]
  have hd:decide (xa<(m.gl.length:Int))=false:=by simpa using h1
  rw[hd] at HQ;clear HL h1 hd HA hrw
  generalize m.gl.length=G at *
  go_enter Tryz.func277,Tryz.ntmps277
  go_upto_region 1 with fail
  rw[←hW0];clear hW0
  go_upto_region 23 with fail
  go_quiet (exact HQ.out _ _)
  obtain⟨W1,hW1⟩:∃W1,W1=W0.drewN nq:=⟨_,rfl⟩
  replace d0:=(show W1.cell? ⟨w.heap.size,0,none⟩=W0.cell? ⟨w.heap.size,0,none⟩ by rw[hW1];rfl).trans d0
  replace d2:=(show W1.cell? ⟨w.heap.size,2,none⟩=W0.cell? ⟨w.heap.size,2,none⟩ by rw[hW1];rfl).trans d2
  replace c5:=(show W1.cell? ⟨g,5,none⟩=W0.cell? ⟨g,5,none⟩ by rw[hW1];rfl).trans c5
  replace HB:=hid (show Below w.heap.size w W1 by rw[hW1];exact kF HB.out _)
  rw[←hW1];clear hW1
  go_upto_region 25 with fail
  go_quiet (exact HQ.out _ _)
  go_wp2;go_ret;exact⟨rfl,kF HB.out _⟩
theorem zIp:zf 40=2:=by decide
theorem zI8:zf 44=0:=by decide
theorem zIV:zf 45=0:=by decide
theorem zIT:zf 46=1:=by decide
theorem zIO:zf 47=1:=by decide
theorem zIx:zf 54=2:=by decide
theorem zIg:zf 58=0:=by decide
theorem zIP:zf 59=1:=by decide
theorem zE6 (g n₀:Nat) (m:Md) (lo re:Int) (s:St) (x:Ix) (w:World) (h:Ck g n₀ m lo re s w) (hx:x.ok) (hfit:m.fits) (hlo:0≤lo∧lo≤140737488351232) (hop:x.op=40∨x.op=44∨x.op=45∨x.op=46∨x.op=47∨x.op=54∨x.op=58∨x.op=59) :
  Calls Tryz.prog 277 #[.pointer (some ⟨g,0,none⟩),.agg x.vals] w (yJ m lo x w):=by
 have HL:=hid (show zP m lo x=if m.me.length=0 then 6 else if zf x.op<x.a then 211 else 0 by
   have hs:zS x.op=true:=by unfold zS;rw[decide_eq_true_eq];omega
   unfold zP;rw[if_neg (by omega),if_neg (by omega),if_neg (by omega),if_pos hs])
 obtain⟨a,n,c,hk,hf⟩:=h.blk;have HA:=hid hx.a;obtain⟨W0,hW0⟩:∃W0,W0=w.alloc (.cells x.vals 92):=⟨_,rfl⟩;have hb0:Below w.heap.size w W0:=by rw[hW0];exact zC (Below.refl _ _) _
 have hat:At x w.heap.size W0:=by rw[hW0];exact At.made x w
 have hk0:=hk.below hb0;have HB:=hid hb0;have CA:=hid (fun w'=>zAl x.op w');have HM:=hid (show zf x.op<x.a∨x.a≤zf x.op by omega);have c4:W0.cell? ⟨g,4,none⟩=some (.slice m.me'.a m.me.length m.me'.c):=hk0.cell 4;have d0:=hat.c0;have d2:=hat.c2;have bme:=hfit.me;clear h hk hf hx hfit hb0 hk0 hat hlo;obtain⟨op,res,xa,xb,xn,tags,ta,tc,la,ln,lc,ea,en,ec⟩:=x;unfold yJ;unfold Ix.vals at hW0 ⊢;simp only at hop HA hW0 ⊢;simp only at HL CA HM d0 d2;rw[HL.out];clear HL HA
 by_cases h1:m.me.length=0
 ·rw[if_pos h1]
  rw[h1] at c4;clear HM h1
  by_cases h2:zf op<xa
  all_goals
   rcases hop with rfl|rfl|rfl|rfl|rfl|rfl|rfl|rfl
   all_goals
    simp only[zIp,zI8,zIV,zIT,zIO,zIx,zIg,zIP] at CA h2
    go_enter Tryz.func277,Tryz.ntmps277
    go_upto_region 1 with fail
    rw[←hW0];clear hW0
    go_wp2_with fail
    refine (CA.out _).mono ?_;rintro e1 w1 ⟨rfl,rfl⟩;go_wp2;go_ret;exact⟨rfl,HB.out⟩
 ·rw[if_neg h1]
  have h1i:(0:Int)<(m.me.length:Int):=by omega
  have h1n:¬((m.me.length:Nat):Int)=0:=by omega
  have h1b:(((m.me.length:Nat):Int)==0)=false:=by simpa using h1
  generalize m.me.length=G at *
  clear h1
  by_cases h2:zf op<xa
  ·rw[if_pos h2]
   clear HM
   rcases hop with rfl|rfl|rfl|rfl|rfl|rfl|rfl|rfl
   all_goals
    simp only[zIp,zI8,zIV,zIT,zIO,zIx,zIg,zIP] at CA h2
    go_enter Tryz.func277,Tryz.ntmps277
    go_upto_region 1 with fail
    rw[←hW0];clear hW0
    go_wp2_with fail
    refine (CA.out _).mono ?_;rintro e1 w1 ⟨rfl,rfl⟩;go_wp2;go_ret;exact⟨rfl,HB.out⟩
  ·rw[if_neg h2]
   clear HM
   rcases hop with rfl|rfl|rfl|rfl|rfl|rfl|rfl|rfl
   all_goals
    simp only[zIp,zI8,zIV,zIT,zIO,zIx,zIg,zIP] at CA h2
    go_enter Tryz.func277,Tryz.ntmps277
    go_upto_region 1 with fail
    rw[←hW0];clear hW0
    go_wp2_with fail
    refine (CA.out _).mono ?_;rintro e1 w1 ⟨rfl,rfl⟩;go_wp2;go_ret;exact⟨rfl,HB.out⟩
theorem zDW (g n₀:Nat) (m:Md) (lo re:Int) (s:St) (x:Ix) (w:World) (h:Ck g n₀ m lo re s w) (hx:x.ok) (hfit:m.fits) (hlo:0≤lo∧lo≤140737488351232) (hop:x.op=63∨x.op=64) :
  Calls Tryz.prog 277 #[.pointer (some ⟨g,0,none⟩),.agg x.vals] w (yJ m lo x w):=by
 have HL:=hid (show zP m lo x=if m.me.length=0 then 6 else 0 by
   have hs:zS x.op=false:=by unfold zS;rw[decide_eq_false_iff_not];omega
   unfold zP;rw[if_neg (by omega),if_neg (by omega),if_neg (by omega),if_neg (by rw[hs];simp),if_pos hop])
 obtain⟨a,n,c,hk,hf⟩:=h.blk;have HA:=hid hx.a;obtain⟨W0,hW0⟩:∃W0,W0=w.alloc (.cells x.vals 92):=⟨_,rfl⟩;have hb0:Below w.heap.size w W0:=by rw[hW0];exact zC (Below.refl _ _) _
 have hat:At x w.heap.size W0:=by rw[hW0];exact At.made x w
 have hk0:=hk.below hb0;have HB:=hid hb0;have c4:W0.cell? ⟨g,4,none⟩=some (.slice m.me'.a m.me.length m.me'.c):=hk0.cell 4;have d0:=hat.c0;have bme:=hfit.me;clear h hk hf hx hfit hb0 hk0 hat hlo;obtain⟨op,res,xa,xb,xn,tags,ta,tc,la,ln,lc,ea,en,ec⟩:=x;unfold yJ;unfold Ix.vals at hW0 ⊢;simp only at hop HA hW0 ⊢;simp only at HL d0;rw[HL.out];clear HL HA
 by_cases h1:m.me.length=0
 ·rw[if_pos h1]
  rw[h1] at c4;clear h1
  rcases hop with rfl|rfl
  all_goals
   go_enter Tryz.func277,Tryz.ntmps277
   go_upto_region 1 with fail
   rw[←hW0];clear hW0;go_wp2;go_ret;exact⟨rfl,HB.out⟩
 ·rw[if_neg h1]
  have h1n:¬((m.me.length:Nat):Int)=0:=by omega
  have h1b:(((m.me.length:Nat):Int)==0)=false:=by simpa using h1
  generalize m.me.length=G at *
  clear h1
  rcases hop with rfl|rfl
  all_goals
   go_enter Tryz.func277,Tryz.ntmps277
   go_upto_region 1 with fail
   rw[←hW0];clear hW0;go_wp2;go_ret;exact⟨rfl,HB.out⟩
theorem zDd (g n₀:Nat) (m:Md) (lo re:Int) (s:St) (x:Ix) (w:World) (h:Ck g n₀ m lo re s w) (hop:x.op≠16∧x.op≠17∧x.op≠32∧x.op≠33∧x.op≠34∧x.op≠36∧x.op≠35∧x.op≠40∧x.op≠44∧x.op≠45∧x.op≠46∧x.op≠47∧x.op≠54∧x.op≠58∧x.op≠59∧x.op≠63∧x.op≠64) :
  Calls Tryz.prog 277 #[.pointer (some ⟨g,0,none⟩),.agg x.vals] w (yJ m lo x w):=by
 have HL:=hid (show zP m lo x=0 by
   have hs:zS x.op=false:=by unfold zS;rw[decide_eq_false_iff_not];omega
   unfold zP;rw[if_neg (by omega),if_neg (by omega),if_neg (by omega),if_neg (by rw[hs];simp),if_neg (by omega)])
 obtain⟨a,n,c,hk,hf⟩:=h.blk;obtain⟨W0,hW0⟩:∃W0,W0=w.alloc (.cells x.vals 92):=⟨_,rfl⟩;have hb0:Below w.heap.size w W0:=by rw[hW0];exact zC (Below.refl _ _) _
 have hat:At x w.heap.size W0:=by rw[hW0];exact At.made x w
 have HB:=hid hb0;have d0:=hat.c0;clear h hk hf hb0 hat;obtain⟨op,res,xa,xb,xn,tags,ta,tc,la,ln,lc,ea,en,ec⟩:=x;unfold yJ;unfold Ix.vals at hW0 ⊢;simp only at hop HL d0 hW0 ⊢;rw[HL.out];clear HL;obtain⟨n16,n17,n32,n33,n34,n36,n35,n40,n44,n45,n46,n47,n54,n58,n59,n63,n64⟩:=hop;have b16:(op==16)=false:=by simpa using n16
 have b17:(op==17)=false:=by simpa using n17
 have b32:(op==32)=false:=by simpa using n32
 have b33:(op==33)=false:=by simpa using n33
 have b34:(op==34)=false:=by simpa using n34
 have b36:(op==36)=false:=by simpa using n36
 have b35:(op==35)=false:=by simpa using n35
 have b40:(op==40)=false:=by simpa using n40
 have b44:(op==44)=false:=by simpa using n44
 have b45:(op==45)=false:=by simpa using n45
 have b46:(op==46)=false:=by simpa using n46
 have b47:(op==47)=false:=by simpa using n47
 have b54:(op==54)=false:=by simpa using n54
 have b58:(op==58)=false:=by simpa using n58
 have b59:(op==59)=false:=by simpa using n59
 have b63:(op==63)=false:=by simpa using n63
 have b64:(op==64)=false:=by simpa using n64
 go_enter Tryz.func277,Tryz.ntmps277
 go_upto_region 1 with fail
 rw[←hW0];clear hW0;go_wp2;go_ret;exact⟨rfl,HB.out⟩
theorem yz (g n₀:Nat) (m:Md) (lo re:Int) (s:St) (x:Ix) (w:World) (h:Ck g n₀ m lo re s w) (hx:x.ok) (hfit:m.fits) (hlo:0≤lo∧lo≤140737488351232) :
  Calls Tryz.prog 277 #[.pointer (some ⟨g,0,none⟩),.agg x.vals] w (yJ m lo x w):=by
 by_cases h1:x.op=16∨x.op=17
 ·exact zDf g n₀ m lo re s x w h hx hfit hlo h1
 by_cases h2:x.op=32∨x.op=33∨x.op=34
 ·exact zCs g n₀ m lo re s x w h hx hfit hlo h2
 by_cases h3:x.op=35
 ·exact zEi g n₀ m lo re s x w h hx hfit hlo h3
 by_cases h4:x.op=36
 ·exact zFV g n₀ m lo re s x w h hx hfit hlo h4
 by_cases h5:x.op=40∨x.op=44∨x.op=45∨x.op=46∨x.op=47∨x.op=54∨x.op=58∨x.op=59
 ·exact zE6 g n₀ m lo re s x w h hx hfit hlo h5
 by_cases h6:x.op=63∨x.op=64
 ·exact zDW g n₀ m lo re s x w h hx hfit hlo h6
 exact zDd g n₀ m lo re s x w h (by omega)
end Val
namespace Mod
open Go.RowKit Go.Shelf Instr
def Md.outs (m:Md):List Int:=[qd m.crowded 141,qd (zu m.codes==141) 141,qd (m.anyName qa) 3,qd m.heavy 3,zu m.codes,qd (m.anyName yZ) 2,qd (m.ty.any jS) 2,qd (m.im.any jQ) 2,qd (m.fu.any yR) 2,qd (m.ex.any yP) 2,
  qd (m.tb.any (beyond 1048576)) 2,qd (m.me.any (beyond 65536)) 2,qd (!m.st&&decide (m.sn≠0)) 2]
def ZE:List Int→Int
 | []=>0
 | e::r=>if e=0 then ZE r else e
theorem Je:∀(l:List Int) (k:Nat) (hk:k<l.length),(∀j (hj:j<l.length),j<k→l[j]=0)→l[k]≠0→ZE l=l[k]
 | [],k,hk,_,_=>by simp at hk
 | e::r,0,hk,_,h=>by simp only[List.getElem_cons_zero] at h ⊢;rw[ZE,if_neg h]
 | e::r,k+1,hk,hb,h=>by
  have h0:e=0:=hb 0 (by simp) (by omega);rw[ZE,if_pos h0];simp only[List.getElem_cons_succ] at h ⊢;exact Je r k (by simpa using hk) (fun j hj hjk=>by have:=hb (j+1) (by simp;omega) (by omega);simpa using this) h
theorem JK:∀(l:List Int),(∀j (hj:j<l.length),l[j]=0)→ZE l=0
 | [],_=>rfl
 | e::r,hb=>by
  have h0:e=0:=hb 0 (by simp);rw[ZE,if_pos h0];exact JK r (fun j hj=>by have:=hb (j+1) (by simp;omega);simpa using this)
theorem Jy (b:Bool) (e r:Int) (he:e≠0):(if qd b e=0 then r else qd b e)=if b then e else r:=by
 cases b<;>simp[qd,he]
theorem zDC (m:Md):m.check=ZE m.outs:=by
 unfold Md.outs Md.check;simp only[ZE,Jy _ _ _ (show (141:Int)≠0 by decide),Jy _ _ _ (show (3:Int)≠0 by decide),Jy _ _ _ (show (2:Int)≠0 by decide)];have hc:=qx m.codes
 by_cases h1:m.crowded=true
 ·simp[h1]
 rw[if_neg h1,if_neg h1]
 by_cases h2:zu m.codes=141
 ·simp[h2]
 have h2':¬(zu m.codes==141)=true:=by simpa using h2
 rw[if_neg h2,if_neg h2']
 split
 ·rfl
 split
 ·rfl
 by_cases h3:zu m.codes=0
 ·rw[if_pos h3,if_neg (by omega)]
  unfold Md.wrong
  cases m.anyName yZ<;>cases m.ty.any jS<;>cases m.im.any jQ<;>cases m.fu.any yR<;>cases m.ex.any yP<;>cases m.tb.any (beyond 1048576)<;>cases m.me.any (beyond 65536)<;>cases (!m.st&&decide (m.sn≠0))<;>rfl
 ·have h4:zu m.codes=2:=by omega
  rw[if_neg h3,h4];rfl
def zDn (k:Nat):Nat:=[147,150,152,155,157,158,160,163,166,169,172,174,175].getD k 0
def zGO (g k:Nat):Array Value:=[#[.pointer (some ⟨g,0,none⟩)],#[.pointer (some ⟨g,0,none⟩),.pointer (some ⟨g+1,0,none⟩)],#[.pointer (some ⟨g,0,none⟩)],#[.pointer (some ⟨g,0,none⟩)],#[.pointer (some ⟨g+1,0,none⟩)],#[.pointer (some ⟨g,0,none⟩)],#[.pointer (some ⟨g,0,none⟩)],
  #[.pointer (some ⟨g,0,none⟩)],#[.pointer (some ⟨g,0,none⟩)],#[.pointer (some ⟨g,0,none⟩)],#[.pointer (some ⟨g,0,none⟩)],#[.pointer (some ⟨g,0,none⟩)],#[.pointer (some ⟨g,0,none⟩)]].getD k #[]
theorem zDF (k:Nat) (hk:k<13):∀args w,(callFunc (zDn k) args).run Tryz.prog w=.ok (.enter (zDn k) args) w:=by
 match k,hk with
 | 0,_=>exact enters_of Tryz.func147 (by kernel_rfl) rfl
 | 1,_=>exact enters_of Tryz.func150 (by kernel_rfl) rfl
 | 2,_=>exact enters_of Tryz.func152 (by kernel_rfl) rfl
 | 3,_=>exact enters_of Tryz.func155 (by kernel_rfl) rfl
 | 4,_=>exact enters_of Tryz.func157 (by kernel_rfl) rfl
 | 5,_=>exact enters_of Tryz.func158 (by kernel_rfl) rfl
 | 6,_=>exact enters_of Tryz.func160 (by kernel_rfl) rfl
 | 7,_=>exact enters_of Tryz.func163 (by kernel_rfl) rfl
 | 8,_=>exact enters_of Tryz.func166 (by kernel_rfl) rfl
 | 9,_=>exact enters_of Tryz.func169 (by kernel_rfl) rfl
 | 10,_=>exact enters_of Tryz.func172 (by kernel_rfl) rfl
 | 11,_=>exact enters_of Tryz.func174 (by kernel_rfl) rfl
 | 12,_=>exact enters_of Tryz.func175 (by kernel_rfl) rfl
structure zAX (w:World) (m:Md) (k:Nat) (W:World):Prop where
 below:Below w.heap.size w W
 box:zB W w.heap.size m.v
 code:W.cell? ⟨w.heap.size+1,0,none⟩=some (.int .i64 (if k<2 then 0 else zu m.codes))
 fr:W.frozen? ⟨w.heap.size+1,0,none⟩=false
 arr:∀j,j<13→W.cell? ⟨w.heap.size+2,j,none⟩=some (.func (.func (zDn j)) #[] (zGO w.heap.size j))
theorem zAX.go {w:World} {m:Md} {k k':Nat} {W W':World} (h:zAX w m k W) (hb:Below W.heap.size W W') (hk:k<2↔k'<2):zAX w m k' W' :=
 ⟨h.below.trans (hb.mono h.below.size),h.box.keep hb,by rw[show (if k'<2 then (0:Int) else zu m.codes)=if k<2 then 0 else zu m.codes by by_cases h2:k<2<;>simp[h2,←hk]];exact kP hb h.code,(hb.frozen (p:=⟨w.heap.size+1,0,none⟩) (World.block_lt_of_cell? W _ h.code)).trans h.fr,fun j hj=>kP hb (h.arr j hj)⟩
theorem zAX.set {w:World} {m:Md} {W W':World} (h:zAX w m 1 W) (hb:Below W.heap.size W W'):zAX w m 2 (W'.setCell ⟨w.heap.size+1,0,none⟩ (.int .i64 (zu m.codes))):=by
 have h':=h.go (k':=1) hb Iff.rfl;refine⟨h'.below.setCell (p:=⟨w.heap.size+1,0,none⟩) (by simp) _,fun j x hj=>?_,?_,?_,fun j hj=>?_⟩
 ·exact (World.cell?_of_block (w:=W') (Below.heap_setCell _ _ _ _ (by simp))).trans (h'.box j x hj)
 ·rw[if_neg (by omega)];exact World.cell?_setCell_same' _ _ _ (by rw[h'.code];rfl)
 ·rw[World.frozen?_setCell];exact h'.fr
 ·exact (World.cell?_of_block (w:=W') (Below.heap_setCell _ _ _ _ (by simp))).trans (h'.arr j hj)
theorem zFp (m:Md) (w:World) (hT:kC w) (hU:Utf.Tabs w) (hm:zN w.heap.size w m) (hf:m.few) (k:Nat) (hk:k<13) (W:World) (h:zAX w m k W) :
  Calls Tryz.prog (zDn k) (zGO w.heap.size k) W fun e w'=>e=.returned (.int .i64 (m.outs.getD k 0))∧zAX w m (k+1) w':=by
 have hm':=hm.on h.below;have hT':=hT.below h.below;have hU':=hU.below h.below
 match k,hk,h with
 | 0,_,h=>exact (zJz m _ W h.box hm' hf).mono fun e w' ⟨he,hb⟩=>⟨he,h.go hb (by simp)⟩
 | 1,_,h=>exact (zJ0 m _ _ W h.box hm' hf hT' h.code h.fr).mono fun e w' ⟨he,w1,hb,hw⟩=>⟨he,by subst hw;exact h.set hb⟩
 | 2,_,h=>exact (zJu m _ W h.box hm' hf).mono fun e w' ⟨he,hb⟩=>⟨he,h.go hb (by simp)⟩
 | 3,_,h=>exact (zJ1 m _ W h.box hm' hf).mono fun e w' ⟨he,hb⟩=>⟨he,h.go hb (by simp)⟩
 | 4,_,h=>exact (zJr _ _ W (by have:=h.code;rw[if_neg (by omega)] at this;exact this)).mono fun e w' ⟨he,hb⟩=>⟨he,h.go hb (by simp)⟩
 | 5,_,h=>exact (zJ2 m _ W h.box hm' hf hU').mono fun e w' ⟨he,hb⟩=>⟨he,h.go hb (by simp)⟩
 | 6,_,h=>exact (zJ3 m _ W h.box hm' hf).mono fun e w' ⟨he,hb⟩=>⟨he,h.go hb (by simp)⟩
 | 7,_,h=>exact (zJp m _ W h.box hm' hf).mono fun e w' ⟨he,hb⟩=>⟨he,h.go hb (by simp)⟩
 | 8,_,h=>exact (zJx m _ W h.box hm' hf).mono fun e w' ⟨he,hb⟩=>⟨he,h.go hb (by simp)⟩
 | 9,_,h=>exact (zJV m _ W h.box hm' hf).mono fun e w' ⟨he,hb⟩=>⟨he,h.go hb (by simp)⟩
 | 10,_,h=>exact (zJP m _ W h.box hm' hf).mono fun e w' ⟨he,hb⟩=>⟨he,h.go hb (by simp)⟩
 | 11,_,h=>exact (zJR m _ W h.box hm' hf).mono fun e w' ⟨he,hb⟩=>⟨he,h.go hb (by simp)⟩
 | 12,_,h=>exact (zJf m _ W h.box).mono fun e w' ⟨he,hb⟩=>⟨he,h.go hb (by simp)⟩
theorem YJ (m:Md) (w:World) (hT:kC w) (hU:Utf.Tabs w) (hm:zN w.heap.size w m) (hf:m.few) :
  Calls Tryz.prog 92 #[.agg m.v] w fun e w'=>e=.returned (.int .i64 m.check)∧Below w.heap.size w w':=by
 have HS:=hid (zFp m w hT hU hm hf);have HE:=hid (zDC m);have HL:=hid (show m.outs.length=13 from rfl)
 have h0:zAX w m 0 (((w.alloc (.cells m.v 40)).alloc (.cells #[.int .i64 0] 47)).alloc (.cells #[.func (.func 147) #[] #[.pointer (some ⟨w.heap.size,0,none⟩)],.func (.func 150) #[] #[.pointer (some ⟨w.heap.size,0,none⟩),.pointer (some ⟨w.heap.size+1,0,none⟩)],.func (.func 152) #[] #[.pointer (some ⟨w.heap.size,0,none⟩)],.func (.func 155) #[] #[.pointer (some ⟨w.heap.size,0,none⟩)],.func (.func 157) #[] #[.pointer (some ⟨w.heap.size+1,0,none⟩)],.func (.func 158) #[] #[.pointer (some ⟨w.heap.size,0,none⟩)],.func (.func 160) #[] #[.pointer (some ⟨w.heap.size,0,none⟩)],.func (.func 163) #[] #[.pointer (some ⟨w.heap.size,0,none⟩)],.func (.func 166) #[] #[.pointer (some ⟨w.heap.size,0,none⟩)],.func (.func 169) #[] #[.pointer (some ⟨w.heap.size,0,none⟩)],.func (.func 172) #[] #[.pointer (some ⟨w.heap.size,0,none⟩)],.func (.func 174) #[] #[.pointer (some ⟨w.heap.size,0,none⟩)],.func (.func 175) #[] #[.pointer (some ⟨w.heap.size,0,none⟩)]] 85)):=by
  refine⟨zC (zC (zC (Below.refl _ _) _) _) _,?_,by simp[go_sem],by simp[go_sem],fun j hj=>?_⟩
  ·exact (zB.made w m.v _).keep (((Below.refl _ _).alloc (Nat.le_refl _) _).alloc (by simp) _)
  ·match j,hj with
   | 0,_|1,_|2,_|3,_|4,_|5,_|6,_|7,_|8,_|9,_|10,_|11,_|12,_=>simp[go_sem,zDn,zGO]
 clear hT hU hm hf;unfold Md.v at h0 ⊢
 go_enter Tryz.func92,Tryz.ntmps92
 go_wp2
 generalize (((w.alloc (.cells #[.slice m.ty'.a m.ty.length m.ty'.c,.slice m.im'.a m.im.length m.im'.c,.slice m.fu'.a m.fu.length m.fu'.c,.slice m.tb'.a m.tb.length m.tb'.c,.slice m.me'.a m.me.length m.me'.c,.slice m.gl'.a m.gl.length m.gl'.c,.slice m.ex'.a m.ex.length m.ex'.c,.bool m.st,.int .u32 m.sn,.slice m.el'.a m.el.length m.el'.c,.slice m.da'.a m.da.length m.da'.c] 40)).alloc (.cells #[.int .i64 0] 47)).alloc (.cells #[.func (.func 147) #[] #[.pointer (some ⟨w.heap.size,0,none⟩)],.func (.func 150) #[] #[.pointer (some ⟨w.heap.size,0,none⟩),.pointer (some ⟨w.heap.size+1,0,none⟩)],.func (.func 152) #[] #[.pointer (some ⟨w.heap.size,0,none⟩)],.func (.func 155) #[] #[.pointer (some ⟨w.heap.size,0,none⟩)],.func (.func 157) #[] #[.pointer (some ⟨w.heap.size+1,0,none⟩)],.func (.func 158) #[] #[.pointer (some ⟨w.heap.size,0,none⟩)],.func (.func 160) #[] #[.pointer (some ⟨w.heap.size,0,none⟩)],.func (.func 163) #[] #[.pointer (some ⟨w.heap.size,0,none⟩)],.func (.func 166) #[] #[.pointer (some ⟨w.heap.size,0,none⟩)],.func (.func 169) #[] #[.pointer (some ⟨w.heap.size,0,none⟩)],.func (.func 172) #[] #[.pointer (some ⟨w.heap.size,0,none⟩)],.func (.func 174) #[] #[.pointer (some ⟨w.heap.size,0,none⟩)],.func (.func 175) #[] #[.pointer (some ⟨w.heap.size,0,none⟩)]] 85))=W0 at h0 ⊢
 have H0:=hid h0;clear h0
 go_loopw [22] (fun vi wr=>∃k:Nat,vi=.int .i64 k∧k≤13∧Hid (zAX w m k wr)∧Hid (∀j (hj:j<m.outs.length),j<k→m.outs[j]=0)) (fun vi _=>13-(intOf vi).toNat)
 case atStart=>exact⟨0,rfl,Nat.zero_le _,H0,fun j _ h=>absurd h (Nat.not_lt_zero _)⟩
 case round =>
  obtain⟨k,rfl,hk,HC,HA⟩:=hrel;clear H0
  by_cases hlt:k<13
  ·have hkl:k<m.outs.length:=by rw[HL.out];exact hlt
   have eg:=zDF k hlt;have C:=hid (HS.out k hlt wr HC.out);have hc:wr.cell? ⟨w.heap.size+1+1,k,none⟩=some (.func (.func (zDn k)) #[] (zGO w.heap.size k)):=HC.out.arr k hlt;have HG:=hid (show m.outs.getD k 0=m.outs[k] by simp[hkl]);obtain⟨G,hG⟩:∃G,zDn k=G:=⟨_,rfl⟩;obtain⟨L,hL⟩:∃L,zGO w.heap.size k=L:=⟨_,rfl⟩;obtain⟨q,hq⟩:∃q,m.outs.getD k 0=q:=⟨_,rfl⟩;rw[hG] at eg C hc;rw[hL] at C hc;rw[hq] at C HG;clear hG hL hq;have hki:(k:Int)<13:=by omega
   by_cases h0:q=0
   ·subst h0
    go_wp2_with (go_at_fn G;refine C.out.mono ?_;rintro e w1 ⟨rfl,hC1⟩)
    go_roundw
    case rel =>
     refine⟨k+1,by go_num,by omega,hC1,hid fun j hj hjk=>?_⟩
     by_cases e:j=k
     ·subst e;exact HG.out.symm
     ·exact HA.out j hj (by omega)
    case measure=>simp[intOf];omega
   ·have HF:=hid (show m.check=q by
      rw[HE.out,Je _ k hkl HA.out (by rw[←HG.out];exact h0),←HG.out])
    have hq1:(q==0)=false:=by simpa using h0
    have hq2:(q != 0)=true:=by simpa using h0
    go_wp2_with (go_at_fn G;refine C.out.mono ?_;rintro e w1 ⟨rfl,hC1⟩)
    go_ret;exact⟨zH HF.out.symm,hC1.below⟩
  ·obtain rfl:k=13:=by omega
   have HF:=hid (show m.check=0 by
     rw[HE.out];exact JK _ (fun j hj=>HA.out j hj (by rw[HL.out] at hj;exact hj)))
   go_wp2;go_ret;exact⟨zH HF.out.symm,HC.out.below⟩
end Mod
namespace Mod
open Go.RowKit Instr
def Lst.bare (l:Lst):Lst:=⟨none,0,l.t.bare⟩
def Fn.bare (f:Fn):Fn:=⟨f.ty,f.lo,f.l.bare⟩
def Gl.bare (g:Gl):Gl:=⟨g.mu,g.l.bare⟩
def El.bare (e:El):El:=⟨e.l.bare,none,0,e.fs⟩
def Da.bare (d:Da):Da:=⟨d.l.bare,none,0,d.bs⟩
def Md.bare (m:Md):Md :=
 ⟨m.ty,m.im,m.fu.map Fn.bare,m.tb,m.me,m.gl.map Gl.bare,m.ex,m.st,m.sn,m.el.map El.bare,m.da.map Da.bare,⟨none,0⟩,⟨none,0⟩,⟨none,0⟩,⟨none,0⟩,⟨none,0⟩,⟨none,0⟩,⟨none,0⟩,⟨none,0⟩,⟨none,0⟩⟩
theorem Zw (m:Md):m.bare.codes=m.codes.map Lst.bare:=by
 unfold Md.codes Md.bare;simp only[List.map_append,List.map_map];rfl
theorem Js:∀l:List Lst,zu (l.map Lst.bare)=zu l
 | []=>rfl
 | x::r=>by
  rw[List.map_cons,jk,jk,Js r];have:zJ x.bare.t=zJ x.t:=zC3 x.t;rw[this]
theorem zAz:∀l:List Da,qq (l.map Da.bare)=qq l
 | []=>rfl
 | x::r=>by rw[List.map_cons,qq,qq,zAz r];rfl
theorem zBU (m:Md):m.bare.crowded=m.crowded:=by
 unfold Md.crowded Md.bare;simp only[List.length_map,List.any_map];rfl
theorem zDR (m:Md):m.bare.heavy=m.heavy:=by
 unfold Md.heavy Md.bare;simp only[zAz]
theorem zDa (m:Md):m.bare.wrong=m.wrong:=by
 unfold Md.wrong Md.anyName Md.bare;simp only[List.any_map];rfl
theorem JD (m:Md):m.bare.check=m.check:=by
 unfold Md.check;rw[zBU,Zw,Js,zDR,zDa];rfl
theorem uQ (m:Md) (n:Nat):m.bare.typeOf n=m.typeOf n:=by
 have e:m.bare.typeN n=m.typeN n:=by
  unfold Md.typeN Md.bare;simp only[List.length_map,List.map_map];rfl
 unfold Md.typeOf;rw[e];rfl
noncomputable def is (p:Prop):Bool:=@decide p (Classical.propDecidable p)
theorem ya {p:Prop} (h:p):is p=true:=by unfold is;exact @decide_eq_true p (Classical.propDecidable p) h
theorem zY {p:Prop} (h:¬p):is p=false:=by unfold is;exact @decide_eq_false p (Classical.propDecidable p) h
structure Same (a b:Md):Prop where
 ty:a.ty=b.ty
 im:a.im=b.im
 fu:a.fu.map Fn.bare=b.fu.map Fn.bare
 tb:a.tb=b.tb
 me:a.me=b.me
 gl:a.gl.map Gl.bare=b.gl.map Gl.bare
 ex:a.ex=b.ex
 st:a.st=b.st
 sn:a.sn=b.sn
 el:a.el.map El.bare=b.el.map El.bare
 da:a.da.map Da.bare=b.da.map Da.bare
theorem same_iff {a b:Md}:a.bare=b.bare↔Same a b:=by
 constructor
 ·intro h
  unfold Md.bare at h;simp only[Md.mk.injEq] at h;obtain⟨h1,h2,h3,h4,h5,h6,h7,h8,h9,h10,h11,_⟩:=h;exact⟨h1,h2,h3,h4,h5,h6,h7,h8,h9,h10,h11⟩
 ·rintro⟨h1,h2,h3,h4,h5,h6,h7,h8,h9,h10,h11⟩
  unfold Md.bare;rw[h1,h2,h3,h4,h5,h6,h7,h8,h9,h10,h11]
theorem jb {α:Type} {l r:List α} {n:Nat} (hl:l.length=n) (hr:r.length=n) (h:∀j (h1:j<l.length) (h2:j<r.length),j<n→l[j]=r[j]):l=r:=by
 refine List.ext_getElem (by omega) fun j h1 h2=>h j h1 h2 (by omega)
theorem ja {α:Type} {l r:List α} {k:Nat} (h1:k<l.length) (h2:k<r.length) (h:∀j (h1:j<l.length) (h2:j<r.length),j<k→l[j]=r[j]) (hx:l[k]=r[k]):∀j (h1:j<l.length) (h2:j<r.length),j<k+1→l[j]=r[j]:=by
 intro j g1 g2 hj
 by_cases e:j=k
 ·subst e;exact hx
 ·exact h j g1 g2 (by omega)
theorem jX {α:Type} (l r:List α):∀j (h1:j<l.length) (h2:j<r.length),j<0→l[j]=r[j]:=fun _ _ _ h=>absurd h (Nat.not_lt_zero _)
end Mod
namespace Body
open Go.RowKit
open Kind (Rd)
structure zBy (w:World) (k:Nat) (v:Value) (s:Rd):Prop where
 c0:w.cell? ⟨k,0,none⟩=some v
 c1:w.cell? ⟨k,1,none⟩=some (.int .i64 s.1)
 c2:w.cell? ⟨k,2,none⟩=some (.int .i64 s.2.1)
 c3:w.cell? ⟨k,3,none⟩=some (.int .i64 s.2.2)
 f0:w.frozen? ⟨k,0,none⟩=false
 f1:w.frozen? ⟨k,1,none⟩=false
 f2:w.frozen? ⟨k,2,none⟩=false
 f3:w.frozen? ⟨k,3,none⟩=false
theorem zBy.save {w w':World} {k j:Nat} {v:Value} {s:Rd} (h:zBy w k v s) (hb:zF j w w') (hj:k≠j):zBy w' k v s:=by
 have hk:=World.block_lt_of_cell? w _ h.c0;exact⟨hb.cell hj h.c0,hb.cell hj h.c1,hb.cell hj h.c2,hb.cell hj h.c3,hb.frozen hk hj h.f0,hb.frozen hk hj h.f1,hb.frozen hk hj h.f2,hb.frozen hk hj h.f3⟩
def Does (k:Nat) (v:Value) (w:World) (r:Value) (s:Rd) (e:Ending) (w':World):Prop:=e=.returned r∧zBy w' k v s∧zF k w w'
end Body
/-
  BODY: the reader's one,oneOf,newReader,by contract.
-/
namespace Body
open Go.RowKit
open Kind (Rd)
theorem Does.of_save {k:Nat} {v r:Value} {w w0 w':World} {s:Rd} {e:Ending} (h0:zF k w w0) (h:Does k v w0 r s e w'):Does k v w r s e w':=⟨h.1,h.2.1,h0.trans h.2.2⟩
end Body
section
open Go.RowKit
theorem zFY {xs ys:List Int} (hx:∀z∈xs,0≤z∧z<256) (hy:∀z∈ys,0≤z∧z<256) (h:xs.map (fun n=>UInt8.ofNat n.toNat)=ys.map (fun n=>UInt8.ofNat n.toNat)):xs=ys:=by
 induction xs generalizing ys with
 | nil=>cases ys<;>simp_all
 | cons x xs ih =>
  cases ys with
  | nil=>simp at h
  | cons y ys =>
   simp only[List.map_cons,List.cons.injEq] at h;have h1:=hx x (by simp);have h2:=hy y (by simp);have h3:=congrArg UInt8.toNat h.1;simp only[UInt8.toNat_ofNat'] at h3;have:x=y:=by omega
   rw[this,ih (fun z hz=>hx z (by simp[hz])) (fun z hz=>hy z (by simp[hz])) h.2]
theorem zAU (a1 a2:Option Addr) (l1 c1 l2 c2:Nat) (xs ys:List Int) (w:World) (hl1:xs.length=l1) (hl2:ys.length=l2) (hx:Bytes w a1 xs) (hy:Bytes w a2 ys) :
  Calls Tryz.prog 35 #[.slice a1 l1 c1,.slice a2 l2 c2] w fun e w'=>e=.returned (.bool (decide (xs=ys)))∧w=w':=by
 have e1:=zDN hx l1 c1 hl1;have e2:=zDN hy l2 c2 hl2
 have HE:Hid (((strOfNums xs).toList==(strOfNums ys).toList)=decide (xs=ys)):=by
  show (_==_)=decide _
  by_cases h:xs=ys
  ·subst h;simp
  ·have:¬(strOfNums xs).toList=(strOfNums ys).toList:=fun hh=>h (zFY hx.byte hy.byte (by rw[ByteArray.toList_eq,ByteArray.toList_eq,strOfNums_data,strOfNums_data] at hh;exact hh))
   simp[h,this]
 clear hl1 hl2
 go_enter Tryz.func35,Tryz.ntmps35
 go_wp2;go_ret;exact⟨zA HE.out,rfl⟩
end
namespace Mod
open Go.RowKit Go.Shelf Instr
theorem zGm {a b:ByteArray} (h:a≠b):(a.toList==b.toList)=false:=by
 rw[beq_eq_false_iff_ne];intro hh;rw[ByteArray.toList_eq,ByteArray.toList_eq] at hh;exact h (ByteArray.ext (Array.toList_inj.1 hh))
end Mod
end Go.Proofs.YtdljneclfgneoaaGreatDoor
