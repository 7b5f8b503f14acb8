import Derived.Test.YtdljneclfgneoaaGreatDoorVt19
import Derived.Deep.RegionHeld3
set_option linter.unusedVariables false
set_option linter.ambiguousOpen false
set_option maxRecDepth 100000
set_option maxHeartbeats 8000000
namespace Go.Proofs.YtdljneclfgneoaaGreatDoor
namespace Instr
end Instr
namespace Body
end Body
namespace Mod
open Go.RowKit Instr
open List renaming getElem_toArray → qA, getElem_cons_succ → qB, getElem_cons_zero → qC, setIfInBounds_toArray → qD, set_cons_zero → qE, set_cons_succ → qF
open Body (jy)
theorem zq {w w1:World} {p0 p1 p2 p3 p4 p5:Addr} {v0 v1 v2 v3 v4 v5:Value} (h:Below w.heap.size w w1∧w1.cell? p0=some v0∧w1.cell? p1=some v1∧w1.cell? p2=some v2∧w1.cell? p3=some v3∧w1.cell? p4=some v4∧w1.cell? p5=some v5):Below w.heap.size w w1:=h.1
theorem jg {w w1 w2:World} {p0 p1 p2 p3 p4 p5:Addr} {v0 v1 v2 v3 v4 v5:Value} (h:Below w.heap.size w w1∧w1.cell? p0=some v0∧w1.cell? p1=some v1∧w1.cell? p2=some v2∧w1.cell? p3=some v3∧w1.cell? p4=some v4∧w1.cell? p5=some v5) (hb:Below w1.heap.size w1 w2):Below w.heap.size w w2∧w2.cell? p0=some v0∧w2.cell? p1=some v1∧w2.cell? p2=some v2∧w2.cell? p3=some v3∧w2.cell? p4=some v4∧w2.cell? p5=some v5:=by
 obtain⟨h,h0,h1,h2,h3,h4,h5⟩:=h;exact⟨zM h hb,keep hb h0,keep hb h1,keep hb h2,keep hb h3,keep hb h4,keep hb h5⟩
theorem ZK {w w1:World} {p0 p1 p2 p3 p4 p5 p6 p7:Addr} {v0 v1 v2 v3 v4 v5 v6 v7:Value} (h:Below w.heap.size w w1∧w1.cell? p0=some v0∧w1.cell? p1=some v1∧w1.cell? p2=some v2∧w1.cell? p3=some v3∧w1.cell? p4=some v4∧w1.cell? p5=some v5∧w1.cell? p6=some v6∧w1.cell? p7=some v7):Below w.heap.size w w1:=h.1
theorem zAI {w w1 w2:World} {p0 p1 p2 p3 p4 p5 p6 p7:Addr} {v0 v1 v2 v3 v4 v5 v6 v7:Value} (h:Below w.heap.size w w1∧w1.cell? p0=some v0∧w1.cell? p1=some v1∧w1.cell? p2=some v2∧w1.cell? p3=some v3∧w1.cell? p4=some v4∧w1.cell? p5=some v5∧w1.cell? p6=some v6∧w1.cell? p7=some v7) (hb:Below w1.heap.size w1 w2):Below w.heap.size w w2∧w2.cell? p0=some v0∧w2.cell? p1=some v1∧w2.cell? p2=some v2∧w2.cell? p3=some v3∧w2.cell? p4=some v4∧w2.cell? p5=some v5∧w2.cell? p6=some v6∧w2.cell? p7=some v7:=by
 obtain⟨h,h0,h1,h2,h3,h4,h5,h6,h7⟩:=h;exact⟨zM h hb,keep hb h0,keep hb h1,keep hb h2,keep hb h3,keep hb h4,keep hb h5,keep hb h6,keep hb h7⟩
theorem JY {m:Md} {x:Mod.Fn} (h:x∈m.fu):x.l∈m.codes:=by unfold Md.codes;exact List.mem_append_left _ (List.mem_map.2 ⟨_,h,rfl⟩)
theorem JX {m:Md} {x:Gl} (h:x∈m.gl):x.l∈m.codes:=by unfold Md.codes;exact List.mem_append_right _ (List.mem_append_left _ (List.mem_map.2 ⟨_,h,rfl⟩))
theorem JZ {m:Md} {x:El} (h:x∈m.el):x.l∈m.codes:=by unfold Md.codes;exact List.mem_append_right _ (List.mem_append_right _ (List.mem_append_left _ (List.mem_map.2 ⟨_,h,rfl⟩)))
theorem Ja {m:Md} {x:Da} (h:x∈m.da):x.l∈m.codes:=by unfold Md.codes;exact List.mem_append_right _ (List.mem_append_right _ (List.mem_append_right _ (List.mem_map.2 ⟨_,h,rfl⟩)))
theorem zBE {α β:Type} {f:α→β} {l r:List α} (e:l.map f=r.map f) {k:Nat} (h1:k<l.length) (h2:k<r.length):f l[k]=f r[k]:=by
 have:=congrArg (fun x=>x[k]?) e;simpa[h1,h2] using this
theorem YD {α:Type} {l r:List α} (e:l=r) {k:Nat} (h1:k<l.length) (h2:k<r.length):l[k]=r[k]:=by subst e;rfl
theorem zJe {x y:Int×Int} (h:¬x=y):(x.1==y.1&&x.2==y.2)=false:=by
 rw[Bool.and_eq_false_iff,beq_eq_false_iff_ne,beq_eq_false_iff_ne]
 by_cases h1:x.1=y.1
 ·exact .inr (fun e=>h (Prod.ext h1 e))
 ·exact .inl h1
theorem zJh {x y:Imp} (h:¬x=y):(x.mo.toList==y.mo.toList&&x.na.toList==y.na.toList&&x.ty==y.ty)=false:=by
 obtain⟨a,b,c⟩:=x;obtain⟨a',b',c'⟩:=y;simp only[Bool.and_eq_false_iff,beq_eq_false_iff_ne]
 by_cases h1:a=a'
 ·by_cases h2:b=b'
  ·exact .inr (fun e=>h (by rw[h1,h2];simp only[Imp.mk.injEq,true_and];exact e))
  ·exact .inl (.inr (Yk h2))
 ·exact .inl (.inl (Yk h1))
theorem zH7 {x y:Li} (h:¬x=y):(x.n==y.n&&x.x==y.x&&x.c==y.c)=false:=by
 obtain⟨a,b,c⟩:=x;obtain⟨a',b',c'⟩:=y;simp only[Bool.and_eq_false_iff,beq_eq_false_iff_ne]
 by_cases h1:a=a'
 ·by_cases h2:b=b'
  ·exact .inr (fun e=>h (by rw[h1,h2];simp only[Li.mk.injEq,true_and];exact e))
  ·exact .inl (.inr h2)
 ·exact .inl (.inl h1)
theorem zJX {x y:Ex} (h:¬x=y):(x.na.toList==y.na.toList&&x.k==y.k&&x.i==y.i)=false:=by
 obtain⟨a,b,c⟩:=x;obtain⟨a',b',c'⟩:=y;simp only[Bool.and_eq_false_iff,beq_eq_false_iff_ne]
 by_cases h1:a=a'
 ·by_cases h2:b=b'
  ·exact .inr (fun e=>h (by rw[h1,h2];simp only[Ex.mk.injEq,true_and];exact e))
  ·exact .inl (.inr h2)
 ·exact .inl (.inl (Yk h1))
theorem zBH {x y:Mod.Fn}:Mod.Fn.bare x=Mod.Fn.bare y↔x.ty=y.ty∧(x.lo=y.lo∧x.l.t.bare=y.l.t.bare):=by
 unfold Mod.Fn.bare Lst.bare;simp
theorem zBX {x y:Gl}:Gl.bare x=Gl.bare y↔x.mu=y.mu∧x.l.t.bare=y.l.t.bare:=by
 unfold Gl.bare Lst.bare;simp
theorem zBe {x y:El}:El.bare x=El.bare y↔x.l.t.bare=y.l.t.bare∧x.fs=y.fs:=by
 unfold El.bare Lst.bare;simp
theorem zBK {x y:Da}:Da.bare x=Da.bare y↔x.l.t.bare=y.l.t.bare∧x.bs=y.bs:=by
 unfold Da.bare Lst.bare;simp
theorem zBJ (a1 a2:Option Addr) (l1 c1 l2 c2:Nat) (xs ys:List Int) (w:World) (hl1:xs.length=l1) (hl2:ys.length=l2) (hx:Bytes w a1 xs) (hy:Bytes w a2 ys) :
  Calls Tryz.prog 35 #[.slice a1 l1 c1,.slice a2 l2 c2] w fun e w'=>e=.returned (.bool (is (xs=ys)))∧Below w.heap.size w w' :=
 (zAU a1 a2 l1 c1 l2 c2 xs ys w hl1 hl2 hx hy).mono fun e w' ⟨he,hw⟩=>by
  subst hw;refine⟨?_,Below.refl _ _⟩;rw[he]
  by_cases h:xs=ys
  ·rw[ya h,decide_eq_true h]
  ·rw[zY h,decide_eq_false h]
theorem zAb {n₀:Nat} {w:World} {a:Option Addr} {zs:List Int} (h:BytesAt n₀ w a zs) (hz:∀z∈zs,0≤z∧z<256) (hl:zs.length≤140737488351232):Bytes w a zs:=by
 refine⟨hz,hl,?_⟩
 rcases h with h|⟨b,off,rfl,_,hc⟩
 ·exact .inl h
 ·exact .inr ⟨b,off,rfl,hc⟩
structure Even (a b:Md):Prop where
 tb:a.tb.length=b.tb.length
 me:a.me.length=b.me.length
 gl:a.gl.length=b.gl.length
 ex:a.ex.length=b.ex.length
 el:a.el.length=b.el.length
 da:a.da.length=b.da.length
structure jf (a b:Md):Prop where
 tb:a.tb=b.tb
 me:a.me=b.me
 gl:a.gl.map Gl.bare=b.gl.map Gl.bare
 ex:a.ex=b.ex
 el:a.el.map El.bare=b.el.map El.bare
 da:a.da.map Da.bare=b.da.map Da.bare
theorem zBt (a b:Md) (w:World) (ha:zN w.heap.size w a) (hb:zN w.heap.size w b) (fa:a.fits) (fb:b.fits) (za:∀d∈a.da,∀z∈d.bs,0≤z∧z<256) (zb:∀d∈b.da,∀z∈d.bs,0≤z∧z<256) (he:Even a b) :
  Calls Tryz.prog 78 #[.agg a.v,.agg b.v] w fun e w'=>e=.returned (.bool (is (jf a b)))∧Below w.heap.size w w':=by
 have hb0:=(Below.refl w.heap.size w).alloc (Nat.le_refl _) (.cells a.v 40);have hb1:=zC hb0 (.cells b.v 40);have HB:=hid hb1;have HA0:=hid (ha.on hb1);have HB0:=hid (hb.on hb1);have HXA:=hid ((zB.made w a.v 40).keep ((Below.refl _ _).alloc (Nat.le_refl _) (.cells b.v 40)));have HXB:=hid (zB.made (w.alloc (.cells a.v 40)) b.v 40);rw[World.size_alloc] at HXB;have FA:=hid fa;have FB:=hid fb;have ZA:=hid za;have ZB:=hid zb;have EV:=hid he;have FFtb:=hid (fun (h:¬a.tb=b.tb)=>zY (p:=jf a b) (fun e=>h e.tb));have FFme:=hid (fun (h:¬a.me=b.me)=>zY (p:=jf a b) (fun e=>h e.me));have FFgl:=hid (fun (h:¬(a.gl.map Gl.bare)=(b.gl.map Gl.bare))=>zY (p:=jf a b) (fun e=>h e.gl));have FFex:=hid (fun (h:¬a.ex=b.ex)=>zY (p:=jf a b) (fun e=>h e.ex));have FFel:=hid (fun (h:¬(a.el.map El.bare)=(b.el.map El.bare))=>zY (p:=jf a b) (fun e=>h e.el));have FFda:=hid (fun (h:¬(a.da.map Da.bare)=(b.da.map Da.bare))=>zY (p:=jf a b) (fun e=>h e.da));have YY:=hid (fun h1 h2 h3 h4 h5 h6=>ya (p:=jf a b) ⟨h1,h2,h3,h4,h5,h6⟩);obtain⟨r,hr⟩:∃r,is (jf a b)=r:=⟨_,rfl⟩;rw[hr];rw[hr] at YY FFtb FFme FFgl FFex FFel FFda;unfold Md.v at HB HA0 HB0 HXA HXB ⊢;clear ha hb fa fb za zb hb0 hb1 he hr
 go_enter Tryz.func78,Tryz.ntmps78
 go_wp2
 generalize (w.alloc (.cells #[.slice a.ty'.a a.ty.length a.ty'.c,.slice a.im'.a a.im.length a.im'.c,.slice a.fu'.a a.fu.length a.fu'.c,.slice a.tb'.a a.tb.length a.tb'.c,.slice a.me'.a a.me.length a.me'.c,.slice a.gl'.a a.gl.length a.gl'.c,.slice a.ex'.a a.ex.length a.ex'.c,.bool a.st,.int .u32 a.sn,.slice a.el'.a a.el.length a.el'.c,.slice a.da'.a a.da.length a.da'.c] 40)).alloc (.cells #[.slice b.ty'.a b.ty.length b.ty'.c,.slice b.im'.a b.im.length b.im'.c,.slice b.fu'.a b.fu.length b.fu'.c,.slice b.tb'.a b.tb.length b.tb'.c,.slice b.me'.a b.me.length b.me'.c,.slice b.gl'.a b.gl.length b.gl'.c,.slice b.ex'.a b.ex.length b.ex'.c,.bool b.st,.int .u32 b.sn,.slice b.el'.a b.el.length b.el'.c,.slice b.da'.a b.da.length b.da'.c] 40)=W0 at HB HA0 HB0 HXA HXB ⊢
 have HA:=HA0;obtain⟨ntb,hntb⟩:∃n,a.tb.length=n:=⟨_,rfl⟩;have LAtb:=hid hntb;have LBtb:=hid (show b.tb.length=ntb by rw[←EV.out.tb];exact hntb);have bntb:ntb≤140737488351232:=by have:=FA.out.tb;omega
 have XAtb:=hid (show W0.cell? ⟨w.heap.size,3,none⟩=some (.slice a.tb'.a ntb a.tb'.c) by rw[←hntb];exact HXA.out 3 _ rfl);have XBtb:=hid (show W0.cell? ⟨w.heap.size+1,3,none⟩=some (.slice b.tb'.a ntb b.tb'.c) by rw[←LBtb.out];exact HXB.out 3 _ rfl);have RAtb:=hid HA0.out.tb;have RBtb:=hid HB0.out.tb;clear hntb;obtain⟨nme,hnme⟩:∃n,a.me.length=n:=⟨_,rfl⟩;have LAme:=hid hnme;have LBme:=hid (show b.me.length=nme by rw[←EV.out.me];exact hnme);have bnme:nme≤140737488351232:=by have:=FA.out.me;omega
 have XAme:=hid (show W0.cell? ⟨w.heap.size,4,none⟩=some (.slice a.me'.a nme a.me'.c) by rw[←hnme];exact HXA.out 4 _ rfl);have XBme:=hid (show W0.cell? ⟨w.heap.size+1,4,none⟩=some (.slice b.me'.a nme b.me'.c) by rw[←LBme.out];exact HXB.out 4 _ rfl);have RAme:=hid HA0.out.me;have RBme:=hid HB0.out.me;clear hnme;obtain⟨ngl,hngl⟩:∃n,a.gl.length=n:=⟨_,rfl⟩;have LAgl:=hid hngl;have LBgl:=hid (show b.gl.length=ngl by rw[←EV.out.gl];exact hngl);have bngl:ngl≤140737488351232:=by have:=FA.out.gl;omega
 have XAgl:=hid (show W0.cell? ⟨w.heap.size,5,none⟩=some (.slice a.gl'.a ngl a.gl'.c) by rw[←hngl];exact HXA.out 5 _ rfl);have XBgl:=hid (show W0.cell? ⟨w.heap.size+1,5,none⟩=some (.slice b.gl'.a ngl b.gl'.c) by rw[←LBgl.out];exact HXB.out 5 _ rfl);have RAgl:=hid HA0.out.gl;have RBgl:=hid HB0.out.gl;clear hngl;obtain⟨nex,hnex⟩:∃n,a.ex.length=n:=⟨_,rfl⟩;have LAex:=hid hnex;have LBex:=hid (show b.ex.length=nex by rw[←EV.out.ex];exact hnex);have bnex:nex≤140737488351232:=by have:=FA.out.ex;omega
 have XAex:=hid (show W0.cell? ⟨w.heap.size,6,none⟩=some (.slice a.ex'.a nex a.ex'.c) by rw[←hnex];exact HXA.out 6 _ rfl);have XBex:=hid (show W0.cell? ⟨w.heap.size+1,6,none⟩=some (.slice b.ex'.a nex b.ex'.c) by rw[←LBex.out];exact HXB.out 6 _ rfl);have RAex:=hid HA0.out.ex;have RBex:=hid HB0.out.ex;clear hnex;obtain⟨nel,hnel⟩:∃n,a.el.length=n:=⟨_,rfl⟩;have LAel:=hid hnel;have LBel:=hid (show b.el.length=nel by rw[←EV.out.el];exact hnel);have bnel:nel≤140737488351232:=by have:=FA.out.el;omega
 have XAel:=hid (show W0.cell? ⟨w.heap.size,9,none⟩=some (.slice a.el'.a nel a.el'.c) by rw[←hnel];exact HXA.out 9 _ rfl);have XBel:=hid (show W0.cell? ⟨w.heap.size+1,9,none⟩=some (.slice b.el'.a nel b.el'.c) by rw[←LBel.out];exact HXB.out 9 _ rfl);have RAel:=hid HA0.out.el;have RBel:=hid HB0.out.el;clear hnel;obtain⟨nda,hnda⟩:∃n,a.da.length=n:=⟨_,rfl⟩;have LAda:=hid hnda;have LBda:=hid (show b.da.length=nda by rw[←EV.out.da];exact hnda);have bnda:nda≤140737488351232:=by have:=FA.out.da;omega
 have XAda:=hid (show W0.cell? ⟨w.heap.size,10,none⟩=some (.slice a.da'.a nda a.da'.c) by rw[←hnda];exact HXA.out 10 _ rfl);have XBda:=hid (show W0.cell? ⟨w.heap.size+1,10,none⟩=some (.slice b.da'.a nda b.da'.c) by rw[←LBda.out];exact HXB.out 10 _ rfl);have RAda:=hid HA0.out.da;have RBda:=hid HB0.out.da;clear hnda;clear HXA HXB EV HA0
 go_loopw [5] (fun vi wr=>∃k:Nat,vi=.int .i64 k∧k≤ntb∧Hid (∀j (h1:j<a.tb.length) (h2:j<b.tb.length),j<k→a.tb[j]=b.tb[j])∧Hid (Below W0.heap.size W0 wr)) (fun vi _=>ntb-(intOf vi).toNat)
 case atStart=>exact⟨0,rfl,Nat.zero_le _,jX _ _,Below.refl _ _⟩
 case round =>
  obtain⟨k,rfl,hk,HQ,HW⟩:=hrel;have hba:=kP HW.out XAtb.out;have hbb:=kP HW.out XBtb.out
  by_cases hlt:k<ntb
  ·have hka:k<a.tb.length:=by rw[LAtb.out];exact hlt
   have hkb:k<b.tb.length:=by rw[LBtb.out];exact hlt
   obtain⟨b1,o1,ha1,hl1,hc1⟩:=Mod.Rows.get RAtb.out hka;obtain⟨b2,o2,ha2,hl2,hc2⟩:=Mod.Rows.get RBtb.out hkb;rw[ha1] at hba;rw[ha2] at hbb;have HS:=hid (fun (h:a.tb[k]=b.tb[k])=>ja hka hkb HQ.out h);have HF:=hid (fun (h:¬a.tb[k]=b.tb[k])=>FFtb.out (fun e=>h (YD e hka hkb)));obtain⟨x,hxe⟩:∃x,a.tb[k]=x:=⟨_,rfl⟩;obtain⟨y,hye⟩:∃y,b.tb[k]=y:=⟨_,rfl⟩;rw[hxe] at hc1 HS HF;rw[hye] at hc2 HS HF;have c0:wr.cell? ⟨b1,o1+k*3,none⟩=some (.int .u32 x.n):=(HW.out.cell (p:=⟨b1,o1+k*3+0,none⟩) hl1).trans (hc1 0 (by omega) _ rfl);have c1:wr.cell? ⟨b1,o1+k*3+1,none⟩=some (.int .u32 x.x):=(HW.out.cell (p:=⟨b1,o1+k*3+1,none⟩) hl1).trans (hc1 1 (by omega) _ rfl);have c2:wr.cell? ⟨b1,o1+k*3+2,none⟩=some (.bool x.c):=(HW.out.cell (p:=⟨b1,o1+k*3+2,none⟩) hl1).trans (hc1 2 (by omega) _ rfl);have d0:wr.cell? ⟨b2,o2+k*3,none⟩=some (.int .u32 y.n):=(HW.out.cell (p:=⟨b2,o2+k*3+0,none⟩) hl2).trans (hc2 0 (by omega) _ rfl);have d1:wr.cell? ⟨b2,o2+k*3+1,none⟩=some (.int .u32 y.x):=(HW.out.cell (p:=⟨b2,o2+k*3+1,none⟩) hl2).trans (hc2 1 (by omega) _ rfl);have d2:wr.cell? ⟨b2,o2+k*3+2,none⟩=some (.bool y.c):=(HW.out.cell (p:=⟨b2,o2+k*3+2,none⟩) hl2).trans (hc2 2 (by omega) _ rfl);have hki:(k:Int)<(ntb:Int):=by omega
   have hsz:=HW.out.size;have e1:b1<wr.heap.size:=by omega
   have e2:b2<wr.heap.size:=by omega
   clear hc1 hc2 hl1 hl2 ha1 ha2 hxe hye hka hkb hsz HQ;have q1:=Kind.zGw;have q2:=Kind.zAB
   by_cases hxy:x=y
   ·subst hxy
    have HE:=hid (HS.out rfl);clear HS HF;go_wp2
    go_quiet (fail)
    go_wp2
    go_roundw
    case rel=>exact⟨k+1,by go_num,by omega,HE,jy HW.out _⟩
    case measure=>simp[intOf];omega
   ·have HE:=hid (HF.out hxy)
    have q3:(x.n==y.n&&x.x==y.x&&x.c==y.c)=false:=zH7 hxy;clear HS HF hxy;go_wp2
    go_quiet (fail)
    go_wp2;go_ret;exact⟨zA HE.out.symm,HB.out.trans ((jy HW.out _).mono HB.out.size)⟩
  ·obtain rfl:k=ntb:=by omega
   have HBL:=HW;have EQtb:=hid (jb (n:=k) LAtb.out LBtb.out HQ.out);clear HQ HW hlt hk;go_wp2;clear hba hbb
   go_loopw [6] (fun vi wr=>∃k:Nat,vi=.int .i64 k∧k≤nme∧Hid (∀j (h1:j<a.me.length) (h2:j<b.me.length),j<k→a.me[j]=b.me[j])∧Hid (Below W0.heap.size W0 wr)) (fun vi _=>nme-(intOf vi).toNat)
   case atStart=>exact⟨0,rfl,Nat.zero_le _,jX _ _,HBL⟩
   case round =>
    clear HBL;obtain⟨k,rfl,hk,HQ,HW⟩:=hrel;have hba:=kP HW.out XAme.out;have hbb:=kP HW.out XBme.out
    by_cases hlt:k<nme
    ·have hka:k<a.me.length:=by rw[LAme.out];exact hlt
     have hkb:k<b.me.length:=by rw[LBme.out];exact hlt
     obtain⟨b1,o1,ha1,hl1,hc1⟩:=Mod.Rows.get RAme.out hka;obtain⟨b2,o2,ha2,hl2,hc2⟩:=Mod.Rows.get RBme.out hkb;rw[ha1] at hba;rw[ha2] at hbb;have HS:=hid (fun (h:a.me[k]=b.me[k])=>ja hka hkb HQ.out h);have HF:=hid (fun (h:¬a.me[k]=b.me[k])=>FFme.out (fun e=>h (YD e hka hkb)));obtain⟨x,hxe⟩:∃x,a.me[k]=x:=⟨_,rfl⟩;obtain⟨y,hye⟩:∃y,b.me[k]=y:=⟨_,rfl⟩;rw[hxe] at hc1 HS HF;rw[hye] at hc2 HS HF;have c0:wr.cell? ⟨b1,o1+k*3,none⟩=some (.int .u32 x.n):=(HW.out.cell (p:=⟨b1,o1+k*3+0,none⟩) hl1).trans (hc1 0 (by omega) _ rfl);have c1:wr.cell? ⟨b1,o1+k*3+1,none⟩=some (.int .u32 x.x):=(HW.out.cell (p:=⟨b1,o1+k*3+1,none⟩) hl1).trans (hc1 1 (by omega) _ rfl);have c2:wr.cell? ⟨b1,o1+k*3+2,none⟩=some (.bool x.c):=(HW.out.cell (p:=⟨b1,o1+k*3+2,none⟩) hl1).trans (hc1 2 (by omega) _ rfl);have d0:wr.cell? ⟨b2,o2+k*3,none⟩=some (.int .u32 y.n):=(HW.out.cell (p:=⟨b2,o2+k*3+0,none⟩) hl2).trans (hc2 0 (by omega) _ rfl);have d1:wr.cell? ⟨b2,o2+k*3+1,none⟩=some (.int .u32 y.x):=(HW.out.cell (p:=⟨b2,o2+k*3+1,none⟩) hl2).trans (hc2 1 (by omega) _ rfl);have d2:wr.cell? ⟨b2,o2+k*3+2,none⟩=some (.bool y.c):=(HW.out.cell (p:=⟨b2,o2+k*3+2,none⟩) hl2).trans (hc2 2 (by omega) _ rfl);have hki:(k:Int)<(nme:Int):=by omega
     have hsz:=HW.out.size;have e1:b1<wr.heap.size:=by omega
     have e2:b2<wr.heap.size:=by omega
     clear hc1 hc2 hl1 hl2 ha1 ha2 hxe hye hka hkb hsz HQ;have q1:=Kind.zGw;have q2:=Kind.zAB
     by_cases hxy:x=y
     ·subst hxy
      have HE:=hid (HS.out rfl);clear HS HF;go_wp2
      go_quiet (fail)
      go_wp2
      go_roundw
      case rel=>exact⟨k+1,by go_num,by omega,HE,jy HW.out _⟩
      case measure=>simp[intOf];omega
     ·have HE:=hid (HF.out hxy)
      have q3:(x.n==y.n&&x.x==y.x&&x.c==y.c)=false:=zH7 hxy;clear HS HF hxy;go_wp2
      go_quiet (fail)
      go_wp2;go_ret;exact⟨zA HE.out.symm,HB.out.trans ((jy HW.out _).mono HB.out.size)⟩
    ·obtain rfl:k=nme:=by omega
     have HBL:=HW;have EQme:=hid (jb (n:=k) LAme.out LBme.out HQ.out);clear HQ HW hlt hk;go_wp2;clear hba hbb
     go_loopw [7] (fun vi wr=>∃k:Nat,vi=.int .i64 k∧k≤ngl∧Hid (∀j (h1:j<(a.gl.map Gl.bare).length) (h2:j<(b.gl.map Gl.bare).length),j<k→(a.gl.map Gl.bare)[j]=(b.gl.map Gl.bare)[j])∧Hid (Below W0.heap.size W0 wr)) (fun vi _=>ngl-(intOf vi).toNat)
     case atStart=>exact⟨0,rfl,Nat.zero_le _,jX _ _,HBL⟩
     case round =>
      clear HBL;obtain⟨k,rfl,hk,HQ,HW⟩:=hrel;have hba:=kP HW.out XAgl.out;have hbb:=kP HW.out XBgl.out
      by_cases hlt:k<ngl
      ·have hka:k<a.gl.length:=by rw[LAgl.out];exact hlt
       have hkb:k<b.gl.length:=by rw[LBgl.out];exact hlt
       obtain⟨b1,o1,ha1,hl1,hc1⟩:=Mod.Rows.get RAgl.out hka;obtain⟨b2,o2,ha2,hl2,hc2⟩:=Mod.Rows.get RBgl.out hkb;rw[ha1] at hba;rw[ha2] at hbb;have hma:(a.gl.map Gl.bare).length=a.gl.length:=List.length_map ..;have hmb:(b.gl.map Gl.bare).length=b.gl.length:=List.length_map ..;have HS:=hid (fun (h:Gl.bare a.gl[k]=Gl.bare b.gl[k])=>ja (by rw[hma];exact hka) (by rw[hmb];exact hkb) HQ.out (show (a.gl.map Gl.bare)[k]'(by rw[hma];exact hka)=(b.gl.map Gl.bare)[k]'(by rw[hmb];exact hkb) by rw[List.getElem_map,List.getElem_map];exact h));have HF:=hid (fun (h:¬Gl.bare a.gl[k]=Gl.bare b.gl[k])=>FFgl.out (fun e=>h (zBE e hka hkb)));have hx1:a.gl[k]∈a.gl:=List.getElem_mem hka;have hL1:=HA.out.ls _ (JX hx1);have hN1:=FA.out.ls _ (JX hx1);have hx2:b.gl[k]∈b.gl:=List.getElem_mem hkb;have hL2:=HB0.out.ls _ (JX hx2);have hN2:=FB.out.ls _ (JX hx2);obtain⟨x,hxe⟩:∃x,a.gl[k]=x:=⟨_,rfl⟩;obtain⟨y,hye⟩:∃y,b.gl[k]=y:=⟨_,rfl⟩;rw[hxe] at hc1 HS HF hL1 hN1;rw[hye] at hc2 HS HF hL2 hN2;have c0:wr.cell? ⟨b1,o1+k*2,none⟩=some (.bool x.mu):=(HW.out.cell (p:=⟨b1,o1+k*2+0,none⟩) hl1).trans (hc1 0 (by omega) _ rfl);have c1:wr.cell? ⟨b1,o1+k*2+1,none⟩=some (.slice x.l.a x.l.t.len x.l.c):=(HW.out.cell (p:=⟨b1,o1+k*2+1,none⟩) hl1).trans (hc1 1 (by omega) _ rfl);have d0:wr.cell? ⟨b2,o2+k*2,none⟩=some (.bool y.mu):=(HW.out.cell (p:=⟨b2,o2+k*2+0,none⟩) hl2).trans (hc2 0 (by omega) _ rfl);have d1:wr.cell? ⟨b2,o2+k*2+1,none⟩=some (.slice y.l.a y.l.t.len y.l.c):=(HW.out.cell (p:=⟨b2,o2+k*2+1,none⟩) hl2).trans (hc2 1 (by omega) _ rfl);have hki:(k:Int)<(ngl:Int):=by omega
       have hsz:=HW.out.size;have e1:b1<wr.heap.size:=by omega
       have e2:b2<wr.heap.size:=by omega
       have K1:=hid (fun (W:World) (hb:Below wr.heap.size wr W)=>qY W0.heap.size (max x.l.t.count y.l.t.count) x.l.t y.l.t x.l.a y.l.a x.l.t.len y.l.t.len x.l.c y.l.c W (by omega) (by omega) (hL1.below (HW.out.trans (hb.mono HW.out.size))) (hL2.below (HW.out.trans (hb.mono HW.out.size))) (Nat.le_trans HW.out.size hb.size) hN1 hN2);clear hc1 hc2 hl1 hl2 ha1 ha2 hxe hye hka hkb hma hmb hsz HQ hx1 hx2 hL1 hN1 hL2 hN2;have hd:=(Below.refl wr.heap.size wr).drew;obtain⟨s1,hs1⟩:∃s,x.mu=s:=⟨_,rfl⟩;obtain⟨s2,hs2⟩:∃s,y.mu=s:=⟨_,rfl⟩;rw[hs1] at c0;rw[hs2] at d0;have HP:=hid (fun (g:s1=s2)=>show x.mu=y.mu by rw[hs1,hs2];exact g);have HPN:=hid (fun (g:¬s1=s2)=>show ¬x.mu=y.mu by rw[hs1,hs2];exact g);clear hs1 hs2
       by_cases g1:s1=s2
       rotate_left
       ·have HE:=hid (HF.out (fun h=>HPN.out g1 ((zBX.1 h).1)))
        have q1:(s1==s2)=false:=beq_eq_false_iff_ne.2 g1;have q2:(s1 != s2)=true:=bne_iff_ne.2 g1;clear K1 HS HF HP HPN;go_wp2
        go_region
        all_goals
         go_wp2;go_ret;exact⟨zA HE.out.symm,HB.out.trans ((HW.out.trans (hd.mono HW.out.size)).mono HB.out.size)⟩
       have P1:=hid (HP.out g1);clear HP HPN;subst g1;have hS0:Below wr.heap.size wr wr.drew∧wr.drew.cell? ⟨w.heap.size,5,none⟩=some (.slice (some ⟨b1,o1,none⟩) ngl a.gl'.c)∧wr.drew.cell? ⟨w.heap.size+1,5,none⟩=some (.slice (some ⟨b2,o2,none⟩) ngl b.gl'.c)∧wr.drew.cell? ⟨b1,o1+k*2,none⟩=some (.bool s1)∧wr.drew.cell? ⟨b1,o1+k*2+1,none⟩=some (.slice x.l.a x.l.t.len x.l.c)∧wr.drew.cell? ⟨b2,o2+k*2,none⟩=some (.bool s1)∧wr.drew.cell? ⟨b2,o2+k*2+1,none⟩=some (.slice y.l.a y.l.t.len y.l.c):=⟨hd,hba,hbb,c0,c1,d0,d1⟩
       by_cases g2:x.l.t.bare=y.l.t.bare
       ·have K2:=hid (fun (W:World) (hb:Below wr.heap.size wr W)=>K1.out W hb)
        rw[ya g2] at K2;have HE:=hid (HS.out (zBX.2 ⟨P1.out,g2⟩));clear K1 HS HF P1 g2;go_wp2
        (first|go_loud (go_region_held3 (fun w'=>Below wr.heap.size wr w'∧w'.cell? ⟨w.heap.size,5,none⟩=some (.slice (some ⟨b1,o1,none⟩) ngl a.gl'.c)∧w'.cell? ⟨w.heap.size+1,5,none⟩=some (.slice (some ⟨b2,o2,none⟩) ngl b.gl'.c)∧w'.cell? ⟨b1,o1+k*2,none⟩=some (.bool s1)∧w'.cell? ⟨b1,o1+k*2+1,none⟩=some (.slice x.l.a x.l.t.len x.l.c)∧w'.cell? ⟨b2,o2+k*2,none⟩=some (.bool s1)∧w'.cell? ⟨b2,o2+k*2+1,none⟩=some (.slice y.l.a y.l.t.len y.l.c))
            (first|assumption|exact jg (by assumption) (by assumption))
            (first|(go_at_call 139;(with_reducible refine (K2.out _ (zq (by assumption))).mono ?_);rintro e9 w9 ⟨rfl,hb9⟩)))|fail)
        have HW9:=hid (HW.out.trans ((zq (by assumption)).mono HW.out.size));go_wp2
        go_roundw
        case rel=>exact⟨k+1,by go_num,by omega,HE,HW9⟩
        case measure=>simp[intOf];omega
       ·have K2:=hid (fun (W:World) (hb:Below wr.heap.size wr W)=>K1.out W hb)
        rw[zY g2] at K2;have HE:=hid (HF.out (fun h=>g2 (zBX.1 h).2));clear K1 HS HF P1 g2;go_wp2
        (first|go_loud (go_region_held3 (fun w'=>Below wr.heap.size wr w'∧w'.cell? ⟨w.heap.size,5,none⟩=some (.slice (some ⟨b1,o1,none⟩) ngl a.gl'.c)∧w'.cell? ⟨w.heap.size+1,5,none⟩=some (.slice (some ⟨b2,o2,none⟩) ngl b.gl'.c)∧w'.cell? ⟨b1,o1+k*2,none⟩=some (.bool s1)∧w'.cell? ⟨b1,o1+k*2+1,none⟩=some (.slice x.l.a x.l.t.len x.l.c)∧w'.cell? ⟨b2,o2+k*2,none⟩=some (.bool s1)∧w'.cell? ⟨b2,o2+k*2+1,none⟩=some (.slice y.l.a y.l.t.len y.l.c))
            (first|assumption|exact jg (by assumption) (by assumption))
            (first|(go_at_call 139;(with_reducible refine (K2.out _ (zq (by assumption))).mono ?_);rintro e9 w9 ⟨rfl,hb9⟩)))|fail)
        have HW9:=hid (HW.out.trans ((zq (by assumption)).mono HW.out.size));go_wp2;go_ret;exact⟨zA HE.out.symm,HB.out.trans (HW9.out.mono HB.out.size)⟩
      ·obtain rfl:k=ngl:=by omega
       have HBL:=HW;have EQgl:=hid (jb (n:=k) (by rw[List.length_map];exact LAgl.out) (by rw[List.length_map];exact LBgl.out) HQ.out);clear HQ HW hlt hk;go_wp2;clear hba hbb
       go_loopw [8] (fun vi wr=>∃k:Nat,vi=.int .i64 k∧k≤nex∧Hid (∀j (h1:j<a.ex.length) (h2:j<b.ex.length),j<k→a.ex[j]=b.ex[j])∧Hid (Below W0.heap.size W0 wr)) (fun vi _=>nex-(intOf vi).toNat)
       case atStart=>exact⟨0,rfl,Nat.zero_le _,jX _ _,HBL⟩
       case round =>
        clear HBL;obtain⟨k,rfl,hk,HQ,HW⟩:=hrel;have hba:=kP HW.out XAex.out;have hbb:=kP HW.out XBex.out
        by_cases hlt:k<nex
        ·have hka:k<a.ex.length:=by rw[LAex.out];exact hlt
         have hkb:k<b.ex.length:=by rw[LBex.out];exact hlt
         obtain⟨b1,o1,ha1,hl1,hc1⟩:=Mod.Rows.get RAex.out hka;obtain⟨b2,o2,ha2,hl2,hc2⟩:=Mod.Rows.get RBex.out hkb;rw[ha1] at hba;rw[ha2] at hbb;have HS:=hid (fun (h:a.ex[k]=b.ex[k])=>ja hka hkb HQ.out h);have HF:=hid (fun (h:¬a.ex[k]=b.ex[k])=>FFex.out (fun e=>h (YD e hka hkb)));obtain⟨x,hxe⟩:∃x,a.ex[k]=x:=⟨_,rfl⟩;obtain⟨y,hye⟩:∃y,b.ex[k]=y:=⟨_,rfl⟩;rw[hxe] at hc1 HS HF;rw[hye] at hc2 HS HF;have c0:wr.cell? ⟨b1,o1+k*3,none⟩=some (.string x.na):=(HW.out.cell (p:=⟨b1,o1+k*3+0,none⟩) hl1).trans (hc1 0 (by omega) _ rfl);have c1:wr.cell? ⟨b1,o1+k*3+1,none⟩=some (.int .i64 x.k):=(HW.out.cell (p:=⟨b1,o1+k*3+1,none⟩) hl1).trans (hc1 1 (by omega) _ rfl);have c2:wr.cell? ⟨b1,o1+k*3+2,none⟩=some (.int .u32 x.i):=(HW.out.cell (p:=⟨b1,o1+k*3+2,none⟩) hl1).trans (hc1 2 (by omega) _ rfl);have d0:wr.cell? ⟨b2,o2+k*3,none⟩=some (.string y.na):=(HW.out.cell (p:=⟨b2,o2+k*3+0,none⟩) hl2).trans (hc2 0 (by omega) _ rfl);have d1:wr.cell? ⟨b2,o2+k*3+1,none⟩=some (.int .i64 y.k):=(HW.out.cell (p:=⟨b2,o2+k*3+1,none⟩) hl2).trans (hc2 1 (by omega) _ rfl);have d2:wr.cell? ⟨b2,o2+k*3+2,none⟩=some (.int .u32 y.i):=(HW.out.cell (p:=⟨b2,o2+k*3+2,none⟩) hl2).trans (hc2 2 (by omega) _ rfl);have hki:(k:Int)<(nex:Int):=by omega
         have hsz:=HW.out.size;have e1:b1<wr.heap.size:=by omega
         have e2:b2<wr.heap.size:=by omega
         clear hc1 hc2 hl1 hl2 ha1 ha2 hxe hye hka hkb hsz HQ;have q1:=zJm;have q2:=zGV
         by_cases hxy:x=y
         ·subst hxy
          have HE:=hid (HS.out rfl);clear HS HF;go_wp2
          go_quiet (fail)
          go_wp2
          go_roundw
          case rel=>exact⟨k+1,by go_num,by omega,HE,jy HW.out _⟩
          case measure=>simp[intOf];omega
         ·have HE:=hid (HF.out hxy)
          have q3:(x.na.toList==y.na.toList&&x.k==y.k&&x.i==y.i)=false:=zJX hxy;clear HS HF hxy;go_wp2
          go_quiet (fail)
          go_wp2;go_ret;exact⟨zA HE.out.symm,HB.out.trans ((jy HW.out _).mono HB.out.size)⟩
        ·obtain rfl:k=nex:=by omega
         have HBL:=HW;have EQex:=hid (jb (n:=k) LAex.out LBex.out HQ.out);clear HQ HW hlt hk;go_wp2;clear hba hbb
         go_loopw [9] (fun vi wr=>∃k:Nat,vi=.int .i64 k∧k≤nel∧Hid (∀j (h1:j<(a.el.map El.bare).length) (h2:j<(b.el.map El.bare).length),j<k→(a.el.map El.bare)[j]=(b.el.map El.bare)[j])∧Hid (Below W0.heap.size W0 wr)) (fun vi _=>nel-(intOf vi).toNat)
         case atStart=>exact⟨0,rfl,Nat.zero_le _,jX _ _,HBL⟩
         case round =>
          clear HBL;obtain⟨k,rfl,hk,HQ,HW⟩:=hrel;have hba:=kP HW.out XAel.out;have hbb:=kP HW.out XBel.out
          by_cases hlt:k<nel
          ·have hka:k<a.el.length:=by rw[LAel.out];exact hlt
           have hkb:k<b.el.length:=by rw[LBel.out];exact hlt
           obtain⟨b1,o1,ha1,hl1,hc1⟩:=Mod.Rows.get RAel.out hka;obtain⟨b2,o2,ha2,hl2,hc2⟩:=Mod.Rows.get RBel.out hkb;rw[ha1] at hba;rw[ha2] at hbb;have hma:(a.el.map El.bare).length=a.el.length:=List.length_map ..;have hmb:(b.el.map El.bare).length=b.el.length:=List.length_map ..;have HS:=hid (fun (h:El.bare a.el[k]=El.bare b.el[k])=>ja (by rw[hma];exact hka) (by rw[hmb];exact hkb) HQ.out (show (a.el.map El.bare)[k]'(by rw[hma];exact hka)=(b.el.map El.bare)[k]'(by rw[hmb];exact hkb) by rw[List.getElem_map,List.getElem_map];exact h));have HF:=hid (fun (h:¬El.bare a.el[k]=El.bare b.el[k])=>FFel.out (fun e=>h (zBE e hka hkb)));have hx1:a.el[k]∈a.el:=List.getElem_mem hka;have hL1:=HA.out.ls _ (JZ hx1);have hN1:=FA.out.ls _ (JZ hx1);have hT1:=HA.out.fs _ hx1;have hM1:=FA.out.fs _ hx1;have hx2:b.el[k]∈b.el:=List.getElem_mem hkb;have hL2:=HB0.out.ls _ (JZ hx2);have hN2:=FB.out.ls _ (JZ hx2);have hT2:=HB0.out.fs _ hx2;have hM2:=FB.out.fs _ hx2;obtain⟨x,hxe⟩:∃x,a.el[k]=x:=⟨_,rfl⟩;obtain⟨y,hye⟩:∃y,b.el[k]=y:=⟨_,rfl⟩;rw[hxe] at hc1 HS HF hL1 hN1 hT1 hM1;rw[hye] at hc2 HS HF hL2 hN2 hT2 hM2;have c0:wr.cell? ⟨b1,o1+k*2,none⟩=some (.slice x.l.a x.l.t.len x.l.c):=(HW.out.cell (p:=⟨b1,o1+k*2+0,none⟩) hl1).trans (hc1 0 (by omega) _ rfl);have c1:wr.cell? ⟨b1,o1+k*2+1,none⟩=some (.slice x.fa x.fs.length x.fc):=(HW.out.cell (p:=⟨b1,o1+k*2+1,none⟩) hl1).trans (hc1 1 (by omega) _ rfl);have d0:wr.cell? ⟨b2,o2+k*2,none⟩=some (.slice y.l.a y.l.t.len y.l.c):=(HW.out.cell (p:=⟨b2,o2+k*2+0,none⟩) hl2).trans (hc2 0 (by omega) _ rfl);have d1:wr.cell? ⟨b2,o2+k*2+1,none⟩=some (.slice y.fa y.fs.length y.fc):=(HW.out.cell (p:=⟨b2,o2+k*2+1,none⟩) hl2).trans (hc2 1 (by omega) _ rfl);have hki:(k:Int)<(nel:Int):=by omega
           have hsz:=HW.out.size;have e1:b1<wr.heap.size:=by omega
           have e2:b2<wr.heap.size:=by omega
           have K0:=hid (fun (W:World) (hb:Below wr.heap.size wr W)=>qY W0.heap.size (max x.l.t.count y.l.t.count) x.l.t y.l.t x.l.a y.l.a x.l.t.len y.l.t.len x.l.c y.l.c W (by omega) (by omega) (hL1.below (HW.out.trans (hb.mono HW.out.size))) (hL2.below (HW.out.trans (hb.mono HW.out.size))) (Nat.le_trans HW.out.size hb.size) hN1 hN2);have K1:=hid (fun (W:World) (hb:Below wr.heap.size wr W)=>Zb x.fa y.fa x.fs.length y.fs.length x.fc y.fc W0.heap.size x.fs y.fs W rfl rfl (hT1.below (HW.out.trans (hb.mono HW.out.size))) (hT2.below (HW.out.trans (hb.mono HW.out.size))) (Nat.le_trans HW.out.size hb.size) hM1 hM2);clear hc1 hc2 hl1 hl2 ha1 ha2 hxe hye hka hkb hma hmb hsz HQ hx1 hx2 hL1 hN1 hT1 hM1 hL2 hN2 hT2 hM2;have hd:=(Below.refl wr.heap.size wr).drew;have hS0:Below wr.heap.size wr wr.drew∧wr.drew.cell? ⟨w.heap.size,9,none⟩=some (.slice (some ⟨b1,o1,none⟩) nel a.el'.c)∧wr.drew.cell? ⟨w.heap.size+1,9,none⟩=some (.slice (some ⟨b2,o2,none⟩) nel b.el'.c)∧wr.drew.cell? ⟨b1,o1+k*2,none⟩=some (.slice x.l.a x.l.t.len x.l.c)∧wr.drew.cell? ⟨b1,o1+k*2+1,none⟩=some (.slice x.fa x.fs.length x.fc)∧wr.drew.cell? ⟨b2,o2+k*2,none⟩=some (.slice y.l.a y.l.t.len y.l.c)∧wr.drew.cell? ⟨b2,o2+k*2+1,none⟩=some (.slice y.fa y.fs.length y.fc):=⟨hd,hba,hbb,c0,c1,d0,d1⟩
           by_cases g1:x.l.t.bare=y.l.t.bare
           rotate_left
           ·have C1:=hid (fun (W:World) (hb:Below wr.heap.size wr W)=>K0.out W hb)
            have HE:=hid (HF.out (fun h=>g1 (zBe.1 h).1));rw[zY g1] at C1;clear K0 K1 HS HF g1;go_wp2;refine wp_region_noPanic ?_;refine wp_region_held_drew (S:=(fun w'=>Below wr.heap.size wr w'∧w'.cell? ⟨w.heap.size,9,none⟩=some (.slice (some ⟨b1,o1,none⟩) nel a.el'.c)∧w'.cell? ⟨w.heap.size+1,9,none⟩=some (.slice (some ⟨b2,o2,none⟩) nel b.el'.c)∧w'.cell? ⟨b1,o1+k*2,none⟩=some (.slice x.l.a x.l.t.len x.l.c)∧w'.cell? ⟨b1,o1+k*2+1,none⟩=some (.slice x.fa x.fs.length x.fc)∧w'.cell? ⟨b2,o2+k*2,none⟩=some (.slice y.l.a y.l.t.len y.l.c)∧w'.cell? ⟨b2,o2+k*2+1,none⟩=some (.slice y.fa y.fs.length y.fc))) (by kernel_rfl) hS0 (fun hHeld=>?_);refine wpAnyH_take (i:=0) (oi:=_) (v:=?_) rfl (by kernel_rfl) (by kernel_rfl) (by kernel_rfl) (fun _ _ _ h=>h) (Or.inl ⟨by kernel_rfl,?_⟩) hHeld ?_
            rotate_left
            ·intro w9 hSw;(try dsimp only at hSw);go_simp;(first|done|with_reducible rfl)
            try simp only[Act.put,List.getElem_toArray,List.getElem_cons_zero,List.setIfInBounds_toArray,List.set_cons_zero,List.set_cons_succ]
            refine wpAnyH_take (i:=1) (oi:=_) (v:=?_) rfl (by kernel_rfl) (by kernel_rfl) (by kernel_rfl) (fun _ _ _ h=>h) (Or.inl ⟨by kernel_rfl,?_⟩) hHeld ?_
            rotate_left
            ·intro w9 hSw;(try dsimp only at hSw);go_simp;(first|done|with_reducible rfl)
            try simp only[Act.put,qA,qB,qC,qD,qE,qF]
            refine wpAnyH_take (i:=2) (oi:=_) (v:=?_) rfl (by kernel_rfl) (by kernel_rfl) (by kernel_rfl) (fun _ _ _ h=>h) (Or.inl ⟨by kernel_rfl,?_⟩) hHeld ?_
            rotate_left
            ·intro w9 hSw;(try dsimp only at hSw);go_simp;(first|done|with_reducible rfl)
            try simp only[Act.put,qA,qB,qC,qD,qE,qF]
            refine wpAnyH_take (i:=3) (oi:=_) (v:=?_) rfl (by kernel_rfl) (by kernel_rfl) (by kernel_rfl) (fun _ _ _ h=>h) (Or.inl ⟨by kernel_rfl,?_⟩) hHeld ?_
            rotate_left
            ·intro w9 hSw;(try dsimp only at hSw);go_simp;(first|done|with_reducible rfl)
            try simp only[Act.put,qA,qB,qC,qD,qE,qF]
            refine wpAnyH_take (i:=4) (oi:=_) (v:=?_) rfl (by kernel_rfl) (by kernel_rfl) (by kernel_rfl) (fun _ _ _ h=>h) (Or.inl ⟨by kernel_rfl,?_⟩) hHeld ?_
            rotate_left
            ·intro w9 hSw;(try dsimp only at hSw);go_simp;(first|done|with_reducible rfl)
            try simp only[Act.put,qA,qB,qC,qD,qE,qF]
            refine wpAnyH_take (i:=5) (oi:=_) (v:=?_) rfl (by kernel_rfl) (by kernel_rfl) (by kernel_rfl) (fun _ _ _ h=>h) (Or.inl ⟨by kernel_rfl,?_⟩) hHeld ?_
            rotate_left
            ·intro w9 hSw;(try dsimp only at hSw);go_simp;(first|done|with_reducible rfl)
            try simp only[Act.put,qA,qB,qC,qD,qE,qF]
            refine wpAnyH_take (i:=6) (oi:=_) (v:=?_) rfl (by kernel_rfl) (by kernel_rfl) (by kernel_rfl) (fun _ _ _ h=>h) (Or.inl ⟨by kernel_rfl,?_⟩) hHeld ?_
            rotate_left
            ·intro w9 hSw;(try dsimp only at hSw);go_simp;(first|done|with_reducible rfl)
            try simp only[Act.put,qA,qB,qC,qD,qE,qF]
            refine wpAnyH_take (i:=7) (oi:=_) (v:=?_) rfl (by kernel_rfl) (by kernel_rfl) (by kernel_rfl) (fun _ _ _ h=>h) (Or.inl ⟨by kernel_rfl,?_⟩) hHeld ?_
            rotate_left
            ·intro w9 hSw;(try dsimp only at hSw);go_simp;(first|done|with_reducible rfl)
            try simp only[Act.put,qA,qB,qC,qD,qE,qF]
            refine wpAnyH_take (i:=8) (oi:=_) (v:=?_) rfl (by kernel_rfl) (by kernel_rfl) (by kernel_rfl) (fun _ _ _ h=>h) (Or.inl ⟨by kernel_rfl,?_⟩) hHeld ?_
            rotate_left
            ·intro w9 hSw;(try dsimp only at hSw);go_simp;(first|done|with_reducible rfl)
            try simp only[Act.put,qA,qB,qC,qD,qE,qF]
            refine wpAnyH_take (i:=9) (oi:=_) (v:=?_) rfl (by kernel_rfl) (by kernel_rfl) (by kernel_rfl) (fun _ _ _ h=>h) (Or.inl ⟨by kernel_rfl,?_⟩) hHeld ?_
            rotate_left
            ·intro w9 hSw;(try dsimp only at hSw);go_simp;(first|done|with_reducible rfl)
            try simp only[Act.put,qA,qB,qC,qD,qE,qF]
            refine wpAnyH_take (i:=10) (oi:=_) (v:=?_) rfl (by kernel_rfl) (by kernel_rfl) (by kernel_rfl) (fun _ _ _ h=>h) (Or.inl ⟨by kernel_rfl,?_⟩) hHeld ?_
            rotate_left
            ·intro w9 hSw;(try dsimp only at hSw);go_simp;(first|done|with_reducible rfl)
            try simp only[Act.put,qA,qB,qC,qD,qE,qF]
            refine wpAnyH_take (i:=11) (oi:=_) (v:=?_) rfl (by kernel_rfl) (by kernel_rfl) (by kernel_rfl) (fun _ _ _ h=>h) (Or.inl ⟨by kernel_rfl,?_⟩) hHeld ?_
            rotate_left
            ·intro w9 hSw;(try dsimp only at hSw);go_simp;(first|done|with_reducible rfl)
            try simp only[Act.put,qA,qB,qC,qD,qE,qF]
            refine wpAnyH_ready (rs:=[12]) (by kernel_rfl) (by simp) ?_;refine AllReadyH.cons (o:=_) rfl (fun K hK=>?_) AllReadyH.nil
            go_simp
            go_at_call 139
            with_reducible refine (C1.out _ (zq hHeld)).mono ?_
            rintro e8 w8 ⟨rfl,hb8⟩
            try (go_wp2_with fail)
            refine hK.out _ _ ?_ (fun hHeld2=>?_)
            ·(try dsimp only);exact jg hHeld hb8
            clear hK K hHeld;have hHeld:=hHeld2;clear hHeld2
            try simp only[Act.put,qA,qB,qC,qD,qE,qF]
            refine wpAnyH_take (i:=13) (oi:=_) (v:=?_) rfl (by kernel_rfl) (by kernel_rfl) (by kernel_rfl) (fun _ _ _ h=>h) (Or.inl ⟨by kernel_rfl,?_⟩) hHeld ?_
            rotate_left
            ·intro w9 hSw;(try dsimp only at hSw);go_simp;(first|done|with_reducible rfl)
            try simp only[Act.put,qA,qB,qC,qD,qE,qF]
            refine wpAnyH_take (i:=14) (oi:=_) (v:=?_) rfl (by kernel_rfl) (by kernel_rfl) (by kernel_rfl) (fun _ _ _ h=>h) (Or.inl ⟨by kernel_rfl,?_⟩) hHeld ?_
            rotate_left
            ·intro w9 hSw;(try dsimp only at hSw);go_simp;(first|done|with_reducible rfl)
            try simp only[Act.put,qA,qB,qC,qD,qE,qF]
            refine wpAnyH_take (i:=15) (oi:=_) (v:=undef) rfl (by kernel_rfl) (by kernel_rfl) (by kernel_rfl) (fun _ _ _ h=>h) (Or.inr ⟨by kernel_rfl,rfl⟩) hHeld ?_
            try simp only[Act.put,qA,qB,qC,qD,qE,qF]
            refine wpAnyH_take (i:=16) (oi:=_) (v:=undef) rfl (by kernel_rfl) (by kernel_rfl) (by kernel_rfl) (fun _ _ _ h=>h) (Or.inr ⟨by kernel_rfl,rfl⟩) hHeld ?_
            try simp only[Act.put,qA,qB,qC,qD,qE,qF]
            refine wpAnyH_take (i:=17) (oi:=_) (v:=undef) rfl (by kernel_rfl) (by kernel_rfl) (by kernel_rfl) (fun _ _ _ h=>h) (Or.inr ⟨by kernel_rfl,rfl⟩) hHeld ?_
            try simp only[Act.put,qA,qB,qC,qD,qE,qF]
            refine wpAnyH_take (i:=18) (oi:=_) (v:=undef) rfl (by kernel_rfl) (by kernel_rfl) (by kernel_rfl) (fun _ _ _ h=>h) (Or.inr ⟨by kernel_rfl,rfl⟩) hHeld ?_
            try simp only[Act.put,qA,qB,qC,qD,qE,qF]
            refine wpAnyH_take (i:=19) (oi:=_) (v:=undef) rfl (by kernel_rfl) (by kernel_rfl) (by kernel_rfl) (fun _ _ _ h=>h) (Or.inr ⟨by kernel_rfl,rfl⟩) hHeld ?_
            try simp only[Act.put,qA,qB,qC,qD,qE,qF]
            refine wpAnyH_take (i:=20) (oi:=_) (v:=undef) rfl (by kernel_rfl) (by kernel_rfl) (by kernel_rfl) (fun _ _ _ h=>h) (Or.inr ⟨by kernel_rfl,rfl⟩) hHeld ?_
            try simp only[Act.put,qA,qB,qC,qD,qE,qF]
            refine wpAnyH_take (i:=21) (oi:=_) (v:=undef) rfl (by kernel_rfl) (by kernel_rfl) (by kernel_rfl) (fun _ _ _ h=>h) (Or.inr ⟨by kernel_rfl,rfl⟩) hHeld ?_
            try simp only[Act.put,qA,qB,qC,qD,qE,qF]
            refine wpAnyH_take (i:=22) (oi:=_) (v:=undef) rfl (by kernel_rfl) (by kernel_rfl) (by kernel_rfl) (fun _ _ _ h=>h) (Or.inr ⟨by kernel_rfl,rfl⟩) hHeld ?_
            try simp only[Act.put,qA,qB,qC,qD,qE,qF]
            refine wpAnyH_take (i:=23) (oi:=_) (v:=undef) rfl (by kernel_rfl) (by kernel_rfl) (by kernel_rfl) (fun _ _ _ h=>h) (Or.inr ⟨by kernel_rfl,rfl⟩) hHeld ?_
            try simp only[Act.put,qA,qB,qC,qD,qE,qF]
            refine wpAnyH_take (i:=24) (oi:=_) (v:=undef) rfl (by kernel_rfl) (by kernel_rfl) (by kernel_rfl) (fun _ _ _ h=>h) (Or.inr ⟨by kernel_rfl,rfl⟩) hHeld ?_
            try simp only[Act.put,qA,qB,qC,qD,qE,qF]
            refine wpAnyH_take (i:=25) (oi:=_) (v:=undef) rfl (by kernel_rfl) (by kernel_rfl) (by kernel_rfl) (fun _ _ _ h=>h) (Or.inr ⟨by kernel_rfl,rfl⟩) hHeld ?_
            try simp only[Act.put,qA,qB,qC,qD,qE,qF]
            refine wpAnyH_take (i:=26) (oi:=_) (v:=undef) rfl (by kernel_rfl) (by kernel_rfl) (by kernel_rfl) (fun _ _ _ h=>h) (Or.inr ⟨by kernel_rfl,rfl⟩) hHeld ?_
            try simp only[Act.put,qA,qB,qC,qD,qE,qF]
            refine wpAnyH_take (i:=27) (oi:=_) (v:=undef) rfl (by kernel_rfl) (by kernel_rfl) (by kernel_rfl) (fun _ _ _ h=>h) (Or.inr ⟨by kernel_rfl,rfl⟩) hHeld ?_
            try simp only[Act.put,qA,qB,qC,qD,qE,qF]
            refine wpAnyH_take (i:=28) (oi:=_) (v:=undef) rfl (by kernel_rfl) (by kernel_rfl) (by kernel_rfl) (fun _ _ _ h=>h) (Or.inr ⟨by kernel_rfl,rfl⟩) hHeld ?_
            try simp only[Act.put,qA,qB,qC,qD,qE,qF]
            refine wpAnyH_take (i:=29) (oi:=_) (v:=?_) rfl (by kernel_rfl) (by kernel_rfl) (by kernel_rfl) (fun _ _ _ h=>h) (Or.inl ⟨by kernel_rfl,?_⟩) hHeld ?_
            rotate_left
            ·intro w9 hSw;(try dsimp only at hSw);go_simp;(first|done|with_reducible rfl)
            try simp only[Act.put,qA,qB,qC,qD,qE,qF]
            refine wpAnyH_done (by kernel_rfl) ?_ _;refine NoPanic.normal ?_;have HW9:=hid (HW.out.trans ((zq hHeld).mono HW.out.size));go_wp2;go_ret;exact⟨zA HE.out.symm,HB.out.trans (HW9.out.mono HB.out.size)⟩
           have C1:=hid (fun (W:World) (hb:Below wr.heap.size wr W)=>K0.out W hb);rw[ya g1] at C1;clear K0
           by_cases g2:x.fs=y.fs
           ·have K2:=hid (fun (W:World) (hb:Below wr.heap.size wr W)=>K1.out W hb)
            rw[ya g2] at K2;have HE:=hid (HS.out (zBe.2 ⟨g1,g2⟩));clear K1 HS HF g1 g2;go_wp2
            (first|go_loud (go_region_held3 (fun w'=>Below wr.heap.size wr w'∧w'.cell? ⟨w.heap.size,9,none⟩=some (.slice (some ⟨b1,o1,none⟩) nel a.el'.c)∧w'.cell? ⟨w.heap.size+1,9,none⟩=some (.slice (some ⟨b2,o2,none⟩) nel b.el'.c)∧w'.cell? ⟨b1,o1+k*2,none⟩=some (.slice x.l.a x.l.t.len x.l.c)∧w'.cell? ⟨b1,o1+k*2+1,none⟩=some (.slice x.fa x.fs.length x.fc)∧w'.cell? ⟨b2,o2+k*2,none⟩=some (.slice y.l.a y.l.t.len y.l.c)∧w'.cell? ⟨b2,o2+k*2+1,none⟩=some (.slice y.fa y.fs.length y.fc))
                (first|assumption|exact jg (by assumption) (by assumption))
                (first|(go_at_call 139;(with_reducible refine (C1.out _ (zq (by assumption))).mono ?_);rintro e8 w8 ⟨rfl,hb8⟩)|(go_at_call 33;(with_reducible refine (K2.out _ (zq (by assumption))).mono ?_);rintro e9 w9 ⟨rfl,hb9⟩)))|fail)
            have HW9:=hid (HW.out.trans ((zq (by assumption)).mono HW.out.size));go_wp2
            go_roundw
            case rel=>exact⟨k+1,by go_num,by omega,HE,HW9⟩
            case measure=>simp[intOf];omega
           ·have K2:=hid (fun (W:World) (hb:Below wr.heap.size wr W)=>K1.out W hb)
            rw[zY g2] at K2;have HE:=hid (HF.out (fun h=>g2 (zBe.1 h).2));clear K1 HS HF g1 g2;go_wp2
            (first|go_loud (go_region_held3 (fun w'=>Below wr.heap.size wr w'∧w'.cell? ⟨w.heap.size,9,none⟩=some (.slice (some ⟨b1,o1,none⟩) nel a.el'.c)∧w'.cell? ⟨w.heap.size+1,9,none⟩=some (.slice (some ⟨b2,o2,none⟩) nel b.el'.c)∧w'.cell? ⟨b1,o1+k*2,none⟩=some (.slice x.l.a x.l.t.len x.l.c)∧w'.cell? ⟨b1,o1+k*2+1,none⟩=some (.slice x.fa x.fs.length x.fc)∧w'.cell? ⟨b2,o2+k*2,none⟩=some (.slice y.l.a y.l.t.len y.l.c)∧w'.cell? ⟨b2,o2+k*2+1,none⟩=some (.slice y.fa y.fs.length y.fc))
                (first|assumption|exact jg (by assumption) (by assumption))
                (first|(go_at_call 139;(with_reducible refine (C1.out _ (zq (by assumption))).mono ?_);rintro e8 w8 ⟨rfl,hb8⟩)|(go_at_call 33;(with_reducible refine (K2.out _ (zq (by assumption))).mono ?_);rintro e9 w9 ⟨rfl,hb9⟩)))|fail)
            have HW9:=hid (HW.out.trans ((zq (by assumption)).mono HW.out.size));go_wp2;go_ret;exact⟨zA HE.out.symm,HB.out.trans (HW9.out.mono HB.out.size)⟩
          ·obtain rfl:k=nel:=by omega
           have HBL:=HW;have EQel:=hid (jb (n:=k) (by rw[List.length_map];exact LAel.out) (by rw[List.length_map];exact LBel.out) HQ.out);clear HQ HW hlt hk;go_wp2;clear hba hbb
           go_loopw [10] (fun vi wr=>∃k:Nat,vi=.int .i64 k∧k≤nda∧Hid (∀j (h1:j<(a.da.map Da.bare).length) (h2:j<(b.da.map Da.bare).length),j<k→(a.da.map Da.bare)[j]=(b.da.map Da.bare)[j])∧Hid (Below W0.heap.size W0 wr)) (fun vi _=>nda-(intOf vi).toNat)
           case atStart=>exact⟨0,rfl,Nat.zero_le _,jX _ _,HBL⟩
           case round =>
            clear HBL;obtain⟨k,rfl,hk,HQ,HW⟩:=hrel;have hba:=kP HW.out XAda.out;have hbb:=kP HW.out XBda.out
            by_cases hlt:k<nda
            ·have hka:k<a.da.length:=by rw[LAda.out];exact hlt
             have hkb:k<b.da.length:=by rw[LBda.out];exact hlt
             obtain⟨b1,o1,ha1,hl1,hc1⟩:=Mod.Rows.get RAda.out hka;obtain⟨b2,o2,ha2,hl2,hc2⟩:=Mod.Rows.get RBda.out hkb;rw[ha1] at hba;rw[ha2] at hbb;have hma:(a.da.map Da.bare).length=a.da.length:=List.length_map ..;have hmb:(b.da.map Da.bare).length=b.da.length:=List.length_map ..;have HS:=hid (fun (h:Da.bare a.da[k]=Da.bare b.da[k])=>ja (by rw[hma];exact hka) (by rw[hmb];exact hkb) HQ.out (show (a.da.map Da.bare)[k]'(by rw[hma];exact hka)=(b.da.map Da.bare)[k]'(by rw[hmb];exact hkb) by rw[List.getElem_map,List.getElem_map];exact h));have HF:=hid (fun (h:¬Da.bare a.da[k]=Da.bare b.da[k])=>FFda.out (fun e=>h (zBE e hka hkb)));have hx1:a.da[k]∈a.da:=List.getElem_mem hka;have hL1:=HA.out.ls _ (Ja hx1);have hN1:=FA.out.ls _ (Ja hx1);have hT1:=HA.out.bs _ hx1;have hM1:=FA.out.bs _ hx1;have hZ1:=ZA.out _ hx1;have hx2:b.da[k]∈b.da:=List.getElem_mem hkb;have hL2:=HB0.out.ls _ (Ja hx2);have hN2:=FB.out.ls _ (Ja hx2);have hT2:=HB0.out.bs _ hx2;have hM2:=FB.out.bs _ hx2;have hZ2:=ZB.out _ hx2;obtain⟨x,hxe⟩:∃x,a.da[k]=x:=⟨_,rfl⟩;obtain⟨y,hye⟩:∃y,b.da[k]=y:=⟨_,rfl⟩;rw[hxe] at hc1 HS HF hL1 hN1 hT1 hM1 hZ1;rw[hye] at hc2 HS HF hL2 hN2 hT2 hM2 hZ2;have c0:wr.cell? ⟨b1,o1+k*2,none⟩=some (.slice x.l.a x.l.t.len x.l.c):=(HW.out.cell (p:=⟨b1,o1+k*2+0,none⟩) hl1).trans (hc1 0 (by omega) _ rfl);have c1:wr.cell? ⟨b1,o1+k*2+1,none⟩=some (.slice x.ba x.bs.length x.bc):=(HW.out.cell (p:=⟨b1,o1+k*2+1,none⟩) hl1).trans (hc1 1 (by omega) _ rfl);have d0:wr.cell? ⟨b2,o2+k*2,none⟩=some (.slice y.l.a y.l.t.len y.l.c):=(HW.out.cell (p:=⟨b2,o2+k*2+0,none⟩) hl2).trans (hc2 0 (by omega) _ rfl);have d1:wr.cell? ⟨b2,o2+k*2+1,none⟩=some (.slice y.ba y.bs.length y.bc):=(HW.out.cell (p:=⟨b2,o2+k*2+1,none⟩) hl2).trans (hc2 1 (by omega) _ rfl);have hki:(k:Int)<(nda:Int):=by omega
             have hsz:=HW.out.size;have e1:b1<wr.heap.size:=by omega
             have e2:b2<wr.heap.size:=by omega
             have K0:=hid (fun (W:World) (hb:Below wr.heap.size wr W)=>qY W0.heap.size (max x.l.t.count y.l.t.count) x.l.t y.l.t x.l.a y.l.a x.l.t.len y.l.t.len x.l.c y.l.c W (by omega) (by omega) (hL1.below (HW.out.trans (hb.mono HW.out.size))) (hL2.below (HW.out.trans (hb.mono HW.out.size))) (Nat.le_trans HW.out.size hb.size) hN1 hN2);have K1:=hid (fun (W:World) (hb:Below wr.heap.size wr W)=>zBJ x.ba y.ba x.bs.length x.bc y.bs.length y.bc x.bs y.bs W rfl rfl (zAb (hT1.below (HW.out.trans (hb.mono HW.out.size))) hZ1 hM1) (zAb (hT2.below (HW.out.trans (hb.mono HW.out.size))) hZ2 hM2));clear hc1 hc2 hl1 hl2 ha1 ha2 hxe hye hka hkb hma hmb hsz HQ hx1 hx2 hL1 hN1 hT1 hM1 hZ1 hL2 hN2 hT2 hM2 hZ2;have hd:=(Below.refl wr.heap.size wr).drew;have hS0:Below wr.heap.size wr wr.drew∧wr.drew.cell? ⟨w.heap.size,10,none⟩=some (.slice (some ⟨b1,o1,none⟩) nda a.da'.c)∧wr.drew.cell? ⟨w.heap.size+1,10,none⟩=some (.slice (some ⟨b2,o2,none⟩) nda b.da'.c)∧wr.drew.cell? ⟨b1,o1+k*2,none⟩=some (.slice x.l.a x.l.t.len x.l.c)∧wr.drew.cell? ⟨b1,o1+k*2+1,none⟩=some (.slice x.ba x.bs.length x.bc)∧wr.drew.cell? ⟨b2,o2+k*2,none⟩=some (.slice y.l.a y.l.t.len y.l.c)∧wr.drew.cell? ⟨b2,o2+k*2+1,none⟩=some (.slice y.ba y.bs.length y.bc):=⟨hd,hba,hbb,c0,c1,d0,d1⟩
             by_cases g1:x.l.t.bare=y.l.t.bare
             rotate_left
             ·have C1:=hid (fun (W:World) (hb:Below wr.heap.size wr W)=>K0.out W hb)
              have HE:=hid (HF.out (fun h=>g1 (zBK.1 h).1));rw[zY g1] at C1;clear K0 K1 HS HF g1;go_wp2;refine wp_region_noPanic ?_;refine wp_region_held_drew (S:=(fun w'=>Below wr.heap.size wr w'∧w'.cell? ⟨w.heap.size,10,none⟩=some (.slice (some ⟨b1,o1,none⟩) nda a.da'.c)∧w'.cell? ⟨w.heap.size+1,10,none⟩=some (.slice (some ⟨b2,o2,none⟩) nda b.da'.c)∧w'.cell? ⟨b1,o1+k*2,none⟩=some (.slice x.l.a x.l.t.len x.l.c)∧w'.cell? ⟨b1,o1+k*2+1,none⟩=some (.slice x.ba x.bs.length x.bc)∧w'.cell? ⟨b2,o2+k*2,none⟩=some (.slice y.l.a y.l.t.len y.l.c)∧w'.cell? ⟨b2,o2+k*2+1,none⟩=some (.slice y.ba y.bs.length y.bc))) (by kernel_rfl) hS0 (fun hHeld=>?_);refine wpAnyH_take (i:=0) (oi:=_) (v:=?_) rfl (by kernel_rfl) (by kernel_rfl) (by kernel_rfl) (fun _ _ _ h=>h) (Or.inl ⟨by kernel_rfl,?_⟩) hHeld ?_
              rotate_left
              ·intro w9 hSw;(try dsimp only at hSw);go_simp;(first|done|with_reducible rfl)
              try simp only[Act.put,List.getElem_toArray,List.getElem_cons_zero,List.setIfInBounds_toArray,List.set_cons_zero,List.set_cons_succ]
              refine wpAnyH_take (i:=1) (oi:=_) (v:=?_) rfl (by kernel_rfl) (by kernel_rfl) (by kernel_rfl) (fun _ _ _ h=>h) (Or.inl ⟨by kernel_rfl,?_⟩) hHeld ?_
              rotate_left
              ·intro w9 hSw;(try dsimp only at hSw);go_simp;(first|done|with_reducible rfl)
              try simp only[Act.put,qA,qB,qC,qD,qE,qF]
              refine wpAnyH_take (i:=2) (oi:=_) (v:=?_) rfl (by kernel_rfl) (by kernel_rfl) (by kernel_rfl) (fun _ _ _ h=>h) (Or.inl ⟨by kernel_rfl,?_⟩) hHeld ?_
              rotate_left
              ·intro w9 hSw;(try dsimp only at hSw);go_simp;(first|done|with_reducible rfl)
              try simp only[Act.put,qA,qB,qC,qD,qE,qF]
              refine wpAnyH_take (i:=3) (oi:=_) (v:=?_) rfl (by kernel_rfl) (by kernel_rfl) (by kernel_rfl) (fun _ _ _ h=>h) (Or.inl ⟨by kernel_rfl,?_⟩) hHeld ?_
              rotate_left
              ·intro w9 hSw;(try dsimp only at hSw);go_simp;(first|done|with_reducible rfl)
              try simp only[Act.put,qA,qB,qC,qD,qE,qF]
              refine wpAnyH_take (i:=4) (oi:=_) (v:=?_) rfl (by kernel_rfl) (by kernel_rfl) (by kernel_rfl) (fun _ _ _ h=>h) (Or.inl ⟨by kernel_rfl,?_⟩) hHeld ?_
              rotate_left
              ·intro w9 hSw;(try dsimp only at hSw);go_simp;(first|done|with_reducible rfl)
              try simp only[Act.put,qA,qB,qC,qD,qE,qF]
              refine wpAnyH_take (i:=5) (oi:=_) (v:=?_) rfl (by kernel_rfl) (by kernel_rfl) (by kernel_rfl) (fun _ _ _ h=>h) (Or.inl ⟨by kernel_rfl,?_⟩) hHeld ?_
              rotate_left
              ·intro w9 hSw;(try dsimp only at hSw);go_simp;(first|done|with_reducible rfl)
              try simp only[Act.put,qA,qB,qC,qD,qE,qF]
              refine wpAnyH_take (i:=6) (oi:=_) (v:=?_) rfl (by kernel_rfl) (by kernel_rfl) (by kernel_rfl) (fun _ _ _ h=>h) (Or.inl ⟨by kernel_rfl,?_⟩) hHeld ?_
              rotate_left
              ·intro w9 hSw;(try dsimp only at hSw);go_simp;(first|done|with_reducible rfl)
              try simp only[Act.put,qA,qB,qC,qD,qE,qF]
              refine wpAnyH_take (i:=7) (oi:=_) (v:=?_) rfl (by kernel_rfl) (by kernel_rfl) (by kernel_rfl) (fun _ _ _ h=>h) (Or.inl ⟨by kernel_rfl,?_⟩) hHeld ?_
              rotate_left
              ·intro w9 hSw;(try dsimp only at hSw);go_simp;(first|done|with_reducible rfl)
              try simp only[Act.put,qA,qB,qC,qD,qE,qF]
              refine wpAnyH_take (i:=8) (oi:=_) (v:=?_) rfl (by kernel_rfl) (by kernel_rfl) (by kernel_rfl) (fun _ _ _ h=>h) (Or.inl ⟨by kernel_rfl,?_⟩) hHeld ?_
              rotate_left
              ·intro w9 hSw;(try dsimp only at hSw);go_simp;(first|done|with_reducible rfl)
              try simp only[Act.put,qA,qB,qC,qD,qE,qF]
              refine wpAnyH_take (i:=9) (oi:=_) (v:=?_) rfl (by kernel_rfl) (by kernel_rfl) (by kernel_rfl) (fun _ _ _ h=>h) (Or.inl ⟨by kernel_rfl,?_⟩) hHeld ?_
              rotate_left
              ·intro w9 hSw;(try dsimp only at hSw);go_simp;(first|done|with_reducible rfl)
              try simp only[Act.put,qA,qB,qC,qD,qE,qF]
              refine wpAnyH_take (i:=10) (oi:=_) (v:=?_) rfl (by kernel_rfl) (by kernel_rfl) (by kernel_rfl) (fun _ _ _ h=>h) (Or.inl ⟨by kernel_rfl,?_⟩) hHeld ?_
              rotate_left
              ·intro w9 hSw;(try dsimp only at hSw);go_simp;(first|done|with_reducible rfl)
              try simp only[Act.put,qA,qB,qC,qD,qE,qF]
              refine wpAnyH_take (i:=11) (oi:=_) (v:=?_) rfl (by kernel_rfl) (by kernel_rfl) (by kernel_rfl) (fun _ _ _ h=>h) (Or.inl ⟨by kernel_rfl,?_⟩) hHeld ?_
              rotate_left
              ·intro w9 hSw;(try dsimp only at hSw);go_simp;(first|done|with_reducible rfl)
              try simp only[Act.put,qA,qB,qC,qD,qE,qF]
              refine wpAnyH_ready (rs:=[12]) (by kernel_rfl) (by simp) ?_;refine AllReadyH.cons (o:=_) rfl (fun K hK=>?_) AllReadyH.nil
              go_simp
              go_at_call 139
              with_reducible refine (C1.out _ (zq hHeld)).mono ?_
              rintro e8 w8 ⟨rfl,hb8⟩
              try (go_wp2_with fail)
              refine hK.out _ _ ?_ (fun hHeld2=>?_)
              ·(try dsimp only);exact jg hHeld hb8
              clear hK K hHeld;have hHeld:=hHeld2;clear hHeld2
              try simp only[Act.put,qA,qB,qC,qD,qE,qF]
              refine wpAnyH_take (i:=13) (oi:=_) (v:=?_) rfl (by kernel_rfl) (by kernel_rfl) (by kernel_rfl) (fun _ _ _ h=>h) (Or.inl ⟨by kernel_rfl,?_⟩) hHeld ?_
              rotate_left
              ·intro w9 hSw;(try dsimp only at hSw);go_simp;(first|done|with_reducible rfl)
              try simp only[Act.put,qA,qB,qC,qD,qE,qF]
              refine wpAnyH_take (i:=14) (oi:=_) (v:=?_) rfl (by kernel_rfl) (by kernel_rfl) (by kernel_rfl) (fun _ _ _ h=>h) (Or.inl ⟨by kernel_rfl,?_⟩) hHeld ?_
              rotate_left
              ·intro w9 hSw;(try dsimp only at hSw);go_simp;(first|done|with_reducible rfl)
              try simp only[Act.put,qA,qB,qC,qD,qE,qF]
              refine wpAnyH_take (i:=15) (oi:=_) (v:=undef) rfl (by kernel_rfl) (by kernel_rfl) (by kernel_rfl) (fun _ _ _ h=>h) (Or.inr ⟨by kernel_rfl,rfl⟩) hHeld ?_
              try simp only[Act.put,qA,qB,qC,qD,qE,qF]
              refine wpAnyH_take (i:=16) (oi:=_) (v:=undef) rfl (by kernel_rfl) (by kernel_rfl) (by kernel_rfl) (fun _ _ _ h=>h) (Or.inr ⟨by kernel_rfl,rfl⟩) hHeld ?_
              try simp only[Act.put,qA,qB,qC,qD,qE,qF]
              refine wpAnyH_take (i:=17) (oi:=_) (v:=undef) rfl (by kernel_rfl) (by kernel_rfl) (by kernel_rfl) (fun _ _ _ h=>h) (Or.inr ⟨by kernel_rfl,rfl⟩) hHeld ?_
              try simp only[Act.put,qA,qB,qC,qD,qE,qF]
              refine wpAnyH_take (i:=18) (oi:=_) (v:=undef) rfl (by kernel_rfl) (by kernel_rfl) (by kernel_rfl) (fun _ _ _ h=>h) (Or.inr ⟨by kernel_rfl,rfl⟩) hHeld ?_
              try simp only[Act.put,qA,qB,qC,qD,qE,qF]
              refine wpAnyH_take (i:=19) (oi:=_) (v:=undef) rfl (by kernel_rfl) (by kernel_rfl) (by kernel_rfl) (fun _ _ _ h=>h) (Or.inr ⟨by kernel_rfl,rfl⟩) hHeld ?_
              try simp only[Act.put,qA,qB,qC,qD,qE,qF]
              refine wpAnyH_take (i:=20) (oi:=_) (v:=undef) rfl (by kernel_rfl) (by kernel_rfl) (by kernel_rfl) (fun _ _ _ h=>h) (Or.inr ⟨by kernel_rfl,rfl⟩) hHeld ?_
              try simp only[Act.put,qA,qB,qC,qD,qE,qF]
              refine wpAnyH_take (i:=21) (oi:=_) (v:=undef) rfl (by kernel_rfl) (by kernel_rfl) (by kernel_rfl) (fun _ _ _ h=>h) (Or.inr ⟨by kernel_rfl,rfl⟩) hHeld ?_
              try simp only[Act.put,qA,qB,qC,qD,qE,qF]
              refine wpAnyH_take (i:=22) (oi:=_) (v:=undef) rfl (by kernel_rfl) (by kernel_rfl) (by kernel_rfl) (fun _ _ _ h=>h) (Or.inr ⟨by kernel_rfl,rfl⟩) hHeld ?_
              try simp only[Act.put,qA,qB,qC,qD,qE,qF]
              refine wpAnyH_take (i:=23) (oi:=_) (v:=undef) rfl (by kernel_rfl) (by kernel_rfl) (by kernel_rfl) (fun _ _ _ h=>h) (Or.inr ⟨by kernel_rfl,rfl⟩) hHeld ?_
              try simp only[Act.put,qA,qB,qC,qD,qE,qF]
              refine wpAnyH_take (i:=24) (oi:=_) (v:=undef) rfl (by kernel_rfl) (by kernel_rfl) (by kernel_rfl) (fun _ _ _ h=>h) (Or.inr ⟨by kernel_rfl,rfl⟩) hHeld ?_
              try simp only[Act.put,qA,qB,qC,qD,qE,qF]
              refine wpAnyH_take (i:=25) (oi:=_) (v:=undef) rfl (by kernel_rfl) (by kernel_rfl) (by kernel_rfl) (fun _ _ _ h=>h) (Or.inr ⟨by kernel_rfl,rfl⟩) hHeld ?_
              try simp only[Act.put,qA,qB,qC,qD,qE,qF]
              refine wpAnyH_take (i:=26) (oi:=_) (v:=undef) rfl (by kernel_rfl) (by kernel_rfl) (by kernel_rfl) (fun _ _ _ h=>h) (Or.inr ⟨by kernel_rfl,rfl⟩) hHeld ?_
              try simp only[Act.put,qA,qB,qC,qD,qE,qF]
              refine wpAnyH_take (i:=27) (oi:=_) (v:=undef) rfl (by kernel_rfl) (by kernel_rfl) (by kernel_rfl) (fun _ _ _ h=>h) (Or.inr ⟨by kernel_rfl,rfl⟩) hHeld ?_
              try simp only[Act.put,qA,qB,qC,qD,qE,qF]
              refine wpAnyH_take (i:=28) (oi:=_) (v:=undef) rfl (by kernel_rfl) (by kernel_rfl) (by kernel_rfl) (fun _ _ _ h=>h) (Or.inr ⟨by kernel_rfl,rfl⟩) hHeld ?_
              try simp only[Act.put,qA,qB,qC,qD,qE,qF]
              refine wpAnyH_take (i:=29) (oi:=_) (v:=?_) rfl (by kernel_rfl) (by kernel_rfl) (by kernel_rfl) (fun _ _ _ h=>h) (Or.inl ⟨by kernel_rfl,?_⟩) hHeld ?_
              rotate_left
              ·intro w9 hSw;(try dsimp only at hSw);go_simp;(first|done|with_reducible rfl)
              try simp only[Act.put,qA,qB,qC,qD,qE,qF]
              refine wpAnyH_done (by kernel_rfl) ?_ _;refine NoPanic.normal ?_;have HW9:=hid (HW.out.trans ((zq hHeld).mono HW.out.size));go_wp2;go_ret;exact⟨zA HE.out.symm,HB.out.trans (HW9.out.mono HB.out.size)⟩
             have C1:=hid (fun (W:World) (hb:Below wr.heap.size wr W)=>K0.out W hb);rw[ya g1] at C1;clear K0
             by_cases g2:x.bs=y.bs
             ·have K2:=hid (fun (W:World) (hb:Below wr.heap.size wr W)=>K1.out W hb)
              rw[ya g2] at K2;have HE:=hid (HS.out (zBK.2 ⟨g1,g2⟩));clear K1 HS HF g1 g2;go_wp2
              (first|go_loud (go_region_held3 (fun w'=>Below wr.heap.size wr w'∧w'.cell? ⟨w.heap.size,10,none⟩=some (.slice (some ⟨b1,o1,none⟩) nda a.da'.c)∧w'.cell? ⟨w.heap.size+1,10,none⟩=some (.slice (some ⟨b2,o2,none⟩) nda b.da'.c)∧w'.cell? ⟨b1,o1+k*2,none⟩=some (.slice x.l.a x.l.t.len x.l.c)∧w'.cell? ⟨b1,o1+k*2+1,none⟩=some (.slice x.ba x.bs.length x.bc)∧w'.cell? ⟨b2,o2+k*2,none⟩=some (.slice y.l.a y.l.t.len y.l.c)∧w'.cell? ⟨b2,o2+k*2+1,none⟩=some (.slice y.ba y.bs.length y.bc))
                  (first|assumption|exact jg (by assumption) (by assumption))
                  (first|(go_at_call 139;(with_reducible refine (C1.out _ (zq (by assumption))).mono ?_);rintro e8 w8 ⟨rfl,hb8⟩)|(go_at_call 35;(with_reducible refine (K2.out _ (zq (by assumption))).mono ?_);rintro e9 w9 ⟨rfl,hb9⟩)))|fail)
              have HW9:=hid (HW.out.trans ((zq (by assumption)).mono HW.out.size));go_wp2
              go_roundw
              case rel=>exact⟨k+1,by go_num,by omega,HE,HW9⟩
              case measure=>simp[intOf];omega
             ·have K2:=hid (fun (W:World) (hb:Below wr.heap.size wr W)=>K1.out W hb)
              rw[zY g2] at K2;have HE:=hid (HF.out (fun h=>g2 (zBK.1 h).2));clear K1 HS HF g1 g2;go_wp2
              (first|go_loud (go_region_held3 (fun w'=>Below wr.heap.size wr w'∧w'.cell? ⟨w.heap.size,10,none⟩=some (.slice (some ⟨b1,o1,none⟩) nda a.da'.c)∧w'.cell? ⟨w.heap.size+1,10,none⟩=some (.slice (some ⟨b2,o2,none⟩) nda b.da'.c)∧w'.cell? ⟨b1,o1+k*2,none⟩=some (.slice x.l.a x.l.t.len x.l.c)∧w'.cell? ⟨b1,o1+k*2+1,none⟩=some (.slice x.ba x.bs.length x.bc)∧w'.cell? ⟨b2,o2+k*2,none⟩=some (.slice y.l.a y.l.t.len y.l.c)∧w'.cell? ⟨b2,o2+k*2+1,none⟩=some (.slice y.ba y.bs.length y.bc))
                  (first|assumption|exact jg (by assumption) (by assumption))
                  (first|(go_at_call 139;(with_reducible refine (C1.out _ (zq (by assumption))).mono ?_);rintro e8 w8 ⟨rfl,hb8⟩)|(go_at_call 35;(with_reducible refine (K2.out _ (zq (by assumption))).mono ?_);rintro e9 w9 ⟨rfl,hb9⟩)))|fail)
              have HW9:=hid (HW.out.trans ((zq (by assumption)).mono HW.out.size));go_wp2;go_ret;exact⟨zA HE.out.symm,HB.out.trans (HW9.out.mono HB.out.size)⟩
            ·obtain rfl:k=nda:=by omega
             have HBL:=HW;have EQda:=hid (jb (n:=k) (by rw[List.length_map];exact LAda.out) (by rw[List.length_map];exact LBda.out) HQ.out);clear HQ HW hlt hk;have HE:=hid (YY.out EQtb.out EQme.out EQgl.out EQex.out EQel.out EQda.out);go_wp2;go_ret;exact⟨zA HE.out.symm,HB.out.trans (HBL.out.mono HB.out.size)⟩
end Mod
end Go.Proofs.YtdljneclfgneoaaGreatDoor
