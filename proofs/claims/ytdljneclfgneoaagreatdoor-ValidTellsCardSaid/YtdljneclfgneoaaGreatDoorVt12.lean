import Derived.Test.YtdljneclfgneoaaGreatDoorVt11
import Derived.Deep.RegionHeldLaw
set_option linter.unusedVariables false
set_option linter.ambiguousOpen false
set_option maxRecDepth 100000
set_option maxHeartbeats 8000000
namespace Go.Proofs.YtdljneclfgneoaaGreatDoor
namespace Instr
end Instr
namespace Mod
end Mod
namespace Stk
end Stk
namespace Val
open Go.RowKit Instr Mod
open Stk (Fr R ji vP qM yu yl yW vT qm vH yG valid zl)
theorem YC.save {g:Nat} {W W':World} {a:Option Addr} {n c:Nat} {l:List Fr} (h:YC g W a n c l) (hs:zF g W W'):YC g W' a n c l:=by
 refine⟨⟨?_,h.st.len,h.st.cap,h.st.fit⟩,h.ne⟩
 rcases h.st.rows with h1|⟨b,off,ha,hb,hc⟩
 ·exact .inl h1
 ·exact .inr ⟨b,off,ha,Nat.lt_of_lt_of_le hb hs.size,fun i hi q hq v hv=>hs.cell (p:=⟨b,off+i*4+q,none⟩) (h.ne b off ha) (hc i hi q hq v hv)⟩
theorem Ck.back {g n₀:Nat} {m:Md} {lo re:Int} {s b:St} {w:World} {a:Option Addr} {n c:Nat} (h:Ck g n₀ m lo re s w) (hf:YC g w a n c b.l) :
  Ck g n₀ m lo re (s.back b) ((w.setCell ⟨g,13,none⟩ (.int .i64 b.h)).setCell ⟨g,14,none⟩ (.slice a n c)):=by
 obtain⟨a',n',c',hk,_⟩:=h.blk;exact⟨⟨a,n,c,(hk.set13 b.h).set14 (.slice a n c),(hf.set _ _).set _ _⟩,uS (uS h.mo h.le _ _) h.le _ _,h.le⟩
def yn (g n₀:Nat) (m:Md) (lo re:Int) (t:Il) (a:Option Addr) (n c:Nat):Prop :=
 ∀(s:St) (w:World),Ck g n₀ m lo re s w→zD n₀ w a n t→0≤s.cnt→s.cnt+t.count≤1000000000000→Calls Tryz.prog 177 #[.pointer (some ⟨g,0,none⟩),.slice a n c] w (Done g n₀ m lo re w (zK m lo re t s))
def Tys (m:Md):Prop:=∀t∈m.ty,0≤t.1∧t.1≤255∧0≤t.2∧t.2≤1
theorem Tys.getD {m:Md} (h:Tys m) (k:Nat):0≤(m.ty.getD k (0,0)).1∧(m.ty.getD k (0,0)).1≤255∧0≤(m.ty.getD k (0,0)).2∧(m.ty.getD k (0,0)).2≤1:=by
 by_cases hk:k<m.ty.length
 ·have:m.ty.getD k (0,0)=m.ty[k]:=by simp[hk]
  rw[this];exact h _ (List.getElem_mem hk)
 ·have:m.ty.getD k (0,0)=(0,0):=by simp[hk]
  rw[this];simp
theorem Tys.typeOf {m:Md} (h:Tys m) (n:Nat):0≤(m.typeOf n).1.1∧(m.typeOf n).1.1≤255∧0≤(m.typeOf n).1.2∧(m.typeOf n).1.2≤1:=by
 unfold Md.typeOf
 split
 ·simp
 ·exact h.getD _
theorem Tys.callee {m:Md} (h:Tys m) (x:Ix):0≤(zT m x).1.1∧(zT m x).1.1≤255∧0≤(zT m x).1.2∧(zT m x).1.2≤1:=by
 unfold zT
 split
 ·exact h.typeOf _
 split
 ·simp
 ·exact h.getD _
theorem Yv (n:Int) (s:St):(ze n s).1≤1:=by
 unfold ze
 split
 ·unfold yW
  split;· simp
  split;· simp
  split;· simp
  rename_i hv hn _
  have hv':valid s.h s.l=true:=by simpa using hv
  have hk:s.l.length-1-n.toNat<s.l.length:=by have:=(Stk.yK hv').2.2.1;have:=List.length_pos_iff.2 this;omega
  have:s.l.getD (s.l.length-1-n.toNat) Fr.none=s.l[s.l.length-1-n.toNat]:=by simp[hk]
  simp only[this];exact (Stk.uM hv' _ (List.getElem_mem hk)).2.2.2
 ·simp
theorem zEl (op:Int):yc op≤3:=by
 unfold yc;split
 ·have:=Num.uq op;omega
 ·exact (uV op).2
theorem zGi (g n₀:Nat) (m:Md) (lo re:Int) (s:St) (x:Ix) (tl te:Il) (w:World) (h:Ck g n₀ m lo re s w) (hx:x.ok) (hLa:zD n₀ w x.la x.ln tl) (hEa:zD n₀ w x.ea x.en te) (HL:yn g n₀ m lo re tl x.la x.ln x.lc) (HE:yn g n₀ m lo re te x.ea x.en x.ec) (hcnt:0≤s.cnt) (hcn:s.cnt+tl.count+te.count≤1000000000000) :
  Calls Tryz.prog 280 #[.pointer (some ⟨g,0,none⟩),.agg x.vals] w (Done g n₀ m lo re w (kH x.res (zK m lo re tl) (zK m lo re te) s)):=by
 have HA:=hid hx;obtain⟨W0,hW0⟩:∃W0,W0=w.alloc (.cells x.vals 92):=⟨_,rfl⟩;have hb0:Below w.heap.size w W0:=by rw[hW0];exact zC (Below.refl _ _) _
 have HX:Hid (At x w.heap.size W0):=by rw[hW0];exact At.made x w
 have HNE:Hid (w.heap.size≠g):=hid (Nat.ne_of_gt h.lt);have HC:=hid (h.on hb0);have HC0:=hid h;have HS:=hid (zF.of_below (k:=g) hb0);clear h hx hb0;unfold Ix.vals at hW0 ⊢;have HAL:=hid hLa;have HAE:=hid hEa
 replace HL:=hid HL
 replace HE:=hid HE
 have HCN:=hid (And.intro hcnt hcn);clear hLa hEa hcnt hcn
 go_enter Tryz.func280,Tryz.ntmps280
 go_upto_region 1 with fail
 rw[←hW0];clear hW0;have CC:=hid (ue g n₀ m lo re s 1 W0 HC.out (by omega));obtain⟨s1,hs1⟩:∃u,u=zx 1 s:=⟨_,rfl⟩;rw[←hs1] at CC;have HZ1:=hid hs1;clear hs1
 go_wp2_with fail
 refine CC.out.mono ?_;rintro e1 w1 ⟨rfl,hc1,hv1⟩
 replace HC:=hid hc1
 replace HX:=hid (HX.out.save hv1 HNE.out)
 replace HS:=hid (HS.out.trans hv1)
 clear CC hc1 hv1;obtain⟨a1,n1,c1,hk1,hf1⟩:=HC.out.blk;have b13:=hk1.c13;have b14:=hk1.c14;have HF:=hid hf1;clear hk1 hf1
 go_upto_region 3 with fail
 have hA:Below w1.heap.size w1 (w1.alloc (.cells #[.int .i64 s1.h,.slice a1 n1 c1] 254)):=(Below.refl _ _).alloc (Nat.le_refl _) _;have HT:=hid (Stk.Bx.made w1 (.int .i64 s1.h) (.slice a1 n1 c1));obtain⟨w1',hw1'⟩:∃u,u=w1.alloc (.cells #[.int .i64 s1.h,.slice a1 n1 c1] 254):=⟨_,rfl⟩;rw[←hw1'] at hA HT ⊢;have HGB:=hid (show w1.heap.size≠g from Nat.ne_of_gt HC.out.lt);obtain⟨gb,hgb⟩:∃gb,gb=w1.heap.size:=⟨_,rfl⟩;rw[←hgb] at HT HGB ⊢
 replace HC:=hid (HC.out.on hA)
 replace HX:=hid (HX.out.below hA)
 replace HS:=hid (HS.out.trans (zF.of_below hA))
 replace HF:=hid (HF.out.on hA)
 have HT0:=hid HT.out.c0;have HT1:=hid HT.out.c1;clear hA hw1' hgb HT b13 b14;have d1:=HX.out.c1;have CC:=hid (Jb g n₀ m lo re s1 4 x.res w1' HC.out);obtain⟨s2,hs2⟩:∃u,u=yI 4 x.res s1:=⟨_,rfl⟩;rw[←hs2] at CC;have HZ2:=hid hs2;clear hs2
 go_wp2_with fail
 refine CC.out.mono ?_;rintro e2 w2 ⟨rfl,hc2,hv2⟩
 replace HC:=hid hc2
 replace HX:=hid (HX.out.save hv2 HNE.out)
 replace HS:=hid (HS.out.trans hv2)
 replace HT0:=hid (hv2.cell (p:=⟨gb,0,none⟩) HGB.out HT0.out)
 replace HT1:=hid (hv2.cell (p:=⟨gb,1,none⟩) HGB.out HT1.out)
 replace HF:=hid (HF.out.save hv2)
 clear CC hc2 hv2 d1;have d6:=HX.out.c6;have CC:=hid (HL.out s2 w2 HC.out (HAL.out.below (HC0.out.below HS.out)) (by rw[HZ2.out,yY,HZ1.out,jW];exact HCN.out.1) (by rw[HZ2.out,yY,HZ1.out,jW];have:=HCN.out.2;omega));obtain⟨s3,hs3⟩:∃u,u=zK m lo re tl s2:=⟨_,rfl⟩;rw[←hs3] at CC;have HZ3:=hid hs3;clear hs3
 go_wp2_with fail
 refine CC.out.mono ?_;rintro e3 w3 ⟨rfl,hc3,hv3⟩
 replace HC:=hid hc3
 replace HX:=hid (HX.out.save hv3 HNE.out)
 replace HS:=hid (HS.out.trans hv3)
 replace HT0:=hid (hv3.cell (p:=⟨gb,0,none⟩) HGB.out HT0.out)
 replace HT1:=hid (hv3.cell (p:=⟨gb,1,none⟩) HGB.out HT1.out)
 replace HF:=hid (HF.out.save hv3)
 clear CC hc3 hv3 d6;have q13:=HC.out.blk;obtain⟨a3,n3,c3,hk3,-⟩:=q13;have b13:=hk3.c13;have b14:=hk3.c14;have f13:=hk3.f 13;have f14:=hk3.f 14;have t0:=HT0.out;have t1:=HT1.out;clear hk3
 go_upto_region 6 with fail
 have HCb:=hid (HC.out.back (b:=s1) HF.out);have hv3:zF g w3 ((w3.setCell ⟨g,13,none⟩ (.int .i64 s1.h)).setCell ⟨g,14,none⟩ (.slice a1 n1 c1)):=((zF.refl g w3).setCell (.inl rfl) _).setCell (.inl rfl) _;obtain⟨w3',hw3'⟩:∃u,u=(w3.setCell ⟨g,13,none⟩ (.int .i64 s1.h)).setCell ⟨g,14,none⟩ (.slice a1 n1 c1):=⟨_,rfl⟩;rw[←hw3'] at hv3 HCb ⊢
 replace HC:=HCb
 replace HX:=hid (HX.out.save hv3 HNE.out)
 replace HS:=hid (HS.out.trans hv3)
 clear hv3 hw3' b13 b14 f13 f14 t0 t1 HCb HT0 HT1 HF;have hcc3:=uB m lo re tl s2;rw[←HZ3.out] at hcc3;have hc2:s2.cnt=s.cnt:=by rw[HZ2.out,yY,HZ1.out,jW]
 have HC3:=hid (show s.cnt≤s3.cnt∧s3.cnt≤s.cnt+tl.count by omega);clear hcc3 hc2;have d1:=HX.out.c1;have CC:=hid (Jb g n₀ m lo re (s3.back s1) 5 x.res w3' HC.out);obtain⟨s4,hs4⟩:∃u,u=yI 5 x.res (s3.back s1):=⟨_,rfl⟩;rw[←hs4] at CC;have HZ4:=hid hs4;clear hs4
 go_wp2_with fail
 refine CC.out.mono ?_;rintro e4 w4 ⟨rfl,hc4,hv4⟩
 replace HC:=hid hc4
 replace HX:=hid (HX.out.save hv4 HNE.out)
 replace HS:=hid (HS.out.trans hv4)
 clear CC hc4 hv4 d1;have d7:=HX.out.c7;have CC:=hid (HE.out s4 w4 HC.out (HAE.out.below (HC0.out.below HS.out)) (by rw[HZ4.out,yY];have:=HCN.out.1;have:=HC3.out.1;show 0≤s3.cnt;omega) (by rw[HZ4.out,yY];have:=HCN.out.2;have:=HC3.out.2;show s3.cnt+_≤_;omega));obtain⟨s5,hs5⟩:∃u,u=zK m lo re te s4:=⟨_,rfl⟩;rw[←hs5] at CC;have HZ5:=hid hs5;clear hs5
 go_wp2_with fail
 refine CC.out.mono ?_;rintro e5 w5 ⟨rfl,hc5,hv5⟩
 replace HC:=hid hc5
 replace HX:=hid (HX.out.save hv5 HNE.out)
 replace HS:=hid (HS.out.trans hv5)
 clear CC hc5 hv5 d7;go_wp2
 go_end0
 refine⟨rfl,?_,HS.out⟩;have:kH x.res (zK m lo re tl) (zK m lo re te) s=s5:=by unfold kH;rw[←HZ1.out,←HZ2.out,←HZ3.out,←HZ4.out,←HZ5.out]
 rw[this];exact HC.out
theorem zFh (g n₀:Nat) (m:Md) (lo re:Int) (s:St) (x:Ix) (tl te:Il) (w:World) (h:Ck g n₀ m lo re s w) (hx:x.ok) (hfit:m.fits) (hlo:0≤lo∧lo≤140737488351232) (hty:Tys m) (hre:re≤9223372036854775807) (hLa:zD n₀ w x.la x.ln tl) (hEa:zD n₀ w x.ea x.en te) (HL:yn g n₀ m lo re tl x.la x.ln x.lc) (HE:yn g n₀ m lo re te x.ea x.en x.ec) (hcnt:0≤s.cnt) (hcn:s.cnt+tl.count+te.count≤1000000000000) (hop:x.op=0) :
  Calls Tryz.prog 242 #[.pointer (some ⟨g,0,none⟩),.agg x.vals] w (Done g n₀ m lo re w (yh m lo re x (zK m lo re tl) (zK m lo re te) s)):=by
 have CL:=hid (fun w' (hb:Below w.heap.size w w')=>yz g n₀ m lo re s x w' (h.on hb) hx hfit hlo);have HTY:=hid hty;have HOP:=hid hop;have HFIT:=hid hfit;clear hfit hlo hty hop;have HA:=hid hx;obtain⟨W0,hW0⟩:∃W0,W0=w.alloc (.cells x.vals 92):=⟨_,rfl⟩;have hb0:Below w.heap.size w W0:=by rw[hW0];exact zC (Below.refl _ _) _
 have HX:Hid (At x w.heap.size W0):=by rw[hW0];exact At.made x w
 have HNE:Hid (w.heap.size≠g):=hid (Nat.ne_of_gt h.lt);have HC:=hid (h.on hb0);have HC0:=hid h;have HS:=hid (zF.of_below (k:=g) hb0);clear h hx hb0;unfold Ix.vals at hW0 ⊢;have HAL:=hid hLa;have HAE:=hid hEa
 replace HL:=hid HL
 replace HE:=hid HE
 have HCN:=hid (And.intro hcnt hcn);clear hLa hEa hcnt hcn
 go_enter Tryz.func242,Tryz.ntmps242
 go_upto_region 1 with fail
 rw[←hW0];have hb0:Below w.heap.size w W0:=by rw[hW0];exact zC (Below.refl _ _) _
 have CC:=hid (CL.out W0 hb0);unfold yJ at CC;obtain⟨lk,hlk⟩:∃lk,zP m lo x=lk:=⟨_,rfl⟩;rw[hlk] at CC;have HLK:=hid hlk;clear CL hb0 hW0 hlk;have d0:=HX.out.c0;have d1:=HX.out.c1;have d2:=HX.out.c2;have d3:=HX.out.c3;have d4:=HX.out.c4;have d5:=HX.out.c5;have d6:=HX.out.c6;have d7:=HX.out.c7;unfold Ix.vals at CC
 go_wp2_with fail
 refine CC.out.mono ?_;rintro e0 w0 ⟨rfl,hb0⟩
 replace HC:=hid (HC.out.on hb0)
 replace HX:=hid (HX.out.below hb0)
 replace HS:=hid (HS.out.trans (zF.of_below hb0))
 clear CC hb0 d0 d1 d2 d3 d4 d5 d6 d7;have CC:=hid (qh g n₀ m lo re s lk w0 HC.out);obtain⟨s1,hs1⟩:∃u,u=zv lk s:=⟨_,rfl⟩;rw[←hs1] at CC;have HZ1:=hid hs1;clear hs1
 go_wp2_with fail
 refine CC.out.mono ?_;rintro e1 w1 ⟨rfl,hc1,hv1⟩
 replace HC:=hid hc1
 replace HX:=hid (HX.out.save hv1 HNE.out)
 replace HS:=hid (HS.out.trans hv1)
 clear CC hc1 hv1;have d0:=HX.out.c0;rw[HOP.out] at d0;have CC:=hid (zBD g n₀ m lo re s1 w1 HC.out);obtain⟨s2,hs2⟩:∃u,u=jl s1:=⟨_,rfl⟩;rw[←hs2] at CC;have HZ2:=hid hs2;clear hs2
 go_wp2_with fail
 refine CC.out.mono ?_;rintro e2 w2 ⟨rfl,hc2,hv2⟩
 replace HC:=hid hc2
 replace HX:=hid (HX.out.save hv2 HNE.out)
 replace HS:=hid (HS.out.trans hv2)
 clear CC hc2 hv2;clear d0;go_wp2
 go_end0
 refine⟨rfl,?_,HS.out⟩
 have:yh m lo re x (zK m lo re tl) (zK m lo re te) s=s2:=by
  unfold yh;rw[HLK.out,←HZ1.out];unfold opS;rw[if_pos HOP.out,←HZ2.out]
 rw[this];exact HC.out
theorem zEp (g n₀:Nat) (m:Md) (lo re:Int) (s:St) (x:Ix) (tl te:Il) (w:World) (h:Ck g n₀ m lo re s w) (hx:x.ok) (hfit:m.fits) (hlo:0≤lo∧lo≤140737488351232) (hty:Tys m) (hre:re≤9223372036854775807) (hLa:zD n₀ w x.la x.ln tl) (hEa:zD n₀ w x.ea x.en te) (HL:yn g n₀ m lo re tl x.la x.ln x.lc) (HE:yn g n₀ m lo re te x.ea x.en x.ec) (hcnt:0≤s.cnt) (hcn:s.cnt+tl.count+te.count≤1000000000000) (hop:x.op=2) :
  Calls Tryz.prog 242 #[.pointer (some ⟨g,0,none⟩),.agg x.vals] w (Done g n₀ m lo re w (yh m lo re x (zK m lo re tl) (zK m lo re te) s)):=by
 have CL:=hid (fun w' (hb:Below w.heap.size w w')=>yz g n₀ m lo re s x w' (h.on hb) hx hfit hlo);have HTY:=hid hty;have HOP:=hid hop;have HFIT:=hid hfit;clear hfit hlo hty hop;have HA:=hid hx;obtain⟨W0,hW0⟩:∃W0,W0=w.alloc (.cells x.vals 92):=⟨_,rfl⟩;have hb0:Below w.heap.size w W0:=by rw[hW0];exact zC (Below.refl _ _) _
 have HX:Hid (At x w.heap.size W0):=by rw[hW0];exact At.made x w
 have HNE:Hid (w.heap.size≠g):=hid (Nat.ne_of_gt h.lt);have HC:=hid (h.on hb0);have HC0:=hid h;have HS:=hid (zF.of_below (k:=g) hb0);clear h hx hb0;unfold Ix.vals at hW0 ⊢;have HAL:=hid hLa;have HAE:=hid hEa
 replace HL:=hid HL
 replace HE:=hid HE
 have HCN:=hid (And.intro hcnt hcn);clear hLa hEa hcnt hcn
 go_enter Tryz.func242,Tryz.ntmps242
 go_upto_region 1 with fail
 rw[←hW0];have hb0:Below w.heap.size w W0:=by rw[hW0];exact zC (Below.refl _ _) _
 have CC:=hid (CL.out W0 hb0);unfold yJ at CC;obtain⟨lk,hlk⟩:∃lk,zP m lo x=lk:=⟨_,rfl⟩;rw[hlk] at CC;have HLK:=hid hlk;clear CL hb0 hW0 hlk;have d0:=HX.out.c0;have d1:=HX.out.c1;have d2:=HX.out.c2;have d3:=HX.out.c3;have d4:=HX.out.c4;have d5:=HX.out.c5;have d6:=HX.out.c6;have d7:=HX.out.c7;unfold Ix.vals at CC
 go_wp2_with fail
 refine CC.out.mono ?_;rintro e0 w0 ⟨rfl,hb0⟩
 replace HC:=hid (HC.out.on hb0)
 replace HX:=hid (HX.out.below hb0)
 replace HS:=hid (HS.out.trans (zF.of_below hb0))
 clear CC hb0 d0 d1 d2 d3 d4 d5 d6 d7;have CC:=hid (qh g n₀ m lo re s lk w0 HC.out);obtain⟨s1,hs1⟩:∃u,u=zv lk s:=⟨_,rfl⟩;rw[←hs1] at CC;have HZ1:=hid hs1;clear hs1
 go_wp2_with fail
 refine CC.out.mono ?_;rintro e1 w1 ⟨rfl,hc1,hv1⟩
 replace HC:=hid hc1
 replace HX:=hid (HX.out.save hv1 HNE.out)
 replace HS:=hid (HS.out.trans hv1)
 clear CC hc1 hv1;have d0:=HX.out.c0;rw[HOP.out] at d0;have d1:=HX.out.c1;have CC:=hid (Jb g n₀ m lo re s1 2 x.res w1 HC.out);obtain⟨s2,hs2⟩:∃u,u=yI 2 x.res s1:=⟨_,rfl⟩;rw[←hs2] at CC;have HZ2:=hid hs2;clear hs2
 go_wp2_with fail
 refine CC.out.mono ?_;rintro e2 w2 ⟨rfl,hc2,hv2⟩
 replace HC:=hid hc2
 replace HX:=hid (HX.out.save hv2 HNE.out)
 replace HS:=hid (HS.out.trans hv2)
 clear CC hc2 hv2 d1;have d6:=HX.out.c6;have CC:=hid (HL.out s2 w2 HC.out (HAL.out.below (HC0.out.below HS.out)) (by rw[HZ2.out,yY,HZ1.out,jE];exact HCN.out.1) (by rw[HZ2.out,yY,HZ1.out,jE];have:=HCN.out.2;omega));obtain⟨s3,hs3⟩:∃u,u=zK m lo re tl s2:=⟨_,rfl⟩;rw[←hs3] at CC;have HZ3:=hid hs3;clear hs3
 go_wp2_with fail
 refine CC.out.mono ?_;rintro e3 w3 ⟨rfl,hc3,hv3⟩
 replace HC:=hid hc3
 replace HX:=hid (HX.out.save hv3 HNE.out)
 replace HS:=hid (HS.out.trans hv3)
 clear CC hc3 hv3 d6;clear d0;go_wp2
 go_end0
 refine⟨rfl,?_,HS.out⟩
 have:yh m lo re x (zK m lo re tl) (zK m lo re te) s=s3:=by
  unfold yh;rw[HLK.out,←HZ1.out];unfold opS;rw[if_neg (by rw[HOP.out];decide),if_pos (by rw[HOP.out];decide),HOP.out,←HZ2.out,←HZ3.out]
 rw[this];exact HC.out
theorem zF6 (g n₀:Nat) (m:Md) (lo re:Int) (s:St) (x:Ix) (tl te:Il) (w:World) (h:Ck g n₀ m lo re s w) (hx:x.ok) (hfit:m.fits) (hlo:0≤lo∧lo≤140737488351232) (hty:Tys m) (hre:re≤9223372036854775807) (hLa:zD n₀ w x.la x.ln tl) (hEa:zD n₀ w x.ea x.en te) (HL:yn g n₀ m lo re tl x.la x.ln x.lc) (HE:yn g n₀ m lo re te x.ea x.en x.ec) (hcnt:0≤s.cnt) (hcn:s.cnt+tl.count+te.count≤1000000000000) (hop:x.op=3) :
  Calls Tryz.prog 242 #[.pointer (some ⟨g,0,none⟩),.agg x.vals] w (Done g n₀ m lo re w (yh m lo re x (zK m lo re tl) (zK m lo re te) s)):=by
 have CL:=hid (fun w' (hb:Below w.heap.size w w')=>yz g n₀ m lo re s x w' (h.on hb) hx hfit hlo);have HTY:=hid hty;have HOP:=hid hop;have HFIT:=hid hfit;clear hfit hlo hty hop;have HA:=hid hx;obtain⟨W0,hW0⟩:∃W0,W0=w.alloc (.cells x.vals 92):=⟨_,rfl⟩;have hb0:Below w.heap.size w W0:=by rw[hW0];exact zC (Below.refl _ _) _
 have HX:Hid (At x w.heap.size W0):=by rw[hW0];exact At.made x w
 have HNE:Hid (w.heap.size≠g):=hid (Nat.ne_of_gt h.lt);have HC:=hid (h.on hb0);have HC0:=hid h;have HS:=hid (zF.of_below (k:=g) hb0);clear h hx hb0;unfold Ix.vals at hW0 ⊢;have HAL:=hid hLa;have HAE:=hid hEa
 replace HL:=hid HL
 replace HE:=hid HE
 have HCN:=hid (And.intro hcnt hcn);clear hLa hEa hcnt hcn
 go_enter Tryz.func242,Tryz.ntmps242
 go_upto_region 1 with fail
 rw[←hW0];have hb0:Below w.heap.size w W0:=by rw[hW0];exact zC (Below.refl _ _) _
 have CC:=hid (CL.out W0 hb0);unfold yJ at CC;obtain⟨lk,hlk⟩:∃lk,zP m lo x=lk:=⟨_,rfl⟩;rw[hlk] at CC;have HLK:=hid hlk;clear CL hb0 hW0 hlk;have d0:=HX.out.c0;have d1:=HX.out.c1;have d2:=HX.out.c2;have d3:=HX.out.c3;have d4:=HX.out.c4;have d5:=HX.out.c5;have d6:=HX.out.c6;have d7:=HX.out.c7;unfold Ix.vals at CC
 go_wp2_with fail
 refine CC.out.mono ?_;rintro e0 w0 ⟨rfl,hb0⟩
 replace HC:=hid (HC.out.on hb0)
 replace HX:=hid (HX.out.below hb0)
 replace HS:=hid (HS.out.trans (zF.of_below hb0))
 clear CC hb0 d0 d1 d2 d3 d4 d5 d6 d7;have CC:=hid (qh g n₀ m lo re s lk w0 HC.out);obtain⟨s1,hs1⟩:∃u,u=zv lk s:=⟨_,rfl⟩;rw[←hs1] at CC;have HZ1:=hid hs1;clear hs1
 go_wp2_with fail
 refine CC.out.mono ?_;rintro e1 w1 ⟨rfl,hc1,hv1⟩
 replace HC:=hid hc1
 replace HX:=hid (HX.out.save hv1 HNE.out)
 replace HS:=hid (HS.out.trans hv1)
 clear CC hc1 hv1;have d0:=HX.out.c0;rw[HOP.out] at d0;have d1:=HX.out.c1;have CC:=hid (Jb g n₀ m lo re s1 3 x.res w1 HC.out);obtain⟨s2,hs2⟩:∃u,u=yI 3 x.res s1:=⟨_,rfl⟩;rw[←hs2] at CC;have HZ2:=hid hs2;clear hs2
 go_wp2_with fail
 refine CC.out.mono ?_;rintro e2 w2 ⟨rfl,hc2,hv2⟩
 replace HC:=hid hc2
 replace HX:=hid (HX.out.save hv2 HNE.out)
 replace HS:=hid (HS.out.trans hv2)
 clear CC hc2 hv2 d1;have d6:=HX.out.c6;have CC:=hid (HL.out s2 w2 HC.out (HAL.out.below (HC0.out.below HS.out)) (by rw[HZ2.out,yY,HZ1.out,jE];exact HCN.out.1) (by rw[HZ2.out,yY,HZ1.out,jE];have:=HCN.out.2;omega));obtain⟨s3,hs3⟩:∃u,u=zK m lo re tl s2:=⟨_,rfl⟩;rw[←hs3] at CC;have HZ3:=hid hs3;clear hs3
 go_wp2_with fail
 refine CC.out.mono ?_;rintro e3 w3 ⟨rfl,hc3,hv3⟩
 replace HC:=hid hc3
 replace HX:=hid (HX.out.save hv3 HNE.out)
 replace HS:=hid (HS.out.trans hv3)
 clear CC hc3 hv3 d6;clear d0;go_wp2
 go_end0
 refine⟨rfl,?_,HS.out⟩
 have:yh m lo re x (zK m lo re tl) (zK m lo re te) s=s3:=by
  unfold yh;rw[HLK.out,←HZ1.out];unfold opS;rw[if_neg (by rw[HOP.out];decide),if_pos (by rw[HOP.out];decide),HOP.out,←HZ2.out,←HZ3.out]
 rw[this];exact HC.out
theorem zI4 (g n₀:Nat) (m:Md) (lo re:Int) (s:St) (x:Ix) (tl te:Il) (w:World) (h:Ck g n₀ m lo re s w) (hx:x.ok) (hfit:m.fits) (hlo:0≤lo∧lo≤140737488351232) (hty:Tys m) (hre:re≤9223372036854775807) (hLa:zD n₀ w x.la x.ln tl) (hEa:zD n₀ w x.ea x.en te) (HL:yn g n₀ m lo re tl x.la x.ln x.lc) (HE:yn g n₀ m lo re te x.ea x.en x.ec) (hcnt:0≤s.cnt) (hcn:s.cnt+tl.count+te.count≤1000000000000) (hop:x.op=4) :
  Calls Tryz.prog 242 #[.pointer (some ⟨g,0,none⟩),.agg x.vals] w (Done g n₀ m lo re w (yh m lo re x (zK m lo re tl) (zK m lo re te) s)):=by
 have CL:=hid (fun w' (hb:Below w.heap.size w w')=>yz g n₀ m lo re s x w' (h.on hb) hx hfit hlo);have HTY:=hid hty;have HOP:=hid hop;have HFIT:=hid hfit;clear hfit hlo hty hop;have HA:=hid hx;obtain⟨W0,hW0⟩:∃W0,W0=w.alloc (.cells x.vals 92):=⟨_,rfl⟩;have hb0:Below w.heap.size w W0:=by rw[hW0];exact zC (Below.refl _ _) _
 have HX:Hid (At x w.heap.size W0):=by rw[hW0];exact At.made x w
 have HNE:Hid (w.heap.size≠g):=hid (Nat.ne_of_gt h.lt);have HC:=hid (h.on hb0);have HC0:=hid h;have HS:=hid (zF.of_below (k:=g) hb0);clear h hx hb0;unfold Ix.vals at hW0 ⊢;have HAL:=hid hLa;have HAE:=hid hEa
 replace HL:=hid HL
 replace HE:=hid HE
 have HCN:=hid (And.intro hcnt hcn);clear hLa hEa hcnt hcn
 go_enter Tryz.func242,Tryz.ntmps242
 go_upto_region 1 with fail
 rw[←hW0];have hb0:Below w.heap.size w W0:=by rw[hW0];exact zC (Below.refl _ _) _
 have CC:=hid (CL.out W0 hb0);unfold yJ at CC;obtain⟨lk,hlk⟩:∃lk,zP m lo x=lk:=⟨_,rfl⟩;rw[hlk] at CC;have HLK:=hid hlk;clear CL hb0 hW0 hlk;have d0:=HX.out.c0;have d1:=HX.out.c1;have d2:=HX.out.c2;have d3:=HX.out.c3;have d4:=HX.out.c4;have d5:=HX.out.c5;have d6:=HX.out.c6;have d7:=HX.out.c7;unfold Ix.vals at CC
 go_wp2_with fail
 refine CC.out.mono ?_;rintro e0 w0 ⟨rfl,hb0⟩
 replace HC:=hid (HC.out.on hb0)
 replace HX:=hid (HX.out.below hb0)
 replace HS:=hid (HS.out.trans (zF.of_below hb0))
 clear CC hb0 d0 d1 d2 d3 d4 d5 d6 d7;have CC:=hid (qh g n₀ m lo re s lk w0 HC.out);obtain⟨s1,hs1⟩:∃u,u=zv lk s:=⟨_,rfl⟩;rw[←hs1] at CC;have HZ1:=hid hs1;clear hs1
 go_wp2_with fail
 refine CC.out.mono ?_;rintro e1 w1 ⟨rfl,hc1,hv1⟩
 replace HC:=hid hc1
 replace HX:=hid (HX.out.save hv1 HNE.out)
 replace HS:=hid (HS.out.trans hv1)
 clear CC hc1 hv1;have d0:=HX.out.c0;have d1:=HX.out.c1;have d2:=HX.out.c2;have d3:=HX.out.c3;have d4:=HX.out.c4;have d5:=HX.out.c5;have d6:=HX.out.c6;have d7:=HX.out.c7;rw[HOP.out] at d0;have CE:=hid (zGi g n₀ m lo re s1 x tl te w1 HC.out HA.out (HAL.out.below (HC0.out.below HS.out)) (HAE.out.below (HC0.out.below HS.out)) HL.out HE.out (by rw[HZ1.out,jE];exact HCN.out.1) (by rw[HZ1.out,jE];exact HCN.out.2));unfold Ix.vals at CE;rw[HOP.out] at CE;have CC:=hid (CE.out);obtain⟨s2,hs2⟩:∃u,u=kH x.res (zK m lo re tl) (zK m lo re te) s1:=⟨_,rfl⟩;rw[←hs2] at CC;have HZ2:=hid hs2;clear hs2
 go_wp2_with fail
 refine CC.out.mono ?_;rintro e2 w2 ⟨rfl,hc2,hv2⟩
 replace HC:=hid hc2
 replace HX:=hid (HX.out.save hv2 HNE.out)
 replace HS:=hid (HS.out.trans hv2)
 clear CC hc2 hv2;clear CE d0 d1 d2 d3 d4 d5 d6 d7;go_wp2
 go_end0
 refine⟨rfl,?_,HS.out⟩
 have:yh m lo re x (zK m lo re tl) (zK m lo re te) s=s2:=by
  unfold yh;rw[HLK.out,←HZ1.out];unfold opS;rw[if_neg (by rw[HOP.out];decide),if_neg (by rw[HOP.out];decide),if_pos HOP.out,←HZ2.out]
 rw[this];exact HC.out
theorem zE3 (g n₀:Nat) (m:Md) (lo re:Int) (s:St) (x:Ix) (tl te:Il) (w:World) (h:Ck g n₀ m lo re s w) (hx:x.ok) (hfit:m.fits) (hlo:0≤lo∧lo≤140737488351232) (hty:Tys m) (hre:re≤9223372036854775807) (hLa:zD n₀ w x.la x.ln tl) (hEa:zD n₀ w x.ea x.en te) (HL:yn g n₀ m lo re tl x.la x.ln x.lc) (HE:yn g n₀ m lo re te x.ea x.en x.ec) (hcnt:0≤s.cnt) (hcn:s.cnt+tl.count+te.count≤1000000000000) (hta:zk n₀ w x.ta x.tags) (hop:x.op=14) :
  Calls Tryz.prog 242 #[.pointer (some ⟨g,0,none⟩),.agg x.vals] w (Done g n₀ m lo re w (yh m lo re x (zK m lo re tl) (zK m lo re te) s)):=by
 have CL:=hid (fun w' (hb:Below w.heap.size w w')=>yz g n₀ m lo re s x w' (h.on hb) hx hfit hlo);have HTY:=hid hty;have HOP:=hid hop;have HFIT:=hid hfit;clear hfit hlo hty hop;have HA:=hid hx;obtain⟨W0,hW0⟩:∃W0,W0=w.alloc (.cells x.vals 92):=⟨_,rfl⟩;have hb0:Below w.heap.size w W0:=by rw[hW0];exact zC (Below.refl _ _) _
 have HX:Hid (At x w.heap.size W0):=by rw[hW0];exact At.made x w
 have HNE:Hid (w.heap.size≠g):=hid (Nat.ne_of_gt h.lt);have HC:=hid (h.on hb0);have HC0:=hid h;have HS:=hid (zF.of_below (k:=g) hb0);clear h hx hb0;unfold Ix.vals at hW0 ⊢;have HAL:=hid hLa;have HAE:=hid hEa
 replace HL:=hid HL
 replace HE:=hid HE
 have HCN:=hid (And.intro hcnt hcn);clear hLa hEa hcnt hcn;have HTA0:=hid hta;clear hta
 go_enter Tryz.func242,Tryz.ntmps242
 go_upto_region 1 with fail
 rw[←hW0];have hb0:Below w.heap.size w W0:=by rw[hW0];exact zC (Below.refl _ _) _
 have CC:=hid (CL.out W0 hb0);unfold yJ at CC;obtain⟨lk,hlk⟩:∃lk,zP m lo x=lk:=⟨_,rfl⟩;rw[hlk] at CC;have HLK:=hid hlk;clear CL hb0 hW0 hlk;have d0:=HX.out.c0;have d1:=HX.out.c1;have d2:=HX.out.c2;have d3:=HX.out.c3;have d4:=HX.out.c4;have d5:=HX.out.c5;have d6:=HX.out.c6;have d7:=HX.out.c7;unfold Ix.vals at CC
 go_wp2_with fail
 refine CC.out.mono ?_;rintro e0 w0 ⟨rfl,hb0⟩
 replace HC:=hid (HC.out.on hb0)
 replace HX:=hid (HX.out.below hb0)
 replace HS:=hid (HS.out.trans (zF.of_below hb0))
 clear CC hb0 d0 d1 d2 d3 d4 d5 d6 d7;have CC:=hid (qh g n₀ m lo re s lk w0 HC.out);obtain⟨s1,hs1⟩:∃u,u=zv lk s:=⟨_,rfl⟩;rw[←hs1] at CC;have HZ1:=hid hs1;clear hs1
 go_wp2_with fail
 refine CC.out.mono ?_;rintro e1 w1 ⟨rfl,hc1,hv1⟩
 replace HC:=hid hc1
 replace HX:=hid (HX.out.save hv1 HNE.out)
 replace HS:=hid (HS.out.trans hv1)
 clear CC hc1 hv1;have d0:=HX.out.c0;rw[HOP.out] at d0;have HTA:=hid (HTA0.out.below (HC0.out.below HS.out));have d2:=HX.out.c2;have d5:=HX.out.c5;have CC:=hid (zFw g n₀ m lo re s1 x.ta x.tc x.tags x.a w1 HC.out HTA.out HA.out.tags HA.out.a HA.out.tn);obtain⟨s2,hs2⟩:∃u,u=jD x.tags x.a s1:=⟨_,rfl⟩;rw[←hs2] at CC;have HZ2:=hid hs2;clear hs2
 go_wp2_with fail
 refine CC.out.mono ?_;rintro e2 w2 ⟨rfl,hc2,hv2⟩
 replace HC:=hid hc2
 replace HX:=hid (HX.out.save hv2 HNE.out)
 replace HS:=hid (HS.out.trans hv2)
 clear CC hc2 hv2 d2 d5;have CC:=hid (ue g n₀ m lo re s2 1 w2 HC.out (by omega));obtain⟨s3,hs3⟩:∃u,u=zx 1 s2:=⟨_,rfl⟩;rw[←hs3] at CC;have HZ3:=hid hs3;clear hs3
 go_wp2_with fail
 refine CC.out.mono ?_;rintro e3 w3 ⟨rfl,hc3,hv3⟩
 replace HC:=hid hc3
 replace HX:=hid (HX.out.save hv3 HNE.out)
 replace HS:=hid (HS.out.trans hv3)
 clear CC hc3 hv3;have d2:=HX.out.c2;have CC:=hid (YR g n₀ m lo re s3 x.a w3 HC.out HA.out.a);obtain⟨p4,hp4⟩:∃u,u=ze x.a s3:=⟨_,rfl⟩;rw[←hp4] at CC;have HZ4:=hid hp4;have HQ4:=hid (show p4.1≤1 by rw[hp4];exact Yv _ _);clear hp4;obtain⟨q4,s4⟩:=p4
 go_wp2_with fail
 refine CC.out.mono ?_;rintro e4 w4 ⟨rfl,hc4,hv4⟩
 replace HC:=hid hc4
 replace HX:=hid (HX.out.save hv4 HNE.out)
 replace HS:=hid (HS.out.trans hv4)
 clear CC hc4 hv4 d2;have CC:=hid (ue g n₀ m lo re s4 q4 w4 HC.out (by have:q4≤1:=HQ4.out;omega));obtain⟨s5,hs5⟩:∃u,u=zx q4 s4:=⟨_,rfl⟩;rw[←hs5] at CC;have HZ5:=hid hs5;clear hs5
 go_wp2_with fail
 refine CC.out.mono ?_;rintro e5 w5 ⟨rfl,hc5,hv5⟩
 replace HC:=hid hc5
 replace HX:=hid (HX.out.save hv5 HNE.out)
 replace HS:=hid (HS.out.trans hv5)
 clear CC hc5 hv5;have CC:=hid (zBD g n₀ m lo re s5 w5 HC.out);obtain⟨s6,hs6⟩:∃u,u=jl s5:=⟨_,rfl⟩;rw[←hs6] at CC;have HZ6:=hid hs6;clear hs6
 go_wp2_with fail
 refine CC.out.mono ?_;rintro e6 w6 ⟨rfl,hc6,hv6⟩
 replace HC:=hid hc6
 replace HX:=hid (HX.out.save hv6 HNE.out)
 replace HS:=hid (HS.out.trans hv6)
 clear CC hc6 hv6;clear d0;go_wp2
 go_end0
 refine⟨rfl,?_,HS.out⟩
 have:yh m lo re x (zK m lo re tl) (zK m lo re te) s=s6:=by
  unfold yh;rw[HLK.out,←HZ1.out];unfold opS;rw[if_neg (by rw[HOP.out];decide),if_neg (by rw[HOP.out];decide),if_neg (by rw[HOP.out];decide),if_pos HOP.out,←HZ2.out,←HZ3.out];unfold brS;rw[←HZ4.out];simp only;rw[←HZ5.out,←HZ6.out]
 rw[this];exact HC.out
theorem zIn (g n₀:Nat) (m:Md) (lo re:Int) (s:St) (x:Ix) (tl te:Il) (w:World) (h:Ck g n₀ m lo re s w) (hx:x.ok) (hfit:m.fits) (hlo:0≤lo∧lo≤140737488351232) (hty:Tys m) (hre:re≤9223372036854775807) (hLa:zD n₀ w x.la x.ln tl) (hEa:zD n₀ w x.ea x.en te) (HL:yn g n₀ m lo re tl x.la x.ln x.lc) (HE:yn g n₀ m lo re te x.ea x.en x.ec) (hcnt:0≤s.cnt) (hcn:s.cnt+tl.count+te.count≤1000000000000) (hop:x.op=12) :
  Calls Tryz.prog 242 #[.pointer (some ⟨g,0,none⟩),.agg x.vals] w (Done g n₀ m lo re w (yh m lo re x (zK m lo re tl) (zK m lo re te) s)):=by
 have CL:=hid (fun w' (hb:Below w.heap.size w w')=>yz g n₀ m lo re s x w' (h.on hb) hx hfit hlo);have HTY:=hid hty;have HOP:=hid hop;have HFIT:=hid hfit;clear hfit hlo hty hop;have HA:=hid hx;obtain⟨W0,hW0⟩:∃W0,W0=w.alloc (.cells x.vals 92):=⟨_,rfl⟩;have hb0:Below w.heap.size w W0:=by rw[hW0];exact zC (Below.refl _ _) _
 have HX:Hid (At x w.heap.size W0):=by rw[hW0];exact At.made x w
 have HNE:Hid (w.heap.size≠g):=hid (Nat.ne_of_gt h.lt);have HC:=hid (h.on hb0);have HC0:=hid h;have HS:=hid (zF.of_below (k:=g) hb0);clear h hx hb0;unfold Ix.vals at hW0 ⊢;have HAL:=hid hLa;have HAE:=hid hEa
 replace HL:=hid HL
 replace HE:=hid HE
 have HCN:=hid (And.intro hcnt hcn);clear hLa hEa hcnt hcn
 go_enter Tryz.func242,Tryz.ntmps242
 go_upto_region 1 with fail
 rw[←hW0];have hb0:Below w.heap.size w W0:=by rw[hW0];exact zC (Below.refl _ _) _
 have CC:=hid (CL.out W0 hb0);unfold yJ at CC;obtain⟨lk,hlk⟩:∃lk,zP m lo x=lk:=⟨_,rfl⟩;rw[hlk] at CC;have HLK:=hid hlk;clear CL hb0 hW0 hlk;have d0:=HX.out.c0;have d1:=HX.out.c1;have d2:=HX.out.c2;have d3:=HX.out.c3;have d4:=HX.out.c4;have d5:=HX.out.c5;have d6:=HX.out.c6;have d7:=HX.out.c7;unfold Ix.vals at CC
 go_wp2_with fail
 refine CC.out.mono ?_;rintro e0 w0 ⟨rfl,hb0⟩
 replace HC:=hid (HC.out.on hb0)
 replace HX:=hid (HX.out.below hb0)
 replace HS:=hid (HS.out.trans (zF.of_below hb0))
 clear CC hb0 d0 d1 d2 d3 d4 d5 d6 d7;have CC:=hid (qh g n₀ m lo re s lk w0 HC.out);obtain⟨s1,hs1⟩:∃u,u=zv lk s:=⟨_,rfl⟩;rw[←hs1] at CC;have HZ1:=hid hs1;clear hs1
 go_wp2_with fail
 refine CC.out.mono ?_;rintro e1 w1 ⟨rfl,hc1,hv1⟩
 replace HC:=hid hc1
 replace HX:=hid (HX.out.save hv1 HNE.out)
 replace HS:=hid (HS.out.trans hv1)
 clear CC hc1 hv1;have d0:=HX.out.c0;rw[HOP.out] at d0;have d2:=HX.out.c2;have CC:=hid (YR g n₀ m lo re s1 x.a w1 HC.out HA.out.a);obtain⟨p2,hp2⟩:∃u,u=ze x.a s1:=⟨_,rfl⟩;rw[←hp2] at CC;have HZ2:=hid hp2;have HQ2:=hid (show p2.1≤1 by rw[hp2];exact Yv _ _);clear hp2;obtain⟨q2,s2⟩:=p2
 go_wp2_with fail
 refine CC.out.mono ?_;rintro e2 w2 ⟨rfl,hc2,hv2⟩
 replace HC:=hid hc2
 replace HX:=hid (HX.out.save hv2 HNE.out)
 replace HS:=hid (HS.out.trans hv2)
 clear CC hc2 hv2 d2;have CC:=hid (ue g n₀ m lo re s2 q2 w2 HC.out (by have:q2≤1:=HQ2.out;omega));obtain⟨s3,hs3⟩:∃u,u=zx q2 s2:=⟨_,rfl⟩;rw[←hs3] at CC;have HZ3:=hid hs3;clear hs3
 go_wp2_with fail
 refine CC.out.mono ?_;rintro e3 w3 ⟨rfl,hc3,hv3⟩
 replace HC:=hid hc3
 replace HX:=hid (HX.out.save hv3 HNE.out)
 replace HS:=hid (HS.out.trans hv3)
 clear CC hc3 hv3;have CC:=hid (zBD g n₀ m lo re s3 w3 HC.out);obtain⟨s4,hs4⟩:∃u,u=jl s3:=⟨_,rfl⟩;rw[←hs4] at CC;have HZ4:=hid hs4;clear hs4
 go_wp2_with fail
 refine CC.out.mono ?_;rintro e4 w4 ⟨rfl,hc4,hv4⟩
 replace HC:=hid hc4
 replace HX:=hid (HX.out.save hv4 HNE.out)
 replace HS:=hid (HS.out.trans hv4)
 clear CC hc4 hv4;clear d0;go_wp2
 go_end0
 refine⟨rfl,?_,HS.out⟩
 have:yh m lo re x (zK m lo re tl) (zK m lo re te) s=s4:=by
  unfold yh;rw[HLK.out,←HZ1.out];unfold opS;rw[if_neg (by rw[HOP.out];decide),if_neg (by rw[HOP.out];decide),if_neg (by rw[HOP.out];decide),if_neg (by rw[HOP.out];decide),if_pos HOP.out];unfold brS;rw[←HZ2.out];simp only;rw[←HZ3.out,←HZ4.out]
 rw[this];exact HC.out
theorem zF1 (g n₀:Nat) (m:Md) (lo re:Int) (s:St) (x:Ix) (tl te:Il) (w:World) (h:Ck g n₀ m lo re s w) (hx:x.ok) (hfit:m.fits) (hlo:0≤lo∧lo≤140737488351232) (hty:Tys m) (hre:re≤9223372036854775807) (hLa:zD n₀ w x.la x.ln tl) (hEa:zD n₀ w x.ea x.en te) (HL:yn g n₀ m lo re tl x.la x.ln x.lc) (HE:yn g n₀ m lo re te x.ea x.en x.ec) (hcnt:0≤s.cnt) (hcn:s.cnt+tl.count+te.count≤1000000000000) (hop:x.op=13) :
  Calls Tryz.prog 242 #[.pointer (some ⟨g,0,none⟩),.agg x.vals] w (Done g n₀ m lo re w (yh m lo re x (zK m lo re tl) (zK m lo re te) s)):=by
 have CL:=hid (fun w' (hb:Below w.heap.size w w')=>yz g n₀ m lo re s x w' (h.on hb) hx hfit hlo);have HTY:=hid hty;have HOP:=hid hop;have HFIT:=hid hfit;clear hfit hlo hty hop;have HA:=hid hx;obtain⟨W0,hW0⟩:∃W0,W0=w.alloc (.cells x.vals 92):=⟨_,rfl⟩;have hb0:Below w.heap.size w W0:=by rw[hW0];exact zC (Below.refl _ _) _
 have HX:Hid (At x w.heap.size W0):=by rw[hW0];exact At.made x w
 have HNE:Hid (w.heap.size≠g):=hid (Nat.ne_of_gt h.lt);have HC:=hid (h.on hb0);have HC0:=hid h;have HS:=hid (zF.of_below (k:=g) hb0);clear h hx hb0;unfold Ix.vals at hW0 ⊢;have HAL:=hid hLa;have HAE:=hid hEa
 replace HL:=hid HL
 replace HE:=hid HE
 have HCN:=hid (And.intro hcnt hcn);clear hLa hEa hcnt hcn
 go_enter Tryz.func242,Tryz.ntmps242
 go_upto_region 1 with fail
 rw[←hW0];have hb0:Below w.heap.size w W0:=by rw[hW0];exact zC (Below.refl _ _) _
 have CC:=hid (CL.out W0 hb0);unfold yJ at CC;obtain⟨lk,hlk⟩:∃lk,zP m lo x=lk:=⟨_,rfl⟩;rw[hlk] at CC;have HLK:=hid hlk;clear CL hb0 hW0 hlk;have d0:=HX.out.c0;have d1:=HX.out.c1;have d2:=HX.out.c2;have d3:=HX.out.c3;have d4:=HX.out.c4;have d5:=HX.out.c5;have d6:=HX.out.c6;have d7:=HX.out.c7;unfold Ix.vals at CC
 go_wp2_with fail
 refine CC.out.mono ?_;rintro e0 w0 ⟨rfl,hb0⟩
 replace HC:=hid (HC.out.on hb0)
 replace HX:=hid (HX.out.below hb0)
 replace HS:=hid (HS.out.trans (zF.of_below hb0))
 clear CC hb0 d0 d1 d2 d3 d4 d5 d6 d7;have CC:=hid (qh g n₀ m lo re s lk w0 HC.out);obtain⟨s1,hs1⟩:∃u,u=zv lk s:=⟨_,rfl⟩;rw[←hs1] at CC;have HZ1:=hid hs1;clear hs1
 go_wp2_with fail
 refine CC.out.mono ?_;rintro e1 w1 ⟨rfl,hc1,hv1⟩
 replace HC:=hid hc1
 replace HX:=hid (HX.out.save hv1 HNE.out)
 replace HS:=hid (HS.out.trans hv1)
 clear CC hc1 hv1;have d0:=HX.out.c0;rw[HOP.out] at d0;have d2:=HX.out.c2;have CC:=hid (YR g n₀ m lo re s1 x.a w1 HC.out HA.out.a);obtain⟨p2,hp2⟩:∃u,u=ze x.a s1:=⟨_,rfl⟩;rw[←hp2] at CC;have HZ2:=hid hp2;have HQ2:=hid (show p2.1≤1 by rw[hp2];exact Yv _ _);clear hp2;obtain⟨q2,s2⟩:=p2
 go_wp2_with fail
 refine CC.out.mono ?_;rintro e2 w2 ⟨rfl,hc2,hv2⟩
 replace HC:=hid hc2
 replace HX:=hid (HX.out.save hv2 HNE.out)
 replace HS:=hid (HS.out.trans hv2)
 clear CC hc2 hv2 d2;have CC:=hid (ue g n₀ m lo re s2 1 w2 HC.out (by omega));obtain⟨s3,hs3⟩:∃u,u=zx 1 s2:=⟨_,rfl⟩;rw[←hs3] at CC;have HZ3:=hid hs3;clear hs3
 go_wp2_with fail
 refine CC.out.mono ?_;rintro e3 w3 ⟨rfl,hc3,hv3⟩
 replace HC:=hid hc3
 replace HX:=hid (HX.out.save hv3 HNE.out)
 replace HS:=hid (HS.out.trans hv3)
 clear CC hc3 hv3;have CC:=hid (ue g n₀ m lo re s3 q2 w3 HC.out (by have:q2≤1:=HQ2.out;omega));obtain⟨s4,hs4⟩:∃u,u=zx q2 s3:=⟨_,rfl⟩;rw[←hs4] at CC;have HZ4:=hid hs4;clear hs4
 go_wp2_with fail
 refine CC.out.mono ?_;rintro e4 w4 ⟨rfl,hc4,hv4⟩
 replace HC:=hid hc4
 replace HX:=hid (HX.out.save hv4 HNE.out)
 replace HS:=hid (HS.out.trans hv4)
 clear CC hc4 hv4;have CC:=hid (zBg g n₀ m lo re s4 q2 w4 HC.out);obtain⟨s5,hs5⟩:∃u,u=qL q2 s4:=⟨_,rfl⟩;rw[←hs5] at CC;have HZ5:=hid hs5;clear hs5
 go_wp2_with fail
 refine CC.out.mono ?_;rintro e5 w5 ⟨rfl,hc5,hv5⟩
 replace HC:=hid hc5
 replace HX:=hid (HX.out.save hv5 HNE.out)
 replace HS:=hid (HS.out.trans hv5)
 clear CC hc5 hv5;clear d0;go_wp2
 go_end0
 refine⟨rfl,?_,HS.out⟩
 have:yh m lo re x (zK m lo re tl) (zK m lo re te) s=s5:=by
  unfold yh;rw[HLK.out,←HZ1.out];unfold opS;rw[if_neg (by rw[HOP.out];decide),if_neg (by rw[HOP.out];decide),if_neg (by rw[HOP.out];decide),if_neg (by rw[HOP.out];decide),if_neg (by rw[HOP.out];decide),if_pos HOP.out];unfold zA9;rw[←HZ2.out];simp only;rw[←HZ3.out,←HZ4.out,←HZ5.out]
 rw[this];exact HC.out
theorem zH2 (g n₀:Nat) (m:Md) (lo re:Int) (s:St) (x:Ix) (tl te:Il) (w:World) (h:Ck g n₀ m lo re s w) (hx:x.ok) (hfit:m.fits) (hlo:0≤lo∧lo≤140737488351232) (hty:Tys m) (hre:re≤9223372036854775807) (hLa:zD n₀ w x.la x.ln tl) (hEa:zD n₀ w x.ea x.en te) (HL:yn g n₀ m lo re tl x.la x.ln x.lc) (HE:yn g n₀ m lo re te x.ea x.en x.ec) (hcnt:0≤s.cnt) (hcn:s.cnt+tl.count+te.count≤1000000000000) (hop:x.op=15) :
  Calls Tryz.prog 242 #[.pointer (some ⟨g,0,none⟩),.agg x.vals] w (Done g n₀ m lo re w (yh m lo re x (zK m lo re tl) (zK m lo re te) s)):=by
 have CL:=hid (fun w' (hb:Below w.heap.size w w')=>yz g n₀ m lo re s x w' (h.on hb) hx hfit hlo);have HTY:=hid hty;have HOP:=hid hop;have HFIT:=hid hfit;clear hfit hlo hty hop;have HA:=hid hx;obtain⟨W0,hW0⟩:∃W0,W0=w.alloc (.cells x.vals 92):=⟨_,rfl⟩;have hb0:Below w.heap.size w W0:=by rw[hW0];exact zC (Below.refl _ _) _
 have HX:Hid (At x w.heap.size W0):=by rw[hW0];exact At.made x w
 have HNE:Hid (w.heap.size≠g):=hid (Nat.ne_of_gt h.lt);have HC:=hid (h.on hb0);have HC0:=hid h;have HS:=hid (zF.of_below (k:=g) hb0);clear h hx hb0;unfold Ix.vals at hW0 ⊢;have HAL:=hid hLa;have HAE:=hid hEa
 replace HL:=hid HL
 replace HE:=hid HE
 have HCN:=hid (And.intro hcnt hcn);clear hLa hEa hcnt hcn
 go_enter Tryz.func242,Tryz.ntmps242
 go_upto_region 1 with fail
 rw[←hW0];have hb0:Below w.heap.size w W0:=by rw[hW0];exact zC (Below.refl _ _) _
 have CC:=hid (CL.out W0 hb0);unfold yJ at CC;obtain⟨lk,hlk⟩:∃lk,zP m lo x=lk:=⟨_,rfl⟩;rw[hlk] at CC;have HLK:=hid hlk;clear CL hb0 hW0 hlk;have d0:=HX.out.c0;have d1:=HX.out.c1;have d2:=HX.out.c2;have d3:=HX.out.c3;have d4:=HX.out.c4;have d5:=HX.out.c5;have d6:=HX.out.c6;have d7:=HX.out.c7;unfold Ix.vals at CC
 go_wp2_with fail
 refine CC.out.mono ?_;rintro e0 w0 ⟨rfl,hb0⟩
 replace HC:=hid (HC.out.on hb0)
 replace HX:=hid (HX.out.below hb0)
 replace HS:=hid (HS.out.trans (zF.of_below hb0))
 clear CC hb0 d0 d1 d2 d3 d4 d5 d6 d7;have CC:=hid (qh g n₀ m lo re s lk w0 HC.out);obtain⟨s1,hs1⟩:∃u,u=zv lk s:=⟨_,rfl⟩;rw[←hs1] at CC;have HZ1:=hid hs1;clear hs1
 go_wp2_with fail
 refine CC.out.mono ?_;rintro e1 w1 ⟨rfl,hc1,hv1⟩
 replace HC:=hid hc1
 replace HX:=hid (HX.out.save hv1 HNE.out)
 replace HS:=hid (HS.out.trans hv1)
 clear CC hc1 hv1;have d0:=HX.out.c0;rw[HOP.out] at d0;obtain⟨a1,n1,c1,hk1,-⟩:=HC.out.blk;have b12:=hk1.c12;clear hk1;have CC:=hid (ue g n₀ m lo re s1 re w1 HC.out hre);obtain⟨s2,hs2⟩:∃u,u=zx re s1:=⟨_,rfl⟩;rw[←hs2] at CC;have HZ2:=hid hs2;clear hs2
 go_wp2_with fail
 refine CC.out.mono ?_;rintro e2 w2 ⟨rfl,hc2,hv2⟩
 replace HC:=hid hc2
 replace HX:=hid (HX.out.save hv2 HNE.out)
 replace HS:=hid (HS.out.trans hv2)
 clear CC hc2 hv2;clear b12;have CC:=hid (zBD g n₀ m lo re s2 w2 HC.out);obtain⟨s3,hs3⟩:∃u,u=jl s2:=⟨_,rfl⟩;rw[←hs3] at CC;have HZ3:=hid hs3;clear hs3
 go_wp2_with fail
 refine CC.out.mono ?_;rintro e3 w3 ⟨rfl,hc3,hv3⟩
 replace HC:=hid hc3
 replace HX:=hid (HX.out.save hv3 HNE.out)
 replace HS:=hid (HS.out.trans hv3)
 clear CC hc3 hv3;clear d0;go_wp2
 go_end0
 refine⟨rfl,?_,HS.out⟩
 have:yh m lo re x (zK m lo re tl) (zK m lo re te) s=s3:=by
  unfold yh;rw[HLK.out,←HZ1.out];unfold opS;rw[if_neg (by rw[HOP.out];decide),if_neg (by rw[HOP.out];decide),if_neg (by rw[HOP.out];decide),if_neg (by rw[HOP.out];decide),if_neg (by rw[HOP.out];decide),if_neg (by rw[HOP.out];decide),if_pos HOP.out,←HZ2.out,←HZ3.out]
 rw[this];exact HC.out
theorem zGv (g n₀:Nat) (m:Md) (lo re:Int) (s:St) (x:Ix) (tl te:Il) (w:World) (h:Ck g n₀ m lo re s w) (hx:x.ok) (hfit:m.fits) (hlo:0≤lo∧lo≤140737488351232) (hty:Tys m) (hre:re≤9223372036854775807) (hLa:zD n₀ w x.la x.ln tl) (hEa:zD n₀ w x.ea x.en te) (HL:yn g n₀ m lo re tl x.la x.ln x.lc) (HE:yn g n₀ m lo re te x.ea x.en x.ec) (hcnt:0≤s.cnt) (hcn:s.cnt+tl.count+te.count≤1000000000000) (hop:x.op=16) :
  Calls Tryz.prog 242 #[.pointer (some ⟨g,0,none⟩),.agg x.vals] w (Done g n₀ m lo re w (yh m lo re x (zK m lo re tl) (zK m lo re te) s)):=by
 have CL:=hid (fun w' (hb:Below w.heap.size w w')=>yz g n₀ m lo re s x w' (h.on hb) hx hfit hlo);have HTY:=hid hty;have HOP:=hid hop;have HFIT:=hid hfit;clear hfit hlo hty hop;have HA:=hid hx;obtain⟨W0,hW0⟩:∃W0,W0=w.alloc (.cells x.vals 92):=⟨_,rfl⟩;have hb0:Below w.heap.size w W0:=by rw[hW0];exact zC (Below.refl _ _) _
 have HX:Hid (At x w.heap.size W0):=by rw[hW0];exact At.made x w
 have HNE:Hid (w.heap.size≠g):=hid (Nat.ne_of_gt h.lt);have HC:=hid (h.on hb0);have HC0:=hid h;have HS:=hid (zF.of_below (k:=g) hb0);clear h hx hb0;unfold Ix.vals at hW0 ⊢;have HAL:=hid hLa;have HAE:=hid hEa
 replace HL:=hid HL
 replace HE:=hid HE
 have HCN:=hid (And.intro hcnt hcn);clear hLa hEa hcnt hcn
 go_enter Tryz.func242,Tryz.ntmps242
 go_upto_region 1 with fail
 rw[←hW0];have hb0:Below w.heap.size w W0:=by rw[hW0];exact zC (Below.refl _ _) _
 have CC:=hid (CL.out W0 hb0);unfold yJ at CC;obtain⟨lk,hlk⟩:∃lk,zP m lo x=lk:=⟨_,rfl⟩;rw[hlk] at CC;have HLK:=hid hlk;clear CL hb0 hW0 hlk;have d0:=HX.out.c0;have d1:=HX.out.c1;have d2:=HX.out.c2;have d3:=HX.out.c3;have d4:=HX.out.c4;have d5:=HX.out.c5;have d6:=HX.out.c6;have d7:=HX.out.c7;unfold Ix.vals at CC
 go_wp2_with fail
 refine CC.out.mono ?_;rintro e0 w0 ⟨rfl,hb0⟩
 replace HC:=hid (HC.out.on hb0)
 replace HX:=hid (HX.out.below hb0)
 replace HS:=hid (HS.out.trans (zF.of_below hb0))
 clear CC hb0 d0 d1 d2 d3 d4 d5 d6 d7;have CC:=hid (qh g n₀ m lo re s lk w0 HC.out);obtain⟨s1,hs1⟩:∃u,u=zv lk s:=⟨_,rfl⟩;rw[←hs1] at CC;have HZ1:=hid hs1;clear hs1
 go_wp2_with fail
 refine CC.out.mono ?_;rintro e1 w1 ⟨rfl,hc1,hv1⟩
 replace HC:=hid hc1
 replace HX:=hid (HX.out.save hv1 HNE.out)
 replace HS:=hid (HS.out.trans hv1)
 clear CC hc1 hv1;have d0:=HX.out.c0;rw[HOP.out] at d0;have CE:=hid (Zj g n₀ m lo re s1 x w1 HC.out HA.out HFIT.out (by rw[HOP.out];decide));unfold vN Ix.vals at CE;rw[HOP.out] at CE;have HTC:=hid (HTY.out.callee x);obtain⟨t,ht⟩:∃t,zT m x=t:=⟨_,rfl⟩;rw[ht] at CE HTC;have HT:=hid ht;clear ht;obtain⟨⟨t1,t2⟩,tb⟩:=t;have d1:=HX.out.c1;have d2:=HX.out.c2;have d3:=HX.out.c3;have d4:=HX.out.c4;have d5:=HX.out.c5;have d6:=HX.out.c6;have d7:=HX.out.c7
 go_wp2_with fail
 refine CE.out.mono ?_;rintro e9 w9 ⟨rfl,hb9⟩
 replace HC:=hid (HC.out.on hb9)
 replace HX:=hid (HX.out.below hb9)
 replace HS:=hid (HS.out.trans (zF.of_below hb9))
 clear CE hb9 d1 d2 d3 d4 d5 d6 d7
 go_upto_region 29 with fail
 have hA:Below w9.heap.size w9 (w9.alloc (.cells #[.int .i64 t1,.int .i64 t2] 26)):=(Below.refl _ _).alloc (Nat.le_refl _) _;have HT2:=hid (Bx2.made w9 t1 t2);obtain⟨v9,hv9⟩:∃u,u=w9.alloc (.cells #[.int .i64 t1,.int .i64 t2] 26):=⟨_,rfl⟩;rw[←hv9] at hA HT2 ⊢;have HGB:=hid (show w9.heap.size≠g from Nat.ne_of_gt HC.out.lt);obtain⟨gb,hgb⟩:∃gb,gb=w9.heap.size:=⟨_,rfl⟩;rw[←hgb] at HT2 HGB ⊢
 replace HC:=hid (HC.out.on hA)
 replace HX:=hid (HX.out.below hA)
 replace HS:=hid (HS.out.trans (zF.of_below hA))
 have HU0:=hid HT2.out.c0;have HU1:=hid HT2.out.c1;clear hA hv9 hgb HT2;have u0:=HU0.out;have CC:=hid (ue g n₀ m lo re s1 t1 v9 HC.out (by have:t1≤255:=HTC.out.2.1;omega));obtain⟨s2,hs2⟩:∃u,u=zx t1 s1:=⟨_,rfl⟩;rw[←hs2] at CC;have HZ2:=hid hs2;clear hs2
 go_wp2_with fail
 refine CC.out.mono ?_;rintro e2 w2 ⟨rfl,hc2,hv2⟩
 replace HC:=hid hc2
 replace HX:=hid (HX.out.save hv2 HNE.out)
 replace HS:=hid (HS.out.trans hv2)
 replace HU0:=hid (hv2.cell (p:=⟨gb,0,none⟩) HGB.out HU0.out)
 replace HU1:=hid (hv2.cell (p:=⟨gb,1,none⟩) HGB.out HU1.out)
 clear CC hc2 hv2;clear u0;have u1:=HU1.out;have CC:=hid (zBg g n₀ m lo re s2 t2 w2 HC.out);obtain⟨s3,hs3⟩:∃u,u=qL t2 s2:=⟨_,rfl⟩;rw[←hs3] at CC;have HZ3:=hid hs3;clear hs3
 go_wp2_with fail
 refine CC.out.mono ?_;rintro e3 w3 ⟨rfl,hc3,hv3⟩
 replace HC:=hid hc3
 replace HX:=hid (HX.out.save hv3 HNE.out)
 replace HS:=hid (HS.out.trans hv3)
 replace HU0:=hid (hv3.cell (p:=⟨gb,0,none⟩) HGB.out HU0.out)
 replace HU1:=hid (hv3.cell (p:=⟨gb,1,none⟩) HGB.out HU1.out)
 clear CC hc3 hv3;clear u1;clear d0;go_wp2
 go_end0
 refine⟨rfl,?_,HS.out⟩
 have:yh m lo re x (zK m lo re tl) (zK m lo re te) s=s3:=by
  unfold yh;rw[HLK.out,←HZ1.out];unfold opS;rw[if_neg (by rw[HOP.out];decide),if_neg (by rw[HOP.out];decide),if_neg (by rw[HOP.out];decide),if_neg (by rw[HOP.out];decide),if_neg (by rw[HOP.out];decide),if_neg (by rw[HOP.out];decide),if_neg (by rw[HOP.out];decide),if_neg (by rw[HOP.out];decide),if_pos HOP.out,HT.out];unfold Zd;simp only;rw[←HZ2.out,←HZ3.out]
 rw[this];exact HC.out
theorem zHQ (g n₀:Nat) (m:Md) (lo re:Int) (s:St) (x:Ix) (tl te:Il) (w:World) (h:Ck g n₀ m lo re s w) (hx:x.ok) (hfit:m.fits) (hlo:0≤lo∧lo≤140737488351232) (hty:Tys m) (hre:re≤9223372036854775807) (hLa:zD n₀ w x.la x.ln tl) (hEa:zD n₀ w x.ea x.en te) (HL:yn g n₀ m lo re tl x.la x.ln x.lc) (HE:yn g n₀ m lo re te x.ea x.en x.ec) (hcnt:0≤s.cnt) (hcn:s.cnt+tl.count+te.count≤1000000000000) (hop:x.op=17) :
  Calls Tryz.prog 242 #[.pointer (some ⟨g,0,none⟩),.agg x.vals] w (Done g n₀ m lo re w (yh m lo re x (zK m lo re tl) (zK m lo re te) s)):=by
 have CL:=hid (fun w' (hb:Below w.heap.size w w')=>yz g n₀ m lo re s x w' (h.on hb) hx hfit hlo);have HTY:=hid hty;have HOP:=hid hop;have HFIT:=hid hfit;clear hfit hlo hty hop;have HA:=hid hx;obtain⟨W0,hW0⟩:∃W0,W0=w.alloc (.cells x.vals 92):=⟨_,rfl⟩;have hb0:Below w.heap.size w W0:=by rw[hW0];exact zC (Below.refl _ _) _
 have HX:Hid (At x w.heap.size W0):=by rw[hW0];exact At.made x w
 have HNE:Hid (w.heap.size≠g):=hid (Nat.ne_of_gt h.lt);have HC:=hid (h.on hb0);have HC0:=hid h;have HS:=hid (zF.of_below (k:=g) hb0);clear h hx hb0;unfold Ix.vals at hW0 ⊢;have HAL:=hid hLa;have HAE:=hid hEa
 replace HL:=hid HL
 replace HE:=hid HE
 have HCN:=hid (And.intro hcnt hcn);clear hLa hEa hcnt hcn
 go_enter Tryz.func242,Tryz.ntmps242
 go_upto_region 1 with fail
 rw[←hW0];have hb0:Below w.heap.size w W0:=by rw[hW0];exact zC (Below.refl _ _) _
 have CC:=hid (CL.out W0 hb0);unfold yJ at CC;obtain⟨lk,hlk⟩:∃lk,zP m lo x=lk:=⟨_,rfl⟩;rw[hlk] at CC;have HLK:=hid hlk;clear CL hb0 hW0 hlk;have d0:=HX.out.c0;have d1:=HX.out.c1;have d2:=HX.out.c2;have d3:=HX.out.c3;have d4:=HX.out.c4;have d5:=HX.out.c5;have d6:=HX.out.c6;have d7:=HX.out.c7;unfold Ix.vals at CC
 go_wp2_with fail
 refine CC.out.mono ?_;rintro e0 w0 ⟨rfl,hb0⟩
 replace HC:=hid (HC.out.on hb0)
 replace HX:=hid (HX.out.below hb0)
 replace HS:=hid (HS.out.trans (zF.of_below hb0))
 clear CC hb0 d0 d1 d2 d3 d4 d5 d6 d7;have CC:=hid (qh g n₀ m lo re s lk w0 HC.out);obtain⟨s1,hs1⟩:∃u,u=zv lk s:=⟨_,rfl⟩;rw[←hs1] at CC;have HZ1:=hid hs1;clear hs1
 go_wp2_with fail
 refine CC.out.mono ?_;rintro e1 w1 ⟨rfl,hc1,hv1⟩
 replace HC:=hid hc1
 replace HX:=hid (HX.out.save hv1 HNE.out)
 replace HS:=hid (HS.out.trans hv1)
 clear CC hc1 hv1;have d0:=HX.out.c0;rw[HOP.out] at d0;have CC:=hid (ue g n₀ m lo re s1 1 w1 HC.out (by omega));obtain⟨s2,hs2⟩:∃u,u=zx 1 s1:=⟨_,rfl⟩;rw[←hs2] at CC;have HZ2:=hid hs2;clear hs2
 go_wp2_with fail
 refine CC.out.mono ?_;rintro e2 w2 ⟨rfl,hc2,hv2⟩
 replace HC:=hid hc2
 replace HX:=hid (HX.out.save hv2 HNE.out)
 replace HS:=hid (HS.out.trans hv2)
 clear CC hc2 hv2;clear d0;have d0:=HX.out.c0;rw[HOP.out] at d0;have CE:=hid (Zj g n₀ m lo re s2 x w2 HC.out HA.out HFIT.out (by rw[HOP.out];decide));unfold vN Ix.vals at CE;rw[HOP.out] at CE;have HTC:=hid (HTY.out.callee x);obtain⟨t,ht⟩:∃t,zT m x=t:=⟨_,rfl⟩;rw[ht] at CE HTC;have HT:=hid ht;clear ht;obtain⟨⟨t1,t2⟩,tb⟩:=t;have d1:=HX.out.c1;have d2:=HX.out.c2;have d3:=HX.out.c3;have d4:=HX.out.c4;have d5:=HX.out.c5;have d6:=HX.out.c6;have d7:=HX.out.c7
 go_wp2_with fail
 refine CE.out.mono ?_;rintro e9 w9 ⟨rfl,hb9⟩
 replace HC:=hid (HC.out.on hb9)
 replace HX:=hid (HX.out.below hb9)
 replace HS:=hid (HS.out.trans (zF.of_below hb9))
 clear CE hb9 d1 d2 d3 d4 d5 d6 d7
 go_upto_region 29 with fail
 have hA:Below w9.heap.size w9 (w9.alloc (.cells #[.int .i64 t1,.int .i64 t2] 26)):=(Below.refl _ _).alloc (Nat.le_refl _) _;have HT2:=hid (Bx2.made w9 t1 t2);obtain⟨v9,hv9⟩:∃u,u=w9.alloc (.cells #[.int .i64 t1,.int .i64 t2] 26):=⟨_,rfl⟩;rw[←hv9] at hA HT2 ⊢;have HGB:=hid (show w9.heap.size≠g from Nat.ne_of_gt HC.out.lt);obtain⟨gb,hgb⟩:∃gb,gb=w9.heap.size:=⟨_,rfl⟩;rw[←hgb] at HT2 HGB ⊢
 replace HC:=hid (HC.out.on hA)
 replace HX:=hid (HX.out.below hA)
 replace HS:=hid (HS.out.trans (zF.of_below hA))
 have HU0:=hid HT2.out.c0;have HU1:=hid HT2.out.c1;clear hA hv9 hgb HT2;have u0:=HU0.out;have CC:=hid (ue g n₀ m lo re s2 t1 v9 HC.out (by have:t1≤255:=HTC.out.2.1;omega));obtain⟨s3,hs3⟩:∃u,u=zx t1 s2:=⟨_,rfl⟩;rw[←hs3] at CC;have HZ3:=hid hs3;clear hs3
 go_wp2_with fail
 refine CC.out.mono ?_;rintro e3 w3 ⟨rfl,hc3,hv3⟩
 replace HC:=hid hc3
 replace HX:=hid (HX.out.save hv3 HNE.out)
 replace HS:=hid (HS.out.trans hv3)
 replace HU0:=hid (hv3.cell (p:=⟨gb,0,none⟩) HGB.out HU0.out)
 replace HU1:=hid (hv3.cell (p:=⟨gb,1,none⟩) HGB.out HU1.out)
 clear CC hc3 hv3;clear u0;have u1:=HU1.out;have CC:=hid (zBg g n₀ m lo re s3 t2 w3 HC.out);obtain⟨s4,hs4⟩:∃u,u=qL t2 s3:=⟨_,rfl⟩;rw[←hs4] at CC;have HZ4:=hid hs4;clear hs4
 go_wp2_with fail
 refine CC.out.mono ?_;rintro e4 w4 ⟨rfl,hc4,hv4⟩
 replace HC:=hid hc4
 replace HX:=hid (HX.out.save hv4 HNE.out)
 replace HS:=hid (HS.out.trans hv4)
 replace HU0:=hid (hv4.cell (p:=⟨gb,0,none⟩) HGB.out HU0.out)
 replace HU1:=hid (hv4.cell (p:=⟨gb,1,none⟩) HGB.out HU1.out)
 clear CC hc4 hv4;clear u1;clear d0;go_wp2
 go_end0
 refine⟨rfl,?_,HS.out⟩
 have:yh m lo re x (zK m lo re tl) (zK m lo re te) s=s4:=by
  unfold yh;rw[HLK.out,←HZ1.out];unfold opS;rw[if_neg (by rw[HOP.out];decide),if_neg (by rw[HOP.out];decide),if_neg (by rw[HOP.out];decide),if_neg (by rw[HOP.out];decide),if_neg (by rw[HOP.out];decide),if_neg (by rw[HOP.out];decide),if_neg (by rw[HOP.out];decide),if_pos HOP.out,HT.out];unfold Zd;simp only;rw[←HZ2.out,←HZ3.out,←HZ4.out]
 rw[this];exact HC.out
theorem zGL (g n₀:Nat) (m:Md) (lo re:Int) (s:St) (x:Ix) (tl te:Il) (w:World) (h:Ck g n₀ m lo re s w) (hx:x.ok) (hfit:m.fits) (hlo:0≤lo∧lo≤140737488351232) (hty:Tys m) (hre:re≤9223372036854775807) (hLa:zD n₀ w x.la x.ln tl) (hEa:zD n₀ w x.ea x.en te) (HL:yn g n₀ m lo re tl x.la x.ln x.lc) (HE:yn g n₀ m lo re te x.ea x.en x.ec) (hcnt:0≤s.cnt) (hcn:s.cnt+tl.count+te.count≤1000000000000) (hop:x.op≠0∧x.op≠2∧x.op≠3∧x.op≠4∧x.op≠14∧x.op≠12∧x.op≠13∧x.op≠15∧x.op≠17∧x.op≠16) :
  Calls Tryz.prog 242 #[.pointer (some ⟨g,0,none⟩),.agg x.vals] w (Done g n₀ m lo re w (yh m lo re x (zK m lo re tl) (zK m lo re te) s)):=by
 have CL:=hid (fun w' (hb:Below w.heap.size w w')=>yz g n₀ m lo re s x w' (h.on hb) hx hfit hlo);have HTY:=hid hty;have HOP:=hid hop;have HFIT:=hid hfit;clear hfit hlo hty hop;have HA:=hid hx;obtain⟨W0,hW0⟩:∃W0,W0=w.alloc (.cells x.vals 92):=⟨_,rfl⟩;have hb0:Below w.heap.size w W0:=by rw[hW0];exact zC (Below.refl _ _) _
 have HX:Hid (At x w.heap.size W0):=by rw[hW0];exact At.made x w
 have HNE:Hid (w.heap.size≠g):=hid (Nat.ne_of_gt h.lt);have HC:=hid (h.on hb0);have HC0:=hid h;have HS:=hid (zF.of_below (k:=g) hb0);clear h hx hb0;unfold Ix.vals at hW0 ⊢;have HAL:=hid hLa;have HAE:=hid hEa
 replace HL:=hid HL
 replace HE:=hid HE
 have HCN:=hid (And.intro hcnt hcn);clear hLa hEa hcnt hcn
 go_enter Tryz.func242,Tryz.ntmps242
 go_upto_region 1 with fail
 rw[←hW0];have hb0:Below w.heap.size w W0:=by rw[hW0];exact zC (Below.refl _ _) _
 have CC:=hid (CL.out W0 hb0);unfold yJ at CC;obtain⟨lk,hlk⟩:∃lk,zP m lo x=lk:=⟨_,rfl⟩;rw[hlk] at CC;have HLK:=hid hlk;clear CL hb0 hW0 hlk;have d0:=HX.out.c0;have d1:=HX.out.c1;have d2:=HX.out.c2;have d3:=HX.out.c3;have d4:=HX.out.c4;have d5:=HX.out.c5;have d6:=HX.out.c6;have d7:=HX.out.c7;unfold Ix.vals at CC
 go_wp2_with fail
 refine CC.out.mono ?_;rintro e0 w0 ⟨rfl,hb0⟩
 replace HC:=hid (HC.out.on hb0)
 replace HX:=hid (HX.out.below hb0)
 replace HS:=hid (HS.out.trans (zF.of_below hb0))
 clear CC hb0 d0 d1 d2 d3 d4 d5 d6 d7;have CC:=hid (qh g n₀ m lo re s lk w0 HC.out);obtain⟨s1,hs1⟩:∃u,u=zv lk s:=⟨_,rfl⟩;rw[←hs1] at CC;have HZ1:=hid hs1;clear hs1
 go_wp2_with fail
 refine CC.out.mono ?_;rintro e1 w1 ⟨rfl,hc1,hv1⟩
 replace HC:=hid hc1
 replace HX:=hid (HX.out.save hv1 HNE.out)
 replace HS:=hid (HS.out.trans hv1)
 clear CC hc1 hv1;obtain⟨n0,n2,n3,n4,n14,n12,n13,n15,n17,n16⟩:=HOP.out;have b0:(x.op==0)=false:=by simpa using n0
 have b2:(x.op==2)=false:=by simpa using n2
 have b3:(x.op==3)=false:=by simpa using n3
 have b4:(x.op==4)=false:=by simpa using n4
 have b14:(x.op==14)=false:=by simpa using n14
 have b12:(x.op==12)=false:=by simpa using n12
 have b13:(x.op==13)=false:=by simpa using n13
 have b15:(x.op==15)=false:=by simpa using n15
 have b17:(x.op==17)=false:=by simpa using n17
 have b16:(x.op==16)=false:=by simpa using n16
 have d0:=HX.out.c0;have CE:=hid (zFN x.op w1 HC.out.mo.ar);have HTK:=hid (zEl x.op);obtain⟨tk,htk⟩:∃t,yc x.op=t:=⟨_,rfl⟩;obtain⟨lv,hlv⟩:∃t,yg x.op=t:=⟨_,rfl⟩;rw[htk] at CE HTK;rw[hlv] at CE;have HTK1:=hid htk;have HLV1:=hid hlv;clear htk hlv
 go_wp2_with fail
 refine CE.out.mono ?_;rintro e9 w9 ⟨rfl,hb9⟩
 replace HC:=hid (HC.out.on hb9)
 replace HX:=hid (HX.out.below hb9)
 replace HS:=hid (HS.out.trans (zF.of_below hb9))
 clear CE hb9 d0;have CC:=hid (ue g n₀ m lo re s1 tk w9 HC.out (by have:=HTK.out;omega));obtain⟨s2,hs2⟩:∃u,u=zx tk s1:=⟨_,rfl⟩;rw[←hs2] at CC;have HZ2:=hid hs2;clear hs2
 go_wp2_with fail
 refine CC.out.mono ?_;rintro e2 w2 ⟨rfl,hc2,hv2⟩
 replace HC:=hid hc2
 replace HX:=hid (HX.out.save hv2 HNE.out)
 replace HS:=hid (HS.out.trans hv2)
 clear CC hc2 hv2;have CC:=hid (zBg g n₀ m lo re s2 lv w2 HC.out);obtain⟨s3,hs3⟩:∃u,u=qL lv s2:=⟨_,rfl⟩;rw[←hs3] at CC;have HZ3:=hid hs3;clear hs3
 go_wp2_with fail
 refine CC.out.mono ?_;rintro e3 w3 ⟨rfl,hc3,hv3⟩
 replace HC:=hid hc3
 replace HX:=hid (HX.out.save hv3 HNE.out)
 replace HS:=hid (HS.out.trans hv3)
 clear CC hc3 hv3;go_wp2
 go_end0
 refine⟨rfl,?_,HS.out⟩
 have:yh m lo re x (zK m lo re tl) (zK m lo re te) s=s3:=by
  unfold yh;rw[HLK.out,←HZ1.out];unfold opS;rw[if_neg n0,if_neg (by omega),if_neg n4,if_neg n14,if_neg n12,if_neg n13,if_neg n15,if_neg n17,if_neg n16,HTK1.out,HLV1.out,←HZ2.out,←HZ3.out]
 rw[this];exact HC.out
theorem zJk (g n₀:Nat) (m:Md) (lo re:Int) (s:St) (x:Ix) (tl te:Il) (w:World) (h:Ck g n₀ m lo re s w) (hx:x.ok) (hfit:m.fits) (hlo:0≤lo∧lo≤140737488351232) (hty:Tys m) (hre:re≤9223372036854775807) (hLa:zD n₀ w x.la x.ln tl) (hEa:zD n₀ w x.ea x.en te) (HL:yn g n₀ m lo re tl x.la x.ln x.lc) (HE:yn g n₀ m lo re te x.ea x.en x.ec) (hcnt:0≤s.cnt) (hcn:s.cnt+tl.count+te.count≤1000000000000) (hta:zk n₀ w x.ta x.tags) :
  Calls Tryz.prog 242 #[.pointer (some ⟨g,0,none⟩),.agg x.vals] w (Done g n₀ m lo re w (yh m lo re x (zK m lo re tl) (zK m lo re te) s)):=by
 by_cases g0:x.op=0
 ·exact zFh g n₀ m lo re s x tl te w h hx hfit hlo hty hre hLa hEa HL HE hcnt hcn g0
 by_cases g2:x.op=2
 ·exact zEp g n₀ m lo re s x tl te w h hx hfit hlo hty hre hLa hEa HL HE hcnt hcn g2
 by_cases g3:x.op=3
 ·exact zF6 g n₀ m lo re s x tl te w h hx hfit hlo hty hre hLa hEa HL HE hcnt hcn g3
 by_cases g4:x.op=4
 ·exact zI4 g n₀ m lo re s x tl te w h hx hfit hlo hty hre hLa hEa HL HE hcnt hcn g4
 by_cases g14:x.op=14
 ·exact zE3 g n₀ m lo re s x tl te w h hx hfit hlo hty hre hLa hEa HL HE hcnt hcn hta g14
 by_cases g12:x.op=12
 ·exact zIn g n₀ m lo re s x tl te w h hx hfit hlo hty hre hLa hEa HL HE hcnt hcn g12
 by_cases g13:x.op=13
 ·exact zF1 g n₀ m lo re s x tl te w h hx hfit hlo hty hre hLa hEa HL HE hcnt hcn g13
 by_cases g15:x.op=15
 ·exact zH2 g n₀ m lo re s x tl te w h hx hfit hlo hty hre hLa hEa HL HE hcnt hcn g15
 by_cases g17:x.op=17
 ·exact zHQ g n₀ m lo re s x tl te w h hx hfit hlo hty hre hLa hEa HL HE hcnt hcn g17
 by_cases g16:x.op=16
 ·exact zGv g n₀ m lo re s x tl te w h hx hfit hlo hty hre hLa hEa HL HE hcnt hcn g16
 exact zGL g n₀ m lo re s x tl te w h hx hfit hlo hty hre hLa hEa HL HE hcnt hcn ⟨g0,g2,g3,g4,g14,g12,g13,g15,g17,g16⟩
theorem zEf (m:Md) (lo re:Int) (s:St):zK m lo re .nil s=jo s.at_ s:=rfl
theorem zCv (g n₀:Nat) (m:Md) (lo re:Int) (a:Option Addr) (n c:Nat):yn g n₀ m lo re .nil a n c:=by
 intro s w h hL hc0 hc1;have h0:n=0:=hL.1.symm;subst h0;obtain⟨a1,n1,c1,hk1,-⟩:=h.blk;have d16:=hk1.c16;have HC:=hid h;have C:=hid (zEV g n₀ m lo re s s.at_ w h);rw[zEf];clear hL hc0 hc1 h hk1
 go_enter Tryz.func177,Tryz.ntmps177
 go_wp2
 go_loopw [13] (fun si wr=>si=.int .i64 0∧wr=w) (fun _ _=>0)
 case atStart=>exact⟨rfl,rfl⟩
 case round =>
  obtain⟨rfl,rfl⟩:=hrel
  go_wp2_with fail
  refine C.out.mono ?_;rintro e1 w1 ⟨rfl,hc1,hs1⟩;have HC1:=hid hc1;have HS1:=hid hs1;clear C hc1 hs1 d16;go_wp2
  go_end0
  exact⟨rfl,HC1.out,HS1.out⟩
theorem at_new (W:World) (x:Ix) (ty:TypeId):At x W.heap.size (W.alloc (.cells x.vals ty)):=by
 constructor<;>simp[Ix.vals,go_sem]
theorem zI6 (g n₀:Nat) (m:Md) (lo re:Int) (hfit:m.fits) (hlo:0≤lo∧lo≤140737488351232) (hty:Tys m) (hre:re≤9223372036854775807) :
  ∀(N:Nat) (t:Il),t.count≤N→∀(a:Option Addr) (n c:Nat),n≤140737488351232→yn g n₀ m lo re t a n c:=by
 intro N
 induction N with
 | zero =>
  intro t ht a n c hn
  cases t with
  | nil=>exact zCv g n₀ m lo re a n c
  | cons x l e r=>simp only[Il.count] at ht;omega
 | succ N ih =>
  intro t ht a len c hlen s w h hL hc0 hc1;obtain⟨hL1,hL2⟩:=hL
  rcases hL2 with rfl|⟨b,off,rfl,hi⟩
  ·exact zCv g n₀ m lo re a len c s w h ⟨hL1,.inl rfl⟩ hc0 hc1
  ·obtain⟨a1,n1,c1,hk1,-⟩:=h.blk
   have d16:=hk1.c16;have HM:=hid ht;have HL1:=hid hL1;have HI:=hid hi;have HC:=hid h;have HN:=hid (And.intro hc0 hc1);have IH:=hid ih;have HFIT:=hid hfit;have HLO:=hid hlo;have HTY:=hid hty;have HRE:=hid hre;clear ht hL1 hi h hc0 hc1 hk1 ih hfit hlo hty hre
   go_enter Tryz.func177,Tryz.ntmps177
   go_wp2
   go_loopw [13] (fun si wr=>∃(k:Nat) (rest:Il) (s':St),si=.int .i64 k∧k≤len∧Hid (k+rest.len=len∧rest.count≤t.count∧uP m lo re t s=uP m lo re rest s'∧0≤s'.cnt∧s'.cnt+rest.count≤s.cnt+t.count)∧Hid (zg n₀ w b (off+k*8) rest)∧Hid (Ck g n₀ m lo re s' wr)∧Hid (zF g w wr))
    (fun si _=>len-(intOf si).toNat)
   case atStart=>exact⟨0,t,s,rfl,Nat.zero_le _,⟨by have:=HL1.out;omega,Nat.le_refl _,rfl,HN.out.1,Int.le_refl _⟩,by simpa using HI,HC,hid (zF.refl _ _)⟩
   case round =>
    obtain⟨k,rest,s',rfl,hk,HR,HIR,HK,HS⟩:=hrel
    cases rest with
    | nil =>
     obtain⟨r1,r2,r3,r4,r5⟩:=HR.out;have hkl:k=len:=by simpa[Il.len] using r1
     subst hkl;have HE:=hid (show zK m lo re t s=jo s.at_ s' by unfold zK;rw[r3];rfl);have C:=hid (zEV g n₀ m lo re s' s.at_ wr HK.out);clear r1 r2 r3 r4 r5 HR
     go_wp2_with fail
     refine C.out.mono ?_;rintro e1 w1 ⟨rfl,hc1,hs1⟩;have HC1:=hid hc1;have HS1:=hid (HS.out.trans hs1);clear C hc1 hs1;go_wp2
     go_end0
     exact⟨rfl,by rw[HE.out];exact HC1.out,HS1.out⟩
    | cons x tl te r =>
     have hbw:=HC.out.below HS.out;have hir:=zg.below hbw HIR.out;obtain⟨hbn,hx,⟨c0,c1,c2,c3,c4,c5,c6,c7⟩,htag,hLl,hLe,hir'⟩:=hir;have hir0:=HIR.out;obtain⟨_,_,_,_,_,_,hirn⟩:=hir0;have HIRN:=hid hirn;have HXO:=hid hx;have HLl:=hid hLl;have HLe:=hid hLe;have HTG:=hid htag;have hlt:k<len:=by have:=HR.out.1;simp only[Il.len] at this;omega
     have hki:(k:Int)<(len:Int):=by omega
     obtain⟨a2,n2,c2',hk2,-⟩:=HK.out.blk;have HBK:=hid hk2;have b17:=hk2.c17;obtain⟨er,her⟩:∃e,s'.er=e:=⟨_,rfl⟩;rw[her] at b17;have HER:=hid her;clear hbw hir' hirn hx hLl hLe htag her hk2 hbn
     by_cases h0:er=0
     ·subst h0
      have HX0:=hid (at_new wr x 92);unfold Ix.vals at HX0
      go_upto_region 4 with fail
      have hA:Below wr.heap.size wr (wr.alloc (.cells #[.int .i64 x.op,.int .i64 x.res,.int .u32 x.a,.int .u32 x.b,.int .i32 x.n,.slice x.ta x.tags.length x.tc,.slice x.la x.ln x.lc,.slice x.ea x.en x.ec] 92)):=(Below.refl _ _).alloc (Nat.le_refl _) _;obtain⟨w1,hw1⟩:∃u,u=wr.alloc (.cells #[.int .i64 x.op,.int .i64 x.res,.int .u32 x.a,.int .u32 x.b,.int .i32 x.n,.slice x.ta x.tags.length x.tc,.slice x.la x.ln x.lc,.slice x.ea x.en x.ec] 92):=⟨_,rfl⟩;rw[←hw1] at HX0 hA ⊢;have hk3:=HBK.out.below hA;clear b17 c0 c1 c2 c3 c4 c5 c6 c7;have b17:=hk3.c17;rw[HER.out] at b17;have b15:=hk3.c15;have b16:=hk3.c16;have f15:=hk3.f 15;have f16:=hk3.f 16
      have hq:IntKind.i64.wrap (s'.cnt+1)=s'.cnt+1:=by
       have h1:=HR.out.2.2.2;have h2:=HN.out;simp only[Il.count] at h1;rw[IntKind.wrap_i64];omega
      have HCa:=hid (HK.out.on hA);have HXa:=HX0
      have hnx:Ck g n₀ m lo re s'.next ((w1.setCell ⟨g,15,none⟩ (.int .i64 (s'.cnt+1))).setCell ⟨g,16,none⟩ (.int .i64 (s'.cnt+1))):=by
       obtain⟨a3,n3,c3',hk4,hf4⟩:=HCa.out.blk;exact⟨⟨a3,n3,c3',(hk4.set15 _).set16 _,(hf4.set _ _).set _ _⟩,uS (uS HCa.out.mo HCa.out.le _ _) HCa.out.le _ _,HCa.out.le⟩
      have hvx:zF g w1 ((w1.setCell ⟨g,15,none⟩ (.int .i64 (s'.cnt+1))).setCell ⟨g,16,none⟩ (.int .i64 (s'.cnt+1))):=((zF.refl g w1).setCell (.inl rfl) _).setCell (.inl rfl) _;have HNE:=hid (show wr.heap.size≠g from Nat.ne_of_gt HK.out.lt);obtain⟨gx,hgx⟩:∃gx,gx=wr.heap.size:=⟨_,rfl⟩;rw[←hgx] at HXa HNE ⊢;have HNX:=hid hnx;have HVX:=hid hvx;have HSA:=hid (zF.of_below (k:=g) hA);have z15:(w1.setCell ⟨g,15,none⟩ (.int .i64 (s'.cnt+1))).cell? ⟨g,15,none⟩=some (.int .i64 (s'.cnt+1)):=(hk3.set15 _).c15;have zf16:(w1.setCell ⟨g,15,none⟩ (.int .i64 (s'.cnt+1))).frozen? ⟨g,16,none⟩=false:=(hk3.set15 _).f 16;clear hA hw1 hk3 hnx hvx hgx HX0
      go_upto_region 6 with fail
      go_upto_region 7 with fail
      obtain⟨w2,hw2⟩:∃u,u=(w1.setCell ⟨g,15,none⟩ (.int .i64 (s'.cnt+1))).setCell ⟨g,16,none⟩ (.int .i64 (s'.cnt+1)):=⟨_,rfl⟩;rw[←hw2] at HNX HVX ⊢;have HSW:=hid ((HS.out.trans HSA.out).trans HVX.out);have HX2:=hid (At.save (x:=x) (g:=gx) HXa.out HVX.out HNE.out)
      have hcnt:x.ok∧tl.count≤N∧te.count≤N∧0≤s'.cnt+1∧s'.cnt+1+tl.count+te.count≤1000000000000:=by
       have h1:=HR.out.2.2.2;have h2:=HN.out;have h3:=HM.out;have h4:=HR.out.2.1;simp only[Il.count] at h1 h4;exact⟨HXO.out,by omega,by omega,by omega,by omega⟩
      obtain⟨q0,q1,q2,q3,q4⟩:=hcnt;have hb2:Below n₀ wr w2:=HK.out.below (HSA.out.trans HVX.out);have CI:=hid (zJk g n₀ m lo re s'.next x tl te w2 HNX.out q0 HFIT.out HLO.out HTY.out HRE.out (zD.below hb2 ⟨HLl.out.1,HLl.out.2⟩) (zD.below hb2 ⟨HLe.out.1,HLe.out.2⟩) (IH.out tl q1 x.la x.ln x.lc q0.ln) (IH.out te q2 x.ea x.en x.ec q0.en) q3 q4 (zk.below hb2 HTG.out));obtain⟨s2,hs2⟩:∃u,u=yh m lo re x (zK m lo re tl) (zK m lo re te) s'.next:=⟨_,rfl⟩;rw[←hs2] at CI;have HS2:=hid hs2;have d0:=HX2.out.c0;have d1:=HX2.out.c1;have d2:=HX2.out.c2;have d3:=HX2.out.c3;have d4:=HX2.out.c4;have d5:=HX2.out.c5;have d6:=HX2.out.c6;have d7:=HX2.out.c7;unfold Ix.vals at CI;clear b15 b16 b17 f15 f16 z15 zf16 hq hw2 hs2 hb2 q0 q1 q2 q3 q4
      go_wp2_with fail
      refine CI.out.mono ?_;rintro e3 w3 ⟨rfl,hc3,hs3⟩;have HC3:=hid hc3;have HS3:=hid (HSW.out.trans hs3);clear CI hc3 hs3 d0 d1 d2 d3 d4 d5 d6 d7;go_wp2
      go_roundw
      case rel =>
       refine⟨k+1,r,s2,by go_num,by omega,?_,by rw[show off+(k+1)*8=off+k*8+8 by omega];exact HIRN,HC3,HS3⟩;obtain⟨r1,r2,r3,r4,r5⟩:=HR.out;simp only[Il.len] at r1;simp only[Il.count] at r2 r5;have hoc:=zBG (m:=m) (re:=re) (x:=x) (a:=tl.count) (b:=te.count) (L:=zK m lo re tl) (E:=zK m lo re te) (by omega) (by omega) (uB m lo re tl) (uB m lo re te) (zv (zP m lo x) s'.next);rw[jE] at hoc;have hnc:s'.next.cnt=s'.cnt+1:=rfl;have h2c:s2.cnt=(opS m re x (zK m lo re tl) (zK m lo re te) (zv (zP m lo x) s'.next)).cnt:=by rw[HS2.out];rfl
       refine⟨by omega,by omega,?_,by omega,by omega⟩;rw[r3,kO,if_pos HER.out,←HS2.out]
      case measure=>simp[intOf];omega
     ·have HE:=hid (show zK m lo re t s=s' by
        unfold zK;rw[HR.out.2.2.1,zBk _ _ _ _ _ (by rw[HER.out];exact h0)];unfold jo;rw[if_neg (by rw[HER.out];exact h0)])
      go_upto_region 4 with fail
      have hA:Below wr.heap.size wr (wr.alloc (.cells #[.int .i64 x.op,.int .i64 x.res,.int .u32 x.a,.int .u32 x.b,.int .i32 x.n,.slice x.ta x.tags.length x.tc,.slice x.la x.ln x.lc,.slice x.ea x.en x.ec] 92)):=(Below.refl _ _).alloc (Nat.le_refl _) _;obtain⟨w1,hw1⟩:∃u,u=wr.alloc (.cells #[.int .i64 x.op,.int .i64 x.res,.int .u32 x.a,.int .u32 x.b,.int .i32 x.n,.slice x.ta x.tags.length x.tc,.slice x.la x.ln x.lc,.slice x.ea x.en x.ec] 92):=⟨_,rfl⟩;rw[←hw1] at hA ⊢;clear b17 c0 c1 c2 c3 c4 c5 c6 c7;have b17:=(HBK.out.below hA).c17;rw[HER.out] at b17;have HCa:=hid (HK.out.on hA);have HSA:=hid (HS.out.trans (zF.of_below (k:=g) hA));clear hA hw1;go_wp2;refine bodyPost_ret (results_none rfl _ _ _) rfl ⟨rfl,?_,HSA.out⟩;rw[HE.out];exact HCa.out
structure ky (m:Md):Prop where
 tys:Tys m
 im:m.im.length≤16384
 fu:m.fu.length≤16384
 lo:∀f∈m.fu,0≤f.lo∧f.lo≤50000
 ty:∀f∈m.fu,0≤f.ty
 imt:∀i∈m.im,0≤i.ty
 cs:∀l∈m.codes,zJ l.t=0
 kinds:∀e∈m.ex,0≤e.k∧e.k≤3
theorem YS {m:Md} (h:m.check=0):ky m:=by
 unfold Md.check at h
 split at h;· omega
 split at h;· omega
 split at h;· omega
 split at h;· omega
 split at h;· omega
 split at h;· omega
 rename_i h1 h2 h3 h4 h5 h6
 have hc:zu m.codes=0:=by have:=qx m.codes;omega
 unfold Md.wrong at h6;simp only[Bool.or_eq_true,not_or,Bool.not_eq_true] at h6;obtain⟨⟨⟨⟨⟨⟨⟨-,w1⟩,w2⟩,w3⟩,w4⟩,-⟩,-⟩,-⟩:=h6;unfold Md.crowded at h1;simp only[Bool.or_eq_true,decide_eq_true_eq,not_or] at h1;obtain⟨⟨⟨⟨⟨⟨⟨⟨⟨c1,c2⟩,c3⟩,-⟩,-⟩,-⟩,-⟩,-⟩,-⟩,-⟩:=h1;refine⟨fun t ht=>?_,by omega,by omega,fun f hf=>?_,fun f hf=>?_,fun f hf=>?_,(kU _).1 hc,fun e he=>?_⟩
 ·have:=List.any_eq_false.1 w1 t ht
  simp only[jS,Bool.not_eq_true',Bool.not_eq_false,Kind.jJ,Bool.and_eq_true,decide_eq_true_eq] at this;omega
 ·have:=List.any_eq_false.1 w3 f hf
  simp only[yR,kD,Bool.or_eq_true,decide_eq_true_eq,not_or] at this;omega
 ·have:=List.any_eq_false.1 w3 f hf
  simp only[yR,kD,Bool.or_eq_true,decide_eq_true_eq,not_or] at this;omega
 ·have:=List.any_eq_false.1 w2 f hf
  simp only[jQ,kD,Bool.or_eq_true,decide_eq_true_eq,not_or] at this;omega
 ·have:=List.any_eq_false.1 w4 e he
  simp only[yP,Bool.or_eq_true,decide_eq_true_eq,not_or] at this;omega
theorem zIq (g:Nat) (W:World):YC g W none 0 0 []:=⟨⟨.inl rfl,rfl,Nat.le_refl _,Nat.zero_le _⟩,fun b off h=>by cases h⟩
def zEJ (m:Md) (n:Nat) (w:World) (e:Ending) (w':World):Prop:=e=.returned (.tuple #[.int .i64 (Md.bodyP m n).1,.int .i64 (Md.bodyP m n).2])∧Below w.heap.size w w'
theorem Yz (m:Md) (n:Nat) (w:World) (hm:zN w.heap.size w m) (hT:Num.ZX w) (hf:m.few) (hfi:ky m) (hn:n<m.fu.length) :
  Calls Tryz.prog 93 #[.agg m.v,.int .i64 n] w (zEJ m n w):=by
 have hg:0<w.heap.size:=World.block_lt_of_cell? w ⟨0,0,none⟩ (hT 0 (by omega));have HMO:=hid (Mo.mk hm hT hg);obtain⟨W0,hW0⟩:∃W0,W0=w.alloc (.cells m.v 40):=⟨_,rfl⟩;have hb0:Below w.heap.size w W0:=by rw[hW0];exact zC (Below.refl _ _) _
 have hbx:zB W0 w.heap.size m.v:=by rw[hW0];exact zB.made w m.v _
 have HB:=hid hb0;have HX:=hid hbx;have C:=hid (Zt m (m.im.length+n) W0 (hm.on hb0) hf.fit (by have:=hfi.im;have:=hfi.fu;omega));have hty:=hfi.tys.typeOf (m.im.length+n);have hgd:m.fu.getD n ⟨0,0,⟨none,0,.nil⟩⟩=m.fu[n]:=by simp[hn]
 have HV:Hid (Md.bodyP m n=if (m.typeOf (m.im.length+n)).2=false then (6,0) else ((zK m ((m.typeOf (m.im.length+n)).1.1+m.fu[n].lo) (m.typeOf (m.im.length+n)).1.2 m.fu[n].l.t (uI (m.typeOf (m.im.length+n)).1.2)).er,(zK m ((m.typeOf (m.im.length+n)).1.1+m.fu[n].lo) (m.typeOf (m.im.length+n)).1.2 m.fu[n].l.t (uI (m.typeOf (m.im.length+n)).1.2)).at_)):=by
  show _=_;unfold Md.bodyP;rw[hgd]
 obtain⟨q,hq⟩:∃q,m.typeOf (m.im.length+n)=q:=⟨_,rfl⟩;rw[hq] at C HV hty;obtain⟨⟨t1,t2⟩,tb⟩:=q;simp only at C HV hty;have him:=hfi.im;have hfu:=hfi.fu;have w1:IntKind.i64.wrap ((m.im.length:Int)+(n:Int))=(m.im.length:Int)+(n:Int):=by rw[IntKind.wrap_i64];omega
 have w2:IntKind.u32.wrap ((m.im.length:Int)+(n:Int))=(m.im.length:Int)+(n:Int):=by rw[IntKind.wrap_u32];omega
 have e1:((m.im.length+n:Nat):Int)=(m.im.length:Int)+(n:Int):=by omega
 rw[e1] at C;have m1:W0.cell? ⟨w.heap.size,1,none⟩=some (.slice m.im'.a m.im.length m.im'.c):=hbx 1 _ rfl;have M2:Hid (W0.cell? ⟨w.heap.size,2,none⟩=some (.slice m.fu'.a m.fu.length m.fu'.c)):=hid (hbx 2 _ rfl);obtain⟨b,off,ha,hb,hcc⟩:=Mod.Rows.get hm.fu hn;have HFM:=hid (List.getElem_mem hn);have HCO:=hid (show m.fu[n].l∈m.codes by unfold Md.codes;exact List.mem_append_left _ (List.mem_map.2 ⟨_,List.getElem_mem hn,rfl⟩));obtain⟨f,hff⟩:∃f,m.fu[n]=f:=⟨_,rfl⟩;rw[hff] at hcc HV HFM HCO;have HFR:=hid (show ∀w',Below w.heap.size w w'→w'.cell? ⟨b,off+n*3+1,none⟩=some (.int .i64 f.lo)∧w'.cell? ⟨b,off+n*3+2,none⟩=some (.slice f.l.a f.l.t.len f.l.c) from fun w' hw=>⟨(hw.cell (p:=⟨b,off+n*3+1,none⟩) hb).trans (hcc 1 (by omega) _ rfl),(hw.cell (p:=⟨b,off+n*3+2,none⟩) hb).trans (hcc 2 (by omega) _ rfl)⟩);rw[ha] at M2;have hni:(n:Int)<(m.fu.length:Int):=by omega
 have HF:=hid hf;have HFI:=hid hfi;obtain⟨v0,v3,v4,v5,v6,v7,v8,v9,v10,hv⟩:∃v0 v3 v4 v5 v6 v7 v8 v9 v10,m.v=#[v0,.slice m.im'.a m.im.length m.im'.c,.slice m.fu'.a m.fu.length m.fu'.c,v3,v4,v5,v6,v7,v8,v9,v10]:=⟨_,_,_,_,_,_,_,_,_,rfl⟩;have HVV:=hid hv;unfold zEJ;rw[hv,ha] at hW0 C HX ⊢;clear hm hT hg hb0 hbx hf hfi hq hgd hff hcc hb e1 hv
 generalize m.im.length=I at *
 generalize m.fu.length=Fn at *
 go_enter Tryz.func93,Tryz.ntmps93
 go_upto_region 1 with fail
 rw[←hW0];clear hW0;obtain⟨n0,n1,n2,n3,n4,n5,n6,n7,n8,n9,n10⟩:=Mod.jr HX.out
 go_wp2_with fail
 refine C.out.mono ?_;rintro e1 u1 ⟨rfl,hb1⟩;clear C n0 n1 n2 n3 n4 n5 n6 n7 n8 n9 n10 m1 w1 w2;have hX1:=HX.out.keep hb1;have HX1:=hid hX1;have HB1:=hid (HB.out.trans (hb1.mono HB.out.size));have HM2:=hid (kP hb1 M2.out);clear hb1 hX1 M2
 cases tb with
 | false =>
  have HE:=hid (show Md.bodyP m n=(6,0) by rw[HV.out,if_pos rfl]);clear HV;go_wp2;go_ret2;exact⟨by rw[HE.out];rfl,zC HB1.out _⟩
 | true =>
  obtain⟨r0,r1,r2,r3⟩:=hty
  go_upto_region 2 with fail
  obtain⟨u2,hu2⟩:∃u,u=u1.alloc (.cells #[.int .i64 t1,.int .i64 t2] 26):=⟨_,rfl⟩;have hA2:Below u1.heap.size u1 u2:=by rw[hu2];exact (Below.refl _ _).alloc (Nat.le_refl _) _
  have HT2:Hid (Bx2 u2 u1.heap.size t1 t2):=by rw[hu2];exact Bx2.made u1 t1 t2
  rw[←hu2];have HM2':=hid (kP hA2 HM2.out);have HX2:=hid (HX1.out.keep hA2);have HB2:=hid (HB1.out.trans (hA2.mono HB1.out.size));obtain⟨gt,hgt⟩:∃gt,gt=u1.heap.size:=⟨_,rfl⟩;rw[←hgt] at HT2 ⊢;clear hu2 hA2 HX1 HM2 HB1 hgt
  go_upto_region 4 with fail
  have n2:=HM2'.out;obtain⟨f1,f2⟩:=HFR.out u2 HB2.out
  go_upto_region 5 with fail
  obtain⟨u3,hu3⟩:∃u,u=u2.alloc (.cells #[.int .i64 f.lo,.slice f.l.a f.l.t.len f.l.c] 24):=⟨_,rfl⟩;have hA3:Below u2.heap.size u2 u3:=by rw[hu3];exact (Below.refl _ _).alloc (Nat.le_refl _) _
  have z0:u3.cell? ⟨u2.heap.size,0,none⟩=some (.int .i64 f.lo):=by rw[hu3];go_simp
  have Z1:Hid (u3.cell? ⟨u2.heap.size,1,none⟩=some (.slice f.l.a f.l.t.len f.l.c)):=by rw[hu3];exact hid (by go_simp)
  rw[←hu3];have HX3:=hid (HX2.out.keep hA3);have HT3:=hid (HT2.out.below hA3);have HB3:=hid (HB2.out.trans (hA3.mono HB2.out.size));have HNC:=hid (show u2.heap.size<u3.heap.size by rw[hu3];simp);obtain⟨gc,hgc⟩:∃gc,gc=u2.heap.size:=⟨_,rfl⟩;rw[←hgc] at z0 Z1 HNC ⊢;clear hu3 hA3 HX2 HT2 HB2 hgc n2 f1 f2 HM2';obtain⟨n0,n1,n2,n3,n4,n5,n6,n7,n8,n9,n10⟩:=Mod.jr HX3.out;have p0:=HT3.out.c0;have p1:=HT3.out.c1;have hlo:=HFI.out.lo f HFM.out;have w3:IntKind.i64.wrap (t1+f.lo)=t1+f.lo:=by rw[IntKind.wrap_i64];omega
  go_upto_region 6 with fail
  obtain⟨u4,hu4⟩:∃u,u=u3.alloc (.cells #[v0,.slice m.im'.a I m.im'.c,.slice (some ⟨b,off,none⟩) Fn m.fu'.c,v3,v4,v5,v6,v7,v8,v9,v10,.int .i64 (t1+f.lo),.int .i64 t2,.int .i64 0,.slice none 0 0,.int .i64 0,.int .i64 0,.int .i64 0] 256):=⟨_,rfl⟩;have hA4:Below u3.heap.size u3 u4:=by rw[hu4];exact (Below.refl _ _).alloc (Nat.le_refl _) _
  have hbk:Bk u4 u3.heap.size m.v (t1+f.lo) t2 0 (.slice none 0 0) 0 0 0:=by
   rw[hu4,HVV.out,ha];exact heap_alloc_new u3 _
  rw[←hu4];have HB4:=hid (HB3.out.trans (hA4.mono HB3.out.size));have HT4:=hid (HT3.out.below hA4);have HZ4:=hid (kP hA4 Z1.out);have HNG:=hid (Nat.ne_of_lt HNC.out);have HNT:=hid (show gt≠u3.heap.size from Nat.ne_of_lt HT3.out.lt);have HCK:=hid (show Ck u3.heap.size w.heap.size m (t1+f.lo) t2 ⟨0,[],0,0,0⟩ u4 from ⟨⟨none,0,0,hbk,zIq _ _⟩,HMO.out.below HB4.out,HB3.out.size⟩);have HG:=hid (show w.heap.size≤u3.heap.size from HB3.out.size);obtain⟨g,hgg⟩:∃g,g=u3.heap.size:=⟨_,rfl⟩;rw[←hgg] at hbk HNG HNT HCK HG ⊢;have HBK:=hid hbk;clear hu4 hA4 hbk hgg n0 n1 n2 n3 n4 n5 n6 n7 n8 n9 n10 p0 p1 z0 w3 HX3 HT3 HB3 Z1 HNC;have p1:=HT4.out.c1;have CN:=hid (Stk.new_any t2 u4)
  go_wp2_with fail
  refine CN.out.mono ?_;intro e2 u5 hm2;have hnl:(vT t2).l.length≤1000000:=by unfold vT;split<;>simp[Stk.bad]
  obtain⟨a2,n2,c2,rfl,hf2,hb2⟩:=ve (g:=g) hm2 hnl HCK.out.lt;have hk5:=HBK.out.below hb2;have f13:=hk5.f 13;have f14:=hk5.f 14;have f17:=hk5.f 17;have d13:=hk5.c13;have d14:=hk5.c14;have d17:=hk5.c17;have HP:=hid (HCK.out.put hb2 hf2);clear hm2 hnl hf2 hb2 hk5 CN p1
  go_upto_region 7 with fail
  obtain⟨u6,hu6⟩:∃u,u=((u5.setCell ⟨g,13,none⟩ (.int .i64 (vT t2).h)).setCell ⟨g,14,none⟩ (.slice a2 n2 c2)).setCell ⟨g,17,none⟩ (.int .i64 (vT t2).e):=⟨_,rfl⟩;rw[←hu6] at HP ⊢;clear hu6 f13 f14 f17 d13 d14 d17;have HZ6:=hid (HP.out.2.cell (p:=⟨gc,1,none⟩) HNG.out HZ4.out);have hcz:=(kU m.codes).2 HFI.out.cs;have hcs:=HF.out.cs f.l HCO.out;have hll:=HF.out.fit.ls f.l HCO.out;have CL:=hid (zI6 g w.heap.size m (t1+f.lo) t2 HF.out.fit ⟨by omega,by omega⟩ HFI.out.tys (by omega) f.l.t.count f.l.t (Nat.le_refl _) f.l.a f.l.t.len f.l.c hll (uI t2) u6 HP.out.1 ((HMO.out.md.ls f.l HCO.out).below (HB4.out.trans (HP.out.2.below HB4.out.size HG.out))) (Int.le_refl _) (by show (0:Int)+_≤_;omega));obtain⟨S,hS⟩:∃S,zK m (t1+f.lo) t2 f.l.t (uI t2)=S:=⟨_,rfl⟩;rw[hS] at CL HV;have z1:=HZ6.out;clear hcz hcs hll hS
  go_wp2_with fail
  refine CL.out.mono ?_;rintro e3 u7 ⟨rfl,hc7,hs7⟩;obtain⟨a7,n7,c7,hk7,-⟩:=hc7.blk;have b17:=hk7.c17;have b16:=hk7.c16;have HB7:=hid (HB4.out.trans ((HP.out.2.trans hs7).below HB4.out.size HG.out));have HE:=hid (show Md.bodyP m n=(S.er,S.at_) by rw[HV.out,if_neg (by simp)]);clear CL hc7 hs7 hk7 z1 HV;go_wp2
  go_quiet (fail)
  go_wp2;go_ret2;exact⟨by rw[HE.out];rfl,kF HB7.out _⟩
end Val
namespace Kind
open Go.RowKit
theorem zBl (p r:Int) (w:World):Calls Tryz.prog 246 #[.agg #[.int .i64 p,.int .i64 r]] w
  fun e w'=>e=.returned (.int .i64 (yF p r))∧Below w.heap.size w w':=by
 by_cases h1:p<0
 ·have HC:Hid (yF p r=2):=by show _=_;unfold yF jJ;rw[if_neg];simp;omega
  have d1:decide (p<0)=true:=decide_eq_true h1
  go_enter Tryz.func246,Tryz.ntmps246
  go_wp2;go_ret;exact⟨zH HC.out.symm,(Below.refl _ _).alloc (Nat.le_refl _) _⟩
 ·by_cases h2:255<p
  ·have HC:Hid (yF p r=2):=by show _=_;unfold yF jJ;rw[if_neg];simp;omega
   go_enter Tryz.func246,Tryz.ntmps246
   go_wp2;go_ret;exact⟨zH HC.out.symm,(Below.refl _ _).alloc (Nat.le_refl _) _⟩
  ·by_cases h3:r<0
   ·have HC:Hid (yF p r=2):=by show _=_;unfold yF jJ;rw[if_neg];simp;omega
    go_enter Tryz.func246,Tryz.ntmps246
    go_wp2;go_ret;exact⟨zH HC.out.symm,(Below.refl _ _).alloc (Nat.le_refl _) _⟩
   ·by_cases h4:1<r
    ·have HC:Hid (yF p r=2):=by show _=_;unfold yF jJ;rw[if_neg];simp;omega
     go_enter Tryz.func246,Tryz.ntmps246
     go_wp2;go_ret;exact⟨zH HC.out.symm,(Below.refl _ _).alloc (Nat.le_refl _) _⟩
    ·have HC:Hid (yF p r=0):=by show _=_;unfold yF jJ;rw[if_pos];simp;omega
     go_enter Tryz.func246,Tryz.ntmps246
     go_wp2;go_ret;exact⟨zH HC.out.symm,(Below.refl _ _).alloc (Nat.le_refl _) _⟩
theorem kX (n x:Int) (c:Bool) (most:Int) (w:World):Calls Tryz.prog 121 #[.agg #[.int .u32 n,.int .u32 x,.bool c],.int .u32 most] w
  fun e w'=>e=.returned (.int .i64 (yC n x c most))∧Below w.heap.size w w':=by
 by_cases h1:most<n
 ·have HC:Hid (yC n x c most=2):=by show _=_;unfold yC qG;rw[if_neg];simp;omega
  go_enter Tryz.func121,Tryz.ntmps121
  go_wp2;go_ret;exact⟨zH HC.out.symm,(Below.refl _ _).alloc (Nat.le_refl _) _⟩
 ·cases c
  ·by_cases h2:x=0
   ·subst h2
    have HC:Hid (yC n 0 false most=0):=by show _=_;unfold yC qG;rw[if_pos];simp;omega
    go_enter Tryz.func121,Tryz.ntmps121
    go_wp2;go_ret;exact⟨zH HC.out.symm,(Below.refl _ _).alloc (Nat.le_refl _) _⟩
   ·have HC:Hid (yC n x false most=2):=by show _=_;unfold yC qG;rw[if_neg];simp;omega
    have h3:(x != 0)=true:=by simp[h2]
    go_enter Tryz.func121,Tryz.ntmps121
    go_wp2;go_ret;exact⟨zH HC.out.symm,(Below.refl _ _).alloc (Nat.le_refl _) _⟩
  ·by_cases h2:x<n
   ·have HC:Hid (yC n x true most=2):=by show _=_;unfold yC qG;rw[if_neg];simp;omega
    go_enter Tryz.func121,Tryz.ntmps121
    go_wp2;go_ret;exact⟨zH HC.out.symm,(Below.refl _ _).alloc (Nat.le_refl _) _⟩
   ·by_cases h3:most<x
    ·have HC:Hid (yC n x true most=2):=by show _=_;unfold yC qG;rw[if_neg];simp;omega
     go_enter Tryz.func121,Tryz.ntmps121
     go_wp2;go_ret;exact⟨zH HC.out.symm,(Below.refl _ _).alloc (Nat.le_refl _) _⟩
    ·have HC:Hid (yC n x true most=0):=by show _=_;unfold yC qG;rw[if_pos];simp;omega
     go_enter Tryz.func121,Tryz.ntmps121
     go_wp2;go_ret;exact⟨zH HC.out.symm,(Below.refl _ _).alloc (Nat.le_refl _) _⟩
end Kind
end Go.Proofs.YtdljneclfgneoaaGreatDoor
