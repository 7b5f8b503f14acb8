import Derived.Test.YtdljneclfgneoaaGreatDoorVt09
set_option linter.unusedVariables false
set_option linter.ambiguousOpen false
set_option maxRecDepth 100000
set_option maxHeartbeats 8000000
namespace Go.Proofs.YtdljneclfgneoaaGreatDoor
namespace Instr
end Instr
namespace Mod
open Go.RowKit Go.Shelf Instr
attribute [local go_sem] Oper.semAt_some
structure yq (n₀ B:Nat) (w w':World):Prop where
 below:Below n₀ w w'
 cells:∀o v,w.cell? ⟨B,o,none⟩=some v→w'.cell? ⟨B,o,none⟩=some v
theorem yq.refl (n₀ B:Nat) (w:World):yq n₀ B w w:=⟨Below.refl _ _,fun _ _ h=>h⟩
theorem yq.trans {n₀ B:Nat} {a b c:World} (h:yq n₀ B a b) (g:yq n₀ B b c):yq n₀ B a c:=⟨h.below.trans g.below,fun o v hv=>g.cells o v (h.cells o v hv)⟩
theorem yq.of_below {n₀ B:Nat} {a b:World} (h:Below a.heap.size a b) (hn:n₀≤a.heap.size):yq n₀ B a b:=⟨h.mono hn,fun _ _ hv=>kP h hv⟩
theorem yq.alloc {n₀ B:Nat} {a b:World} (h:yq n₀ B a b) (hn:n₀≤b.heap.size) (o:Obj):yq n₀ B a (b.alloc o):=h.trans (yq.of_below ((Below.refl _ _).alloc (Nat.le_refl _) o) hn)
theorem yq.setCell {n₀ B:Nat} {a b:World} (h:yq n₀ B a b) {p:Addr} (h0:n₀≤p.block) (h1:p.block≠B) (v:Value):yq n₀ B a (b.setCell p v) :=
 ⟨h.below.setCell h0 v,fun o x hx=>by
   have:=h.cells o x hx;rw[World.cell?_of_block (w:=b) (Below.heap_setCell b p v B (by omega))];exact this⟩
theorem zES {n₀ B:Nat} {w:World} (hn:n₀≤w.heap.size):∀(W:World) (l:Nat) (o o':Obj),w.heap.size≤l→W.heap[l]?=some o→o.isCells=false→o.isWalk=false→yq n₀ B W (W.putObj l o'):=fun W l o o' hl ho hi hw =>
 ⟨belowK_b hn W l o o' hl ho hi hw,fun j v hv=>by
   obtain⟨p,hp,hpc⟩:=cells_of_cell hv
   have hne:B≠l:=by
     rintro rfl;have:p=o:=Option.some.inj (hp.symm.trans ho);subst this;rw[hi] at hpc;cases hpc
   exact (World.cell?_of_block (w:=W) (World.putObj_heap_other hne)).trans hv⟩
theorem zGt (n:Nat) (m:Md) (w:World) :
  CallsIn Fence.wide n Tryz.prog 230 #[.agg m.v] w fun e w'=>e=.returned (.func (.func 272) #[] #[.pointer (some ⟨w.heap.size,0,none⟩)])∧w'=w.alloc (.cells m.v 40):=by
 unfold Md.v;refine callsIn_of_wp Tryz.func230 rfl trivial ?_ rfl;simp only[Tryz.ntmps230,List.size_toArray,List.length_cons,List.length_nil,Nat.reduceAdd,Nat.reduceSub,Array.replicate_succ,Array.replicate_zero,List.push_toArray,List.append_toArray,List.nil_append,List.cons_append]
 gi_wp2
 go_ret;exact⟨rfl,rfl⟩
theorem zBL {α:Type} {P X R C:List α} (h:C=P++(X++R)) (k:Nat):P++X.take k <+: C:=⟨X.drop k++R,by rw[h,List.append_assoc,←List.append_assoc (X.take k),List.take_append_drop]⟩
theorem zBd {α:Type} {P X R C:List α} (h:C=P++(X++R)) {k:Nat} (hk:k<X.length):(P++X.take k).length<C.length:=by
 rw[h];simp only[List.length_append,List.length_take];omega
theorem ZN {α:Type} (P X:List α) (k:Nat) (hk:k<X.length):P++X.take (k+1)=P++X.take k++[X[k]]:=by
 rw[List.take_succ_eq_append_getElem hk,List.append_assoc]
theorem YP {α:Type} {P:Lst→Prop} (f:α→Lst) (L:List α) (h:∀l∈L.map f,P l):((L.map f).attachWith P h).length=L.length∧∀(k:Nat) (h1:k<((L.map f).attachWith P h).length) (h2:k<L.length),(((L.map f).attachWith P h)[k]).1=f L[k]:=by
 refine⟨by simp,fun k h1 h2=>by simp⟩
theorem zCE (m:Md) (P:Lst→Prop) (hP:∀l∈m.codes,P l):∃A0 A1 A2 A3:List {l:Lst // P l},m.codes.attachWith P hP=A0++(A1++(A2++A3)) ∧
  (A0.length=m.fu.length∧∀(k:Nat) (h1:k<A0.length) (h2:k<m.fu.length),(A0[k]).1=(m.fu[k]).l)∧(A1.length=m.gl.length∧∀(k:Nat) (h1:k<A1.length) (h2:k<m.gl.length),(A1[k]).1=(m.gl[k]).l) ∧
  (A2.length=m.el.length∧∀(k:Nat) (h1:k<A2.length) (h2:k<m.el.length),(A2[k]).1=(m.el[k]).l)∧(A3.length=m.da.length∧∀(k:Nat) (h1:k<A3.length) (h2:k<m.da.length),(A3[k]).1=(m.da[k]).l):=by
 have h0:∀l∈m.fu.map (·.l),P l:=fun l hl=>hP l (by unfold Md.codes;exact List.mem_append_left _ hl)
 have h1:∀l∈m.gl.map (·.l),P l:=fun l hl=>hP l (by unfold Md.codes;exact List.mem_append_right _ (List.mem_append_left _ hl))
 have h2:∀l∈m.el.map (·.l),P l:=fun l hl=>hP l (by unfold Md.codes;exact List.mem_append_right _ (List.mem_append_right _ (List.mem_append_left _ hl)))
 have h3:∀l∈m.da.map (·.l),P l:=fun l hl=>hP l (by unfold Md.codes;exact List.mem_append_right _ (List.mem_append_right _ (List.mem_append_right _ hl)))
 refine⟨_,_,_,_,?_,YP (·.l) m.fu h0,YP (·.l) m.gl h1,YP (·.l) m.el h2,YP (·.l) m.da h3⟩;simp only[Md.codes,List.attachWith_append]
def zEj {P:Lst→Prop} (x:{l:Lst // P l}):Array Value:=#[x.1.val]
theorem zCS (n n₀ B:Nat) (m:Md) (w:World) (hn:n₀≤w.heap.size) (hB:B<w.heap.size) (hx:zB w B m.v) (hm:zN n₀ w m) (hf:m.fits) (P:Lst→Prop) (hP:∀l∈m.codes,P l) :
  SeqStopsK Fence.wide n Tryz.prog 272 #[.pointer (some ⟨B,0,none⟩)] zEj (yq n₀ B) (fun ys=>ys=m.codes.attachWith P hP) (fun pre=>pre <+: m.codes.attachWith P hP) m.codes.length w:=fun l J Jx W hW hJ _ hY h0=>by
 have hA:∀s W,J s W→∀o,J s (W.alloc o):=fun s W h o=>hJ s W _ none h (World.grownBy_alloc W o none) (fun r e=>by cases e)
 obtain⟨A0,A1,A2,A3,hcs,hA0,hA1,hA2,hA3⟩:=zCE m P hP;have hcl:(m.codes.attachWith P hP).length=m.codes.length:=by simp
 rw[←hcl] at hY
 generalize m.codes.attachWith P hP=cs at hcs hY ⊢
 have HCS:=hid hcs;have HA0:=hid hA0;have HA1:=hid hA1;have HA2:=hid hA2;have HA3:=hid hA3;clear hcs hA0 hA1 hA2 hA3 hcl hP;have HX:=hid (hx.keep hW);have HM:=hid (hm.below (hW.mono hn));have HF:=hid hf;have HL:=hid (Nat.le_trans hn hW.size);have HBW:=hid (Nat.lt_of_lt_of_le hB hW.size);obtain⟨lf,hlf⟩:∃x,m.fu.length=x:=⟨_,rfl⟩;obtain⟨lg,hlg⟩:∃x,m.gl.length=x:=⟨_,rfl⟩;obtain⟨le,hle⟩:∃x,m.el.length=x:=⟨_,rfl⟩;obtain⟨ld,hld⟩:∃x,m.da.length=x:=⟨_,rfl⟩;have x2:W.cell? ⟨B,2,none⟩=some (.slice m.fu'.a m.fu.length m.fu'.c):=HX.out 2 _ rfl;have x5:W.cell? ⟨B,5,none⟩=some (.slice m.gl'.a m.gl.length m.gl'.c):=HX.out 5 _ rfl;have x9:W.cell? ⟨B,9,none⟩=some (.slice m.el'.a m.el.length m.el'.c):=HX.out 9 _ rfl;have x10:W.cell? ⟨B,10,none⟩=some (.slice m.da'.a m.da.length m.da'.c):=HX.out 10 _ rfl;rw[hlf] at x2;rw[hlg] at x5;rw[hle] at x9;rw[hld] at x10;have X2:=hid x2;have X5:=hid x5;have X9:=hid x9;have X10:=hid x10;have bf:lf≤140737488351232:=hlf▸hf.fu;have bg:lg≤140737488351232:=hlg▸hf.gl;have be:le≤140737488351232:=hle▸hf.el;have bd:ld≤140737488351232:=hld▸hf.da;have HLF:=hid hlf;have HLG:=hid hlg;have HLE:=hid hle;have HLD:=hid hld;have HRF:=hid HM.out.fu;have HRG:=hid HM.out.gl;have HRE:=hid HM.out.el;have HRD:=hid HM.out.da
 generalize m.fu'.a=af at X2 x2 HRF
 generalize m.gl'.a=ag at X5 x5 HRG
 generalize m.el'.a=ae at X9 x9 HRE
 generalize m.da'.a=ad at X10 x10 HRD
 have HJ:=hid hA;have HY:=hid hY;have H0:=hid h0;clear hlf hlg hle hld x5 x9 x10 hx hm hf hW hJ hY h0 hA hn hB;refine callsIn_of_wp Tryz.func272 rfl trivial ?_ rfl;simp only[Tryz.ntmps272,List.size_toArray,List.length_cons,List.length_nil,Nat.reduceAdd,Nat.reduceSub,Array.replicate_succ,Array.replicate_zero,List.push_toArray,List.append_toArray,List.nil_append,List.cons_append];have hP0:m.codes=([]:List Lst)++(m.fu.map (·.l)++(m.gl.map (·.l)++(m.el.map (·.l)++m.da.map (·.l)))):=by simp[Md.codes]
 have HP0:=hid hP0;clear hP0;have hP0:m.codes=([]:List Lst)++(m.fu.map (·.l)++(m.gl.map (·.l)++(m.el.map (·.l)++m.da.map (·.l)))):=by simp[Md.codes]
 have HP0:=hid hP0;clear hP0;have hP0:m.codes=([]:List Lst)++(m.fu.map (·.l)++(m.gl.map (·.l)++(m.el.map (·.l)++m.da.map (·.l)))):=by simp[Md.codes]
 have HP0:=hid hP0;clear hP0;have hP0:cs=([]:List {l:Lst // P l})++(A0++(A1++(A2++A3))):=by rw[HCS.out];simp
 have HP0:=hid hP0;clear hP0
 gi_wp2
 gi_loopw [14] (fun i wr=>∃k:Nat,i=.int .i64 k∧k≤lf∧Hid (J (([]:List {l:Lst // P l})++A0.take k) wr)∧Hid (yq n₀ B W wr)) (fun i _=>lf-(intOf i).toNat)
 case atStart=>exact⟨0,rfl,Nat.zero_le _,by simpa using H0,yq.refl _ _ _⟩
 case round =>
  obtain⟨k,rfl,hk,HJk,HK⟩:=hrel
  by_cases hlt:k<lf
  ·have hkl:k<m.fu.length:=by rw[HLF.out];exact hlt
   obtain⟨b,off,rfl,hb,hc⟩:=Rows.get HRF.out hkl;have HS:=hid (ZN ([]:List {l:Lst // P l}) A0 k (by rw[HA0.out.1];exact hkl));have HP:=hid (zBL HP0.out (k+1));obtain⟨x,hxe⟩:∃x,m.fu[k]=x:=⟨_,rfl⟩;have hxa:(A0[k]'(by rw[HA0.out.1];exact hkl)).1=m.fu[k].l:=HA0.out.2 k _ _;obtain⟨z,hz⟩:∃z,A0[k]'(by rw[HA0.out.1];exact hkl)=z:=⟨_,rfl⟩;rw[hxe] at hc hxa;rw[hz] at HS hxa;have cc:∀j,j<3→∀v,x.v[j]?=some v→wr.cell? ⟨b,off+k*3+j,none⟩=some v:=fun j hj v hv=>(HK.out.below.cell (p:=⟨b,off+k*3+j,none⟩) hb).trans (hc j hj v hv)
   have c0:wr.cell? ⟨b,off+k*3,none⟩=some (.int .i64 x.ty):=cc 0 (by omega) _ rfl;have c1:wr.cell? ⟨b,off+k*3+1,none⟩=some (.int .i64 x.lo):=cc 1 (by omega) _ rfl;have c2:wr.cell? ⟨b,off+k*3+2,none⟩=some x.l.val:=cc 2 (by omega) _ rfl;unfold Lst.val at c2;have hki:(k:Int)<(lf:Int):=by omega
   have hw1:=Nat.le_trans HL.out HK.out.below.size;have HK1:=hid (HK.out.alloc hw1 (.cells #[.int .i64 x.ty,.int .i64 x.lo,.slice x.l.a x.l.t.len x.l.c] 43));obtain⟨fn,tmps,assign,body,hy,hR⟩:=HY.out (([]:List {l:Lst // P l})++A0.take k) z (wr.alloc (.cells #[.int .i64 x.ty,.int .i64 x.lo,.slice x.l.a x.l.t.len x.l.c] 43)) (HJ.out _ _ HJk.out _) (zBd HP0.out (by rw[HA0.out.1];exact hkl));simp only[zEj,hxa,Lst.val] at hy hR;have HRR:=hid hR;clear hxe hc cc hb hw1 hR hxa hz
   gi_wp2_with fail
   refine⟨fun h=>(by cases h),?_⟩;refine HRR.out.mono ?_;clear HRR hy;rintro e W2 (⟨rfl,hJ2,hk2⟩|⟨rfl,hx2⟩)
   ·have HK2:=hid (HK1.out.trans hk2)
    have HJ2:=hid hJ2;clear hJ2 hk2
    gi_wp2
    go_roundw
    case rel=>exact⟨k+1,by go_num,by omega,by rw[HS.out];exact HJ2.out,HK2⟩
    case measure=>simp[intOf];omega
   ·have HX2:=hid hx2
    clear hx2
    gi_wp2
    refine bodyPost_ret (results_none rfl _ _ _) rfl ?_;exact⟨⟨_,rfl⟩,.inr ⟨_,HP.out,by rw[HS.out];exact HX2.out⟩⟩
  ·obtain rfl:k=lf:=by omega
   have HJ0:Hid (J ([]++A0) wr):=by
    have:=HJk.out;rw[List.take_of_length_le (by rw[HA0.out.1,HLF.out];exact Nat.le_refl _)] at this;exact this
   have HK0:=HK;have x5:=HK.out.cells 5 _ X5.out;clear HJk HK hk hlt x2;have hP1:cs=([]++A0)++(A1++(A2++A3)):=by rw[HCS.out];simp
   have HP1:=hid hP1;clear hP1
   gi_wp2
   gi_loopw [28] (fun i wr=>∃k:Nat,i=.int .i64 k∧k≤lg∧Hid (J (([]++A0)++A1.take k) wr)∧Hid (yq n₀ B W wr)) (fun i _=>lg-(intOf i).toNat)
   case atStart=>exact⟨0,rfl,Nat.zero_le _,by simpa using HJ0,HK0⟩
   case round =>
    clear HJ0 HK0;obtain⟨k,rfl,hk,HJk,HK⟩:=hrel
    by_cases hlt:k<lg
    ·have hkl:k<m.gl.length:=by rw[HLG.out];exact hlt
     obtain⟨b,off,rfl,hb,hc⟩:=Rows.get HRG.out hkl;have HS:=hid (ZN ([]++A0) A1 k (by rw[HA1.out.1];exact hkl));have HP:=hid (zBL HP1.out (k+1));obtain⟨x,hxe⟩:∃x,m.gl[k]=x:=⟨_,rfl⟩;have hxa:(A1[k]'(by rw[HA1.out.1];exact hkl)).1=m.gl[k].l:=HA1.out.2 k _ _;obtain⟨z,hz⟩:∃z,A1[k]'(by rw[HA1.out.1];exact hkl)=z:=⟨_,rfl⟩;rw[hxe] at hc hxa;rw[hz] at HS hxa;have cc:∀j,j<2→∀v,x.v[j]?=some v→wr.cell? ⟨b,off+k*2+j,none⟩=some v:=fun j hj v hv=>(HK.out.below.cell (p:=⟨b,off+k*2+j,none⟩) hb).trans (hc j hj v hv)
     have c0:wr.cell? ⟨b,off+k*2,none⟩=some (.bool x.mu):=cc 0 (by omega) _ rfl;have c1:wr.cell? ⟨b,off+k*2+1,none⟩=some x.l.val:=cc 1 (by omega) _ rfl;unfold Lst.val at c1;have hki:(k:Int)<(lg:Int):=by omega
     have hw1:=Nat.le_trans HL.out HK.out.below.size;have HK1:=hid (HK.out.alloc hw1 (.cells #[.bool x.mu,.slice x.l.a x.l.t.len x.l.c] 129));obtain⟨fn,tmps,assign,body,hy,hR⟩:=HY.out (([]++A0)++A1.take k) z (wr.alloc (.cells #[.bool x.mu,.slice x.l.a x.l.t.len x.l.c] 129)) (HJ.out _ _ HJk.out _) (zBd HP1.out (by rw[HA1.out.1];exact hkl));simp only[zEj,hxa,Lst.val] at hy hR;have HRR:=hid hR;clear hxe hc cc hb hw1 hR hxa hz
     gi_wp2_with fail
     refine⟨fun h=>(by cases h),?_⟩;refine HRR.out.mono ?_;clear HRR hy;rintro e W2 (⟨rfl,hJ2,hk2⟩|⟨rfl,hx2⟩)
     ·have HK2:=hid (HK1.out.trans hk2)
      have HJ2:=hid hJ2;clear hJ2 hk2
      gi_wp2
      go_roundw
      case rel=>exact⟨k+1,by go_num,by omega,by rw[HS.out];exact HJ2.out,HK2⟩
      case measure=>simp[intOf];omega
     ·have HX2:=hid hx2
      clear hx2
      gi_wp2
      refine bodyPost_ret (results_none rfl _ _ _) rfl ?_;exact⟨⟨_,rfl⟩,.inr ⟨_,HP.out,by rw[HS.out];exact HX2.out⟩⟩
    ·obtain rfl:k=lg:=by omega
     have HJ0:Hid (J ([]++A0++A1) wr):=by
      have:=HJk.out;rw[List.take_of_length_le (by rw[HA1.out.1,HLG.out];exact Nat.le_refl _)] at this;exact this
     have HK0:=HK;have x9:=HK.out.cells 9 _ X9.out;clear HJk HK hk hlt;have hP2:cs=([]++A0++A1)++(A2++A3):=by rw[HCS.out];simp
     have HP2:=hid hP2;clear hP2
     gi_wp2
     gi_loopw [41] (fun i wr=>∃k:Nat,i=.int .i64 k∧k≤le∧Hid (J (([]++A0++A1)++A2.take k) wr)∧Hid (yq n₀ B W wr)) (fun i _=>le-(intOf i).toNat)
     case atStart=>exact⟨0,rfl,Nat.zero_le _,by simpa using HJ0,HK0⟩
     case round =>
      clear HJ0 HK0;obtain⟨k,rfl,hk,HJk,HK⟩:=hrel
      by_cases hlt:k<le
      ·have hkl:k<m.el.length:=by rw[HLE.out];exact hlt
       obtain⟨b,off,rfl,hb,hc⟩:=Rows.get HRE.out hkl;have HS:=hid (ZN ([]++A0++A1) A2 k (by rw[HA2.out.1];exact hkl));have HP:=hid (zBL HP2.out (k+1));obtain⟨x,hxe⟩:∃x,m.el[k]=x:=⟨_,rfl⟩;have hxa:(A2[k]'(by rw[HA2.out.1];exact hkl)).1=m.el[k].l:=HA2.out.2 k _ _;obtain⟨z,hz⟩:∃z,A2[k]'(by rw[HA2.out.1];exact hkl)=z:=⟨_,rfl⟩;rw[hxe] at hc hxa;rw[hz] at HS hxa;have cc:∀j,j<2→∀v,x.v[j]?=some v→wr.cell? ⟨b,off+k*2+j,none⟩=some v:=fun j hj v hv=>(HK.out.below.cell (p:=⟨b,off+k*2+j,none⟩) hb).trans (hc j hj v hv)
       have c0:wr.cell? ⟨b,off+k*2,none⟩=some x.l.val:=cc 0 (by omega) _ rfl;unfold Lst.val at c0;have c1:wr.cell? ⟨b,off+k*2+1,none⟩=some (.slice x.fa x.fs.length x.fc):=cc 1 (by omega) _ rfl;have hki:(k:Int)<(le:Int):=by omega
       have hw1:=Nat.le_trans HL.out HK.out.below.size;have HK1:=hid (HK.out.alloc hw1 (.cells #[.slice x.l.a x.l.t.len x.l.c,.slice x.fa x.fs.length x.fc] 131));obtain⟨fn,tmps,assign,body,hy,hR⟩:=HY.out (([]++A0++A1)++A2.take k) z (wr.alloc (.cells #[.slice x.l.a x.l.t.len x.l.c,.slice x.fa x.fs.length x.fc] 131)) (HJ.out _ _ HJk.out _) (zBd HP2.out (by rw[HA2.out.1];exact hkl));simp only[zEj,hxa,Lst.val] at hy hR;have HRR:=hid hR;clear hxe hc cc hb hw1 hR hxa hz
       gi_wp2_with fail
       refine⟨fun h=>(by cases h),?_⟩;refine HRR.out.mono ?_;clear HRR hy;rintro e W2 (⟨rfl,hJ2,hk2⟩|⟨rfl,hx2⟩)
       ·have HK2:=hid (HK1.out.trans hk2)
        have HJ2:=hid hJ2;clear hJ2 hk2
        gi_wp2
        go_roundw
        case rel=>exact⟨k+1,by go_num,by omega,by rw[HS.out];exact HJ2.out,HK2⟩
        case measure=>simp[intOf];omega
       ·have HX2:=hid hx2
        clear hx2
        gi_wp2
        refine bodyPost_ret (results_none rfl _ _ _) rfl ?_;exact⟨⟨_,rfl⟩,.inr ⟨_,HP.out,by rw[HS.out];exact HX2.out⟩⟩
      ·obtain rfl:k=le:=by omega
       have HJ0:Hid (J ([]++A0++A1++A2) wr):=by
        have:=HJk.out;rw[List.take_of_length_le (by rw[HA2.out.1,HLE.out];exact Nat.le_refl _)] at this;exact this
       have HK0:=HK;have x10:=HK.out.cells 10 _ X10.out;clear HJk HK hk hlt;have hP3:cs=([]++A0++A1++A2)++(A3++([]:List {l:Lst // P l})):=by rw[HCS.out];simp
       have HP3:=hid hP3;clear hP3
       gi_wp2
       gi_loopw [54] (fun i wr=>∃k:Nat,i=.int .i64 k∧k≤ld∧Hid (J (([]++A0++A1++A2)++A3.take k) wr)∧Hid (yq n₀ B W wr)) (fun i _=>ld-(intOf i).toNat)
       case atStart=>exact⟨0,rfl,Nat.zero_le _,by simpa using HJ0,HK0⟩
       case round =>
        clear HJ0 HK0;obtain⟨k,rfl,hk,HJk,HK⟩:=hrel
        by_cases hlt:k<ld
        ·have hkl:k<m.da.length:=by rw[HLD.out];exact hlt
         obtain⟨b,off,rfl,hb,hc⟩:=Rows.get HRD.out hkl;have HS:=hid (ZN ([]++A0++A1++A2) A3 k (by rw[HA3.out.1];exact hkl));have HP:=hid (zBL HP3.out (k+1));obtain⟨x,hxe⟩:∃x,m.da[k]=x:=⟨_,rfl⟩;have hxa:(A3[k]'(by rw[HA3.out.1];exact hkl)).1=m.da[k].l:=HA3.out.2 k _ _;obtain⟨z,hz⟩:∃z,A3[k]'(by rw[HA3.out.1];exact hkl)=z:=⟨_,rfl⟩;rw[hxe] at hc hxa;rw[hz] at HS hxa;have cc:∀j,j<2→∀v,x.v[j]?=some v→wr.cell? ⟨b,off+k*2+j,none⟩=some v:=fun j hj v hv=>(HK.out.below.cell (p:=⟨b,off+k*2+j,none⟩) hb).trans (hc j hj v hv)
         have c0:wr.cell? ⟨b,off+k*2,none⟩=some x.l.val:=cc 0 (by omega) _ rfl;unfold Lst.val at c0;have c1:wr.cell? ⟨b,off+k*2+1,none⟩=some (.slice x.ba x.bs.length x.bc):=cc 1 (by omega) _ rfl;have hki:(k:Int)<(ld:Int):=by omega
         have hw1:=Nat.le_trans HL.out HK.out.below.size;have HK1:=hid (HK.out.alloc hw1 (.cells #[.slice x.l.a x.l.t.len x.l.c,.slice x.ba x.bs.length x.bc] 146));obtain⟨fn,tmps,assign,body,hy,hR⟩:=HY.out (([]++A0++A1++A2)++A3.take k) z (wr.alloc (.cells #[.slice x.l.a x.l.t.len x.l.c,.slice x.ba x.bs.length x.bc] 146)) (HJ.out _ _ HJk.out _) (zBd HP3.out (by rw[HA3.out.1];exact hkl));simp only[zEj,hxa,Lst.val] at hy hR;have HRR:=hid hR;clear hxe hc cc hb hw1 hR hxa hz
         gi_wp2_with fail
         refine⟨fun h=>(by cases h),?_⟩;refine HRR.out.mono ?_;clear HRR hy;rintro e W2 (⟨rfl,hJ2,hk2⟩|⟨rfl,hx2⟩)
         ·have HK2:=hid (HK1.out.trans hk2)
          have HJ2:=hid hJ2;clear hJ2 hk2
          gi_wp2
          go_roundw
          case rel=>exact⟨k+1,by go_num,by omega,by rw[HS.out];exact HJ2.out,HK2⟩
          case measure=>simp[intOf];omega
         ·have HX2:=hid hx2
          clear hx2
          gi_wp2
          refine bodyPost_ret (results_none rfl _ _ _) rfl ?_;exact⟨⟨_,rfl⟩,.inr ⟨_,HP.out,by rw[HS.out];exact HX2.out⟩⟩
        ·obtain rfl:k=ld:=by omega
         gi_wp2
         go_end0
         exact⟨⟨_,rfl⟩,.inl ⟨_,rfl,by have:=HJk.out;rw[List.take_of_length_le (by rw[HA3.out.1,HLD.out];exact Nat.le_refl _)] at this;rw[HP3.out];simpa using this⟩⟩
end Mod
end Go.Proofs.YtdljneclfgneoaaGreatDoor
