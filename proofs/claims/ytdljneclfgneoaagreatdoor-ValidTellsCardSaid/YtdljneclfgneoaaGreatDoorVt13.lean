import Derived.Test.YtdljneclfgneoaaGreatDoorVt12
import Derived.Maps.OwnIn
import Derived.Maps.Views
import Derived.Deep.RegionHeld3
import Derived.Maps.OwnOps
import Derived.Laws.AppendOwn
import Derived.Laws.AppendOwnNone
import Derived.Deep.AppendLies
set_option linter.unusedVariables false
set_option linter.ambiguousOpen false
set_option maxRecDepth 100000
set_option maxHeartbeats 8000000
namespace Go.Proofs.YtdljneclfgneoaaGreatDoor
namespace Instr
end Instr
namespace Mod
end Mod
namespace Val
open Go.RowKit Instr Mod
def zy:Il→Int×Int
 | .cons x l e .nil=>if x.op=65∧zJ (.cons x l e .nil)=0 then (IntKind.u32.wrap x.n,0) else (0,210)
 | _=>(0,210)
theorem Jm {t:Il} (h:t.len≠1):zy t=(0,210):=by
 cases t with
 | nil=>rfl
 | cons x l e r =>
  cases r with
  | nil=>simp[Il.len] at h
  | cons x' l' e' r'=>rfl
theorem zHV (t:Il) (a:Option Addr) (n c:Nat) (w:World) (hL:zD w.heap.size w a n t) (hn:n≤140737488351232) (hct:t.count≤4611686018427387900) (hT:kC w) :
  Calls Tryz.prog 118 #[.slice a n c] w fun e w'=>e=.returned (.tuple #[.int .u32 (zy t).1,.int .i64 (zy t).2])∧Below w.heap.size w w':=by
 have CC:=hid (zA4 a n c t w hT hL hct hn)
 by_cases h1:t.len=1
 ·cases t with
  | nil=>simp[Il.len] at h1
  | cons x l e r =>
   cases r with
   | cons x' l' e' r'=>simp[Il.len] at h1
   | nil =>
    obtain⟨hl1,hl2⟩:=hL;have hn1:n=1:=by rw[←hl1];rfl
    subst hn1
    rcases hl2 with h|⟨b,off,rfl,hb,hx,⟨c0,c1,c2,c3,c4,c5,c6,c7⟩,-⟩
    ·cases h
    have HE:Hid (zy (.cons x l e .nil)=if x.op=65∧zJ (.cons x l e .nil)=0 then (IntKind.u32.wrap x.n,0) else (0,210)):=rfl;obtain⟨q,hq⟩:∃q,zJ (.cons x l e .nil)=q:=⟨_,rfl⟩;rw[hq] at CC HE;obtain⟨op,hop⟩:∃o,x.op=o:=⟨_,rfl⟩;rw[hop] at c0 HE;have hnn:=hx.n;clear h1 hl1 hq hx hb c1 c2 c3 c5 c6 c7 hct hT hn
    by_cases h2:op=65
    ·subst h2
     by_cases h3:q=0
     ·subst h3
      have HV:=hid (show zy (.cons x l e .nil)=(IntKind.u32.wrap x.n,0) by rw[HE.out,if_pos ⟨rfl,rfl⟩]);obtain⟨xn,hxn⟩:∃z,x.n=z:=⟨_,rfl⟩;rw[hxn] at c4 HV;clear HE hxn hop hnn
      go_enter Tryz.func118,Tryz.ntmps118
      go_wp2_with fail
      refine CC.out.mono ?_;rintro e1 w1 ⟨rfl,hb1⟩;have k0:=kP hb1 c0;have k4:=kP hb1 c4;have HB:=hid hb1;clear CC hb1 c0 c4;go_wp2;go_ret2;refine⟨?_,HB.out⟩;rw[HV.out];rfl
     ·have HV:=hid (show zy (.cons x l e .nil)=(0,210) by rw[HE.out,if_neg (fun h=>h3 h.2)])
      have h3b:(q==0)=false:=by simpa using h3
      clear HE hop hnn c4
      go_enter Tryz.func118,Tryz.ntmps118
      go_wp2_with fail
      refine CC.out.mono ?_;rintro e1 w1 ⟨rfl,hb1⟩;have HB:=hid hb1;clear CC hb1 c0;go_wp2;go_ret2;refine⟨?_,HB.out⟩;rw[HV.out];rfl
    ·have HV:=hid (show zy (.cons x l e .nil)=(0,210) by rw[HE.out,if_neg (fun h=>h2 h.1)])
     have h2b:(op==65)=false:=by simpa using h2
     clear HE hop hnn c4 CC
     go_enter Tryz.func118,Tryz.ntmps118
     go_wp2;go_ret2;refine⟨?_,Below.refl _ _⟩;rw[HV.out];rfl
 ·have HV:=hid (Jm h1)
  have hn1:(n:Int)≠1:=by have:=hL.1;omega
  have hnb:((n:Int)==1)=false:=by simpa using hn1
  clear CC hL h1 hct hT
  go_enter Tryz.func118,Tryz.ntmps118
  go_wp2;go_ret2;refine⟨?_,Below.refl _ _⟩;rw[HV.out];rfl
theorem uT (t:Il) (a:Option Addr) (n c:Nat) (w:World) (hL:zD w.heap.size w a n t) (hn:n≤140737488351232) (hct:t.count≤4611686018427387900) (hT:kC w) :
  Calls Tryz.prog 188 #[.slice a n c] w fun e w'=>e=.returned (.int .i64 (zy t).2)∧Below w.heap.size w w':=by
 have C:=hid (zHV t a n c w hL hn hct hT);obtain⟨q,hq⟩:∃q,zy t=q:=⟨_,rfl⟩;rw[hq] at C ⊢;clear hL hq
 go_enter Tryz.func188,Tryz.ntmps188
 go_wp2_with fail
 refine C.out.mono ?_;rintro e1 w1 ⟨rfl,hb1⟩;have HB:=hid hb1;clear C hb1;go_wp2;go_ret;exact⟨rfl,HB.out⟩
theorem zG (w:World) (o:Obj):Below w.heap.size w (w.alloc o):=(Below.refl _ _).alloc (Nat.le_refl _) o
def qI (m:Md) (n:Int):Int:=if (m.ty.length:Int)≤n then 6 else 0
theorem JJ (m:Md) (n:Int) (hf:m.fits) (w:World) :
  Calls Tryz.prog 185 #[.agg m.v,.int .i64 n] w fun e w'=>e=.returned (.int .i64 (qI m n))∧Below w.heap.size w w':=by
 have HB:=hid (zG w (.cells m.v 40));have c0:(w.alloc (.cells m.v 40)).cell? ⟨w.heap.size,0,none⟩=some (.slice m.ty'.a m.ty.length m.ty'.c):=zB.made w m.v _ 0 _ rfl;have HE:Hid (qI m n=if (m.ty.length:Int)≤n then 6 else 0):=rfl;unfold Md.v at c0 HB ⊢
 by_cases h1:(m.ty.length:Int)≤n
 ·have HV:=hid (show qI m n=6 by rw[HE.out,if_pos h1])
  clear HE
  go_enter Tryz.func185,Tryz.ntmps185
  go_wp2;go_ret;exact⟨zH HV.out.symm,HB.out⟩
 ·have HV:=hid (show qI m n=0 by rw[HE.out,if_neg h1])
  clear HE
  go_enter Tryz.func185,Tryz.ntmps185
  go_wp2;go_ret;exact⟨zH HV.out.symm,HB.out⟩
def countP (m:Md) (k:Int):Int:=if k=0 then (m.im.length:Int)+m.fu.length else if k=1 then m.tb.length else if k=2 then m.me.length else if k=3 then m.gl.length else 0
theorem countP_range (m:Md) (hf:m.fits) (h1:m.im.length≤16384) (h2:m.fu.length≤16384) (k:Int):0≤countP m k∧countP m k≤140737488351232:=by
 have:=hf.tb;have:=hf.me;have:=hf.gl;unfold countP
 (repeat' split)<;>omega
theorem zED (m:Md) (k:Int) (hf:m.fits) (h1:m.im.length≤16384) (h2:m.fu.length≤16384) (w:World) :
  Calls Tryz.prog 253 #[.agg m.v,.int .i64 k] w fun e w'=>e=.returned (.int .i64 (countP m k))∧Below w.heap.size w w':=by
 have HB:=hid (zG w (.cells m.v 40));have c1:(w.alloc (.cells m.v 40)).cell? ⟨w.heap.size,1,none⟩=some (.slice m.im'.a m.im.length m.im'.c):=zB.made w m.v _ 1 _ rfl;have c2:(w.alloc (.cells m.v 40)).cell? ⟨w.heap.size,2,none⟩=some (.slice m.fu'.a m.fu.length m.fu'.c):=zB.made w m.v _ 2 _ rfl;have c3:(w.alloc (.cells m.v 40)).cell? ⟨w.heap.size,3,none⟩=some (.slice m.tb'.a m.tb.length m.tb'.c):=zB.made w m.v _ 3 _ rfl;have c4:(w.alloc (.cells m.v 40)).cell? ⟨w.heap.size,4,none⟩=some (.slice m.me'.a m.me.length m.me'.c):=zB.made w m.v _ 4 _ rfl;have c5:(w.alloc (.cells m.v 40)).cell? ⟨w.heap.size,5,none⟩=some (.slice m.gl'.a m.gl.length m.gl'.c):=zB.made w m.v _ 5 _ rfl;have HE:Hid (countP m k=if k=0 then (m.im.length:Int)+m.fu.length else if k=1 then m.tb.length else if k=2 then m.me.length else if k=3 then m.gl.length else 0):=rfl;have hw:IntKind.i64.wrap ((m.im.length:Int)+m.fu.length)=(m.im.length:Int)+m.fu.length:=by rw[IntKind.wrap_i64];omega
 unfold Md.v at c1 c2 c3 c4 c5 HB ⊢
 by_cases g0:k=0
 ·have HV:=hid (show countP m k=(m.im.length:Int)+m.fu.length by rw[HE.out,if_pos g0])
  subst g0;clear HE
  go_enter Tryz.func253,Tryz.ntmps253
  go_wp2;go_ret;exact⟨zH HV.out.symm,HB.out⟩
 by_cases g1:k=1
 ·have HV:=hid (show countP m k=m.tb.length by rw[HE.out,if_neg g0,if_pos g1])
  subst g1;clear HE
  go_enter Tryz.func253,Tryz.ntmps253
  go_wp2;go_ret;exact⟨zH HV.out.symm,HB.out⟩
 by_cases g2:k=2
 ·have HV:=hid (show countP m k=m.me.length by rw[HE.out,if_neg g0,if_neg g1,if_pos g2])
  subst g2;clear HE
  go_enter Tryz.func253,Tryz.ntmps253
  go_wp2;go_ret;exact⟨zH HV.out.symm,HB.out⟩
 by_cases g3:k=3
 ·have HV:=hid (show countP m k=m.gl.length by rw[HE.out,if_neg g0,if_neg g1,if_neg g2,if_pos g3])
  subst g3;clear HE
  go_enter Tryz.func253,Tryz.ntmps253
  go_wp2;go_ret;exact⟨zH HV.out.symm,HB.out⟩
 ·have HV:=hid (show countP m k=0 by rw[HE.out,if_neg g0,if_neg g1,if_neg g2,if_neg g3])
  have b0:(k==0)=false:=by simpa using g0
  have b1:(k==1)=false:=by simpa using g1
  have b2:(k==2)=false:=by simpa using g2
  have b3:(k==3)=false:=by simpa using g3
  clear HE
  go_enter Tryz.func253,Tryz.ntmps253
  go_wp2;go_ret;exact⟨zH HV.out.symm,HB.out⟩
theorem ZU:∀t:Il,t.bare.all=t.all
 | .nil=>rfl
 | .cons x l e r=>by simp only[Il.bare,Il.all,ZU l,ZU e,ZU r];rfl
theorem vC:∀t:Il,t.bare.count=t.count
 | .nil=>rfl
 | .cons x l e r=>by simp[Il.bare,Il.count,vC l,vC e,vC r]
theorem uZ:∀t:Il,t.bare.deep=t.deep
 | .nil=>rfl
 | .cons x l e r=>by simp[Il.bare,Il.deep,uZ l,uZ e,uZ r]
theorem uJ:∀t:Il,t.bare.tags=t.tags
 | .nil=>rfl
 | .cons x l e r=>by simp only[Il.bare,Il.tags,uJ l,uJ e,uJ r];rfl
theorem zCn (t:Il):zJ t.bare=zJ t:=by unfold zJ;rw[ZU,vC,uZ,uJ]
theorem uw (t:Il):zy t.bare=zy t:=by
 cases t with
 | nil=>rfl
 | cons x l e r =>
  cases r with
  | nil =>
   have h:=zCn (.cons x l e .nil);simp only[Il.bare] at h ⊢
   show (if x.bare.op=65∧zJ (.cons x.bare l.bare e.bare .nil)=0 then (IntKind.u32.wrap x.bare.n,(0:Int)) else (0,210))=(if x.op=65∧zJ (.cons x l e .nil)=0 then (IntKind.u32.wrap x.n,(0:Int)) else (0,210))
   rw[h];rfl
  | cons x' l' e' r'=>rfl
end Val
namespace Val
open Go.RowKit Go.Shelf Instr Mod
open Go.Maps (Keyed string_keyed)
attribute [local go_sem] Oper.semAt_some
def qf (n:Nat):List (Fin n):=(List.finRange n).reverse
theorem jv (n:Nat):(qf n).length=n:=by simp[qf]
theorem zGW {n k:Nat} (hk:k<n):(qf n)[k]'(by rw[jv];exact hk)=⟨n-1-k,by omega⟩:=by
 unfold qf;rw[List.getElem_reverse];simp
def zIb (exs:List Ex) (x:Fin exs.length):Array Value:=#[.int .i64 (x.val:Int),.agg #[.string (exs[x.val]'x.isLt).na,.int .i64 (exs[x.val]'x.isLt).k,.int .u32 (exs[x.val]'x.isLt).i]]
theorem zA1 {n k:Nat} (hk:k<n):(qf n).take (k+1)=(qf n).take k++[⟨n-1-k,by omega⟩]:=by
 rw[List.take_succ_eq_append_getElem (by rw[jv];exact hk),zGW hk]
theorem zHa (n:Nat) (a:Option Addr) (len c:Nat) (w:World) :
  CallsIn Fence.wide n Tryz.prog 251 #[.slice a len c] w fun e w'=>e=.returned (.func (.func 294) #[] #[.pointer (some ⟨w.heap.size,0,none⟩)])∧w'=w.alloc (.cells #[.slice a len c] 35):=by
 refine callsIn_of_wp Tryz.func251 rfl trivial ?_ rfl;simp only[Tryz.ntmps251,List.size_toArray,List.length_cons,List.length_nil,Nat.reduceAdd,Nat.reduceSub,Array.replicate_succ,Array.replicate_zero,List.push_toArray,List.append_toArray,List.nil_append,List.cons_append]
 gi_wp2
 go_ret;exact⟨rfl,rfl⟩
theorem zDY (n n₀ B:Nat) (exs:List Ex) (a:Option Addr) (len c:Nat) (w:World) (hn:n₀≤w.heap.size) (hB:B<w.heap.size) (hlen:exs.length=len) (hmax:len≤140737488351232) (hx:w.cell? ⟨B,0,none⟩=some (.slice a len c)) (hr:Mod.Rows n₀ w a 3 (exs.map Ex.v)) :
  SeqStopsK Fence.wide n Tryz.prog 294 #[.pointer (some ⟨B,0,none⟩)] (zIb exs) (yq n₀ B) (fun ys=>ys=qf exs.length) (fun pre=>pre <+: qf exs.length) exs.length w:=fun l J Jx W hW hJ _ hY h0=>by
 have HX:=hid ((hW.cell (p:=⟨B,0,none⟩) hB).trans hx);have HR:=hid (hr.below (hW.mono hn));have HLE:=hid hlen;have HJ:=hid (fun s W h o=>hJ s W _ none h (World.grownBy_alloc W o none) (fun r e=>by cases e));have HY:=hid hY;have H0:=hid h0;have x0:=HX.out;have hw:IntKind.i64.wrap ((len:Int)-1)=(len:Int)-1:=by rw[IntKind.wrap_i64];omega
 clear hW hJ hY h0 hn hB hlen hx hr;refine callsIn_of_wp Tryz.func294 rfl trivial ?_ rfl;simp only[Tryz.ntmps294,List.size_toArray,List.length_cons,List.length_nil,Nat.reduceAdd,Nat.reduceSub,Array.replicate_succ,Array.replicate_zero,List.push_toArray,List.append_toArray,List.nil_append,List.cons_append]
 gi_wp2
 clear x0 hw
 gi_loopw [3] (fun i wr=>∃k:Nat,i=.int .i64 ((len:Int)-1-(k:Int))∧k≤len∧Hid (J ((qf exs.length).take k) wr)∧Hid (yq n₀ B W wr)) (fun i _=>(intOf i+1).toNat)
 case atStart=>exact⟨0,by simp,Nat.zero_le _,by simpa using H0,yq.refl _ _ _⟩
 case round =>
  obtain⟨k,rfl,hk,HJk,HK⟩:=hrel
  by_cases hlt:k<len
  ·have hkl:k<exs.length:=by rw[HLE.out];exact hlt
   obtain⟨j,hj⟩:∃j:Nat,j=len-1-k:=⟨_,rfl⟩;have hjl:j<exs.length:=by rw[HLE.out];omega
   have hji:(len:Int)-1-(k:Int)=(j:Int):=by omega
   have hjlt:(j:Int)<(len:Int):=by omega
   obtain⟨b,off,rfl,hb,hc⟩:=Mod.Rows.get HR.out hjl;have HS:=hid (zA1 hkl)
   have hfin:(⟨exs.length-1-k,by omega⟩:Fin exs.length)=⟨j,hjl⟩:=by
    apply Fin.ext;show exs.length-1-k=j;rw[HLE.out];exact hj.symm
   rw[hfin] at HS;have HP:=hid (show (qf exs.length).take (k+1) <+: qf exs.length from List.take_prefix _ _);have x0:=HK.out.cells 0 _ HX.out;obtain⟨y,hy⟩:∃y,exs[j]=y:=⟨_,rfl⟩;rw[hy] at hc;have cc:∀q,q<3→∀v,y.v[q]?=some v→wr.cell? ⟨b,off+j*3+q,none⟩=some v:=fun q hq v hv=>(HK.out.below.cell (p:=⟨b,off+j*3+q,none⟩) hb).trans (hc q hq v hv)
   have c0:wr.cell? ⟨b,off+j*3,none⟩=some (.string y.na):=cc 0 (by omega) _ rfl;have c1:wr.cell? ⟨b,off+j*3+1,none⟩=some (.int .i64 y.k):=cc 1 (by omega) _ rfl;have c2:wr.cell? ⟨b,off+j*3+2,none⟩=some (.int .u32 y.i):=cc 2 (by omega) _ rfl;obtain⟨fn,tmps,assign,body,hyy,hR⟩:=HY.out ((qf exs.length).take k) ⟨j,hjl⟩ wr HJk.out (by rw[List.length_take,jv];omega);simp only[zIb,hy] at hyy hR;have HRR:=hid hR;have hw2:IntKind.i64.wrap ((j:Int)-1)=(j:Int)-1:=by rw[IntKind.wrap_i64];omega
   have hge:(0:Int)≤(j:Int):=by omega
   have HJE:=hid hj;rw[hji];clear hfin hc cc hb hR hy hj hji
   gi_wp2_with fail
   refine⟨fun h=>(by cases h),?_⟩;refine HRR.out.mono ?_;clear HRR hyy;rintro e W2 (⟨rfl,hJ2,hk2⟩|⟨rfl,hx2⟩)
   ·have HK2:=hid (HK.out.trans hk2)
    have HJ2:=hid hJ2;clear hJ2 hk2
    gi_wp2
    go_roundw
    case rel=>exact⟨k+1,congrArg (Value.int .i64) (by have:=HJE.out;omega),by omega,by rw[HS.out];exact HJ2.out,HK2⟩
    case measure=>simp[intOf]<;>omega
   ·have HX2:=hid hx2
    clear hx2
    gi_wp2
    refine bodyPost_ret (results_none rfl _ _ _) rfl ?_;exact⟨⟨_,rfl⟩,.inr ⟨_,HP.out,by rw[HS.out];exact HX2.out⟩⟩
  ·obtain rfl:k=len:=by omega
   have HJ0:Hid (J (qf exs.length) wr):=by
    have:=HJk.out;rw[List.take_of_length_le (by rw[jv,HLE.out];exact Nat.le_refl _)] at this;exact this
   have hneg:¬(0:Int)≤(k:Int)-1-(k:Int):=by omega
   gi_wp2
   go_end0
   exact⟨⟨_,rfl⟩,.inl HJ0.out⟩
def zBq (exs:List Ex) (pre:List (Fin exs.length)):DataW Unit:=pre.foldl (fun D x=>D.put (.string (exs[x.val]'x.isLt).na.data.toList) (.lit (.int .i64 (x.val:Int)))) (.map [])
theorem zAu (exs:List Ex) (pre:List (Fin exs.length)) (x:Fin exs.length):zBq exs (pre++[x])=(zBq exs pre).put (.string (exs[x.val]'x.isLt).na.data.toList) (.lit (.int .i64 (x.val:Int))):=by simp[zBq]
def uX (W:World) (b:Nat) (exs:List Ex):Prop:=W.ownsMap Tryz.prog 9 (plainElem (H:=Unit) Tryz.prog 3) b exs.length (zBq exs (qf exs.length))
theorem uX.below {W W':World} {b:Nat} {exs:List Ex} (h:uX W b exs) (hb:Below W.heap.size W W'):uX W' b exs:=by
 have hl:=World.ownsMap.lt h;obtain⟨es,ck,hh,r⟩:=h;exact⟨es,ck,(hb.block b hl).trans hh,r⟩
theorem zBu (exs:List Ex) (a:Option Addr) (len c:Nat) (w:World) (hlen:exs.length=len) (hmax:len≤140737488351232) (hr:Mod.Rows w.heap.size w a 3 (exs.map Ex.v)) (hns:∀e∈exs,e.na.size≤140737488351232) :
  Calls Tryz.prog 183 #[.slice a len c] w fun e w'=>∃b,e=.returned (.map (some b))∧uX w' b exs∧Below w.heap.size w w':=by
 have hmm:=@run_makeMap Tryz.prog;have HNS:=hid hns;have HLE:=hid hlen;refine (callsIn_wide (n:=3)).1 ?_;refine callsIn_of_wp_marks Tryz.func183 rfl trivial ?_ rfl;simp only[Tryz.ntmps183,List.size_toArray,List.length_cons,List.length_nil,Nat.reduceAdd,Nat.reduceSub,Array.replicate_succ,Array.replicate_zero,List.push_toArray,List.append_toArray,List.nil_append,List.cons_append]
 gi_wp2_with (refine⟨trivial,?_⟩;refine (zHa _ _ _ _ _).mono ?_;rintro e w' ⟨rfl,rfl⟩)
 have hm0:=World.ownsMap_made w Tryz.prog 9 (plainElem (H:=Unit) Tryz.prog 3);have cS:=zAN (w.alloc (.map #[] 0)) (.map (some w.heap.size)) 263;have cN:=zAN ((w.alloc (.map #[] 0)).alloc (.cells #[.map (some w.heap.size)] 263)) (.slice a len c) 35;simp only[World.size_alloc] at cS cN;have hB0:Below w.heap.size w (((w.alloc (.map #[] 0)).alloc (.cells #[.map (some w.heap.size)] 263)).alloc (.cells #[.slice a len c] 35)):=zC (zC (zC (Below.refl _ _) _) _) _;have hsz:(((w.alloc (.map #[] 0)).alloc (.cells #[.map (some w.heap.size)] 263)).alloc (.cells #[.slice a len c] 35)).heap.size=w.heap.size+3:=by simp
 have hmW:=(hm0.alloc (.cells #[.map (some w.heap.size)] 263)).alloc (.cells #[.slice a len c] 35);have cS2:=zCc (.cells #[.slice a len c] 35) cS.1;have cNc:=cN.1;clear hm0 cS cN;obtain⟨W0,hW0⟩:∃W0,((w.alloc (.map #[] 0)).alloc (.cells #[.map (some w.heap.size)] 263)).alloc (.cells #[.slice a len c] 35)=W0:=⟨_,rfl⟩;rw[hW0] at hB0 hsz hmW cS2 cNc ⊢;clear hW0
 refine wpIn_rangeFunc_ownH rfl (by omega) (gf:=294) (lb:=#[.pointer (some ⟨w.heap.size+1+1,0,none⟩)]) rfl trivial (enters_of Tryz.func294 (by kernel_rfl) rfl)
  (zDY _ w.heap.size (w.heap.size+1+1) exs a len c W0 (by omega) (by omega) hlen hmax cNc (hr.below hB0)) (fun h k=>h.trans k) (zES (by omega)) (Below.refl _ _) (fun _=>rfl)
  (fun pre W=>(W.cell? ⟨w.heap.size+1,0,none⟩=some (.map (some w.heap.size))∧W.ownsMap Tryz.prog 9 (plainElem (H:=Unit) Tryz.prog 3) w.heap.size pre.length (zBq exs pre)∧w.heap.size+3≤W.heap.size)∧Below w.heap.size w W)
  (fun _ _ _=>False)
  (OwnFrom.and (fun s A B row hs hg hr=>⟨cell_kept hs.1 hg (fun r e=>(hr r e).2),hs.2.1.kept hg (fun e=>by have:=(hr _ e.symm).1;omega),Nat.le_trans hs.2.2 hg.size⟩) (ownFrom_below (Nat.le_refl _) (by omega)))
  (fun _ _ _ _ _ hs _ _=>hs)
  ⟨⟨cS2,hmW,by omega⟩,hB0⟩
  (fun x a' W=>∃Bx,w.heap.size+3≤Bx∧W.cell? ⟨Bx,0,none⟩=some (.string (exs[x.val]'x.isLt).na)∧a'={ tmps:=#[.slice a len c,undef,.map none,.pointer (some ⟨w.heap.size+1,0,none⟩),.int .i64 (x.val:Int),.pointer (some ⟨Bx,0,none⟩),.map (some w.heap.size),.slice a len c,.func (.func 294) #[] #[.pointer (some ⟨w.heap.size+1+1,0,none⟩)],.int .i64 (x.val:Int),.agg #[.string (exs[x.val]'x.isLt).na,.int .i64 (exs[x.val]'x.isLt).k,.int .u32 (exs[x.val]'x.isLt).i],undef,undef,undef,undef,undef],defers:=[] })
  (fun x a' _ X Y row hs hg hr=>by obtain⟨Bx,h1,h2,h3⟩:=hs;exact⟨Bx,h1,cell_kept h2 hg (fun r e=>(hr r e).2),h3⟩)
  ?assign ?body ?done ?stop
 case assign =>
  rintro l pre x W K ⟨⟨hc1,hown,hz⟩,hB1⟩ hK;simp only[zIb] at hK ⊢
  gi_wp2
  have hA:Below W.heap.size W (W.alloc (.cells #[.string (exs[x.val]'x.isLt).na,.int .i64 (exs[x.val]'x.isLt).k,.int .u32 (exs[x.val]'x.isLt).i] 45)):=(Below.refl _ _).alloc (Nat.le_refl _) _;exact hK _ _ ((KeepsOthers.alloc _ _).from _) ((yq.refl _ _ W).alloc (by omega) _) ⟨⟨kP hA hc1,hown.alloc _,by simp;omega⟩,zC hB1 _⟩ ⟨W.heap.size,hz,by simp[go_sem],rfl⟩
 case body =>
  rintro l pre x a' W hl' ⟨r,hr⟩ ⟨⟨hc1,hown,hz⟩,hB1⟩ ⟨Bx,hBx,bX,rfl⟩ hlt;have hsn:(exs[x.val]'x.isLt).na.size≤maxLen:=by have:=HNS.out (exs[x.val]'x.isLt) (List.getElem_mem x.isLt);unfold maxLen;omega
  have hxl:=x.isLt;have hle:=HLE.out;have hpl:pre.length<maxLen:=by unfold maxLen;omega
  have hwf:(Lit.int .i64 (x.val:Int)).wf=true:=WalkArith.wf_i64 (by omega);have HSN:=hid (zAu exs pre x);have HB1:=hid hB1;have HZ:=hid hz;clear hl' hlt
  gi_wp2_with (gi_at_mapUpdate;refine wpListIn_mapUpdate_own _ rfl _ _ _ 263 rfl 9 3 (string_keyed Tryz.underlying9) Tryz.underlying263 _ w.heap.size pre.length _ rfl hown hpl _ _ _ rfl rfl (WideMaps.keyOf_string_mk Tryz.underlying9 hsn) _ [] (plainElem_int Tryz.underlying3 hwf) ?_;intro w1 hown1 hgrow1)
  obtain⟨es,ck,hh,_⟩:=hown
  exact⟨KeepsFrom.of_grownBy hgrow1 (fun j e=>by cases e;omega),⟨(Below.refl _ W).grown hgrow1 HB1.out.size (fun k e=>by cases e;exact Nat.le_refl _),fun o v hv=>cell_kept hv hgrow1 (fun r e=>by cases e;exact⟨_,hh,rfl⟩)⟩,
    ⟨cell_kept hc1 hgrow1 (fun r e=>by cases e;exact⟨_,hh,rfl⟩),by rw[HSN.out,List.length_append];exact hown1,Nat.le_trans HZ.out hgrow1.size⟩,HB1.out.grown hgrow1 HB1.out.size (fun k e=>by cases e;exact Nat.le_refl _)⟩
 case done =>
  rintro D ys W hD rfl ⟨⟨hc1,hown,hz⟩,hB⟩ hK
  gi_wp2
  refine⟨by simp,.inl ⟨_,_,rfl,run_takeDeferred hK,?_⟩⟩;refine⟨_,results_tmp rfl _ _ _,?_⟩;refine⟨w.heap.size,rfl,?_,hB.trans (belowK_b (w:=w) (Nat.le_refl _) W D _ _ (by omega) hK rfl rfl)⟩;have:=hown.kept (grownBy_putObj' W D (.deferred none)) (fun e=>by cases e;omega);rw[jv] at this;exact this
 case stop =>
  rintro D c pre W _ _ h _;exact h.elim
end Val
namespace Val
open Go.RowKit Go.Shelf Instr Mod
open Go.Maps (Keyed string_keyed)
theorem zJN {s t:ByteArray} (h:s≠t):(Lit.string s.data.toList)≠(Lit.string t.data.toList):=by
 intro e
 apply h
 have e1:s.data.toList=t.data.toList:=by injection e
 have e2:s.data=t.data:=Array.toList_inj.1 e1
 cases s;cases t;simp only at e2;subst e2;rfl
theorem zGC (exs:List Ex) (pre:List (Fin exs.length)):∃es,zBq exs pre=.map es:=by
 unfold zBq
 suffices ∀(l:List (Fin exs.length)) (D:DataW Unit),(∃es,D=.map es)→∃es,l.foldl (fun D x=>D.put (.string (exs[x.val]'x.isLt).na.data.toList) (.lit (.int .i64 (x.val:Int)))) D=.map es from this pre _ ⟨_,rfl⟩
 intro l
 induction l with
 | nil=>exact fun D h=>h
 | cons x l ih =>
  intro D h;rw[List.foldl_cons];obtain⟨es,rfl⟩:=h;exact ih _ ⟨_,rfl⟩
theorem J8 (exs:List Ex) (z:DataW Unit):∀(j:Nat),j≤exs.length→∀(k:Nat) (hk:k<exs.length),exs.length-j≤k →
  ∃f,∃hf:f<exs.length,exs.length-j≤f∧f≤k∧exs[f].na=exs[k].na∧(∀i (hi:i<exs.length),exs.length-j≤i→i<f→exs[i].na≠exs[k].na)∧(zBq exs ((qf exs.length).take j)).atKey (.string exs[k].na.data.toList) z=.lit (.int .i64 (f:Int))
 | 0,_,k,hk,h=>by omega
 | j+1,hj,k,hk,h=>by
  have hjl:j<exs.length:=by omega
  rw[zA1 hjl,zAu];simp only
  by_cases he:(exs[exs.length-1-j]'(by omega)).na=exs[k].na
  ·refine⟨exs.length-1-j,by omega,by omega,by omega,he,fun i hi h1 h2=>by omega,?_⟩
   rw[he];exact Maps.atKey_put_same (zGC _ _) (show WideAt.IsKeyLit (.string _) from trivial) _ _
  ·have hk':exs.length-j≤k:=by
    rcases Nat.lt_or_ge k (exs.length-j) with h1|h1
    ·have hkk:k=exs.length-1-j:=by omega
     subst hkk;exact absurd rfl he
    ·exact h1
   obtain⟨f,hf,f1,f2,f3,f4,f5⟩:=J8 exs z j (by omega) k hk hk';refine⟨f,hf,by omega,f2,f3,fun i hi h1 h2=>?_,?_⟩
   ·rcases Nat.lt_or_ge i (exs.length-j) with h3|h3
    ·have hii:i=exs.length-1-j:=by omega
     subst hii;exact he
    ·exact f4 i hi h3 h2
   ·rw[Maps.atKey_put_other (zJN (Ne.symm he)),f5]
def zAO (m:Md) (k:Nat):Ex:=m.ex.getD k ⟨⟨#[]⟩,0,0⟩
def jV (m:Md) (k:Nat):Int:=if (zAO m k).i<countP m (zAO m k).k then (if (m.ex.take k).any (fun e=>decide (e.na=(zAO m k).na)) then 7 else 0) else 6
theorem zB.mod {W:World} {g:Nat} {v0 v1 v2 v3 v4 v5 v6 v7 v8 v9 v10:Value} (h:zB W g #[v0,v1,v2,v3,v4,v5,v6,v7,v8,v9,v10]) :
  W.cell? ⟨g,0,none⟩=some v0∧W.cell? ⟨g,1,none⟩=some v1∧W.cell? ⟨g,2,none⟩=some v2∧W.cell? ⟨g,3,none⟩=some v3∧W.cell? ⟨g,4,none⟩=some v4∧W.cell? ⟨g,5,none⟩=some v5∧W.cell? ⟨g,6,none⟩=some v6∧W.cell? ⟨g,7,none⟩=some v7 ∧
   W.cell? ⟨g,8,none⟩=some v8∧W.cell? ⟨g,9,none⟩=some v9∧W.cell? ⟨g,10,none⟩=some v10:=⟨h 0 _ rfl,h 1 _ rfl,h 2 _ rfl,h 3 _ rfl,h 4 _ rfl,h 5 _ rfl,h 6 _ rfl,h 7 _ rfl,h 8 _ rfl,h 9 _ rfl,h 10 _ rfl⟩
theorem zHo (w:World):(zeroValue 3).run Tryz.prog w=.ok (.int .i64 0) w:=by kernel_rfl
theorem qy {w w1 w2:World} {p0 p1 p2 p3 p4 p5 p6 p7 p8 p9 p10 p11 p12:Addr} {v0 v1 v2 v3 v4 v5 v6 v7 v8 v9 v10 v11 v12:Value} (h:Below w.heap.size w w1∧w1.cell? p0=some v0∧w1.cell? p1=some v1∧w1.cell? p2=some v2∧w1.cell? p3=some v3∧w1.cell? p4=some v4∧w1.cell? p5=some v5∧w1.cell? p6=some v6∧w1.cell? p7=some v7∧w1.cell? p8=some v8∧w1.cell? p9=some v9∧w1.cell? p10=some v10∧w1.cell? p11=some v11∧w1.cell? p12=some v12) (hb:Below w1.heap.size w1 w2) :
  Below w.heap.size w w2∧w2.cell? p0=some v0∧w2.cell? p1=some v1∧w2.cell? p2=some v2∧w2.cell? p3=some v3∧w2.cell? p4=some v4∧w2.cell? p5=some v5∧w2.cell? p6=some v6∧w2.cell? p7=some v7∧w2.cell? p8=some v8∧w2.cell? p9=some v9∧w2.cell? p10=some v10∧w2.cell? p11=some v11∧w2.cell? p12=some v12 :=
 ⟨zM h.1 hb,kP hb h.2.1,kP hb h.2.2.1,kP hb h.2.2.2.1,kP hb h.2.2.2.2.1,kP hb h.2.2.2.2.2.1,kP hb h.2.2.2.2.2.2.1,kP hb h.2.2.2.2.2.2.2.1,kP hb h.2.2.2.2.2.2.2.2.1,kP hb h.2.2.2.2.2.2.2.2.2.1,kP hb h.2.2.2.2.2.2.2.2.2.2.1,kP hb h.2.2.2.2.2.2.2.2.2.2.2.1,kP hb h.2.2.2.2.2.2.2.2.2.2.2.2.1,kP hb h.2.2.2.2.2.2.2.2.2.2.2.2.2⟩
theorem zAR (m:Md) (k bm:Nat) (w:World) (hm:zN w.heap.size w m) (hf:m.fits) (h1:m.im.length≤16384) (h2:m.fu.length≤16384) (hk:k<m.ex.length) (hN:uX w bm m.ex) (hei:∀e∈m.ex,0≤e.i∧e.i<4294967296) :
  Calls Tryz.prog 190 #[.agg m.v,.int .i64 k,.map (some bm)] w fun e w'=>e=.returned (.int .i64 (jV m k))∧Below w.heap.size w w':=by
 have hgd:zAO m k=m.ex[k]:=by unfold zAO;simp[hk]
 have HE:Hid (jV m k=if (zAO m k).i<countP m (zAO m k).k then (if (m.ex.take k).any (fun e=>decide (e.na=(zAO m k).na)) then 7 else 0) else 6):=rfl;rw[hgd] at HE;have hmem:=List.getElem_mem hk;have hsz:=hf.eS _ hmem;have hei0:=hei _ hmem;obtain⟨f,hfl,-,f2,f3,f4,f5⟩:=J8 m.ex (.lit (.int .i64 0)) m.ex.length (Nat.le_refl _) k hk (by omega);rw[show (qf m.ex.length).take m.ex.length=qf m.ex.length from List.take_of_length_le (by rw[jv];exact Nat.le_refl _)] at f5
 have hany:(m.ex.take k).any (fun e=>decide (e.na=m.ex[k].na))=decide (f<k):=by
  by_cases hfk:f<k
  ·rw[decide_eq_true hfk]
   refine List.any_eq_true.2 ⟨m.ex[f],?_,by simpa using f3⟩;exact List.mem_take_iff_getElem.2 ⟨f,by omega,rfl⟩
  ·rw[decide_eq_false hfk]
   refine List.any_eq_false.2 fun e he=>?_
   obtain⟨i,hi,rfl⟩:=List.mem_take_iff_getElem.1 he;have:=f4 i (by omega) (by omega) (by omega);simpa using this
 rw[hany] at HE;obtain⟨b,off,ha,hb,hcc⟩:=Mod.Rows.get hm.ex hk;obtain⟨x,hx⟩:∃x,m.ex[k]=x:=⟨_,rfl⟩;rw[hx] at HE hcc hsz hei0 f5;have hkey:keyOf Tryz.prog 9 (.string x.na)=some (.string x.na.data.toList):=WideMaps.keyOf_string_mk Tryz.underlying9 (by unfold maxLen;omega);obtain⟨W0,hW0⟩:∃W0,W0=w.alloc (.cells m.v 40):=⟨_,rfl⟩;have hb0:Below w.heap.size w W0:=by rw[hW0];exact zC (Below.refl _ _) _
 have HX:Hid (zB W0 w.heap.size m.v):=by rw[hW0];exact zB.made w m.v _
 have c0:W0.cell? ⟨b,off+k*3,none⟩=some (.string x.na):=(hb0.cell (p:=⟨b,off+k*3,none⟩) hb).trans (hcc 0 (by omega) _ rfl);have c1:W0.cell? ⟨b,off+k*3+1,none⟩=some (.int .i64 x.k):=(hb0.cell (p:=⟨b,off+k*3+1,none⟩) hb).trans (hcc 1 (by omega) _ rfl);have c2:W0.cell? ⟨b,off+k*3+2,none⟩=some (.int .u32 x.i):=(hb0.cell (p:=⟨b,off+k*3+2,none⟩) hb).trans (hcc 2 (by omega) _ rfl);have CC:=hid (fun w'=>zED m x.k hf h1 h2 w');have hcr:=countP_range m hf h1 h2 x.k;have m6:W0.cell? ⟨w.heap.size,6,none⟩=some (.slice m.ex'.a m.ex.length m.ex'.c):=HX.out 6 _ rfl;rw[ha] at m6;obtain⟨cn,hcn⟩:∃c,countP m x.k=c:=⟨_,rfl⟩;rw[hcn] at CC HE hcr;have CH:=hid (fun w'=>ZW cn x.i hcr hei0 w');have HB:=hid hb0;unfold uX at hN;obtain⟨D,hD⟩:∃D,zBq m.ex (qf m.ex.length)=D:=⟨_,rfl⟩;rw[hD] at hN f5;have HN:=hid hN;have hki:(k:Int)<(m.ex.length:Int):=by omega
 obtain⟨v0,v1,v2,v3,v4,v5,v7,v8,v9,v10,hv⟩:∃v0 v1 v2 v3 v4 v5 v7 v8 v9 v10,m.v=#[v0,v1,v2,v3,v4,v5,.slice m.ex'.a m.ex.length m.ex'.c,v7,v8,v9,v10]:=⟨_,_,_,_,_,_,_,_,_,_,rfl⟩;rw[hv,ha] at hW0 CC HX ⊢;have HF5:=hid f5;have HK:=hid hkey;have bex:=hf.ex;clear hm hf h1 h2 hN hei hgd hmem hsz f4 f3 hany hcc hx hkey hb0 hb hv hcn hcr f5 hD
 generalize m.ex.length=E at *
 go_enter Tryz.func190,Tryz.ntmps190
 go_upto_region 1 with fail
 rw[←hW0];clear hW0
 go_upto_region 2 with fail
 have hA:Below W0.heap.size W0 (W0.alloc (.cells #[.string x.na,.int .i64 x.k,.int .u32 x.i] 45)):=(Below.refl _ _).alloc (Nat.le_refl _) _;have x0:(W0.alloc (.cells #[.string x.na,.int .i64 x.k,.int .u32 x.i] 45)).cell? ⟨W0.heap.size,0,none⟩=some (.string x.na):=by simp[go_sem]
 have x1:(W0.alloc (.cells #[.string x.na,.int .i64 x.k,.int .u32 x.i] 45)).cell? ⟨W0.heap.size,1,none⟩=some (.int .i64 x.k):=by simp[go_sem]
 have x2:(W0.alloc (.cells #[.string x.na,.int .i64 x.k,.int .u32 x.i] 45)).cell? ⟨W0.heap.size,2,none⟩=some (.int .u32 x.i):=by simp[go_sem]
 have hX1:=HX.out.keep hA;obtain⟨n0,n1,n2,n3,n4,n5,n6,n7,n8,n9,n10⟩:=zB.mod hX1;have HB1:=hid (HB.out.trans (hA.mono HB.out.size));clear m6 c0 c1 c2 hX1 HX;obtain⟨W1,hW1⟩:∃u,u=W0.alloc (.cells #[.string x.na,.int .i64 x.k,.int .u32 x.i] 45):=⟨_,rfl⟩;rw[←hW1] at x0 x1 x2 n0 n1 n2 n3 n4 n5 n6 n7 n8 n9 n10 HB1 ⊢;obtain⟨gx,hgx⟩:∃gx,gx=W0.heap.size:=⟨_,rfl⟩;rw[←hgx] at x0 x1 x2 ⊢;have X0:=hid x0;have hS0:Below W1.heap.size W1 W1.drew∧W1.drew.cell? ⟨w.heap.size,0,none⟩=some v0∧W1.drew.cell? ⟨w.heap.size,1,none⟩=some v1∧W1.drew.cell? ⟨w.heap.size,2,none⟩=some v2∧W1.drew.cell? ⟨w.heap.size,3,none⟩=some v3∧W1.drew.cell? ⟨w.heap.size,4,none⟩=some v4∧W1.drew.cell? ⟨w.heap.size,5,none⟩=some v5∧W1.drew.cell? ⟨w.heap.size,6,none⟩=some (.slice (some ⟨b,off,none⟩) E m.ex'.c)∧W1.drew.cell? ⟨w.heap.size,7,none⟩=some v7∧W1.drew.cell? ⟨w.heap.size,8,none⟩=some v8∧W1.drew.cell? ⟨w.heap.size,9,none⟩=some v9∧W1.drew.cell? ⟨w.heap.size,10,none⟩=some v10∧W1.drew.cell? ⟨gx,1,none⟩=some (.int .i64 x.k)∧W1.drew.cell? ⟨gx,2,none⟩=some (.int .u32 x.i):=⟨(Below.refl _ _).drew,n0,n1,n2,n3,n4,n5,n6,n7,n8,n9,n10,x1,x2⟩;clear hW1 hgx hA HB x0 x1 x2 n0 n1 n2 n3 n4 n5 n6 n7 n8 n9 n10
 go_region_held3 (fun w'=>Below W1.heap.size W1 w'∧w'.cell? ⟨w.heap.size,0,none⟩=some v0∧w'.cell? ⟨w.heap.size,1,none⟩=some v1∧w'.cell? ⟨w.heap.size,2,none⟩=some v2∧w'.cell? ⟨w.heap.size,3,none⟩=some v3∧w'.cell? ⟨w.heap.size,4,none⟩=some v4∧w'.cell? ⟨w.heap.size,5,none⟩=some v5∧w'.cell? ⟨w.heap.size,6,none⟩=some (.slice (some ⟨b,off,none⟩) E m.ex'.c)∧w'.cell? ⟨w.heap.size,7,none⟩=some v7∧w'.cell? ⟨w.heap.size,8,none⟩=some v8∧w'.cell? ⟨w.heap.size,9,none⟩=some v9∧w'.cell? ⟨w.heap.size,10,none⟩=some v10∧w'.cell? ⟨gx,1,none⟩=some (.int .i64 x.k)∧w'.cell? ⟨gx,2,none⟩=some (.int .u32 x.i)) (first|assumption|exact qy (by assumption) (by assumption))
  (first
    | (go_at_call 253;refine (CC.out _).mono ?_;rintro e1 w2 ⟨rfl,hb2⟩)
    | (go_at_call 252;refine (CH.out _).mono ?_;rintro e2 w3 ⟨rfl,rfl⟩))
 have hB2:Below W1.heap.size W1 w2:=Stk.ZG hb2;have q0:=kP hB2 X0.out;have HB2:=hid (HB1.out.trans (hB2.mono HB1.out.size));clear hB2 hb2 hS0
 have hN2:w2.ownsMap Tryz.prog 9 (plainElem (H:=Unit) Tryz.prog 3) bm E D:=by
  have hl:=World.ownsMap.lt HN.out;obtain⟨es,ck,hh,r⟩:=HN.out;exact⟨es,ck,(HB2.out.block bm hl).trans hh,r⟩
 by_cases hlt:x.i<cn
 ·have hd:decide (x.i<cn)=true:=by simpa using hlt
  rw[hd]
  go_wp2_with (at_lookup;refine wpList_lookup_own_int _ rfl _ _ 263 rfl 9 3 .i64 (string_keyed Tryz.underlying9) Tryz.underlying263 Tryz.underlying3 (zHo _) bm E _ rfl hN2 _ _ rfl HK.out ?_;intro c hat hwc)
  all_goals
   have hcf:c=(f:Int):=by
    have:=HF5.out.symm.trans hat
    injection this with h
    injection h with _ h
    exact h.symm
   subst hcf;have HV7:=hid (show (f:Int)<(k:Int)→jV m k=7 from fun h=>by rw[HE.out,if_pos hlt,decide_eq_true (show f<k by omega)];rfl);have HV0:=hid (show ¬(f:Int)<(k:Int)→jV m k=0 from fun h=>by rw[HE.out,if_pos hlt,decide_eq_false (show ¬f<k by omega)];rfl);clear hat hwc;go_wp2;go_ret
   first
    | exact⟨zH (HV7.out (by assumption)).symm,HB2.out⟩
    | exact⟨zH (HV0.out (by assumption)).symm,HB2.out⟩
 ·have hd:decide (x.i<cn)=false:=by simpa using hlt
  have HV:=hid (show jV m k=6 by rw[HE.out,if_neg hlt]);rw[hd];go_wp2;go_ret;exact⟨zH HV.out.symm,HB2.out⟩
def jd (m:Md):Int:=if (m.typeOf m.sn.toNat).2=false then 6 else if (m.typeOf m.sn.toNat).1.1=0∧(m.typeOf m.sn.toNat).1.2=0 then 0 else 213
theorem zBf (m:Md) (w:World) (hm:zN w.heap.size w m) (hf:m.fits) (hsn:0≤m.sn∧m.sn<4294967296) :
  Calls Tryz.prog 192 #[.agg m.v] w fun e w'=>e=.returned (.int .i64 (jd m))∧Below w.heap.size w w':=by
 obtain⟨W0,hW0⟩:∃W0,W0=w.alloc (.cells m.v 40):=⟨_,rfl⟩;have hb0:Below w.heap.size w W0:=by rw[hW0];exact zC (Below.refl _ _) _
 have HX:Hid (zB W0 w.heap.size m.v):=by rw[hW0];exact zB.made w m.v _
 have HB:=hid hb0;have C:=hid (Zt m m.sn.toNat W0 (hm.on hb0) hf (by omega));have HE:Hid (jd m=if (m.typeOf m.sn.toNat).2=false then 6 else if (m.typeOf m.sn.toNat).1.1=0∧(m.typeOf m.sn.toNat).1.2=0 then 0 else 213):=rfl;rw[Int.toNat_of_nonneg hsn.1] at C;obtain⟨q,hq⟩:∃q,m.typeOf m.sn.toNat=q:=⟨_,rfl⟩;rw[hq] at C HE;obtain⟨⟨t1,t2⟩,tb⟩:=q;simp only at C HE;have q1:=Kind.zDH;have q2:=Kind.Yt;obtain⟨v0,v1,v2,v3,v4,v5,v6,v7,v9,v10,hv⟩:∃v0 v1 v2 v3 v4 v5 v6 v7 v9 v10,m.v=#[v0,v1,v2,v3,v4,v5,v6,v7,.int .u32 m.sn,v9,v10]:=⟨_,_,_,_,_,_,_,_,_,_,rfl⟩;rw[hv] at hW0 C HX ⊢;obtain⟨n0,n1,n2,n3,n4,n5,n6,n7,n8,n9,n10⟩:=zB.mod HX.out;clear hm hf hsn hb0 hq hv HX
 go_enter Tryz.func192,Tryz.ntmps192
 go_upto_region 1 with fail
 rw[←hW0];clear hW0
 go_wp2_with fail
 refine C.out.mono ?_;rintro e1 w1 ⟨rfl,hb1⟩;have HB1:=hid (HB.out.trans (hb1.mono HB.out.size));clear C hb1 HB n0 n1 n2 n3 n4 n5 n6 n7 n8 n9 n10
 cases tb with
 | false =>
  have HV:=hid (show jd m=6 by rw[HE.out,if_pos rfl]);clear HE;go_wp2;go_ret;exact⟨zH HV.out.symm,zC HB1.out _⟩
 | true =>
  by_cases h0:t1=0
  ·subst h0
   by_cases h1:t2=0
   ·subst h1
    have HV:=hid (show jd m=0 by rw[HE.out,if_neg (by simp),if_pos ⟨rfl,rfl⟩]);clear HE;go_wp2;go_ret;exact⟨zH HV.out.symm,zC HB1.out _⟩
   ·have HV:=hid (show jd m=213 by rw[HE.out,if_neg (by simp),if_neg (fun h=>h1 h.2)])
    have h1b:(t2==0)=false:=by simpa using h1
    clear HE;go_wp2;go_ret;exact⟨zH HV.out.symm,zC HB1.out _⟩
  ·have HV:=hid (show jd m=213 by rw[HE.out,if_neg (by simp),if_neg (fun h=>h0 h.1)])
   have h0b:(t1==0)=false:=by simpa using h0
   clear HE;go_wp2;go_ret;exact⟨zH HV.out.symm,zC HB1.out _⟩
def qj (m:Md) (l:Il):Int:=if m.me.length=0 then 6 else (zy l).2
theorem zCb (m:Md) (d:Da) (w:World) (hf:m.fits) (hL:zD w.heap.size w d.l.a d.l.t.len d.l.t) (hn:d.l.t.len≤140737488351232) (hct:d.l.t.count≤4611686018427387900) (hT:kC w) :
  Calls Tryz.prog 197 #[.agg m.v,.agg #[.slice d.l.a d.l.t.len d.l.c,.slice d.ba d.bs.length d.bc]] w fun e w'=>e=.returned (.int .i64 (qj m d.l.t))∧Below w.heap.size w w':=by
 obtain⟨W0,hW0⟩:∃W0,W0=(w.alloc (.cells m.v 40)).alloc (.cells #[.slice d.l.a d.l.t.len d.l.c,.slice d.ba d.bs.length d.bc] 146):=⟨_,rfl⟩;have hb0:Below w.heap.size w W0:=by rw[hW0];exact zC (zC (Below.refl _ _) _) _
 have hx:zB W0 w.heap.size m.v:=by rw[hW0];exact (zB.made w m.v _).keep (zG _ _)
 have d0:W0.cell? ⟨w.heap.size+1,0,none⟩=some (.slice d.l.a d.l.t.len d.l.c):=by rw[hW0];simp[go_sem]
 have m4:W0.cell? ⟨w.heap.size,4,none⟩=some (.slice m.me'.a m.me.length m.me'.c):=hx 4 _ rfl;have HB:=hid hb0;have C:=hid (uT d.l.t d.l.a d.l.t.len d.l.c W0 (hL.on hb0) hn hct (hT.below hb0));have HE:Hid (qj m d.l.t=if m.me.length=0 then 6 else (zy d.l.t).2):=rfl;obtain⟨q,hq⟩:∃q,(zy d.l.t).2=q:=⟨_,rfl⟩;rw[hq] at C HE;have bme:=hf.me;unfold Md.v at hW0 ⊢;clear hf hL hn hct hT hb0 hx hq
 by_cases h0:m.me.length=0
 ·have HV:=hid (show qj m d.l.t=6 by rw[HE.out,if_pos h0])
  rw[h0] at m4 hW0 ⊢;clear HE C h0
  go_enter Tryz.func197,Tryz.ntmps197
  go_upto_region 1 with fail
  rw[←hW0];clear hW0;go_wp2;go_ret;exact⟨zH HV.out.symm,HB.out⟩
 ·have HV:=hid (show qj m d.l.t=q by rw[HE.out,if_neg h0])
  have h0b:(((m.me.length:Nat):Int)==0)=false:=by simpa using h0
  have h0i:¬((m.me.length:Nat):Int)=0:=by omega
  clear HE h0
  go_enter Tryz.func197,Tryz.ntmps197
  go_upto_region 1 with fail
  rw[←hW0];clear hW0
  go_wp2_with fail
  refine C.out.mono ?_;rintro e1 w1 ⟨rfl,hb1⟩;have HB1:=hid (HB.out.trans (hb1.mono HB.out.size));clear C hb1 HB;go_wp2;go_ret;exact⟨zH HV.out.symm,HB1.out⟩
theorem zG9 (l:List Int) (a:Option Addr) (n c:Nat) (w:World) (hn:l.length=n) (hr:zk w.heap.size w a l) (hlen:n≤140737488351232) (g:Nat) (lb:Array Value)
  (eg:∀args w,(callFunc g args).run Tryz.prog w=.ok (.enter g args) w) (p:Int→Bool)
  (hp:∀W x,x∈l→Below w.heap.size w W→Calls Tryz.prog g (#[.int .u32 x]++lb) W fun e w'=>e=.returned (.bool (p x))∧Below W.heap.size W w') :
  Calls Tryz.prog 295 #[.slice a n c,.func (.func g) #[] lb] w fun e w'=>e=.returned (.int .i64 (vB p l))∧Below w.heap.size w w':=by
 have HR:=hid hr;have HP:=hid hp;have HN:=hid hn;clear hr hp hn
 go_enter Tryz.func295,Tryz.ntmps295
 go_wp2
 go_loopw [5,8] (fun _ vi wr=>∃k:Nat,vi=.int .i64 k∧k≤n∧Hid (Below w.heap.size w wr)∧Hid (∀j (hj:j<l.length),j<k→p l[j]=false)) (fun _ vi _=>n-(intOf vi).toNat)
 case atStart=>exact⟨0,rfl,Nat.zero_le _,Below.refl _ _,fun j _ h=>absurd h (Nat.not_lt_zero _)⟩
 case round =>
  obtain⟨k,rfl,hk,HB,HA⟩:=hrel
  by_cases hlt:k<n
  ·have hkl:k<l.length:=by rw[HN.out];exact hlt
   have hcell:∃b off,a=some ⟨b,off,none⟩∧wr.cell? ⟨b,off+k,none⟩=some (.int .u32 l[k]):=by
    rcases HR.out with h0|⟨b,off,ha,hb,hc⟩
    ·rw[h0] at hkl;simp at hkl
    ·refine⟨b,off,ha,?_⟩
     have:=(HB.out.cell (p:=⟨b,off+k,none⟩) hb).trans (hc k hkl);rw[show l.getD k 0=l[k] by simp[hkl]] at this;exact this
   obtain⟨b,off,rfl,c0⟩:=hcell;have hx:l[k]∈l:=List.getElem_mem hkl;have C:=hid (HP.out wr l[k] hx HB.out);obtain⟨x,hxe⟩:∃x,l[k]=x:=⟨_,rfl⟩;rw[hxe] at c0 C;have HX:=hid hxe;have hki:(k:Int)<(n:Int):=by omega
   obtain⟨q,hq⟩:∃q,p x=q:=⟨_,rfl⟩;rw[hq] at C;have HQ:=hid hq;clear hq hxe hx HR HP
   cases q with
   | true =>
    go_wp2_with (go_at_fn g;refine C.out.mono ?_;rintro e w' ⟨rfl,hb'⟩)
    go_ret;exact⟨zH (vm hkl (by rw[HX.out];exact HQ.out) HA.out).symm,HB.out.trans (hb'.mono HB.out.size)⟩
   | false =>
    go_wp2_with (go_at_fn g;refine C.out.mono ?_;rintro e w' ⟨rfl,hb'⟩)
    go_roundw
    case rel =>
     refine⟨k+1,by go_num,by omega,HB.out.trans (hb'.mono HB.out.size),hid fun j hj hjk=>?_⟩
     by_cases e:j=k
     ·subst e;rw[HX.out];exact HQ.out
     ·exact HA.out j hj (by omega)
    case measure=>simp[intOf];omega
  ·obtain rfl:k=n:=by omega
   go_wp2;go_ret;exact⟨zH (kN (fun j hj=>HA.out j hj (by rw[←HN.out];exact hj))).symm,HB.out⟩
theorem zHZ (l:List Int) (a:Option Addr) (n c:Nat) (w:World) (hn:l.length=n) (hr:zk w.heap.size w a l) (hlen:n≤140737488351232) (g:Nat) (lb:Array Value)
  (eg:∀args w,(callFunc g args).run Tryz.prog w=.ok (.enter g args) w) (p:Int→Bool)
  (hp:∀W x,x∈l→Below w.heap.size w W→Calls Tryz.prog g (#[.int .u32 x]++lb) W fun e w'=>e=.returned (.bool (p x))∧Below W.heap.size W w') :
  Calls Tryz.prog 254 #[.slice a n c,.func (.func g) #[] lb] w fun e w'=>e=.returned (.bool (l.any p))∧Below w.heap.size w w':=by
 have C:=hid (zG9 l a n c w hn hr hlen g lb eg p hp);rw[←vf];have hb:=qU p l;obtain⟨i,hi⟩:∃i,vB p l=i:=⟨_,rfl⟩;rw[hi] at C hb ⊢;have HB:=hid hb;clear hi hb hn hr hp
 go_enter Tryz.func254,Tryz.ntmps254
 go_wp2_with fail
 refine C.out.mono ?_;rintro e w1 ⟨rfl,hb1⟩;go_wp2;go_ret;exact⟨rfl,hb1⟩
theorem zHX (g:Nat) (x cn:Int) (hx:0≤x∧x<4294967296) (hcn:0≤cn∧cn≤140737488351232) (w:World) (hc:w.cell? ⟨g,0,none⟩=some (.int .i64 cn)) :
  Calls Tryz.prog 255 #[.int .u32 x,.pointer (some ⟨g,0,none⟩)] w fun e w'=>e=.returned (.bool (!decide (x<cn)))∧Below w.heap.size w w':=by
 have C:=hid (ZW cn x hcn hx w);clear hx hcn
 go_enter Tryz.func255,Tryz.ntmps255
 go_wp2_with fail
 refine C.out.mono ?_;rintro e1 w1 ⟨rfl,rfl⟩;clear C;go_wp2;go_ret;exact⟨rfl,Below.refl _ _⟩
def kE (m:Md) (e:El):Int:=if m.tb.length=0 then 6 else if (zy e.l.t).2≠0 then (zy e.l.t).2 else if e.fs.any (fun x=>!decide (x<countP m 0)) then 6 else 0
theorem zCP (m:Md) (x:El) (w:World) (hf:m.fits) (h1:m.im.length≤16384) (h2:m.fu.length≤16384) (hL:zD w.heap.size w x.l.a x.l.t.len x.l.t) (hn:x.l.t.len≤140737488351232) (hct:x.l.t.count≤4611686018427387900) (hT:kC w)
  (hfs:zk w.heap.size w x.fa x.fs) (hfl:x.fs.length≤140737488351232) (hfr:∀z∈x.fs,0≤z∧z<4294967296) :
  Calls Tryz.prog 194 #[.agg m.v,.agg #[.slice x.l.a x.l.t.len x.l.c,.slice x.fa x.fs.length x.fc]] w fun e w'=>e=.returned (.int .i64 (kE m x))∧Below w.heap.size w w':=by
 obtain⟨W0,hW0⟩:∃W0,W0=(w.alloc (.cells m.v 40)).alloc (.cells #[.slice x.l.a x.l.t.len x.l.c,.slice x.fa x.fs.length x.fc] 131):=⟨_,rfl⟩;have hb0:Below w.heap.size w W0:=by rw[hW0];exact zC (zC (Below.refl _ _) _) _
 have hx:zB W0 w.heap.size m.v:=by rw[hW0];exact (zB.made w m.v _).keep (zG _ _)
 have d0:W0.cell? ⟨w.heap.size+1,0,none⟩=some (.slice x.l.a x.l.t.len x.l.c):=by rw[hW0];simp[go_sem]
 have D1:Hid (W0.cell? ⟨w.heap.size+1,1,none⟩=some (.slice x.fa x.fs.length x.fc)):=by rw[hW0];exact hid (by simp[go_sem])
 have m3:W0.cell? ⟨w.heap.size,3,none⟩=some (.slice m.tb'.a m.tb.length m.tb'.c):=hx 3 _ rfl;have HB:=hid hb0;have HX:=hid hx;have C:=hid (uT x.l.t x.l.a x.l.t.len x.l.c W0 (hL.on hb0) hn hct (hT.below hb0));have HE:Hid (kE m x=if m.tb.length=0 then 6 else if (zy x.l.t).2≠0 then (zy x.l.t).2 else if x.fs.any (fun z=>!decide (z<countP m 0)) then 6 else 0):=rfl;obtain⟨q,hq⟩:∃q,(zy x.l.t).2=q:=⟨_,rfl⟩;rw[hq] at C HE;have btb:=hf.tb;have CC:=hid (fun w'=>zED m 0 hf h1 h2 w');have hcr:=countP_range m hf h1 h2 0;have HFS:=hid hfs;have HFR:=hid hfr;obtain⟨cn,hcn⟩:∃c,countP m 0=c:=⟨_,rfl⟩;rw[hcn] at CC HE hcr;have HCR:=hid hcr;obtain⟨v0,v1,v2,v4,v5,v6,v7,v8,v9,v10,hv⟩:∃v0 v1 v2 v4 v5 v6 v7 v8 v9 v10,m.v=#[v0,v1,v2,.slice m.tb'.a m.tb.length m.tb'.c,v4,v5,v6,v7,v8,v9,v10]:=⟨_,_,_,_,_,_,_,_,_,_,rfl⟩;rw[hv] at hW0 HX CC ⊢;clear hf h1 h2 hL hn hct hT hb0 hx hq hfs hfr hcr hcn hv
 by_cases h0:m.tb.length=0
 ·have HV:=hid (show kE m x=6 by rw[HE.out,if_pos h0])
  rw[h0] at m3 hW0 HX CC ⊢;clear HE C CC HX D1 h0
  go_enter Tryz.func194,Tryz.ntmps194
  go_upto_region 1 with fail
  rw[←hW0];clear hW0;go_wp2;go_ret;exact⟨zH HV.out.symm,HB.out⟩
 have h0b:(((m.tb.length:Nat):Int)==0)=false:=by simpa using h0
 have h0i:¬((m.tb.length:Nat):Int)=0:=by omega
 by_cases h3:q=0
 ·subst h3
  have HV:=hid (show kE m x=if x.fs.any (fun z=>!decide (z<cn)) then 6 else 0 by rw[HE.out,if_neg h0,if_neg (by simp)]);clear HE h0
  go_enter Tryz.func194,Tryz.ntmps194
  go_upto_region 1 with fail
  rw[←hW0];clear hW0
  go_wp2_with fail
  refine C.out.mono ?_;rintro e1 w1 ⟨rfl,hb1⟩;have HB1:=hid (HB.out.trans (hb1.mono HB.out.size));have hX1:=HX.out.keep hb1;have D1':=hid (kP hb1 D1.out);obtain⟨n0,n1,n2,n3,n4,n5,n6,n7,n8,n9,n10⟩:=zB.mod hX1;clear C hb1 HB d0 m3 hX1 HX D1
  go_wp2_with fail
  refine (CC.out _).mono ?_;rintro e2 w2 ⟨rfl,hb2⟩;have HB2:=hid (HB1.out.trans (hb2.mono HB1.out.size));have D2:=hid (kP hb2 D1'.out);clear CC hb2 HB1 D1' n0 n1 n2 n3 n4 n5 n6 n7 n8 n9 n10
  go_upto_region 7 with fail
  have hA:Below w2.heap.size w2 (w2.alloc (.cells #[.int .i64 cn] 3)):=(Below.refl _ _).alloc (Nat.le_refl _) _;have hcc:(w2.alloc (.cells #[.int .i64 cn] 3)).cell? ⟨w2.heap.size,0,none⟩=some (.int .i64 cn):=by simp[go_sem]
  have d1:=kP hA D2.out;have HB3:=hid (HB2.out.trans (hA.mono HB2.out.size));obtain⟨w3,hw3⟩:∃u,u=w2.alloc (.cells #[.int .i64 cn] 3):=⟨_,rfl⟩;rw[←hw3] at hcc d1 HB3 ⊢;obtain⟨gc,hgc⟩:∃gc,gc=w2.heap.size:=⟨_,rfl⟩;rw[←hgc] at hcc ⊢;have HCC:=hid hcc;clear hw3 hgc hA hcc HB2 D2;have hmf:∀(fn:Fn) (first cap:Array Value) (w:World),(Instr.makeFunc fn first cap).run Tryz.prog w=.ok (.func fn first cap) w:=fun fn first cap w=>by simp[Instr.makeFunc,go_sem]
  have CA:=hid (zHZ x.fs x.fa x.fs.length x.fc w3 rfl ((HFS.out.below HB3.out).more HB3.out.size) hfl 255 #[.pointer (some ⟨gc,0,none⟩)] (enters_of Tryz.func255 (by kernel_rfl) rfl) (fun z=>!decide (z<cn))
    (fun W z hz hb=>zHX gc z cn (HFR.out z hz) HCR.out W (kP hb HCC.out)))
  obtain⟨r,hr⟩:∃r,x.fs.any (fun z=>!decide (z<cn))=r:=⟨_,rfl⟩;rw[hr] at CA HV;clear hr
  go_wp2_with fail
  refine CA.out.mono ?_;rintro e4 w4 ⟨rfl,hb4⟩;have HB4:=hid (HB3.out.trans (hb4.mono HB3.out.size));clear CA hb4 HB3 d1 hmf
  cases r
  all_goals
   go_wp2;go_ret;exact⟨zH (by rw[HV.out];rfl),HB4.out⟩
 ·have HV:=hid (show kE m x=q by rw[HE.out,if_neg h0,if_pos h3])
  have h3b:(q==0)=false:=by simpa using h3
  clear HE h0 CC HX D1
  go_enter Tryz.func194,Tryz.ntmps194
  go_upto_region 1 with fail
  rw[←hW0];clear hW0
  go_wp2_with fail
  refine C.out.mono ?_;rintro e1 w1 ⟨rfl,hb1⟩;have HB1:=hid (HB.out.trans (hb1.mono HB.out.size));clear C hb1 HB;go_wp2;go_ret;exact⟨zH HV.out.symm,HB1.out⟩
end Val
namespace Val
open Go.RowKit Go.Shelf Instr Mod
structure Rg (m:Md):Prop where
 ei:∀e∈m.ex,0≤e.i∧e.i<4294967296
 ef:∀e∈m.el,∀z∈e.fs,0≤z∧z<4294967296
 sn:0≤m.sn∧m.sn<4294967296
structure Sx (gm gn bm:Nat) (m:Md) (W:World):Prop where
 bx:zB W gm m.v
 nm:W.cell? ⟨gn,0,none⟩=some (.map (some bm))
 na:uX W bm m.ex
 md:zN W.heap.size W m
 nt:kC W
 ar:Num.ZX W
theorem Sx.on {gm gn bm:Nat} {m:Md} {W W':World} (h:Sx gm gn bm m W) (hb:Below W.heap.size W W'):Sx gm gn bm m W':=⟨h.bx.keep hb,kP hb h.nm,h.na.below hb,h.md.on hb,h.nt.below hb,h.ar.below hb⟩
def Jj (m:Md) (k:Nat):Imp:=m.im.getD k ⟨⟨#[]⟩,⟨#[]⟩,0⟩
def yL (m:Md) (k:Nat):Mod.Fn:=m.fu.getD k ⟨0,0,⟨none,0,.nil⟩⟩
def uA (m:Md) (k:Nat):Gl:=m.gl.getD k ⟨false,⟨none,0,.nil⟩⟩
def Yn (m:Md) (k:Nat):El:=m.el.getD k ⟨⟨none,0,.nil⟩,none,0,[]⟩
def k7 (m:Md) (k:Nat):Da:=m.da.getD k ⟨⟨none,0,.nil⟩,none,0,[]⟩
def zz (m:Md) (j k:Nat):Int×Int :=
 match j with
 | 0=>(qI m (Jj m k).ty,0)
 | 1=>(qI m (yL m k).ty,0)
 | 2=>((zy (uA m k).l.t).2,0)
 | 3=>(jV m k,0)
 | 4=>(jd m,0)
 | 5=>(kE m (Yn m k),0)
 | 6=>Md.bodyP m k
 | _=>(qj m (k7 m k).l.t,0)
def yV (m:Md) (j:Nat):Nat :=
 match j with
 | 0=>m.im.length
 | 1=>m.fu.length
 | 2=>m.gl.length
 | 3=>m.ex.length
 | 4=>if m.st then 1 else 0
 | 5=>m.el.length
 | 6=>m.fu.length
 | _=>m.da.length
def zHA (j:Nat):Int :=
 match j with
 | 0=>2
 | 1=>3
 | 2=>6
 | 3=>7
 | 4=>8
 | 5=>9
 | 6=>10
 | _=>11
theorem JH {w w1 w2:World} {p0 p1 p2 p3 p4 p5 p6 p7 p8 p9 p10 p11:Addr} {v0 v1 v2 v3 v4 v5 v6 v7 v8 v9 v10 v11:Value} (h:Below w.heap.size w w1∧w1.cell? p0=some v0∧w1.cell? p1=some v1∧w1.cell? p2=some v2∧w1.cell? p3=some v3∧w1.cell? p4=some v4∧w1.cell? p5=some v5∧w1.cell? p6=some v6∧w1.cell? p7=some v7∧w1.cell? p8=some v8∧w1.cell? p9=some v9∧w1.cell? p10=some v10∧w1.cell? p11=some v11) (hb:Below w1.heap.size w1 w2) :
  Below w.heap.size w w2∧w2.cell? p0=some v0∧w2.cell? p1=some v1∧w2.cell? p2=some v2∧w2.cell? p3=some v3∧w2.cell? p4=some v4∧w2.cell? p5=some v5∧w2.cell? p6=some v6∧w2.cell? p7=some v7∧w2.cell? p8=some v8∧w2.cell? p9=some v9∧w2.cell? p10=some v10∧w2.cell? p11=some v11 :=
 ⟨zM h.1 hb,kP hb h.2.1,kP hb h.2.2.1,kP hb h.2.2.2.1,kP hb h.2.2.2.2.1,kP hb h.2.2.2.2.2.1,kP hb h.2.2.2.2.2.2.1,kP hb h.2.2.2.2.2.2.2.1,kP hb h.2.2.2.2.2.2.2.2.1,kP hb h.2.2.2.2.2.2.2.2.2.1,kP hb h.2.2.2.2.2.2.2.2.2.2.1,kP hb h.2.2.2.2.2.2.2.2.2.2.2.1,kP hb h.2.2.2.2.2.2.2.2.2.2.2.2⟩
theorem zJC (gm gn bm:Nat) (m:Md) (k:Nat) (W:World) (h:Sx gm gn bm m W) (hf:m.few) (hfi:ky m) (hrg:Rg m) (hk:k<yV m 0) :
  Calls Tryz.prog 184 #[.int .i64 k,.pointer (some ⟨gm,0,none⟩)] W fun e w'=>e=.returned (.tuple #[.int .i64 (zz m 0 k).1,.int .i64 (zz m 0 k).2])∧Below W.heap.size W w':=by
 change k<m.im.length at hk
 have HE:Hid (zz m 0 k=(qI m (Jj m k).ty,0)):=rfl;have hgd:Jj m k=m.im[k]:=by unfold Jj;simp[hk]
 rw[hgd] at HE;have hmem:=List.getElem_mem hk;obtain⟨b,off,ha,hb,hcc⟩:=Mod.Rows.get h.md.im hk;have C:=hid (fun w' (hb':Below W.heap.size W w')=>JJ m (m.im[k].ty) hf.fit w');obtain⟨x,hx⟩:∃x,m.im[k]=x:=⟨_,rfl⟩;rw[hx] at HE hcc C;have c2:W.cell? ⟨b,off+k*3+2,none⟩=some (.int .i64 x.ty):=hcc 2 (by omega) _ rfl;obtain⟨v0,v2,v3,v4,v5,v6,v7,v8,v9,v10,hv⟩:∃v0 v2 v3 v4 v5 v6 v7 v8 v9 v10,m.v=#[v0,.slice m.im'.a m.im.length m.im'.c,v2,v3,v4,v5,v6,v7,v8,v9,v10]:=⟨_,_,_,_,_,_,_,_,_,_,rfl⟩;have hbx:=h.bx;rw[hv,ha] at C hbx;obtain⟨n0,n1,n2,n3,n4,n5,n6,n7,n8,n9,n10⟩:=zB.mod hbx;have hki:(k:Int)<(m.im.length:Int):=by omega
 have bl:=hf.fit.im;clear h hf hfi hrg hk hgd hmem hcc hx hbx hv
 generalize m.im.length=E at *
 obtain⟨q,hq⟩:∃q,zz m 0 k=q:=⟨_,rfl⟩;rw[hq] at HE ⊢;have HQ:=HE;clear hq HE
 go_enter Tryz.func184,Tryz.ntmps184
 go_upto_region 1 with fail
 have hS0:Below W.heap.size W W.drew∧W.drew.cell? ⟨gm,0,none⟩=some v0∧W.drew.cell? ⟨gm,1,none⟩=some (.slice (some ⟨b,off,none⟩) E m.im'.c)∧W.drew.cell? ⟨gm,2,none⟩=some v2∧W.drew.cell? ⟨gm,3,none⟩=some v3∧W.drew.cell? ⟨gm,4,none⟩=some v4∧W.drew.cell? ⟨gm,5,none⟩=some v5∧W.drew.cell? ⟨gm,6,none⟩=some v6∧W.drew.cell? ⟨gm,7,none⟩=some v7∧W.drew.cell? ⟨gm,8,none⟩=some v8∧W.drew.cell? ⟨gm,9,none⟩=some v9∧W.drew.cell? ⟨gm,10,none⟩=some v10∧W.drew.cell? ⟨b,off+k*3+2,none⟩=some (.int .i64 x.ty):=⟨(Below.refl _ _).drew,n0,n1,n2,n3,n4,n5,n6,n7,n8,n9,n10,c2⟩;clear c2 n0 n1 n2 n3 n4 n5 n6 n7 n8 n9 n10
 go_region_held3 (fun w'=>Below W.heap.size W w'∧w'.cell? ⟨gm,0,none⟩=some v0∧w'.cell? ⟨gm,1,none⟩=some (.slice (some ⟨b,off,none⟩) E m.im'.c)∧w'.cell? ⟨gm,2,none⟩=some v2∧w'.cell? ⟨gm,3,none⟩=some v3∧w'.cell? ⟨gm,4,none⟩=some v4∧w'.cell? ⟨gm,5,none⟩=some v5∧w'.cell? ⟨gm,6,none⟩=some v6∧w'.cell? ⟨gm,7,none⟩=some v7∧w'.cell? ⟨gm,8,none⟩=some v8∧w'.cell? ⟨gm,9,none⟩=some v9∧w'.cell? ⟨gm,10,none⟩=some v10∧w'.cell? ⟨b,off+k*3+2,none⟩=some (.int .i64 x.ty)) (first|assumption|exact JH (by assumption) (by assumption))
  (first
    | (go_at_call 185;refine (C.out _ (Below.refl _ _).drew).mono ?_;rintro e1 w2 ⟨rfl,hb2⟩))
 have hB2:Below W.heap.size W w2:=Stk.ZG hb2;have HB2:=hid hB2;clear hB2 hb2 hS0;go_wp2;go_ret2;refine⟨?_,HB2.out⟩;rw[HQ.out];rfl
theorem zIH (gm gn bm:Nat) (m:Md) (k:Nat) (W:World) (h:Sx gm gn bm m W) (hf:m.few) (hfi:ky m) (hrg:Rg m) (hk:k<yV m 1) :
  Calls Tryz.prog 186 #[.int .i64 k,.pointer (some ⟨gm,0,none⟩)] W fun e w'=>e=.returned (.tuple #[.int .i64 (zz m 1 k).1,.int .i64 (zz m 1 k).2])∧Below W.heap.size W w':=by
 change k<m.fu.length at hk
 have HE:Hid (zz m 1 k=(qI m (yL m k).ty,0)):=rfl;have hgd:yL m k=m.fu[k]:=by unfold yL;simp[hk]
 rw[hgd] at HE;have hmem:=List.getElem_mem hk;obtain⟨b,off,ha,hb,hcc⟩:=Mod.Rows.get h.md.fu hk;have C:=hid (fun w' (hb':Below W.heap.size W w')=>JJ m (m.fu[k].ty) hf.fit w');obtain⟨x,hx⟩:∃x,m.fu[k]=x:=⟨_,rfl⟩;rw[hx] at HE hcc C;have c0:W.cell? ⟨b,off+k*3,none⟩=some (.int .i64 x.ty):=hcc 0 (by omega) _ rfl;obtain⟨v0,v1,v3,v4,v5,v6,v7,v8,v9,v10,hv⟩:∃v0 v1 v3 v4 v5 v6 v7 v8 v9 v10,m.v=#[v0,v1,.slice m.fu'.a m.fu.length m.fu'.c,v3,v4,v5,v6,v7,v8,v9,v10]:=⟨_,_,_,_,_,_,_,_,_,_,rfl⟩;have hbx:=h.bx;rw[hv,ha] at C hbx;obtain⟨n0,n1,n2,n3,n4,n5,n6,n7,n8,n9,n10⟩:=zB.mod hbx;have hki:(k:Int)<(m.fu.length:Int):=by omega
 have bl:=hf.fit.fu;clear h hf hfi hrg hk hgd hmem hcc hx hbx hv
 generalize m.fu.length=E at *
 obtain⟨q,hq⟩:∃q,zz m 1 k=q:=⟨_,rfl⟩;rw[hq] at HE ⊢;have HQ:=HE;clear hq HE
 go_enter Tryz.func186,Tryz.ntmps186
 go_upto_region 1 with fail
 have hS0:Below W.heap.size W W.drew∧W.drew.cell? ⟨gm,0,none⟩=some v0∧W.drew.cell? ⟨gm,1,none⟩=some v1∧W.drew.cell? ⟨gm,2,none⟩=some (.slice (some ⟨b,off,none⟩) E m.fu'.c)∧W.drew.cell? ⟨gm,3,none⟩=some v3∧W.drew.cell? ⟨gm,4,none⟩=some v4∧W.drew.cell? ⟨gm,5,none⟩=some v5∧W.drew.cell? ⟨gm,6,none⟩=some v6∧W.drew.cell? ⟨gm,7,none⟩=some v7∧W.drew.cell? ⟨gm,8,none⟩=some v8∧W.drew.cell? ⟨gm,9,none⟩=some v9∧W.drew.cell? ⟨gm,10,none⟩=some v10∧W.drew.cell? ⟨b,off+k*3,none⟩=some (.int .i64 x.ty):=⟨(Below.refl _ _).drew,n0,n1,n2,n3,n4,n5,n6,n7,n8,n9,n10,c0⟩;clear c0 n0 n1 n2 n3 n4 n5 n6 n7 n8 n9 n10
 go_region_held3 (fun w'=>Below W.heap.size W w'∧w'.cell? ⟨gm,0,none⟩=some v0∧w'.cell? ⟨gm,1,none⟩=some v1∧w'.cell? ⟨gm,2,none⟩=some (.slice (some ⟨b,off,none⟩) E m.fu'.c)∧w'.cell? ⟨gm,3,none⟩=some v3∧w'.cell? ⟨gm,4,none⟩=some v4∧w'.cell? ⟨gm,5,none⟩=some v5∧w'.cell? ⟨gm,6,none⟩=some v6∧w'.cell? ⟨gm,7,none⟩=some v7∧w'.cell? ⟨gm,8,none⟩=some v8∧w'.cell? ⟨gm,9,none⟩=some v9∧w'.cell? ⟨gm,10,none⟩=some v10∧w'.cell? ⟨b,off+k*3,none⟩=some (.int .i64 x.ty)) (first|assumption|exact JH (by assumption) (by assumption))
  (first
    | (go_at_call 185;refine (C.out _ (Below.refl _ _).drew).mono ?_;rintro e1 w2 ⟨rfl,hb2⟩))
 have hB2:Below W.heap.size W w2:=Stk.ZG hb2;have HB2:=hid hB2;clear hB2 hb2 hS0;go_wp2;go_ret2;refine⟨?_,HB2.out⟩;rw[HQ.out];rfl
theorem zJJ (gm gn bm:Nat) (m:Md) (k:Nat) (W:World) (h:Sx gm gn bm m W) (hf:m.few) (hfi:ky m) (hrg:Rg m) (hk:k<yV m 2) :
  Calls Tryz.prog 187 #[.int .i64 k,.pointer (some ⟨gm,0,none⟩)] W fun e w'=>e=.returned (.tuple #[.int .i64 (zz m 2 k).1,.int .i64 (zz m 2 k).2])∧Below W.heap.size W w':=by
 change k<m.gl.length at hk
 have HE:Hid (zz m 2 k=((zy (uA m k).l.t).2,0)):=rfl;have hgd:uA m k=m.gl[k]:=by unfold uA;simp[hk]
 rw[hgd] at HE;have hmem:m.gl[k].l∈m.codes:=by unfold Md.codes;exact List.mem_append_right _ (List.mem_append_left _ (List.mem_map.2 ⟨_,List.getElem_mem hk,rfl⟩))
 obtain⟨b,off,ha,hb,hcc⟩:=Mod.Rows.get h.md.gl hk;have C:=hid (uT m.gl[k].l.t m.gl[k].l.a m.gl[k].l.t.len m.gl[k].l.c W (h.md.ls _ hmem) (hf.fit.ls _ hmem) (by have:=hf.cs _ hmem;omega) h.nt);obtain⟨x,hx⟩:∃x,m.gl[k]=x:=⟨_,rfl⟩;rw[hx] at HE hcc C;have c1:W.cell? ⟨b,off+k*2+1,none⟩=some (.slice x.l.a x.l.t.len x.l.c):=hcc 1 (by omega) _ rfl;have n5:W.cell? ⟨gm,5,none⟩=some (.slice m.gl'.a m.gl.length m.gl'.c):=h.bx 5 _ rfl;rw[ha] at n5;have hki:(k:Int)<(m.gl.length:Int):=by omega
 have bl:=hf.fit.gl;clear h hf hfi hrg hk hgd hmem hcc hx
 generalize m.gl.length=E at *
 obtain⟨q,hq⟩:∃q,zz m 2 k=q:=⟨_,rfl⟩;rw[hq] at HE ⊢;clear hq
 go_enter Tryz.func187,Tryz.ntmps187
 go_wp2_with fail
 refine C.out.mono ?_;rintro e1 w2 ⟨rfl,hb2⟩;have HB2:=hid hb2;clear C hb2 c1 n5;go_wp2;go_ret2;refine⟨?_,HB2.out⟩;rw[HE.out];rfl
theorem zIJ (gm gn bm:Nat) (m:Md) (k:Nat) (W:World) (h:Sx gm gn bm m W) (hf:m.few) (hfi:ky m) (hrg:Rg m) (hk:k<yV m 3) :
  Calls Tryz.prog 189 #[.int .i64 k,.pointer (some ⟨gm,0,none⟩),.pointer (some ⟨gn,0,none⟩)] W fun e w'=>e=.returned (.tuple #[.int .i64 (zz m 3 k).1,.int .i64 (zz m 3 k).2])∧Below W.heap.size W w':=by
 change k<m.ex.length at hk
 have HE:Hid (zz m 3 k=(jV m k,0)):=rfl;have C:=hid (zAR m k bm W h.md hf.fit hfi.im hfi.fu hk h.na hrg.ei);obtain⟨v0,v1,v2,v3,v4,v5,v6,v7,v8,v9,v10,hv⟩:∃v0 v1 v2 v3 v4 v5 v6 v7 v8 v9 v10,m.v=#[v0,v1,v2,v3,v4,v5,v6,v7,v8,v9,v10]:=⟨_,_,_,_,_,_,_,_,_,_,_,rfl⟩;have hbx:=h.bx;have hnm:=h.nm;rw[hv] at C hbx;obtain⟨n0,n1,n2,n3,n4,n5,n6,n7,n8,n9,n10⟩:=zB.mod hbx;clear h hf hfi hrg hk hbx hv;obtain⟨q,hq⟩:∃q,zz m 3 k=q:=⟨_,rfl⟩;rw[hq] at HE ⊢;clear hq
 go_enter Tryz.func189,Tryz.ntmps189
 go_wp2_with fail
 refine C.out.mono ?_;rintro e1 w2 ⟨rfl,hb2⟩;have HB2:=hid hb2;clear C hb2 n0 n1 n2 n3 n4 n5 n6 n7 n8 n9 n10 hnm;go_wp2;go_ret2;refine⟨?_,HB2.out⟩;rw[HE.out];rfl
theorem zJL (gm gn bm:Nat) (m:Md) (k:Nat) (W:World) (h:Sx gm gn bm m W) (hf:m.few) (hfi:ky m) (hrg:Rg m) (hk:k<yV m 4) :
  Calls Tryz.prog 191 #[.int .i64 k,.pointer (some ⟨gm,0,none⟩)] W fun e w'=>e=.returned (.tuple #[.int .i64 (zz m 4 k).1,.int .i64 (zz m 4 k).2])∧Below W.heap.size W w':=by
 have HE:Hid (zz m 4 k=(jd m,0)):=rfl;have C:=hid (zBf m W h.md hf.fit hrg.sn);obtain⟨v0,v1,v2,v3,v4,v5,v6,v7,v8,v9,v10,hv⟩:∃v0 v1 v2 v3 v4 v5 v6 v7 v8 v9 v10,m.v=#[v0,v1,v2,v3,v4,v5,v6,v7,v8,v9,v10]:=⟨_,_,_,_,_,_,_,_,_,_,_,rfl⟩;have hbx:=h.bx;rw[hv] at C hbx;obtain⟨n0,n1,n2,n3,n4,n5,n6,n7,n8,n9,n10⟩:=zB.mod hbx;clear h hf hfi hrg hk hbx hv;obtain⟨q,hq⟩:∃q,zz m 4 k=q:=⟨_,rfl⟩;rw[hq] at HE ⊢;clear hq
 go_enter Tryz.func191,Tryz.ntmps191
 go_wp2_with fail
 refine C.out.mono ?_;rintro e1 w2 ⟨rfl,hb2⟩;have HB2:=hid hb2;clear C hb2 n0 n1 n2 n3 n4 n5 n6 n7 n8 n9 n10;go_wp2;go_ret2;refine⟨?_,HB2.out⟩;rw[HE.out];rfl
theorem zIf (gm gn bm:Nat) (m:Md) (k:Nat) (W:World) (h:Sx gm gn bm m W) (hf:m.few) (hfi:ky m) (hrg:Rg m) (hk:k<yV m 5) :
  Calls Tryz.prog 193 #[.int .i64 k,.pointer (some ⟨gm,0,none⟩)] W fun e w'=>e=.returned (.tuple #[.int .i64 (zz m 5 k).1,.int .i64 (zz m 5 k).2])∧Below W.heap.size W w':=by
 change k<m.el.length at hk
 have HE:Hid (zz m 5 k=(kE m (Yn m k),0)):=rfl;have hgd:Yn m k=m.el[k]:=by unfold Yn;simp[hk]
 rw[hgd] at HE;have hmem:=List.getElem_mem hk;obtain⟨b,off,ha,hb,hcc⟩:=Mod.Rows.get h.md.el hk;have hlm:m.el[k].l∈m.codes:=by unfold Md.codes;exact List.mem_append_right _ (List.mem_append_right _ (List.mem_append_left _ (List.mem_map.2 ⟨_,hmem,rfl⟩)))
 have C:=hid (fun w' (hb':Below W.heap.size W w')=>zCP m m.el[k] w' hf.fit hfi.im hfi.fu ((h.md.on hb').ls _ hlm) (hf.fit.ls _ hlm) (by have:=hf.cs _ hlm;omega) (h.nt.below hb') ((h.md.on hb').fs _ hmem) (hf.fit.fs _ hmem) (hrg.ef _ hmem));clear hlm;obtain⟨x,hx⟩:∃x,m.el[k]=x:=⟨_,rfl⟩;rw[hx] at HE hcc C;have c0:W.cell? ⟨b,off+k*2,none⟩=some (.slice x.l.a x.l.t.len x.l.c):=hcc 0 (by omega) _ rfl;have c1:W.cell? ⟨b,off+k*2+1,none⟩=some (.slice x.fa x.fs.length x.fc):=hcc 1 (by omega) _ rfl;obtain⟨v0,v1,v2,v3,v4,v5,v6,v7,v8,v10,hv⟩:∃v0 v1 v2 v3 v4 v5 v6 v7 v8 v10,m.v=#[v0,v1,v2,v3,v4,v5,v6,v7,v8,.slice m.el'.a m.el.length m.el'.c,v10]:=⟨_,_,_,_,_,_,_,_,_,_,rfl⟩;have hbx:=h.bx;rw[hv,ha] at C hbx;obtain⟨n0,n1,n2,n3,n4,n5,n6,n7,n8,n9,n10⟩:=zB.mod hbx;have hki:(k:Int)<(m.el.length:Int):=by omega
 have bl:=hf.fit.el;clear h hf hfi hrg hk hgd hmem hcc hx hbx hv
 generalize m.el.length=E at *
 obtain⟨q,hq⟩:∃q,zz m 5 k=q:=⟨_,rfl⟩;rw[hq] at HE ⊢;have HQ:=HE;clear hq HE
 go_enter Tryz.func193,Tryz.ntmps193
 go_upto_region 1 with fail
 have hS0:Below W.heap.size W W.drew∧W.drew.cell? ⟨gm,0,none⟩=some v0∧W.drew.cell? ⟨gm,1,none⟩=some v1∧W.drew.cell? ⟨gm,2,none⟩=some v2∧W.drew.cell? ⟨gm,3,none⟩=some v3∧W.drew.cell? ⟨gm,4,none⟩=some v4∧W.drew.cell? ⟨gm,5,none⟩=some v5∧W.drew.cell? ⟨gm,6,none⟩=some v6∧W.drew.cell? ⟨gm,7,none⟩=some v7∧W.drew.cell? ⟨gm,8,none⟩=some v8∧W.drew.cell? ⟨gm,9,none⟩=some (.slice (some ⟨b,off,none⟩) E m.el'.c)∧W.drew.cell? ⟨gm,10,none⟩=some v10∧W.drew.cell? ⟨b,off+k*2,none⟩=some (.slice x.l.a x.l.t.len x.l.c)∧W.drew.cell? ⟨b,off+k*2+1,none⟩=some (.slice x.fa x.fs.length x.fc):=⟨(Below.refl _ _).drew,n0,n1,n2,n3,n4,n5,n6,n7,n8,n9,n10,c0,c1⟩;clear c0 c1 n0 n1 n2 n3 n4 n5 n6 n7 n8 n9 n10
 go_region_held3 (fun w'=>Below W.heap.size W w'∧w'.cell? ⟨gm,0,none⟩=some v0∧w'.cell? ⟨gm,1,none⟩=some v1∧w'.cell? ⟨gm,2,none⟩=some v2∧w'.cell? ⟨gm,3,none⟩=some v3∧w'.cell? ⟨gm,4,none⟩=some v4∧w'.cell? ⟨gm,5,none⟩=some v5∧w'.cell? ⟨gm,6,none⟩=some v6∧w'.cell? ⟨gm,7,none⟩=some v7∧w'.cell? ⟨gm,8,none⟩=some v8∧w'.cell? ⟨gm,9,none⟩=some (.slice (some ⟨b,off,none⟩) E m.el'.c)∧w'.cell? ⟨gm,10,none⟩=some v10∧w'.cell? ⟨b,off+k*2,none⟩=some (.slice x.l.a x.l.t.len x.l.c)∧w'.cell? ⟨b,off+k*2+1,none⟩=some (.slice x.fa x.fs.length x.fc)) (first|assumption|exact qy (by assumption) (by assumption))
  (first
    | (go_at_call 194;refine (C.out _ (Below.refl _ _).drew).mono ?_;rintro e1 w2 ⟨rfl,hb2⟩))
 have hB2:Below W.heap.size W w2:=Stk.ZG hb2;have HB2:=hid hB2;clear hB2 hb2 hS0;go_wp2;go_ret2;refine⟨?_,HB2.out⟩;rw[HQ.out];rfl
theorem zIm (gm gn bm:Nat) (m:Md) (k:Nat) (W:World) (h:Sx gm gn bm m W) (hf:m.few) (hfi:ky m) (hrg:Rg m) (hk:k<yV m 6) :
  Calls Tryz.prog 195 #[.int .i64 k,.pointer (some ⟨gm,0,none⟩)] W fun e w'=>e=.returned (.tuple #[.int .i64 (zz m 6 k).1,.int .i64 (zz m 6 k).2])∧Below W.heap.size W w':=by
 change k<m.fu.length at hk
 have HE:Hid (zz m 6 k=((Md.bodyP m k).1,(Md.bodyP m k).2)):=rfl;have C:=hid (Yz m k W h.md h.ar hf hfi hk);unfold zEJ at C;obtain⟨v0,v1,v2,v3,v4,v5,v6,v7,v8,v9,v10,hv⟩:∃v0 v1 v2 v3 v4 v5 v6 v7 v8 v9 v10,m.v=#[v0,v1,v2,v3,v4,v5,v6,v7,v8,v9,v10]:=⟨_,_,_,_,_,_,_,_,_,_,_,rfl⟩;have hbx:=h.bx;rw[hv] at C hbx;obtain⟨n0,n1,n2,n3,n4,n5,n6,n7,n8,n9,n10⟩:=zB.mod hbx;clear h hf hfi hrg hk hbx hv;obtain⟨q,hq⟩:∃q,zz m 6 k=q:=⟨_,rfl⟩;rw[hq] at HE ⊢;clear hq
 go_enter Tryz.func195,Tryz.ntmps195
 go_wp2_with fail
 refine C.out.mono ?_;rintro e1 w2 ⟨rfl,hb2⟩;have HB2:=hid hb2;clear C hb2 n0 n1 n2 n3 n4 n5 n6 n7 n8 n9 n10;go_wp2;go_ret2;refine⟨?_,HB2.out⟩;rw[HE.out];rfl
theorem zI1 (gm gn bm:Nat) (m:Md) (k:Nat) (W:World) (h:Sx gm gn bm m W) (hf:m.few) (hfi:ky m) (hrg:Rg m) (hk:k<yV m 7) :
  Calls Tryz.prog 196 #[.int .i64 k,.pointer (some ⟨gm,0,none⟩)] W fun e w'=>e=.returned (.tuple #[.int .i64 (zz m 7 k).1,.int .i64 (zz m 7 k).2])∧Below W.heap.size W w':=by
 change k<m.da.length at hk
 have HE:Hid (zz m 7 k=(qj m (k7 m k).l.t,0)):=rfl;have hgd:k7 m k=m.da[k]:=by unfold k7;simp[hk]
 rw[hgd] at HE;have hmem:=List.getElem_mem hk;obtain⟨b,off,ha,hb,hcc⟩:=Mod.Rows.get h.md.da hk;have hlm:m.da[k].l∈m.codes:=by unfold Md.codes;exact List.mem_append_right _ (List.mem_append_right _ (List.mem_append_right _ (List.mem_map.2 ⟨_,hmem,rfl⟩)))
 have C:=hid (fun w' (hb':Below W.heap.size W w')=>zCb m m.da[k] w' hf.fit ((h.md.on hb').ls _ hlm) (hf.fit.ls _ hlm) (by have:=hf.cs _ hlm;omega) (h.nt.below hb'));clear hlm;obtain⟨x,hx⟩:∃x,m.da[k]=x:=⟨_,rfl⟩;rw[hx] at HE hcc C;have c0:W.cell? ⟨b,off+k*2,none⟩=some (.slice x.l.a x.l.t.len x.l.c):=hcc 0 (by omega) _ rfl;have c1:W.cell? ⟨b,off+k*2+1,none⟩=some (.slice x.ba x.bs.length x.bc):=hcc 1 (by omega) _ rfl;obtain⟨v0,v1,v2,v3,v4,v5,v6,v7,v8,v9,hv⟩:∃v0 v1 v2 v3 v4 v5 v6 v7 v8 v9,m.v=#[v0,v1,v2,v3,v4,v5,v6,v7,v8,v9,.slice m.da'.a m.da.length m.da'.c]:=⟨_,_,_,_,_,_,_,_,_,_,rfl⟩;have hbx:=h.bx;rw[hv,ha] at C hbx;obtain⟨n0,n1,n2,n3,n4,n5,n6,n7,n8,n9,n10⟩:=zB.mod hbx;have hki:(k:Int)<(m.da.length:Int):=by omega
 have bl:=hf.fit.da;clear h hf hfi hrg hk hgd hmem hcc hx hbx hv
 generalize m.da.length=E at *
 obtain⟨q,hq⟩:∃q,zz m 7 k=q:=⟨_,rfl⟩;rw[hq] at HE ⊢;have HQ:=HE;clear hq HE
 go_enter Tryz.func196,Tryz.ntmps196
 go_upto_region 1 with fail
 have hS0:Below W.heap.size W W.drew∧W.drew.cell? ⟨gm,0,none⟩=some v0∧W.drew.cell? ⟨gm,1,none⟩=some v1∧W.drew.cell? ⟨gm,2,none⟩=some v2∧W.drew.cell? ⟨gm,3,none⟩=some v3∧W.drew.cell? ⟨gm,4,none⟩=some v4∧W.drew.cell? ⟨gm,5,none⟩=some v5∧W.drew.cell? ⟨gm,6,none⟩=some v6∧W.drew.cell? ⟨gm,7,none⟩=some v7∧W.drew.cell? ⟨gm,8,none⟩=some v8∧W.drew.cell? ⟨gm,9,none⟩=some v9∧W.drew.cell? ⟨gm,10,none⟩=some (.slice (some ⟨b,off,none⟩) E m.da'.c)∧W.drew.cell? ⟨b,off+k*2,none⟩=some (.slice x.l.a x.l.t.len x.l.c)∧W.drew.cell? ⟨b,off+k*2+1,none⟩=some (.slice x.ba x.bs.length x.bc):=⟨(Below.refl _ _).drew,n0,n1,n2,n3,n4,n5,n6,n7,n8,n9,n10,c0,c1⟩;clear c0 c1 n0 n1 n2 n3 n4 n5 n6 n7 n8 n9 n10
 go_region_held3 (fun w'=>Below W.heap.size W w'∧w'.cell? ⟨gm,0,none⟩=some v0∧w'.cell? ⟨gm,1,none⟩=some v1∧w'.cell? ⟨gm,2,none⟩=some v2∧w'.cell? ⟨gm,3,none⟩=some v3∧w'.cell? ⟨gm,4,none⟩=some v4∧w'.cell? ⟨gm,5,none⟩=some v5∧w'.cell? ⟨gm,6,none⟩=some v6∧w'.cell? ⟨gm,7,none⟩=some v7∧w'.cell? ⟨gm,8,none⟩=some v8∧w'.cell? ⟨gm,9,none⟩=some v9∧w'.cell? ⟨gm,10,none⟩=some (.slice (some ⟨b,off,none⟩) E m.da'.c)∧w'.cell? ⟨b,off+k*2,none⟩=some (.slice x.l.a x.l.t.len x.l.c)∧w'.cell? ⟨b,off+k*2+1,none⟩=some (.slice x.ba x.bs.length x.bc)) (first|assumption|exact qy (by assumption) (by assumption))
  (first
    | (go_at_call 197;refine (C.out _ (Below.refl _ _).drew).mono ?_;rintro e1 w2 ⟨rfl,hb2⟩))
 have hB2:Below W.heap.size W w2:=Stk.ZG hb2;have HB2:=hid hB2;clear hB2 hb2 hS0;go_wp2;go_ret2;refine⟨?_,HB2.out⟩;rw[HQ.out];rfl
def zGx (j:Nat):Nat:=[184,186,187,189,191,193,195,196].getD j 0
def zJK (gm gn j:Nat):Array Value:=if j=3 then #[.pointer (some ⟨gm,0,none⟩),.pointer (some ⟨gn,0,none⟩)] else #[.pointer (some ⟨gm,0,none⟩)]
def Zu (gs gm gn:Nat) (m:Md) (W:World):Prop:=∀j,j<8→W.cell? ⟨gs,j*3,none⟩=some (.int .i64 (zHA j))∧W.cell? ⟨gs,j*3+1,none⟩=some (.int .i64 (yV m j))∧W.cell? ⟨gs,j*3+2,none⟩=some (.func (.func (zGx j)) #[] (zJK gm gn j))
theorem Zu.on {gs gm gn:Nat} {m:Md} {W W':World} (h:Zu gs gm gn m W) (hb:Below W.heap.size W W'):Zu gs gm gn m W':=fun j hj=>⟨kP hb (h j hj).1,kP hb (h j hj).2.1,kP hb (h j hj).2.2⟩
theorem zH3 {gs gm gn:Nat} {m:Md} {W:World} {ty:TypeId} {s:Int} (hs:s=(yV m 4:Int)) (h:W.heap[gs]?=some (.cells #[.int .i64 2,.int .i64 m.im.length,.func (.func 184) #[] #[.pointer (some ⟨gm,0,none⟩)],.int .i64 3,.int .i64 m.fu.length,.func (.func 186) #[] #[.pointer (some ⟨gm,0,none⟩)],.int .i64 6,.int .i64 m.gl.length,.func (.func 187) #[] #[.pointer (some ⟨gm,0,none⟩)],.int .i64 7,.int .i64 m.ex.length,.func (.func 189) #[] #[.pointer (some ⟨gm,0,none⟩),.pointer (some ⟨gn,0,none⟩)],.int .i64 8,.int .i64 s,.func (.func 191) #[] #[.pointer (some ⟨gm,0,none⟩)],.int .i64 9,.int .i64 m.el.length,.func (.func 193) #[] #[.pointer (some ⟨gm,0,none⟩)],.int .i64 10,.int .i64 m.fu.length,.func (.func 195) #[] #[.pointer (some ⟨gm,0,none⟩)],.int .i64 11,.int .i64 m.da.length,.func (.func 196) #[] #[.pointer (some ⟨gm,0,none⟩)]] ty (0,0))):Zu gs gm gn m W:=by
 subst hs;intro j hj;have c:∀i,W.cell? ⟨gs,i,none⟩=_:=fun i=>cell_of_row W gs i _ _ _ h
 match j,hj with
 | 0,_=>exact⟨c 0,c 1,c 2⟩
 | 1,_=>exact⟨c 3,c 4,c 5⟩
 | 2,_=>exact⟨c 6,c 7,c 8⟩
 | 3,_=>exact⟨c 9,c 10,c 11⟩
 | 4,_=>exact⟨c 12,c 13,c 14⟩
 | 5,_=>exact⟨c 15,c 16,c 17⟩
 | 6,_=>exact⟨c 18,c 19,c 20⟩
 | 7,_=>exact⟨c 21,c 22,c 23⟩
 | j+8,hj=>omega
def zFe (m:Md) (w:World) (e:Ending) (w':World):Prop:=∃gs gm gn bm,e=.returned (.slice (some ⟨gs,0,none⟩) 8 8)∧Zu gs gm gn m w'∧Sx gm gn bm m w'∧Below w.heap.size w w'
theorem zD3 (m:Md) (w:World) (hm:zN w.heap.size w m) (hf:m.few) (hT:kC w) (hA:Num.ZX w) :
  Calls Tryz.prog 97 #[.agg m.v] w (zFe m w):=by
 have hmf:∀(fn:Go.Fn) (first cap:Array Value) (w:World),(Instr.makeFunc fn first cap).run Tryz.prog w=.ok (.func fn first cap) w:=fun fn first cap w=>by simp[Instr.makeFunc,go_sem]
 obtain⟨W0,hW0⟩:∃W0,W0=w.alloc (.cells m.v 40):=⟨_,rfl⟩;have hb0:Below w.heap.size w W0:=by rw[hW0];exact zC (Below.refl _ _) _
 have hbx:zB W0 w.heap.size m.v:=by rw[hW0];exact zB.made w m.v _
 have HX:=hid hbx;have HB:=hid hb0;have HM:=hid (hm.on hb0);have HT:=hid (hT.below hb0);have HAR:=hid (hA.below hb0);have C:=hid (zBu m.ex m.ex'.a m.ex.length m.ex'.c W0 rfl hf.fit.ex (hm.on hb0).ex (fun e he=>hf.fit.eS e he));have n6:W0.cell? ⟨w.heap.size,6,none⟩=some (.slice m.ex'.a m.ex.length m.ex'.c):=hbx 6 _ rfl;unfold Md.v at hW0 HX ⊢;clear hm hf hT hA hb0 hbx
 go_enter Tryz.func97,Tryz.ntmps97
 go_upto_region 1 with fail
 rw[←hW0];clear hW0
 go_wp2_with fail
 refine C.out.mono ?_;rintro e1 w1 ⟨bm,rfl,hn1,hb1⟩;have HN:=hid hn1;have HX1:=hid (HX.out.keep hb1);have HB1:=hid (HB.out.trans (hb1.mono HB.out.size));have HM1:=hid (HM.out.on hb1);have HT1:=hid (HT.out.below hb1);have HA1:=hid (HAR.out.below hb1);clear C hn1 hb1 n6 HX HB HM HT HAR
 go_upto_region 2 with fail
 have hA:Below w1.heap.size w1 (w1.alloc (.cells #[.map (some bm)] 263)):=(Below.refl _ _).alloc (Nat.le_refl _) _;have hg:(w1.alloc (.cells #[.map (some bm)] 263)).cell? ⟨w1.heap.size,0,none⟩=some (.map (some bm)):=by simp[go_sem]
 obtain⟨w2,hw2⟩:∃u,u=w1.alloc (.cells #[.map (some bm)] 263):=⟨_,rfl⟩;rw[←hw2] at hA hg ⊢;obtain⟨gn,hgn⟩:∃gn,gn=w1.heap.size:=⟨_,rfl⟩;rw[←hgn] at hg ⊢;have hSx:Sx w.heap.size gn bm m w2:=⟨by unfold Md.v;exact HX1.out.keep hA,hg,HN.out.below hA,HM1.out.on hA,HT1.out.below hA,HA1.out.below hA⟩;have HSX:=hid hSx;have HB2:=hid (HB1.out.trans (hA.mono HB1.out.size));have hX2:=HX1.out.keep hA;obtain⟨n0,n1,n2,n3,n4,n5,n6,n7,n8,n9,n10⟩:=zB.mod hX2;clear hw2 hgn hA hg hSx hX2 HN HX1 HB1 HM1 HT1 HA1;have HL:Hid (yV m 4=if m.st then 1 else 0):=rfl;obtain⟨st,hst⟩:∃b,m.st=b:=⟨_,rfl⟩;rw[hst] at n7 HL;clear hst
 cases st
 all_goals
  go_wp2;go_ret;refine⟨w2.heap.size,w.heap.size,gn,bm,rfl,zH3 (by rw[HL.out];rfl) (heap_alloc_new w2 _),HSX.out.on ((Below.refl _ _).alloc (Nat.le_refl _) _),zC HB2.out _⟩
end Val
namespace Mod
open Go.RowKit Instr
theorem flat_length {α:Type} {sz:Nat}:∀(rs:List (List α)) (_:∀r∈rs,r.length=sz),rs.flatten.length=rs.length*sz
 | [],_=>by simp
 | r::rs,h=>by
  rw[List.flatten_cons,List.length_append,h r (by simp),flat_length rs (fun x hx=>h x (by simp[hx])),List.length_cons,Nat.succ_mul];omega
theorem flat_get {α:Type} {sz:Nat}:∀(rs:List (List α)) (_:∀r∈rs,r.length=sz) (i j:Nat) (_:i<rs.length) (_:j<sz),rs.flatten[i*sz+j]?=(rs.getD i [])[j]?
 | [],_,i,_,hi,_=>by simp at hi
 | r::rs,h,0,j,_,hj=>by
  rw[List.flatten_cons,Nat.zero_mul,Nat.zero_add,List.getElem?_append_left (by rw[h r (by simp)];exact hj)];rfl
 | r::rs,h,i+1,j,hi,hj=>by
  have hr:=h r (by simp);have e:(i+1)*sz=i*sz+sz:=Nat.succ_mul i sz;rw[List.flatten_cons,List.getElem?_append_right (by rw[hr,e];omega),hr];have e2:(i+1)*sz+j-sz=i*sz+j:=by rw[e];omega
  rw[e2,flat_get rs (fun x hx=>h x (by simp[hx])) i j (by simpa using hi) hj];rfl
structure zR (e:TypeId) (sz base:Nat) (w:World) (v:Value) (rs:List (List Value)):Prop where
 row:w.ownsRow base e sz v rs.length rs.flatten
 len:∀r∈rs,r.length=sz
theorem zR.start (e:TypeId) (sz base:Nat) (w:World):zR e sz base w (.slice none 0 0) []:=⟨World.ownsRow_nil _ _ _ _,by simp⟩
theorem zR.made (e:TypeId) (sz:Nat) (w:World):zR e sz w.heap.size (w.alloc (.cells #[] e)) (.slice (some ⟨w.heap.size,0,none⟩) 0 0) []:=⟨World.ownsRow_made w #[] 0 (Nat.le_refl _) (by unfold maxLen;omega) (by simp),by simp⟩
theorem zR.below {e:TypeId} {sz base:Nat} {w w':World} {v:Value} {rs:List (List Value)} (h:zR e sz base w v rs) (hb:Below w.heap.size w w'):zR e sz base w' v rs:=by
 refine⟨⟨h.row.1,?_⟩,h.len⟩
 rcases h.row.2 with h0|⟨g,cap,cur,hv,hg,hh,rest⟩
 ·exact .inl h0
 ·exact .inr ⟨g,cap,cur,hv,hg,(hb.block g (Array.getElem?_eq_some_iff.1 hh).1).trans hh,rest⟩
theorem zR.mono {e:TypeId} {sz base base':Nat} {w:World} {v:Value} {rs:List (List Value)} (h:zR e sz base w v rs) (hb:base'≤base):zR e sz base' w v rs:=by
 refine⟨⟨h.row.1,?_⟩,h.len⟩
 rcases h.row.2 with h0|⟨g,cap,cur,hv,hg,rest⟩
 ·exact .inl h0
 ·exact .inr ⟨g,cap,cur,hv,Nat.le_trans hb hg,rest⟩
theorem zR.rows {e:TypeId} {sz base:Nat} {w:World} {v:Value} {rs:List (List Value)} (h:zR e sz base w v rs):∃a c,v=.slice a rs.length c∧Rows w.heap.size w a sz rs∧∀g,v.ownBlock=some g→base≤g:=by
 have hl:=World.ownsRow.lt h.row
 rcases h.row.2 with ⟨rfl,h0⟩|⟨g,cap,cur,rfl,hg,hh,h2,h3,h4,h5⟩
 ·exact⟨none,0,by rw[h0],.inl (List.eq_nil_of_length_eq_zero h0),fun g hg=>(hl g hg).1⟩
 ·refine⟨_,cap,rfl,.inr ⟨g,0,rfl,(hl g rfl).2,fun i hi j hj u hu=>?_⟩,fun g hg=>(hl g hg).1⟩
  have hf:=flat_get rs h.len i j hi hj;rw[hu] at hf;have:=World.ownsRow.cells h.row (g:=g) rfl (i*sz+j) u hf;have hplain:(⟨g,0,none⟩:Addr).add (i*sz+j)=⟨g,0+i*sz+j,none⟩:=by unfold Addr.add;split<;>simp_all<;>omega
  rw[hplain] at this;exact this
section
variable {ops:Array Oper} {rest:List Oper} {o:Oper} {act:Act} {Q:Exit→Act→World→Prop}
theorem jI {e ts:TypeId} {sz nb:Nat} {z:Value} (inf:(Tryz.prog.info? e).map (fun i=>(i.zero,i.size,i.bytes))=some (some z,sz,nb)) (hz:z.cells.size=sz) (h0:0<sz) (hnb:nb≤1000) (ut:Tryz.prog.underlying ts=some (.slice e))
  (hgd:o.guard=none) (s x:Operand) (ho:o.op=.call { callee:=.builtin .append,args:=#[s,x],argTypes:=#[ts,ts] })
  {base:Nat} {w0 wr:World} {v:Value} {xs:List (List Value)} (ys:List (List Value)) (hs:act.eval s=v) (hown:zR e sz base wr v xs) (hb:Below base w0 wr) (hbase:base≤wr.heap.size)
  (ad:Addr) (m c:Nat) (hm:ys.length=m) (hx:act.eval x=.slice (some ad) m c) (hy:∀r∈ys,r.length=sz) (hnews:∀j u,ys.flatten[j]?=some u→wr.cell? (ad.add j)=some u) (h1:∀r∈ys,∀u∈r,u.oneCell'=true)
  (hl:xs.length+m≤1000000000)
  (h:∀v' w',zR e sz base w' v' (xs++ys)→Below base w0 w'→base≤w'.heap.size→wr.grownBy w' v.ownBlock→wpList Tryz.prog ops Q rest (act.put o.dst v') w') :
  wpList Tryz.prog ops Q (o::rest) act wr:=by
 obtain⟨i0,hi,hz0,hz1,hz2⟩:=info_parts inf;subst hm
 refine wpList_append_own _ hgd s x ts ho base e i0 z sz nb ut hi hz0 hz1 hz2 hz h0 v xs.length _ hs hown.row ad ys.length c ys.flatten hx (flat_length ys hy)
  hnews (fun u hu=>?_) (by unfold maxLen;omega) ?_ hbase (fun v' w' hown' hgrow _=>?_)
 ·obtain⟨r,hr,hur⟩:=List.mem_flatten.1 hu
  exact h1 r hr u hur
 ·calc (xs.length+ys.length)*nb≤1000000000*1000:=Nat.mul_le_mul hl hnb
   _≤_:=by omega
 ·refine h v' w' ⟨?_,?_⟩ (hb.grown hgrow hbase (fun k hk=>(World.ownsRow.lt hown.row k hk).1)) (by have:=hgrow.size;omega) hgrow
  ·rw[List.length_append,List.flatten_append];exact hown'
  ·intro r hr
   rcases List.mem_append.1 hr with hr|hr
   ·exact hown.len r hr
   ·exact hy r hr
theorem Yi {e ts:TypeId} {sz nb:Nat} {z:Value} {E:Prop} {K:Act→World→Prop} (inf:(Tryz.prog.info? e).map (fun i=>(i.zero,i.size,i.bytes))=some (some z,sz,nb)) (hz:z.cells.size=sz) (h0:0<sz) (hnb:nb≤1000) (ut:Tryz.prog.underlying ts=some (.slice e))
  (hgd:o.guard=none) (s x:Operand) (ho:o.op=.call { callee:=.builtin .append,args:=#[s,x],argTypes:=#[ts,ts] })
  {base:Nat} {w0 wr:World} {v:Value} {xs:List (List Value)} (ys:List (List Value)) (hs:act.eval s=v) (hown:zR e sz base wr v xs) (hb:Below base w0 wr) (hbase:base≤wr.heap.size)
  (ad:Addr) (m c:Nat) (hm:ys.length=m) (hx:act.eval x=.slice (some ad) m c) (hy:∀r∈ys,r.length=sz) (hnews:∀j u,ys.flatten[j]?=some u→wr.cell? (ad.add j)=some u) (h1:∀r∈ys,∀u∈r,u.oneCell'=true)
  (hl:xs.length+m≤1000000000)
  (h:∀v' w',zR e sz base w' v' (xs++ys)→Below base w0 w'→base≤w'.heap.size→wr.grownBy w' v.ownBlock→K (act.put o.dst v') w') :
  if Region.wanted o (yielded ops act.tmps)=true then Oper.wp Tryz.prog o act wr K Q else E:=by
 obtain⟨i0,hi,hz0,hz1,hz2⟩:=info_parts inf;subst hm;have hw:Region.wanted o (yielded ops act.tmps)=true:=by simp[Region.wanted,hgd]
 rw[if_pos hw]
 refine wp_append_own _ s x ts ho base e i0 z sz nb ut hi hz0 hz1 hz2 hz h0 v xs.length _ hs hown.row ad ys.length c ys.flatten hx (flat_length ys hy)
  hnews (fun u hu=>?_) (by unfold maxLen;omega) ?_ hbase (fun v' w' hown' hgrow _=>?_)
 ·obtain⟨r,hr,hur⟩:=List.mem_flatten.1 hu
  exact h1 r hr u hur
 ·calc (xs.length+ys.length)*nb≤1000000000*1000:=Nat.mul_le_mul hl hnb
   _≤_:=by omega
 ·refine h v' w' ⟨?_,?_⟩ (hb.grown hgrow hbase (fun k hk=>(World.ownsRow.lt hown.row k hk).1)) (by have:=hgrow.size;omega) hgrow
  ·rw[List.length_append,List.flatten_append];exact hown'
  ·intro r hr
   rcases List.mem_append.1 hr with hr|hr
   ·exact hown.len r hr
   ·exact hy r hr
end
end Mod
end Go.Proofs.YtdljneclfgneoaaGreatDoor
