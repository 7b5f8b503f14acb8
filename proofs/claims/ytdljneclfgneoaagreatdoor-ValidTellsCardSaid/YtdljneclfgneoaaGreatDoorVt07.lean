import Derived.Test.YtdljneclfgneoaaGreatDoorVt02
import Derived.Lib.SmallJoins
import Derived.Deep.Strs
import Derived.Lib.OthersKept
import Derived.PinnedBridge
import Derived.Lib.LaidU8
import Derived.Lay
import Derived.Laws.AppendOwn
import Derived.Laws.AppendOwnNone
import Derived.Laws.OwnMore
import Derived.Deep.AppendLies
import Derived.Laws.Tables
import Derived.Deep.WholeRow
import Derived.Lib.BitFns
set_option linter.unusedVariables false
set_option linter.ambiguousOpen false
set_option maxRecDepth 100000
set_option maxHeartbeats 8000000
namespace Go.Proofs.YtdljneclfgneoaaGreatDoor
namespace Instr
end Instr
namespace Mod
end Mod
namespace Stk
end Stk
namespace Mod
open Go.RowKit Go.ChangeShapes Go.WideShapes Go.ChangeAt Go.Joins Go.Deep Instr
variable {H:Type} {enc:TypeId×Value→H} {W:World}
def Wok (T:TypeId) (d:DataW H):Prop:=∀q∈d.weights Tryz.prog T,q≤reachBytes
theorem JL {α:Type} {P:Nat→α→Prop}:∀n:Nat,(∀i,i<n→∃a,P i a)→∃l:List α,l.length=n∧∀(i:Nat) (h:i<l.length),P i l[i]
 | 0,_=>⟨[],rfl,fun i h=>absurd h (Nat.not_lt_zero _)⟩
 | n+1,h=>by
  obtain⟨l,hl,hp⟩:=JL n (fun i hi=>h i (by omega));obtain⟨a,ha⟩:=h n (by omega);refine⟨l++[a],by simp[hl],fun i hi=>?_⟩
  by_cases hn:i<l.length
  ·rw[List.getElem_append_left hn];exact hp i hn
  ·have:i=n:=by simp at hi;omega
   subst this;rw[List.getElem_append_right (by omega)];simpa[hl] using ha
theorem zAh {w:World} {b o sz:Nat} {cs:List Value} (h:w.cells? 0 ⟨b,o,none⟩ sz=some cs):cs.length=sz∧∀j v,cs[j]?=some v→w.cell? ⟨b,o+j,none⟩=some v:=by
 unfold World.cells? at h;rw[if_pos (Nat.zero_le _)] at h;have hl:=mapM_some_length h;refine⟨by simpa using hl,fun j v hv=>?_⟩
 have hj:j<sz:=by
  have:=(List.getElem?_eq_some_iff.1 hv).1;simp at hl;omega
 have:=mapM_some_get h j j (by simp[hj]);rw[qu] at this;rw[this,hv]
theorem zC2 {w:World} {b o sz:Nat} {sp:Option Nat} {cs:List Value} (hs:0<sz) (h:w.cells? 0 ((⟨b,o,sp⟩:Addr).add 0) sz=some cs):sp=none:=by
 unfold World.cells? at h;rw[if_pos (Nat.zero_le _)] at h;have hl:=mapM_some_length h;have hg:=mapM_some_get h 0 0 (by simp[hs]);have h0:∃v,cs[0]?=some v:=⟨_,List.getElem?_eq_getElem (by simp at hl;omega)⟩;obtain⟨v,hv⟩:=h0;rw[hv] at hg;have hp:=World.cell?_spot hg;unfold Addr.add at hp
 (repeat' split at hp)<;>simp_all
theorem jF {α:Type} {T S:TypeId} {sz nb:Nat} (V:α→List Value) (Good:α→Prop) (hS:Tryz.prog.underlying S=some (.slice T)) (hc:Tryz.prog.cellsOf T=sz) (hs0:0<sz) (hb:Tryz.prog.bytesOf T=nb) (hnb:1≤nb)
  (one:∀n cs x,DataW.trod enc Tryz.prog W 0 (fun _=>true) true n T cs=some x→Wok T x.1→∃a:α,cs=V a∧Good a)
  {fuel:Nat} {cs:List Value} {x:DataW H×List MemPlace} (h:DataW.trod enc Tryz.prog W 0 (fun _=>true) true fuel S cs=some x) (hw:Wok S x.1) :
  ∃(a:Option Addr) (c:Nat) (l:List α),cs=[.slice a l.length c]∧l.length≤c∧l.length≤140737488351232∧Rows W.heap.size W a sz (l.map V)∧∀y∈l,Good y:=by
 rcases DataW.trod_slice hS h with ⟨rfl,_⟩|⟨a,len,cap,elems,rest,n,hfu,rfl,rfl,_,hlc,_,hlen,hel,_,_⟩
 ·exact⟨none,0,[],rfl,by simp,by simp,.inl rfl,by simp⟩
 have hbound:(elems.length+rest.length)*nb≤reachBytes:=by
  have:(elems.length+rest.length)*Tryz.prog.bytesOf T≤reachBytes:=hw _ (by simp[DataW.weights,hS]);rw[hb] at this;exact this
 have hbig:len≤140737488351232:=by
  simp only[reachBytes] at hbound;have:elems.length*1≤(elems.length+rest.length)*nb:=Nat.mul_le_mul (by omega) hnb;omega
 have hwe:∀(i:Nat) (y:DataW H×List MemPlace),elems[i]?=some y→Wok T y.1:=by
  intro i y hy m hm;refine hw m ?_;have h1:(elems.map (·.1))[i]?=some y.1:=by simp[hy]
  have:=ZI h1 m hm;simp only[DataW.weights,hS,List.mem_cons,List.mem_append];exact .inr (.inl this)
 obtain⟨b,o,sp⟩:=a
 have hspot:0<len→sp=none:=by
  intro hi;have h1:=hel 0 hi;rw[hc,List.getElem?_eq_getElem (by omega),Nat.zero_mul] at h1;obtain⟨cs',hcs,_⟩:=Option.bind_eq_some_iff.1 h1;exact zC2 hs0 hcs
 have each:∀i,i<len→∃y:α,(∀j v,(V y)[j]?=some v→W.cell? ⟨b,o+i*sz+j,none⟩=some v)∧Good y∧sp=none:=by
  intro i hi;have h1:=hel i hi;rw[hc,List.getElem?_eq_getElem (by omega)] at h1;obtain⟨cs',hcs,ht⟩:=Option.bind_eq_some_iff.1 h1;have hsp:=hspot (by omega);subst hsp;rw[qu] at hcs;obtain⟨y,rfl,hg⟩:=one n cs' _ ht (hwe i _ (List.getElem?_eq_getElem (by omega)));exact⟨y,(zAh hcs).2,hg,rfl⟩
 obtain⟨l,hl,hp⟩:=JL len each;refine⟨some ⟨b,o,sp⟩,cap,l,by rw[hl],by omega,by omega,?_,fun y hy=>?_⟩
 ·by_cases h0:len=0
  ·left
   have:l=[]:=List.eq_nil_of_length_eq_zero (by omega);rw[this];rfl
  ·obtain⟨hc0,_,rfl⟩:=hp 0 (by omega)
   obtain⟨cs',hcs,_⟩:=Option.bind_eq_some_iff.1 (show _=some (elems[0]'(by omega)) by rw[hel 0 (by omega)];exact List.getElem?_eq_getElem _);rw[hc,qu] at hcs;obtain⟨hl0,hg0⟩:=zAh hcs;have hv0:∃v,cs'[0]?=some v:=⟨_,List.getElem?_eq_getElem (by omega)⟩;obtain⟨v0,hv0⟩:=hv0;refine .inr ⟨b,o,rfl,World.block_lt_of_cell? W _ (hg0 0 v0 hv0),fun i hi j _ v hv=>?_⟩;simp only[List.length_map] at hi;refine (hp i hi).1 j v ?_;rw[List.getD_eq_getElem?_getD,List.getElem?_map,List.getElem?_eq_getElem hi] at hv;exact hv
 ·obtain⟨i,hi,rfl⟩:=List.mem_iff_getElem.1 hy
  exact (hp i hi).2.1
theorem rd2 {T:TypeId} {f0 f1:Field} {n:Nat} {cs:List Value} {x:DataW H×List MemPlace} (hs:Tryz.prog.underlying T=some (.struct #[f0,f1])) (hone:oneCellFields Tryz.prog #[f0,f1]=true) (hC:Tryz.prog.cellsOf T=2)
  (h:DataW.trod enc Tryz.prog W 0 (fun _=>true) true n T cs=some x) (hw:Wok T x.1):∃v0 v1 y0 y1 m,cs=[v0,v1]∧DataW.trod enc Tryz.prog W 0 (fun _=>true) true m f0.type [v0]=some y0∧DataW.trod enc Tryz.prog W 0 (fun _=>true) true m f1.type [v1]=some y1∧Wok f0.type y0.1∧Wok f1.type y1.1:=by
 obtain⟨y0,y1,m,rfl,hl,h0,h1⟩:=trod_struct2 hs h;obtain⟨o0,k0⟩:=hone_of hone 0 f0 rfl;obtain⟨o1,k1⟩:=hone_of hone 1 f1 rfl;rw[hC] at hl
 match cs,hl with
 | [v0,v1],_ =>
  refine⟨v0,v1,y0,y1,m,rfl,by simpa[o0,k0] using h0,by simpa[o1,k1] using h1,fun q hq=>hw q ?_,fun q hq=>hw q ?_⟩
  ·simp only[DataW.weights,hs];exact DataW.weights_mem_each (j:=0) rfl rfl q hq
  ·simp only[DataW.weights,hs];exact DataW.weights_mem_each (j:=1) rfl rfl q hq
theorem rd3 {T:TypeId} {f0 f1 f2:Field} {n:Nat} {cs:List Value} {x:DataW H×List MemPlace} (hs:Tryz.prog.underlying T=some (.struct #[f0,f1,f2])) (hone:oneCellFields Tryz.prog #[f0,f1,f2]=true) (hC:Tryz.prog.cellsOf T=3)
  (h:DataW.trod enc Tryz.prog W 0 (fun _=>true) true n T cs=some x) (hw:Wok T x.1):∃v0 v1 v2 y0 y1 y2 m,cs=[v0,v1,v2]∧DataW.trod enc Tryz.prog W 0 (fun _=>true) true m f0.type [v0]=some y0∧DataW.trod enc Tryz.prog W 0 (fun _=>true) true m f1.type [v1]=some y1 ∧
   DataW.trod enc Tryz.prog W 0 (fun _=>true) true m f2.type [v2]=some y2∧Wok f0.type y0.1∧Wok f1.type y1.1∧Wok f2.type y2.1:=by
 obtain⟨y0,y1,y2,m,rfl,hl,h0,h1,h2⟩:=trod_struct3 hs h;obtain⟨o0,k0⟩:=hone_of hone 0 f0 rfl;obtain⟨o1,k1⟩:=hone_of hone 1 f1 rfl;obtain⟨o2,k2⟩:=hone_of hone 2 f2 rfl;rw[hC] at hl
 match cs,hl with
 | [v0,v1,v2],_ =>
  refine⟨v0,v1,v2,y0,y1,y2,m,rfl,by simpa[o0,k0] using h0,by simpa[o1,k1] using h1,by simpa[o2,k2] using h2,fun q hq=>hw q ?_,fun q hq=>hw q ?_,fun q hq=>hw q ?_⟩
  ·simp only[DataW.weights,hs];exact DataW.weights_mem_each (j:=0) rfl rfl q hq
  ·simp only[DataW.weights,hs];exact DataW.weights_mem_each (j:=1) rfl rfl q hq
  ·simp only[DataW.weights,hs];exact DataW.weights_mem_each (j:=2) rfl rfl q hq
theorem zBI {n:Nat} {v:Value} {x:DataW H×List MemPlace} (h:DataW.trod enc Tryz.prog W 0 (fun _=>true) true n 22 [v]=some x) (hw:Wok 22 x.1):∃l:Lst,v=l.val∧zD W.heap.size W l.a l.t.len l.t∧l.t.len≤140737488351232:=by
 obtain⟨a,len,c,t,e,_,h2,h3⟩:=zHe n _ _ h hw;simp only[List.cons.injEq,and_true] at e;subst e;have hl:=h3.1;subst hl;exact⟨⟨a,c,t⟩,rfl,h3,h2⟩
theorem zDS {n:Nat} {v:Value} {x:DataW H×List MemPlace} (h:DataW.trod enc Tryz.prog W 0 (fun _=>true) true n 9 [v]=some x) (hw:Wok 9 x.1):∃s:ByteArray,v=.string s∧s.size≤140737488351232:=by
 obtain⟨s,e,rfl,_⟩:=DataW.trod_string Tryz.underlying9 h;simp only[List.cons.injEq,and_true] at e;refine⟨s,e,?_⟩;have:=hw s.size (by simp[DataW.weights]);simpa[reachBytes] using this
theorem zI3 {n:Nat} {cs:List Value} {x:DataW H×List MemPlace} (h:DataW.trod enc Tryz.prog W 0 (fun _=>true) true n 26 cs=some x) (hw:Wok 26 x.1):∃a:Int×Int,cs=tyV a∧True:=by
 obtain⟨v0,v1,y0,y1,m,rfl,h0,h1,_,_⟩:=rd2 Tryz.underlying26 (by kernel_rfl) (by kernel_rfl) h hw;obtain⟨n0,e0,-,_⟩:=DataW.trod_int Tryz.underlying3 h0;obtain⟨n1,e1,-,_⟩:=DataW.trod_int Tryz.underlying3 h1;simp only[List.cons.injEq,and_true] at e0 e1;subst e0 e1;exact⟨(n0,n1),rfl,trivial⟩
theorem zIi {n:Nat} {cs:List Value} {x:DataW H×List MemPlace} (h:DataW.trod enc Tryz.prog W 0 (fun _=>true) true n 124 cs=some x) (hw:Wok 124 x.1):∃a:Imp,cs=a.v∧a.mo.size≤140737488351232∧a.na.size≤140737488351232:=by
 obtain⟨v0,v1,v2,y0,y1,y2,m,rfl,h0,h1,h2,w0,w1,_⟩:=rd3 Tryz.underlying124 (by kernel_rfl) (by kernel_rfl) h hw;obtain⟨s0,rfl,b0⟩:=zDS h0 w0;obtain⟨s1,rfl,b1⟩:=zDS h1 w1;obtain⟨n2,e2,-,_⟩:=DataW.trod_int Tryz.underlying3 h2;simp only[List.cons.injEq,and_true] at e2;subst e2;exact⟨⟨s0,s1,n2⟩,rfl,b0,b1⟩
theorem zGG {n:Nat} {cs:List Value} {x:DataW H×List MemPlace} (h:DataW.trod enc Tryz.prog W 0 (fun _=>true) true n 127 cs=some x) (hw:Wok 127 x.1):∃a:Li,cs=a.v∧0≤a.n:=by
 obtain⟨v0,v1,v2,y0,y1,y2,m,rfl,h0,h1,h2,_,_,_⟩:=rd3 Tryz.underlying127 (by kernel_rfl) (by kernel_rfl) h hw;obtain⟨n0,e0,-,wf0⟩:=DataW.trod_int Tryz.underlying36 h0;obtain⟨n1,e1,-,_⟩:=DataW.trod_int Tryz.underlying36 h1;obtain⟨n2,e2,-⟩:=DataW.trod_bool Tryz.underlying4 h2;simp only[List.cons.injEq,and_true] at e0 e1 e2;subst e0 e1 e2;exact⟨⟨n0,n1,n2⟩,rfl,(bounds_u32 wf0).1⟩
theorem zIo {n:Nat} {cs:List Value} {x:DataW H×List MemPlace} (h:DataW.trod enc Tryz.prog W 0 (fun _=>true) true n 45 cs=some x) (hw:Wok 45 x.1):∃a:Ex,cs=a.v∧a.na.size≤140737488351232∧0≤a.i∧a.i<4294967296:=by
 obtain⟨v0,v1,v2,y0,y1,y2,m,rfl,h0,h1,h2,w0,_,_⟩:=rd3 Tryz.underlying45 (by kernel_rfl) (by kernel_rfl) h hw;obtain⟨s0,rfl,b0⟩:=zDS h0 w0;obtain⟨n1,e1,-,_⟩:=DataW.trod_int Tryz.underlying3 h1;obtain⟨n2,e2,-,wf2⟩:=DataW.trod_int Tryz.underlying36 h2;simp only[List.cons.injEq,and_true] at e1 e2;subst e1 e2;have hb:=bounds_u32 wf2;exact⟨⟨s0,n1,n2⟩,rfl,b0,hb.1,by have:=hb.2;show n2<_;omega⟩
def zCT (W:World) (l:Lst):Prop:=zD W.heap.size W l.a l.t.len l.t∧l.t.len≤140737488351232
theorem zI9 {n:Nat} {cs:List Value} {x:DataW H×List MemPlace} (h:DataW.trod enc Tryz.prog W 0 (fun _=>true) true n 129 cs=some x) (hw:Wok 129 x.1):∃a:Gl,cs=a.v∧zCT W a.l:=by
 obtain⟨v0,v1,y0,y1,m,rfl,h0,h1,_,w1⟩:=rd2 Tryz.underlying129 (by kernel_rfl) (by kernel_rfl) h hw;obtain⟨n0,e0,-⟩:=DataW.trod_bool Tryz.underlying4 h0;obtain⟨l,rfl,hl⟩:=zBI h1 w1;simp only[List.cons.injEq,and_true] at e0;subst e0;exact⟨⟨n0,l⟩,rfl,hl⟩
theorem zEs {n:Nat} {v:Value} {x:DataW H×List MemPlace} (h:DataW.trod enc Tryz.prog W 0 (fun _=>true) true n 27 [v]=some x) (hw:Wok 27 x.1):∃a c zs,v=.slice a zs.length c∧zk W.heap.size W a zs∧zs.length≤140737488351232∧∀z∈zs,0≤z∧z<4294967296:=by
 obtain⟨a,c,zs,e1,_,hz,hr,hg⟩:=jF (sz:=1) (nb:=4) (α:={ z:Int // 0≤z∧z<4294967296 }) (fun z=>[.int .u32 z.1]) (fun _=>True) Tryz.underlying27 (by kernel_rfl) (by omega) (by kernel_rfl:Tryz.prog.bytesOf 36=4) (by omega)
  (fun n cs x h _=>by
    obtain⟨z,e,-,wf⟩:=DataW.trod_int Tryz.underlying36 h;have:=bounds_u32 wf;exact⟨⟨z,by omega,by omega⟩,e,trivial⟩) h hw
 simp only[List.cons.injEq,and_true] at e1;subst e1;refine⟨a,c,zs.map (·.1),by simp,?_,by simpa using hz,fun z hm=>?_⟩
 ·rcases hr with h|⟨b,off,ha,hb,hcell⟩
  ·left
   rw[List.map_eq_nil_iff] at h;subst h;rfl
  ·refine .inr ⟨b,off,ha,hb,fun i hi=>?_⟩
   have hi':i<zs.length:=by simpa using hi
   have:=hcell i (by simpa using hi') 0 (by omega) (.int .u32 zs[i].1) (by simp[hi']);rw[Nat.mul_one,Nat.add_zero] at this;rw[this];simp[hi']
 ·obtain⟨y,_,rfl⟩:=List.mem_map.1 hm
  exact y.2
theorem zId {n:Nat} {cs:List Value} {x:DataW H×List MemPlace} (h:DataW.trod enc Tryz.prog W 0 (fun _=>true) true n 131 cs=some x) (hw:Wok 131 x.1):∃a:El,cs=a.v∧zCT W a.l∧zk W.heap.size W a.fa a.fs∧a.fs.length≤140737488351232∧∀z∈a.fs,0≤z∧z<4294967296:=by
 obtain⟨v0,v1,y0,y1,m,rfl,h0,h1,w0,w1⟩:=rd2 Tryz.underlying131 (by kernel_rfl) (by kernel_rfl) h hw;obtain⟨l,rfl,hl⟩:=zBI h0 w0;obtain⟨a,c,zs,rfl,ht,hz,hr⟩:=zEs h1 w1;exact⟨⟨l,a,c,zs⟩,rfl,hl,ht,hz,hr⟩
theorem zIl {n:Nat} {cs:List Value} {x:DataW H×List MemPlace} (h:DataW.trod enc Tryz.prog W 0 (fun _=>true) true n 146 cs=some x) (hw:Wok 146 x.1):∃a:Da,cs=a.v∧zCT W a.l∧BytesAt W.heap.size W a.ba a.bs∧a.bs.length≤140737488351232∧∀z∈a.bs,0≤z∧z<256:=by
 obtain⟨v0,v1,y0,y1,m,rfl,h0,h1,w0,w1⟩:=rd2 Tryz.underlying146 (by kernel_rfl) (by kernel_rfl) h hw;obtain⟨l,rfl,hl⟩:=zBI h0 w0
 obtain⟨a,c,zs,e1,_,hz,hr,hg⟩:=jF (sz:=1) (nb:=1) (α:={ z:Int // 0≤z∧z<256 }) (fun z=>[.int .u8 z.1]) (fun _=>True) Tryz.underlying28 (by kernel_rfl) (by omega) (by kernel_rfl:Tryz.prog.bytesOf 5=1) (by omega)
  (fun n cs x h _=>by
    obtain⟨z,e,-,wf⟩:=DataW.trod_int Tryz.underlying5 h;have:=bounds_u8 wf;exact⟨⟨z,by omega,by omega⟩,e,trivial⟩) h1 w1
 simp only[List.cons.injEq,and_true] at e1;subst e1;refine⟨⟨l,a,c,zs.map (·.1)⟩,by simp[Da.v],hl,?_,by simpa using hz,fun z hm=>?_⟩
 ·rcases hr with h|⟨b,off,ha,hb,hcell⟩
  ·left
   rw[List.map_eq_nil_iff] at h;subst h;rfl
  ·refine .inr ⟨b,off,ha,hb,fun i hi=>?_⟩
   have hi':i<zs.length:=by simpa using hi
   have:=hcell i (by simpa using hi') 0 (by omega) (.int .u8 zs[i].1) (by simp[hi']);rw[Nat.mul_one,Nat.add_zero] at this;rw[this];simp[hi']
 ·obtain⟨y,_,rfl⟩:=List.mem_map.1 hm
  exact y.2
theorem zIM {n:Nat} {cs:List Value} {x:DataW H×List MemPlace} (h:DataW.trod enc Tryz.prog W 0 (fun _=>true) true n 43 cs=some x) (hw:Wok 43 x.1):∃a:Fn,cs=a.v∧zCT W a.l:=by
 obtain⟨y0,y1,m,rfl,hl,h0,h1⟩:=trod_struct2 Tryz.underlying43 h;have w1:Wok 24 y1.1:=fun q hq=>hw q (by simp only[DataW.weights,Tryz.underlying43];exact DataW.weights_mem_each (j:=1) rfl rfl q hq)
 rw[show Tryz.prog.cellsOf 43=3 by kernel_rfl] at hl
 match cs,hl with
 | [v0,v1,v2],_ =>
  have h0':DataW.trod enc Tryz.prog W 0 (fun _=>true) true m 3 [v0]=some y0:=by
   have:=h0;dsimp only at this;rw[show Tryz.prog.cellsOf 3=1 by kernel_rfl] at this;exact this
  have h1':DataW.trod enc Tryz.prog W 0 (fun _=>true) true m 24 [v1,v2]=some y1:=by
   have:=h1;dsimp only at this;rw[show Tryz.prog.cellsOf 24=2 by kernel_rfl] at this;exact this
  obtain⟨u0,u1,z0,z1,m',e,k0,k1,_,w2⟩:=rd2 Tryz.underlying24 (by kernel_rfl) (by kernel_rfl) h1' w1;simp only[List.cons.injEq,and_true] at e;obtain⟨rfl,rfl⟩:=e;obtain⟨n0,e0,-,_⟩:=DataW.trod_int Tryz.underlying3 h0';obtain⟨n1,e1,-,_⟩:=DataW.trod_int Tryz.underlying3 k0;obtain⟨l,rfl,hg⟩:=zBI k1 w2;simp only[List.cons.injEq,and_true] at e0 e1;subst e0 e1;exact⟨⟨n0,n1,l⟩,rfl,hg⟩
end Mod
namespace Mod
open Go.RowKit Go.ChangeShapes Go.WideShapes Go.ChangeAt Go.Joins Go.Deep Instr
variable {H:Type} {enc:TypeId×Value→H} {W:World}
theorem zJi:oneCellFields Tryz.prog (Tryz.prog.fieldsOf 40)=true:=by kernel_rfl
structure Md.ranged (m:Md):Prop where
 n0:∀l∈m.tb++m.me,0≤l.n
 ei:∀e∈m.ex,0≤e.i∧e.i<4294967296
 ef:∀e∈m.el,∀z∈e.fs,0≤z∧z<4294967296
 db:∀d∈m.da,∀z∈d.bs,0≤z∧z<256
 sn:0≤m.sn∧m.sn<4294967296
theorem zBo {ts:List TypeId} {ds:List (DataW H)} {base:Nat} {v:Value} {d:DataW H} {p:List MemPlace}
  (hsz:(DataW.weightsEach Tryz.prog ts ds).all (·≤reachBytes)=true) (j:Nat) (ht:ts[j]?=some 40) (hd:ds[j]?=some d)
  (hv:Value.okWide Tryz.prog W .any base 40 v) (h:DataW.Trod enc Tryz.prog W 0 (fun _=>true) true 40 v d p) :
  ∃m:Md,v=.agg m.v∧zN W.heap.size W m∧m.fits∧m.caps∧m.ranged:=by
 obtain⟨cs,rfl,hcs⟩:=okWide_struct Tryz.underlying40 hv;rw[show Tryz.prog.cellsOf 40=11 by kernel_rfl] at hcs;obtain⟨fuel,hf⟩:=h;obtain⟨xs,n,_,hx,_,hlen,hff⟩:=DataW.trod_struct Tryz.underlying40 hf;have hone:=hone_of (show oneCellFields Tryz.prog _=true from zJi);obtain⟨l⟩:=cs;have hl:l.length=11:=by simpa using hcs
 have hwd:Wok 40 d:=fun q hq=>by
  have:=List.all_eq_true.1 hsz _ (DataW.weights_mem_each ht hd q hq);simpa using this
 simp only[Prod.mk.injEq] at hx;obtain⟨rfl,_⟩:=hx
 match l,hl,xs,hlen with
 | [v0,v1,v2,v3,v4,v5,v6,v7,v8,v9,v10],_,[y0,y1,y2,y3,y4,y5,y6,y7,y8,y9,y10],_ =>
  have w0:Wok 30 y0.1:=fun q hq=>hwd q (by simp only[DataW.weights,Tryz.underlying40];exact DataW.weights_mem_each (j:=0) rfl rfl q hq)
  have f0:DataW.trod enc Tryz.prog W 0 (fun _=>true) true n 30 [v0]=some y0:=by
   have h:DataW.trod enc Tryz.prog W 0 (fun _=>true) true n 30 (((Value.agg #[v0,v1,v2,v3,v4,v5,v6,v7,v8,v9,v10]).cells.toList.drop 0).take (Tryz.prog.cellsOf 30))=[y0,y1,y2,y3,y4,y5,y6,y7,y8,y9,y10][0]?:=hff 0 _ rfl;rw[show Tryz.prog.cellsOf 30=1 by kernel_rfl] at h;exact h
  have w1:Wok 31 y1.1:=fun q hq=>hwd q (by simp only[DataW.weights,Tryz.underlying40];exact DataW.weights_mem_each (j:=1) rfl rfl q hq)
  have f1:DataW.trod enc Tryz.prog W 0 (fun _=>true) true n 31 [v1]=some y1:=by
   have h:DataW.trod enc Tryz.prog W 0 (fun _=>true) true n 31 (((Value.agg #[v0,v1,v2,v3,v4,v5,v6,v7,v8,v9,v10]).cells.toList.drop 1).take (Tryz.prog.cellsOf 31))=[y0,y1,y2,y3,y4,y5,y6,y7,y8,y9,y10][1]?:=hff 1 _ rfl;rw[show Tryz.prog.cellsOf 31=1 by kernel_rfl] at h;exact h
  have w2:Wok 32 y2.1:=fun q hq=>hwd q (by simp only[DataW.weights,Tryz.underlying40];exact DataW.weights_mem_each (j:=2) rfl rfl q hq)
  have f2:DataW.trod enc Tryz.prog W 0 (fun _=>true) true n 32 [v2]=some y2:=by
   have h:DataW.trod enc Tryz.prog W 0 (fun _=>true) true n 32 (((Value.agg #[v0,v1,v2,v3,v4,v5,v6,v7,v8,v9,v10]).cells.toList.drop 2).take (Tryz.prog.cellsOf 32))=[y0,y1,y2,y3,y4,y5,y6,y7,y8,y9,y10][2]?:=hff 2 _ rfl;rw[show Tryz.prog.cellsOf 32=1 by kernel_rfl] at h;exact h
  have w3:Wok 33 y3.1:=fun q hq=>hwd q (by simp only[DataW.weights,Tryz.underlying40];exact DataW.weights_mem_each (j:=3) rfl rfl q hq)
  have f3:DataW.trod enc Tryz.prog W 0 (fun _=>true) true n 33 [v3]=some y3:=by
   have h:DataW.trod enc Tryz.prog W 0 (fun _=>true) true n 33 (((Value.agg #[v0,v1,v2,v3,v4,v5,v6,v7,v8,v9,v10]).cells.toList.drop 3).take (Tryz.prog.cellsOf 33))=[y0,y1,y2,y3,y4,y5,y6,y7,y8,y9,y10][3]?:=hff 3 _ rfl;rw[show Tryz.prog.cellsOf 33=1 by kernel_rfl] at h;exact h
  have w4:Wok 33 y4.1:=fun q hq=>hwd q (by simp only[DataW.weights,Tryz.underlying40];exact DataW.weights_mem_each (j:=4) rfl rfl q hq)
  have f4:DataW.trod enc Tryz.prog W 0 (fun _=>true) true n 33 [v4]=some y4:=by
   have h:DataW.trod enc Tryz.prog W 0 (fun _=>true) true n 33 (((Value.agg #[v0,v1,v2,v3,v4,v5,v6,v7,v8,v9,v10]).cells.toList.drop 4).take (Tryz.prog.cellsOf 33))=[y0,y1,y2,y3,y4,y5,y6,y7,y8,y9,y10][4]?:=hff 4 _ rfl;rw[show Tryz.prog.cellsOf 33=1 by kernel_rfl] at h;exact h
  have w5:Wok 34 y5.1:=fun q hq=>hwd q (by simp only[DataW.weights,Tryz.underlying40];exact DataW.weights_mem_each (j:=5) rfl rfl q hq)
  have f5:DataW.trod enc Tryz.prog W 0 (fun _=>true) true n 34 [v5]=some y5:=by
   have h:DataW.trod enc Tryz.prog W 0 (fun _=>true) true n 34 (((Value.agg #[v0,v1,v2,v3,v4,v5,v6,v7,v8,v9,v10]).cells.toList.drop 5).take (Tryz.prog.cellsOf 34))=[y0,y1,y2,y3,y4,y5,y6,y7,y8,y9,y10][5]?:=hff 5 _ rfl;rw[show Tryz.prog.cellsOf 34=1 by kernel_rfl] at h;exact h
  have w6:Wok 35 y6.1:=fun q hq=>hwd q (by simp only[DataW.weights,Tryz.underlying40];exact DataW.weights_mem_each (j:=6) rfl rfl q hq)
  have f6:DataW.trod enc Tryz.prog W 0 (fun _=>true) true n 35 [v6]=some y6:=by
   have h:DataW.trod enc Tryz.prog W 0 (fun _=>true) true n 35 (((Value.agg #[v0,v1,v2,v3,v4,v5,v6,v7,v8,v9,v10]).cells.toList.drop 6).take (Tryz.prog.cellsOf 35))=[y0,y1,y2,y3,y4,y5,y6,y7,y8,y9,y10][6]?:=hff 6 _ rfl;rw[show Tryz.prog.cellsOf 35=1 by kernel_rfl] at h;exact h
  have w7:Wok 4 y7.1:=fun q hq=>hwd q (by simp only[DataW.weights,Tryz.underlying40];exact DataW.weights_mem_each (j:=7) rfl rfl q hq)
  have f7:DataW.trod enc Tryz.prog W 0 (fun _=>true) true n 4 [v7]=some y7:=by
   have h:DataW.trod enc Tryz.prog W 0 (fun _=>true) true n 4 (((Value.agg #[v0,v1,v2,v3,v4,v5,v6,v7,v8,v9,v10]).cells.toList.drop 7).take (Tryz.prog.cellsOf 4))=[y0,y1,y2,y3,y4,y5,y6,y7,y8,y9,y10][7]?:=hff 7 _ rfl;rw[show Tryz.prog.cellsOf 4=1 by kernel_rfl] at h;exact h
  have w8:Wok 36 y8.1:=fun q hq=>hwd q (by simp only[DataW.weights,Tryz.underlying40];exact DataW.weights_mem_each (j:=8) rfl rfl q hq)
  have f8:DataW.trod enc Tryz.prog W 0 (fun _=>true) true n 36 [v8]=some y8:=by
   have h:DataW.trod enc Tryz.prog W 0 (fun _=>true) true n 36 (((Value.agg #[v0,v1,v2,v3,v4,v5,v6,v7,v8,v9,v10]).cells.toList.drop 8).take (Tryz.prog.cellsOf 36))=[y0,y1,y2,y3,y4,y5,y6,y7,y8,y9,y10][8]?:=hff 8 _ rfl;rw[show Tryz.prog.cellsOf 36=1 by kernel_rfl] at h;exact h
  have w9:Wok 37 y9.1:=fun q hq=>hwd q (by simp only[DataW.weights,Tryz.underlying40];exact DataW.weights_mem_each (j:=9) rfl rfl q hq)
  have f9:DataW.trod enc Tryz.prog W 0 (fun _=>true) true n 37 [v9]=some y9:=by
   have h:DataW.trod enc Tryz.prog W 0 (fun _=>true) true n 37 (((Value.agg #[v0,v1,v2,v3,v4,v5,v6,v7,v8,v9,v10]).cells.toList.drop 9).take (Tryz.prog.cellsOf 37))=[y0,y1,y2,y3,y4,y5,y6,y7,y8,y9,y10][9]?:=hff 9 _ rfl;rw[show Tryz.prog.cellsOf 37=1 by kernel_rfl] at h;exact h
  have w10:Wok 38 y10.1:=fun q hq=>hwd q (by simp only[DataW.weights,Tryz.underlying40];exact DataW.weights_mem_each (j:=10) rfl rfl q hq)
  have f10:DataW.trod enc Tryz.prog W 0 (fun _=>true) true n 38 [v10]=some y10:=by
   have h:DataW.trod enc Tryz.prog W 0 (fun _=>true) true n 38 (((Value.agg #[v0,v1,v2,v3,v4,v5,v6,v7,v8,v9,v10]).cells.toList.drop 10).take (Tryz.prog.cellsOf 38))=[y0,y1,y2,y3,y4,y5,y6,y7,y8,y9,y10][10]?:=hff 10 _ rfl;rw[show Tryz.prog.cellsOf 38=1 by kernel_rfl] at h;exact h
  obtain⟨a0,c0,l0,e0,k0,b0,r0,g0⟩:=jF (sz:=2) tyV _ Tryz.underlying30 (by kernel_rfl) (by omega) rfl (of_decide_eq_true (by kernel_rfl)) (fun _ _ _ h hw=>zI3 h hw) f0 w0;obtain⟨a1,c1,l1,e1,k1,b1,r1,g1⟩:=jF (sz:=3) Imp.v _ Tryz.underlying31 (by kernel_rfl) (by omega) rfl (of_decide_eq_true (by kernel_rfl)) (fun _ _ _ h hw=>zIi h hw) f1 w1;obtain⟨a2,c2,l2,e2,k2,b2,r2,g2⟩:=jF (sz:=3) Fn.v _ Tryz.underlying32 (by kernel_rfl) (by omega) rfl (of_decide_eq_true (by kernel_rfl)) (fun _ _ _ h hw=>zIM h hw) f2 w2;obtain⟨a3,c3,l3,e3,k3,b3,r3,g3⟩:=jF (sz:=3) Li.v _ Tryz.underlying33 (by kernel_rfl) (by omega) rfl (of_decide_eq_true (by kernel_rfl)) (fun _ _ _ h hw=>zGG h hw) f3 w3;obtain⟨a4,c4,l4,e4,k4,b4,r4,g4⟩:=jF (sz:=3) Li.v _ Tryz.underlying33 (by kernel_rfl) (by omega) rfl (of_decide_eq_true (by kernel_rfl)) (fun _ _ _ h hw=>zGG h hw) f4 w4;obtain⟨a5,c5,l5,e5,k5,b5,r5,g5⟩:=jF (sz:=2) Gl.v _ Tryz.underlying34 (by kernel_rfl) (by omega) rfl (of_decide_eq_true (by kernel_rfl)) (fun _ _ _ h hw=>zI9 h hw) f5 w5;obtain⟨a6,c6,l6,e6,k6,b6,r6,g6⟩:=jF (sz:=3) Ex.v _ Tryz.underlying35 (by kernel_rfl) (by omega) rfl (of_decide_eq_true (by kernel_rfl)) (fun _ _ _ h hw=>zIo h hw) f6 w6;obtain⟨z7,e7,-⟩:=DataW.trod_bool Tryz.underlying4 f7;obtain⟨z8,e8,-,wf8⟩:=DataW.trod_int Tryz.underlying36 f8;obtain⟨a9,c9,l9,e9,k9,b9,r9,g9⟩:=jF (sz:=2) El.v _ Tryz.underlying37 (by kernel_rfl) (by omega) rfl (of_decide_eq_true (by kernel_rfl)) (fun _ _ _ h hw=>zId h hw) f9 w9;obtain⟨a10,c10,l10,e10,k10,b10,r10,g10⟩:=jF (sz:=2) Da.v _ Tryz.underlying38 (by kernel_rfl) (by omega) rfl (of_decide_eq_true (by kernel_rfl)) (fun _ _ _ h hw=>zIl h hw) f10 w10;simp only[List.cons.injEq,and_true] at e0 e1 e2 e3 e4 e5 e6 e7 e8 e9 e10;subst e0 e1 e2 e3 e4 e5 e6 e7 e8 e9 e10
  have hcodes:∀l∈(⟨l0,l1,l2,l3,l4,l5,l6,z7,z8,l9,l10,⟨a0,c0⟩,⟨a1,c1⟩,⟨a2,c2⟩,⟨a3,c3⟩,⟨a4,c4⟩,⟨a5,c5⟩,⟨a6,c6⟩,⟨a9,c9⟩,⟨a10,c10⟩⟩:Md).codes,zCT W l:=by
   intro l hl;unfold Md.codes at hl;simp only[List.mem_append,List.mem_map] at hl
   rcases hl with ⟨x,hx,rfl⟩|⟨x,hx,rfl⟩|⟨x,hx,rfl⟩|⟨x,hx,rfl⟩
   ·exact g2 x hx
   ·exact g5 x hx
   ·exact (g9 x hx).1
   ·exact (g10 x hx).1
  refine⟨⟨l0,l1,l2,l3,l4,l5,l6,z7,z8,l9,l10,⟨a0,c0⟩,⟨a1,c1⟩,⟨a2,c2⟩,⟨a3,c3⟩,⟨a4,c4⟩,⟨a5,c5⟩,⟨a6,c6⟩,⟨a9,c9⟩,⟨a10,c10⟩⟩,rfl,
    ⟨r0,r1,r2,r3,r4,r5,r6,r9,r10,fun l hl=>(hcodes l hl).1,fun e he=>(g9 e he).2.1,fun e he=>(g10 e he).2.1⟩,
    ⟨b0,b1,b2,b3,b4,b5,b6,b9,b10,fun l hl=>(hcodes l hl).2,fun e he=>(g9 e he).2.2.1,fun e he=>(g10 e he).2.2.1,fun e he=>g1 e he,fun e he=>(g6 e he).1⟩,⟨k0,k1,k2,k5,k6,k9,k10⟩,
    ⟨fun l hl=>(List.mem_append.1 hl).elim (fun h=>g3 l h) (fun h=>g4 l h),fun e he=>(g6 e he).2,fun e he=>(g9 e he).2.2.2,fun d hd=>(g10 d hd).2.2.2,(bounds_u32 wf8).1,by have:=(bounds_u32 wf8).2;show z8<_;omega⟩⟩
end Mod
namespace Utf
open Go.RowKit
def Tabs (w:World):Prop:=Lib.Utf8Tabs 2 3 w
theorem Tabs.below {w w':World} (h:Tabs w) (hb:Below w.heap.size w w'):Tabs w':=Utf8Tabs_below h hb
theorem zFg (zs:List Int) (i:Nat):(strOfNums zs).extract i zs.length=strOfNums (zs.drop i):=by
 apply ByteArray.ext
 apply Array.toList_inj.1
 rw[ByteArray.data_extract,Array.toList_extract,strOfNums_data,strOfNums_data];simp;rw[List.take_of_length_le (by simp)]
theorem zHY (zs:List Int) (hb:∀z∈zs,0≤z∧z<256) (w:World) (hT:Tabs w) :
  Calls Tryz.prog 273 #[.string (strOfNums zs)] w fun e w'=>e=.returned (.int .i64 (jK zs))∧Below w.heap.size w w':=by
 have D1:∀pos n k,atL (zs.drop pos)=some (n,k)→Utf8.decode (strOfNums zs) pos=(n.toNat,k):=fun pos n k h=>zB1 hb h
 have D2:∀pos,pos<zs.length→atL (zs.drop pos)=none→Utf8.decode (strOfNums zs) pos=(65533,1):=fun pos h h'=>zB4 hb h h'
 have D3:∀pos,pos<zs.length→Lib.decodeGo ((strOfNums zs).extract pos zs.length)=Utf8.decode (strOfNums zs) pos:=fun pos h=>by
  rw[zFg];unfold Lib.decodeGo;rw[strOfNums_size,List.length_drop,if_neg (by omega),ZO (kg hb pos),ZO hb];rfl
 have hs:(strOfNums zs).size=zs.length:=strOfNums_size zs
 generalize strOfNums zs=s at *
 have H1:=hid D1;have H2:=hid D2;have H3:=hid D3;clear D1 D2 D3 hb
 go_enter Tryz.func273,Tryz.ntmps273
 go_wp2
 go_loopw [3] (fun _ wr=>∃pos:Nat,wr.heap[w.heap.size]?=some (.stringIter s pos)∧Below w.heap.size w wr∧pos≤zs.length∧(scan zs).2=pos+(scan (zs.drop pos)).2)
  (fun _ wr=>zs.length-wr.iterPos w.heap.size)
 case atStart=>exact⟨0,World.iter_heap w s 0,(Below.refl _ _).alloc (Nat.le_refl _) _,Nat.zero_le _,by simp⟩
 case round =>
  obtain⟨pos,hk,hbw,hpos,hsc⟩:=hrel;have HS:=hid hsc;clear hsc;have hT':Tabs wr:=hT.below hbw
  by_cases hp:pos<s.size
  ·cases ha:atL (zs.drop pos) with
   | none =>
    have hd:=H2.out pos (by omega) ha
    have hnx:∀ty,(Instr.next (.pointer (some ⟨w.heap.size,0,none⟩)) true ty).run Tryz.prog wr=.ok (.tuple #[.bool true,.int .i64 pos,.int .i32 65533]) (wr.iterAt w.heap.size s (pos+1)):=fun ty=>by
     rw[Lib.run_next_any_at wr w.heap.size s pos ty hk hp,hd];rfl
    have hw1:=Lib.below_iterAt hbw (Nat.le_refl _) s (pos+1);have hT1:Tabs (wr.iterAt w.heap.size s (pos+1)):=hT.below hw1
    have HF:Hid (jK zs=pos):=by
     have h:=HS.out;rw[Yb ha] at h
     show _=_
     rw[zE0 (by omega)];simp at h;omega
    have HD:=hid ((H3.out pos (by omega)).trans hd);clear hd ha hT hT'
    generalize wr.iterAt w.heap.size s (pos+1)=w1 at *
    go_wp2_with fail
    refine (Tryz.utf8_DecodeRuneInString _ _ hT1).mono ?_;rw[HD.out];rintro e w2 ⟨rfl,hb2⟩;go_wp2;go_ret;exact⟨zH HF.out.symm,hw1.trans (hb2.mono (by have:=hw1.size;omega))⟩
   | some q =>
    obtain⟨n,k⟩:=q;obtain⟨hn,_,_,hk1,_,hkl⟩:=vh ha;have hd:=H1.out pos n k ha
    have hnx:∀ty,(Instr.next (.pointer (some ⟨w.heap.size,0,none⟩)) true ty).run Tryz.prog wr=.ok (.tuple #[.bool true,.int .i64 pos,.int .i32 n]) (wr.iterAt w.heap.size s (pos+k)):=fun ty=>by
     rw[Lib.run_next_any_at wr w.heap.size s pos ty hk hp,hd];have:=hn.1;simp only[Int.toNat_of_nonneg this]
    have hw1:=Lib.below_iterAt hbw (Nat.le_refl _) s (pos+k);have hT1:Tabs (wr.iterAt w.heap.size s (pos+k)):=hT.below hw1;have hk1':=Lib.iterAt_heap wr w.heap.size s pos (pos+k) hk;have hit:(wr.iterAt w.heap.size s (pos+k)).iterPos w.heap.size=pos+k:=by unfold World.iterPos;rw[hk1']
    have hit0:wr.iterPos w.heap.size=pos:=by unfold World.iterPos;rw[hk]
    have HF:Hid ((scan zs).2=(pos+k)+(scan (zs.drop (pos+k))).2):=by
     have h:=HS.out;rw[zAg ha,List.drop_drop] at h
     show _=_
     simp only at h;omega
    have hlk:pos+k≤zs.length:=by simp at hkl;omega
    by_cases he:n=65533
    ·subst he
     obtain rfl:=zCJ ha;have HD:=hid ((H3.out pos (by omega)).trans hd);clear hd ha hT hT' hn
     generalize wr.iterAt w.heap.size s (pos+3)=w1 at *
     go_wp2_with fail
     refine (Tryz.utf8_DecodeRuneInString _ _ hT1).mono ?_;rw[HD.out];rintro e w2 ⟨rfl,hb2⟩;have hlt:w.heap.size<w1.heap.size:=(Array.getElem?_eq_some_iff.1 hk1').1;have hk2:=(hb2.block _ hlt).trans hk1';have hit2:w2.iterPos w.heap.size=pos+3:=by unfold World.iterPos;rw[hk2]
     go_wp2
     go_roundw
     case rel=>exact⟨pos+3,hk2,hw1.trans (hb2.mono (by omega)),hlk,HF.out⟩
     case measure=>rw[hit2,hit0];omega
    ·clear hd ha hT hT'
     generalize wr.iterAt w.heap.size s (pos+k)=w1 at *
     go_wp2
     go_roundw
     case rel=>exact⟨pos+k,hk1',hw1,hlk,HF.out⟩
     case measure=>rw[hit,hit0];omega
  ·have hnx:∀ty,(Instr.next (.pointer (some ⟨w.heap.size,0,none⟩)) true ty).run Tryz.prog wr=_:=fun ty=>Lib.run_next_end_at wr w.heap.size s pos ty hk hp
   have HF:Hid (jK zs=-1):=zFc (by
     have h:=HS.out;rw[List.drop_eq_nil_of_le (by omega),zAD] at h;simp at h;omega)
   go_wp2;go_ret;exact⟨zH HF.out.symm,hbw⟩
end Utf
section
open Go.RowKit Go.Lib
theorem zG8:U8Extra Tryz.prog Tryz.lays260_ren:=⟨by kernel_rfl,by kernel_rfl,by kernel_rfl,by kernel_rfl,by kernel_rfl,by kernel_rfl,by kernel_rfl⟩
theorem zFE:(Rows.laid_unicode_utf8_acceptRanges:DataW Unit)=acceptData:=by kernel_rfl
end
namespace Num
open Go.RowKit
def zET:List Int:=List.replicate 69 0++[1]++List.replicate 10 2++List.replicate 23 0++[1,1,1]++List.replicate 15 2
def ZX (w:World):Prop:=∀j,j<121→w.cell? ⟨0,j,none⟩=some (.int .u8 (zET.getD j 0))
theorem ZX.below {w w':World} (h:ZX w) (hb:Below w.heap.size w w'):ZX w':=fun j hj=>keep hb (h j hj)
theorem zGp:∀j:Fin 121,zET.getD j.val 0=arity (j.val:Int):=by decide +kernel
theorem uq (op:Int):0≤arity op∧arity op≤2:=by unfold arity;split<;>(try split)<;>omega
theorem zFa {op:Int} (h:op<0∨121≤op):arity op=0:=by unfold arity;rw[if_neg (by omega),if_neg (by omega)]
theorem zEn (op:Int) (w:World) (hT:ZX w):Calls Tryz.prog 136 #[.int .i64 op] w fun e w'=>e=.returned (.int .i64 (arity op))∧w=w':=by
 obtain⟨v,hv⟩:∃v,arity op=v:=⟨_,rfl⟩
 by_cases h:0≤op∧op<121
 ·have hc:=hT op.toNat (by omega)
  rw[zGp ⟨op.toNat,by omega⟩] at hc;simp only[Int.toNat_of_nonneg h.1] at hc;have hr:=uq op;rw[hv] at hr hc ⊢;obtain⟨h0,h1⟩:=h;obtain⟨r0,r1⟩:=hr;clear hv hT
  go_enter Tryz.func136,Tryz.ntmps136
  go_wp2;go_ret;exact⟨rfl,rfl⟩
 ·rw[zFa (by omega)]
  clear hv hT;have h':op<0∨121≤op:=by omega
  clear h
  rcases h' with h'|h'
  all_goals
   go_enter Tryz.func136,Tryz.ntmps136
   go_wp2;go_ret;exact⟨rfl,rfl⟩
end Num
section
open Go.RowKit Go.Lib
def zCW:List (String×DataW Unit):=[("unicode/utf8.acceptRanges",Rows.laid_unicode_utf8_acceptRanges),("gimlet/num.arities",Rows.laid_gimlet_num_arities),("gimlet/instr.names",Rows.laid_gimlet_instr_names),("unicode/utf8.first",Rows.laid_unicode_utf8_first)]
theorem zD2:(Rows.laid_gimlet_num_arities:DataW Unit)=tabData .u8 Num.zET:=by kernel_rfl
theorem zHI {W:World} {l:List (String×DataW Unit)} (hm:("gimlet/num.arities",Rows.laid_gimlet_num_arities)∈l) (hL:laidMet Tryz.prog l W):Num.ZX W:=by
 obtain⟨g,t,cs,fuel,p,hg,hty,hvar,hd⟩:=Lib.laidMet.reads hL hm;obtain rfl:=Option.some.inj ((show Tryz.prog.globalNamed "gimlet/num.arities"=some 0 by kernel_rfl).symm.trans hg)
 obtain rfl:=Option.some.inj ((show (Tryz.prog.globals[0]?).map (·.type)=some 290 by kernel_rfl).symm.trans hty);rw[zD2] at hd;have hcs:=cells_of_tab Tryz.underlying290 Tryz.underlying5 (by kernel_rfl) (by kernel_rfl) hd;have hlen:Num.zET.length=121:=by decide +kernel
 intro j hj;rw[World.var?_cell hg hvar j,←Array.getElem?_toList,hcs];simp[List.getD,hlen,hj]
theorem zIt {W:World} (hL:laidMet Tryz.prog zCW W):Instr.kC W∧Utf.Tabs W∧Num.ZX W:=by
 refine⟨zHE (.tail _ (.tail _ (.head _))) hL,utf8Tabs_of_reads (ρ:=Tryz.lays260_ren) Tryz.lays260 zG8 (Pinned.utf8First_eq▸Lib.laidMet.reads hL (.tail _ (.tail _ (.tail _ (.head _))))) ?_,zHI (.tail _ (.head _)) hL⟩;have h:=Lib.laidMet.reads hL (.head _);rw[zFE] at h;exact h
end
namespace Stk
open Go.RowKit
def Rows (n₀:Nat) (w:World) (a:Option Addr) (sz:Nat) (rs:List (List Value)):Prop :=
 rs=[]∨∃b off,a=some ⟨b,off,none⟩∧b<n₀∧∀i,i<rs.length→∀j,j<sz→∀v,(rs.getD i [])[j]?=some v→w.cell? ⟨b,off+i*sz+j,none⟩=some v
theorem Rows.below {n₀ sz:Nat} {w w':World} {a:Option Addr} {rs:List (List Value)} (hb:Below n₀ w w') (h:Rows n₀ w a sz rs):Rows n₀ w' a sz rs:=by
 rcases h with h|⟨b,off,ha,hl,hc⟩
 ·exact .inl h
 ·exact .inr ⟨b,off,ha,hl,fun i hi j hj v hv=>(hb.cell (p:=⟨b,off+i*sz+j,none⟩) hl).trans (hc i hi j hj v hv)⟩
theorem Rows.more {n₀ n₁ sz:Nat} {w:World} {a:Option Addr} {rs:List (List Value)} (hn:n₀≤n₁) (h:Rows n₀ w a sz rs):Rows n₁ w a sz rs:=by
 rcases h with h|⟨b,off,ha,hl,hc⟩
 ·exact .inl h
 ·exact .inr ⟨b,off,ha,by omega,hc⟩
theorem flat_length {α:Type} {sz:Nat}:∀(rs:List (List α)) (_:∀r∈rs,r.length=sz),rs.flatten.length=rs.length*sz
 | [],_=>by simp
 | r::rs,h=>by
  rw[List.flatten_cons,List.length_append,h r (by simp),flat_length rs (fun x hx=>h x (by simp[hx])),List.length_cons,Nat.succ_mul];omega
theorem flat_get {α:Type} {sz:Nat}:∀(rs:List (List α)) (_:∀r∈rs,r.length=sz) (i j:Nat) (_:i<rs.length) (_:j<sz),rs.flatten[i*sz+j]?=(rs.getD i [])[j]?
 | [],_,i,_,hi,_=>by simp at hi
 | r::rs,h,0,j,_,hj=>by
  rw[List.flatten_cons,Nat.zero_mul,Nat.zero_add,List.getElem?_append_left (by rw[h r (by simp)];exact hj)];rfl
 | r::rs,h,i+1,j,hi,hj=>by
  have hr:=h r (by simp);have e:(i+1)*sz=i*sz+sz:=Nat.succ_mul i sz;rw[List.flatten_cons,List.getElem?_append_right (by rw[hr,e];omega),hr];have e2:(i+1)*sz+j-sz=i*sz+j:=by rw[e];omega
  rw[e2,flat_get rs (fun x hx=>h x (by simp[hx])) i j (by simpa using hi) hj];rfl
structure zR (e:TypeId) (sz base:Nat) (w:World) (v:Value) (rs:List (List Value)):Prop where
 row:w.ownsRow base e sz v rs.length rs.flatten
 len:∀r∈rs,r.length=sz
theorem zR.start (e:TypeId) (sz base:Nat) (w:World):zR e sz base w (.slice none 0 0) []:=⟨World.ownsRow_nil _ _ _ _,by simp⟩
theorem zR.made (e:TypeId) (sz:Nat) (w:World):zR e sz w.heap.size (w.alloc (.cells #[] e)) (.slice (some ⟨w.heap.size,0,none⟩) 0 0) []:=⟨World.ownsRow_made w #[] 0 (Nat.le_refl _) (by unfold maxLen;omega) (by simp),by simp⟩
theorem zR.below {e:TypeId} {sz base:Nat} {w w':World} {v:Value} {rs:List (List Value)} (h:zR e sz base w v rs) (hb:Below w.heap.size w w'):zR e sz base w' v rs:=by
 refine⟨⟨h.row.1,?_⟩,h.len⟩
 rcases h.row.2 with h0|⟨g,cap,cur,hv,hg,hh,rest⟩
 ·exact .inl h0
 ·exact .inr ⟨g,cap,cur,hv,hg,(hb.block g (Array.getElem?_eq_some_iff.1 hh).1).trans hh,rest⟩
theorem zR.mono {e:TypeId} {sz base base':Nat} {w:World} {v:Value} {rs:List (List Value)} (h:zR e sz base w v rs) (hb:base'≤base):zR e sz base' w v rs:=by
 refine⟨⟨h.row.1,?_⟩,h.len⟩
 rcases h.row.2 with h0|⟨g,cap,cur,hv,hg,rest⟩
 ·exact .inl h0
 ·exact .inr ⟨g,cap,cur,hv,Nat.le_trans hb hg,rest⟩
theorem zR.rows {e:TypeId} {sz base:Nat} {w:World} {v:Value} {rs:List (List Value)} (h:zR e sz base w v rs):∃a c,v=.slice a rs.length c∧Rows w.heap.size w a sz rs∧∀g,v.ownBlock=some g→base≤g:=by
 have hl:=World.ownsRow.lt h.row
 rcases h.row.2 with ⟨rfl,h0⟩|⟨g,cap,cur,rfl,hg,hh,h2,h3,h4,h5⟩
 ·exact⟨none,0,by rw[h0],.inl (List.eq_nil_of_length_eq_zero h0),fun g hg=>(hl g hg).1⟩
 ·refine⟨_,cap,rfl,.inr ⟨g,0,rfl,(hl g rfl).2,fun i hi j hj u hu=>?_⟩,fun g hg=>(hl g hg).1⟩
  have hf:=flat_get rs h.len i j hi hj;rw[hu] at hf;have:=World.ownsRow.cells h.row (g:=g) rfl (i*sz+j) u hf;have hplain:(⟨g,0,none⟩:Addr).add (i*sz+j)=⟨g,0+i*sz+j,none⟩:=by unfold Addr.add;split<;>simp_all<;>omega
  rw[hplain] at this;exact this
theorem qO (w:World) (base:Nat) (t ty e:TypeId) (i:TypeInfo) (size c:Nat) (ht:Tryz.prog.underlying t=some (.slice e)) (hi:Tryz.prog.info? e=some i)
  (v:Value) (n:Nat) (xs:List Value) (hown:w.ownsRow base e size v n xs) :
  (Builtin.append_ #[t,t] ty #[v,.slice none 0 c]).run Tryz.prog w=.ok v w:=by
 rcases hown.2 with ⟨rfl,rfl⟩|⟨g,cap,cur,rfl,_,_,hnc,_⟩
 ·simp[Builtin.append_,run_underlying ht,sizeOf,typeInfo,hi,Builtin.lenOf,Builtin.firstCells]
 ·simp[Builtin.append_,run_underlying ht,sizeOf,typeInfo,hi,Builtin.lenOf,Builtin.firstCells,hnc,storeCells]
section
variable {ops:Array Oper} {rest:List Oper} {o:Oper} {act:Act} {Q:Exit→Act→World→Prop}
theorem vF (hgd:o.guard=none) (s x:Operand) (t:TypeId) (ho:o.op=.call { callee:=.builtin .append,args:=#[s,x],argTypes:=#[t,t] })
  {w:World} (base:Nat) (e:TypeId) (i:TypeInfo) (size c:Nat) (ht:Tryz.prog.underlying t=some (.slice e)) (hi:Tryz.prog.info? e=some i)
  (v:Value) (n:Nat) (xs:List Value) (hs:act.eval s=v) (hown:w.ownsRow base e size v n xs) (hx:act.eval x=.slice none 0 c)
  (h:wpList Tryz.prog ops Q rest (act.put o.dst v) w):wpList Tryz.prog ops Q (o::rest) act w:=by
 refine wpList_plain hgd fun K hK=>?_
 have hrun:=qO w base t o.type e i size c ht hi v n xs hown;unfold Oper.wp;simp[execOp,ho,resolve,invoke,builtin,hs,hx,hrun,Result.andThen];exact hK _ _ h
end
section
variable {ops:Array Oper} {rest:List Oper} {o:Oper} {act:Act} {Q:Exit→Act→World→Prop}
theorem jI {e ts:TypeId} {sz nb:Nat} {z:Value} (inf:(Tryz.prog.info? e).map (fun i=>(i.zero,i.size,i.bytes))=some (some z,sz,nb)) (hz:z.cells.size=sz) (h0:0<sz) (hnb:nb≤1000) (ut:Tryz.prog.underlying ts=some (.slice e))
  (hgd:o.guard=none) (s x:Operand) (ho:o.op=.call { callee:=.builtin .append,args:=#[s,x],argTypes:=#[ts,ts] })
  {base:Nat} {w0 wr:World} {v:Value} {xs:List (List Value)} (ys:List (List Value)) (hs:act.eval s=v) (hown:zR e sz base wr v xs) (hb:Below base w0 wr) (hbase:base≤wr.heap.size)
  (ad:Addr) (m c:Nat) (hm:ys.length=m) (hx:act.eval x=.slice (some ad) m c) (hy:∀r∈ys,r.length=sz) (hnews:∀j u,ys.flatten[j]?=some u→wr.cell? (ad.add j)=some u) (h1:∀r∈ys,∀u∈r,u.oneCell'=true)
  (hl:xs.length+m≤1000000000)
  (h:∀v' w',zR e sz base w' v' (xs++ys)→Below base w0 w'→base≤w'.heap.size→wr.grownBy w' v.ownBlock→wpList Tryz.prog ops Q rest (act.put o.dst v') w') :
  wpList Tryz.prog ops Q (o::rest) act wr:=by
 obtain⟨i0,hi,hz0,hz1,hz2⟩:=info_parts inf;subst hm
 refine wpList_append_own _ hgd s x ts ho base e i0 z sz nb ut hi hz0 hz1 hz2 hz h0 v xs.length _ hs hown.row ad ys.length c ys.flatten hx (flat_length ys hy)
  hnews (fun u hu=>?_) (by unfold maxLen;omega) ?_ hbase (fun v' w' hown' hgrow _=>?_)
 ·obtain⟨r,hr,hur⟩:=List.mem_flatten.1 hu
  exact h1 r hr u hur
 ·calc (xs.length+ys.length)*nb≤1000000000*1000:=Nat.mul_le_mul hl hnb
   _≤_:=by omega
 ·refine h v' w' ⟨?_,?_⟩ (hb.grown hgrow hbase (fun k hk=>(World.ownsRow.lt hown.row k hk).1)) (by have:=hgrow.size;omega) hgrow
  ·rw[List.length_append,List.flatten_append];exact hown'
  ·intro r hr
   rcases List.mem_append.1 hr with hr|hr
   ·exact hown.len r hr
   ·exact hy r hr
end
section
variable {ops:Array Oper} {rest:List Oper} {o:Oper} {act:Act} {Q:Exit→Act→World→Prop}
theorem jH {e ts:TypeId} {sz nb:Nat} {z:Value} (inf:(Tryz.prog.info? e).map (fun i=>(i.zero,i.size,i.bytes))=some (some z,sz,nb)) (hz:z.cells.size=sz) (h0:0<sz) (hnb:nb≤1000) (ut:Tryz.prog.underlying ts=some (.slice e))
  (hgd:o.guard=none) (s x:Operand) (ho:o.op=.call { callee:=.builtin .append,args:=#[s,x],argTypes:=#[ts,ts] })
  {base:Nat} {wr:World} {v:Value} (hs:act.eval s=v) (hown:zR e sz base wr v []) (hbase:base≤wr.heap.size)
  (a2:Option Addr) (n c:Nat) (hx:act.eval x=.slice a2 n c) (ys:List (List Value)) (hn:ys.length=n) (hy:Rows wr.heap.size wr a2 sz ys) (hlen:∀r∈ys,r.length=sz) (h1:∀r∈ys,∀u∈r,u.oneCell'=true)
  (hl:ys.length≤1000000000)
  (h:∀v' w',zR e sz base w' v' ys→Below base wr w'→base≤w'.heap.size→wpList Tryz.prog ops Q rest (act.put o.dst v') w') :
  wpList Tryz.prog ops Q (o::rest) act wr:=by
 obtain⟨i0,hi,hz0,hz1,hz2⟩:=info_parts inf;subst hn;have hb0:=Below.refl base wr
 rcases hy with h2|⟨b,off,rfl,hlt,hc⟩
 ·subst h2
  cases a2 with
  | none=>exact vF hgd s x ts ho base e i0 sz c ut hi v _ _ hs hown.row hx (h v wr hown hb0 hbase)
  | some ad =>
   refine jI inf hz h0 hnb ut hgd s x ho (xs:=[]) [] hs hown hb0 hbase ad 0 c rfl hx (by simp) (by simp) (by simp) (by simp) (fun v' w' h3 h4 h5 _=>h v' w' h3 h4 h5)
 ·refine jI inf hz h0 hnb ut hgd s x ho (xs:=[]) ys hs hown hb0 hbase ⟨b,off,none⟩ ys.length c rfl hx hlen (fun j u hj=>?_) h1 (by simpa using hl) (fun v' w' h3 h4 h5 _=>h v' w' h3 h4 h5)
  have hfl:=flat_length ys hlen
  have hjl:j<ys.length*sz:=by
   rcases Nat.lt_or_ge j (ys.length*sz) with h|h
   ·exact h
   ·rw[List.getElem?_eq_none (by omega)] at hj;cases hj
  have hq:j / sz<ys.length:=(Nat.div_lt_iff_lt_mul h0).2 hjl;have hr:j % sz<sz:=Nat.mod_lt _ h0;have hjj:j / sz*sz+j % sz=j:=by rw[Nat.mul_comm];exact Nat.div_add_mod j sz
  have hg:=flat_get ys hlen (j / sz) (j % sz) hq hr;rw[hjj,hj] at hg;have:=hc (j / sz) hq (j % sz) hr u hg.symm;rw[Nat.add_assoc,hjj] at this;have hplain:(⟨b,off,none⟩:Addr).add j=⟨b,off+j,none⟩:=by unfold Addr.add;split<;>simp_all
  rw[hplain];exact this
end
section
variable {ops:Array Oper} {rest:List Oper} {o:Oper} {act:Act} {Q:Exit→Act→World→Prop}
end
theorem zR.madeG {W:World} (e:TypeId) (sz g:Nat) (hg:g=W.heap.size):zR e sz g (W.alloc (.cells #[] e)) (.slice (some ⟨g,0,none⟩) 0 0) []:=by
 subst hg;exact zR.made e sz W
theorem zR.alloc {e:TypeId} {sz base:Nat} {w:World} {v:Value} {rs:List (List Value)} (h:zR e sz base w v rs) (o:Obj):zR e sz base (w.alloc o) v rs:=h.below ((Below.refl _ _).alloc (Nat.le_refl _) o)
theorem zR.setCell {e:TypeId} {sz base:Nat} {w:World} {v:Value} {rs:List (List Value)} (h:zR e sz base w v rs) {p:Addr} (hp:p.block<base) (u:Value):zR e sz base (w.setCell p u) v rs:=by
 refine⟨⟨h.row.1,?_⟩,h.len⟩
 rcases h.row.2 with h0|⟨g,cap,cur,hv,hg,hh,rest⟩
 ·exact .inl h0
 ·exact .inr ⟨g,cap,cur,hv,hg,(Below.heap_setCell w p u g (by omega)).trans hh,rest⟩
end Stk
namespace Stk
open Go.RowKit
structure Fr where
 (op ba re:Int)
 de:Bool
def Fr.v (f:Fr):List Value:=[.int .i64 f.op,.int .i64 f.ba,.int .i64 f.re,.bool f.de]
def Fr.none:Fr:=⟨0,0,0,false⟩
def opens (op:Int):Bool:=decide (op=2)||decide (op=3)||decide (op=4)||decide (op=5)
def yD (r:Int):Bool:=decide (r<0)||decide (1<r)
def YA (h b:Int) (f:Fr):Bool:=!opens f.op||decide (f.ba<b)||decide (h<f.ba)||yD f.re
def jK (h:Int):Int→List Fr→Bool
 | _,[]=>false
 | b,f::l=>YA h b f||jK h f.ba l
def jU (f:Fr):Bool:=decide (f.op≠0)||decide (f.ba≠0)||yD f.re
def jB (h:Int):List Fr→Bool
 | []=>true
 | f::l=>decide (1000<l.length+1)||(jU f||jK h 0 l)
def valid (h:Int) (l:List Fr):Bool:=decide (0≤h)&&decide (h≤1073741824)&&!jB h l
def chk (h:Int) (l:List Fr):Int:=if valid h l then 0 else 2
def zl (l:List Fr):Fr:=l.getD (l.length-1) Fr.none
structure R where
 h:Int
 l:List Fr
 e:Int
def bad (e:Int):R:=⟨0,[],e⟩
def vT (r:Int):R:=if yD r then bad 2 else ⟨0,[⟨0,0,r,false⟩],0⟩
def ji (h:Int) (l:List Fr) (n:Int):R:=if valid h l=false then bad 2 else if n<0 then bad 2 else if 1073741824-h<n then bad 8 else ⟨h+n,l,0⟩
def without (h n:Int) (f:Fr):Int×Int:=if h-f.ba<n∧f.de=false then (0,200) else (if f.ba≤h-n then h-n else f.ba,0)
def vP (h:Int) (l:List Fr) (n:Int):R:=if valid h l=false then bad 2 else if n<0 then bad 2 else if (without h n (zl l)).2=0 then ⟨(without h n (zl l)).1,l,0⟩ else bad (without h n (zl l)).2
def qM (h:Int) (l:List Fr):R:=if valid h l=false then bad 2 else ⟨(zl l).ba,l.set (l.length-1) { zl l with de:=true },0⟩
def yu (h:Int) (l:List Fr) (op r:Int):R:=if valid h l=false then bad 2 else if opens op=false∨yD r=true then bad 2 else if l.length=1000 then bad 8 else ⟨h,l++[⟨op,h,r,false⟩],0⟩
def yl (h:Int) (l:List Fr):R :=
 if valid h l=false then bad 2 else if (without h (zl l).re (zl l)).2≠0 then bad (without h (zl l).re (zl l)).2 else if (zl l).ba<(without h (zl l).re (zl l)).1 then bad 201
 else ⟨(without h (zl l).re (zl l)).1+(zl l).re,l.take (l.length-1),0⟩
def yW (h:Int) (l:List Fr) (n:Int):Int×Int :=
 if valid h l=false then (0,2) else if n<0∨(l.length:Int)≤n then (0,6) else if (l.getD (l.length-1-n.toNat) Fr.none).op=3 then (0,0) else ((l.getD (l.length-1-n.toNat) Fr.none).re,0)
theorem yK {h:Int} {l:List Fr} (hv:valid h l=true):0≤h∧h≤1073741824∧l≠[]∧l.length≤1000:=by
 unfold valid at hv;simp only[Bool.and_eq_true,decide_eq_true_eq,Bool.not_eq_true'] at hv;obtain⟨⟨h1,h2⟩,h3⟩:=hv
 cases l with
 | nil=>simp[jB] at h3
 | cons f l =>
  simp only[jB,Bool.or_eq_false_iff,decide_eq_false_iff_not] at h3;exact⟨h1,h2,by simp,by simp;omega⟩
theorem zD8 {h b:Int} {f:Fr} (hv:YA h b f=false):opens f.op=true∧b≤f.ba∧f.ba≤h∧0≤f.re∧f.re≤1:=by
 unfold YA yD at hv;simp only[Bool.or_eq_false_iff,decide_eq_false_iff_not,Bool.not_eq_false',Int.not_lt] at hv;obtain⟨⟨⟨h1,h2⟩,h3⟩,h4,h5⟩:=hv;exact⟨h1,h2,h3,h4,h5⟩
def zFZ (h:Int) (f:Fr):Prop:=0≤f.ba∧f.ba≤h∧0≤f.re∧f.re≤1
theorem zEN {h:Int}:∀ {b:Int} {l:List Fr},0≤b→jK h b l=false→∀f∈l,zFZ h f
 | _,[],_,_,f,hf=>by simp at hf
 | b,g::l,hb,hv,f,hf=>by
  simp only[jK,Bool.or_eq_false_iff] at hv;obtain⟨h1,h2,h3,h4,h5⟩:=zD8 hv.1
  rcases List.mem_cons.1 hf with rfl|hf
  ·exact⟨by omega,h3,h4,h5⟩
  ·exact zEN (by omega) hv.2 f hf
theorem uM {h:Int} {l:List Fr} (hv:valid h l=true):∀f∈l,zFZ h f:=by
 have ⟨h1,_⟩:=yK hv;unfold valid at hv;simp only[Bool.and_eq_true,decide_eq_true_eq,Bool.not_eq_true'] at hv;obtain⟨_,h3⟩:=hv
 cases l with
 | nil=>simp
 | cons g l =>
  simp only[jB,Bool.or_eq_false_iff,jU,yD,decide_eq_false_iff_not,Int.not_lt,ne_eq,Decidable.not_not] at h3;obtain⟨_,⟨⟨h4,h5⟩,h6,h7⟩,h8⟩:=h3;intro f hf
  rcases List.mem_cons.1 hf with rfl|hf
  ·exact⟨by omega,by omega,h6,h7⟩
  ·exact zEN (by omega) h8 f hf
theorem zFA {l:List Fr} (h:l≠[]):zl l∈l:=by
 have hl:0<l.length:=List.length_pos_iff.2 h;unfold zl;rw[List.getD_eq_getElem?_getD,List.getElem?_eq_getElem (by omega)];exact List.getElem_mem _
theorem ki {h:Int} {l:List Fr} (hv:valid h l=true):zFZ h (zl l):=uM hv _ (zFA (yK hv).2.2.1)
theorem zHt {h b:Int} {l:List Fr} {k:Nat} (hk:k<l.length):jK h b (l.drop k)=(YA h b l[k]||jK h l[k].ba (l.drop (k+1))):=by
 rw[List.drop_eq_getElem_cons hk];rfl
end Stk
namespace Instr
open Go.RowKit
def qW:List Int:=[0,0,0,0,0,0,0,0,0,0,0,0,0,0,0,0,0,0,0,0,0,0,0,0,0,0,1,3,0,0,0,0,0,1,1,0,1,0,0,0,1,0,0,0,1,1,1,1,0,0,0,0,0,0,2,0,0,0,2,2,0,0,0,0,1,0]
def qT:List Int:=[0,0,0,0,0,0,0,0,0,0,0,0,0,0,0,0,0,0,0,0,0,0,0,0,0,0,0,1,0,0,0,0,1,0,1,1,0,0,0,0,1,0,0,0,1,1,1,1,0,0,0,0,0,0,0,0,0,0,0,0,0,0,0,1,1,1]
def vz:List Bool:=[false,true,false,false,false,false,false,false,false,false,false,false,false,false,false,false,false,false,false,false,false,false,false,false,false,false,true,true,false,false,false,false,true,true,true,true,true,false,false,false,true,false,false,false,true,true,true,true,false,false,false,false,false,false,true,false,false,false,true,true,false,false,false,true,true,true]
def jM:List Value:=(List.range 66).flatMap fun j=>[.int .u8 (qW.getD j 0),.int .u8 (qT.getD j 0),.bool (vz.getD j false)]
def uG:List (Nat×Value):=[(1,.agg #[.int .u8 0,.int .u8 0,.bool true]),(26,.agg #[.int .u8 1,.int .u8 0,.bool true]),(27,.agg #[.int .u8 3,.int .u8 1,.bool true]),(32,.agg #[.int .u8 0,.int .u8 1,.bool true]),(33,.agg #[.int .u8 1,.int .u8 0,.bool true]),(34,.agg #[.int .u8 1,.int .u8 1,.bool true]),(35,.agg #[.int .u8 0,.int .u8 1,.bool true]),(36,.agg #[.int .u8 1,.int .u8 0,.bool true]),(40,.agg #[.int .u8 1,.int .u8 1,.bool true]),(44,.agg #[.int .u8 1,.int .u8 1,.bool true]),(45,.agg #[.int .u8 1,.int .u8 1,.bool true]),(46,.agg #[.int .u8 1,.int .u8 1,.bool true]),(47,.agg #[.int .u8 1,.int .u8 1,.bool true]),(54,.agg #[.int .u8 2,.int .u8 0,.bool true]),(58,.agg #[.int .u8 2,.int .u8 0,.bool true]),(59,.agg #[.int .u8 2,.int .u8 0,.bool true]),(63,.agg #[.int .u8 0,.int .u8 1,.bool true]),(64,.agg #[.int .u8 1,.int .u8 1,.bool true]),(65,.agg #[.int .u8 0,.int .u8 1,.bool true])]
theorem JM:Tryz.prog.built 395 uG=some jM.toArray:=by kernel_rfl
theorem zAH:((List.range 66).map fun j=>(jM[j*3]?,jM[j*3+1]?,jM[j*3+2]?))=(List.range 66).map fun j=>(some (.int .u8 (qW.getD j 0)),some (.int .u8 (qT.getD j 0)),some (.bool (vz.getD j false))):=by kernel_rfl
theorem zAS (j:Nat) (h:j<66):jM[j*3]?=some (.int .u8 (qW.getD j 0))∧jM[j*3+1]?=some (.int .u8 (qT.getD j 0))∧jM[j*3+2]?=some (.bool (vz.getD j false)):=by
 have h1:=(List.map_inj_left.1 zAH) j (List.mem_range.2 h);simp only[Prod.mk.injEq] at h1;exact h1
def vO (op:Int):Int:=if 0≤op∧op<66 then qW.getD op.toNat 0 else 0
def kJ (op:Int):Int:=if 0≤op∧op<66 then qT.getD op.toNat 0 else 0
def Yr (op:Int):Bool:=if 0≤op∧op<66 then vz.getD op.toNat false else false
section
variable {ops:Array Oper} {rest:List Oper} {o:Oper} {act:Act} {w:World} {Q:Exit→Act→World→Prop}
theorem YN (hgd:o.guard=none) (parts:Array (Nat×Operand)) (ho:o.op=.build 395 parts) (he:(parts.map fun (i,x)=>(i,act.eval x)).toList=uG)
  (h:∀C:Array Value,C=jM.toArray→wpList Tryz.prog ops Q rest (act.put o.dst (.agg C)) w):wpList Tryz.prog ops Q (o::rest) act w:=by
 refine wpList_build hgd 395 parts ho ?_ ?_
 ·rw[he,JM];rfl
 ·rw[he,JM];exact h _ rfl
end
theorem zBp:Tryz.zeroCells395.size=198:=by kernel_rfl
theorem zBa:(Tryz.prog.info? 395).map (·.size)=some 198:=by kernel_rfl
theorem zH4:jM.toArray.all (·.oneCell')=true:=by kernel_rfl
theorem zC8 (op:Int) (w:World) (h0:0≤op) (h1:op<66) (x y:Int) (z:Bool) (hx:qW.getD op.toNat 0=x) (hy:qT.getD op.toNat 0=y) (hz:vz.getD op.toNat false=z) :
  Calls Tryz.prog 324 #[.int .i64 op] w fun e w'=>e=.returned (.agg #[.int .u8 x,.int .u8 y,.bool z])∧Below w.heap.size w w':=by
 have hc:=zAS op.toNat (by omega);simp only[hx,hy,hz] at hc;have HC:=hid hc;clear hc hx hy hz
 go_enter Tryz.func324,Tryz.ntmps324
 go_wp2_with (refine YN rfl _ rfl (by simp[uG,go_sem]) ?_;intro C hC;replace hC:=hid hC;refine Hid.out ?_)
 refine hid ?_;have hs:C.size=198:=by rw[hC.out];kernel_rfl
 have ha:C.all (·.oneCell')=true:=by rw[hC.out];exact zH4
 have hc0:C[op.toNat*3]?=some (.int .u8 x):=by rw[hC.out];simpa using HC.out.1
 have hc1:C[op.toNat*3+1]?=some (.int .u8 y):=by rw[hC.out];simpa using HC.out.2.1
 have hc2:C[op.toNat*3+2]?=some (.bool z):=by rw[hC.out];simpa using HC.out.2.2
 clear HC hC;have hst:=run_storeAt_new (P:=Tryz.prog) (w.alloc (.cells #[.int .u8 0,.int .u8 0,.bool false] 376)) 395 Tryz.zeroCells395 C (by rw[zBa,hs]) (by rw[zBp,hs]) ha;have hst2:=run_storeCells_new (P:=Tryz.prog) (w.alloc (.cells #[.int .u8 0,.int .u8 0,.bool false] 376)) 395 Tryz.zeroCells395 C (by rw[zBa,hs]) (by rw[zBp,hs]) ha;rw[World.size_alloc] at hst hst2;clear ha;go_wp2;refine bodyPost_ret (v:=.agg #[.int .u8 x,.int .u8 y,.bool z]) (by simp[results,Tryz.f324,go_sem]) rfl ?_;exact⟨rfl,zC (zC (Below.refl _ _) _) _⟩
theorem zCB (op:Int) (w:World) (h:op<0∨66≤op) :
  Calls Tryz.prog 324 #[.int .i64 op] w fun e w'=>e=.returned (.agg #[.int .u8 0,.int .u8 0,.bool false])∧Below w.heap.size w w':=by
 rcases h with h|h
 all_goals
  go_enter Tryz.func324,Tryz.ntmps324
  go_wp2_with (refine YN rfl _ rfl (by simp[uG,go_sem]) ?_;intro C hC;replace hC:=hid hC;refine Hid.out ?_)
  refine hid ?_;have hs:C.size=198:=by rw[hC.out];kernel_rfl
  have ha:C.all (·.oneCell')=true:=by rw[hC.out];exact zH4
  clear hC;have hst:=run_storeAt_new (P:=Tryz.prog) (w.alloc (.cells #[.int .u8 0,.int .u8 0,.bool false] 376)) 395 Tryz.zeroCells395 C (by rw[zBa,hs]) (by rw[zBp,hs]) ha;have hst2:=run_storeCells_new (P:=Tryz.prog) (w.alloc (.cells #[.int .u8 0,.int .u8 0,.bool false] 376)) 395 Tryz.zeroCells395 C (by rw[zBa,hs]) (by rw[zBp,hs]) ha;rw[World.size_alloc] at hst hst2;clear ha;go_wp2;refine bodyPost_ret (v:=.agg #[.int .u8 0,.int .u8 0,.bool false]) (by simp[results,Tryz.f324,go_sem]) rfl ?_;exact⟨rfl,zC (zC (Below.refl _ _) _) _⟩
theorem zCZ (op:Int) (w:World) :
  Calls Tryz.prog 324 #[.int .i64 op] w fun e w'=>e=.returned (.agg #[.int .u8 (vO op),.int .u8 (kJ op),.bool (Yr op)])∧Below w.heap.size w w':=by
 unfold vO kJ Yr
 by_cases h:0≤op∧op<66
 ·rw[if_pos h,if_pos h,if_pos h]
  exact zC8 op w h.1 h.2 _ _ _ rfl rfl rfl
 ·rw[if_neg h,if_neg h,if_neg h]
  exact zCB op w (by omega)
def yc (op:Int):Int:=if 0<Num.arity op then Num.arity op else vO op
def yg (op:Int):Int:=if 0<Num.arity op then 1 else kJ op
def Jt (op:Int):Bool:=if 0<Num.arity op then true else Yr op
theorem uV (op:Int):0≤vO op∧vO op≤3:=by
 unfold vO
 split
 ·have:∀j:Fin 66,0≤qW.getD j.val 0∧qW.getD j.val 0≤3:=by decide +kernel
  exact this ⟨op.toNat,by omega⟩
 ·omega
theorem Zg (op:Int):0≤kJ op∧kJ op≤1:=by
 unfold kJ
 split
 ·have:∀j:Fin 66,0≤qT.getD j.val 0∧qT.getD j.val 0≤1:=by decide +kernel
  exact this ⟨op.toNat,by omega⟩
 ·omega
theorem zFN (op:Int) (w:World) (hT:Num.ZX w) :
  Calls Tryz.prog 286 #[.int .i64 op] w fun e w'=>e=.returned (.tuple #[.int .i64 (yc op),.int .i64 (yg op),.bool (Jt op)])∧Below w.heap.size w w':=by
 have CN:=Num.zEn op w hT;have CS:=zCZ op w;have hr:=uV op;have hr2:=Zg op;unfold yc yg Jt;obtain⟨n,hn⟩:∃n,Num.arity op=n:=⟨_,rfl⟩;obtain⟨x,hx⟩:∃x,vO op=x:=⟨_,rfl⟩;obtain⟨y,hy⟩:∃y,kJ op=y:=⟨_,rfl⟩;obtain⟨z,hz⟩:∃z,Yr op=z:=⟨_,rfl⟩;rw[hn] at CN;rw[hx,hy,hz] at CS;rw[hx] at hr;rw[hy] at hr2;rw[hn,hx,hy,hz];obtain⟨r0,r1⟩:=hr;obtain⟨r2,r3⟩:=hr2;clear hn hx hy hz hT;have C:=hid CN;have D:=hid CS;clear CN CS
 by_cases h:0<n
 ·rw[if_pos h,if_pos h,if_pos h]
  clear D
  go_enter Tryz.func286,Tryz.ntmps286
  go_wp2_with fail
  refine C.out.mono ?_;clear C;rintro e w1 ⟨rfl,rfl⟩;go_wp2
  go_ret3
  exact⟨rfl,Below.refl _ _⟩
 ·rw[if_neg h,if_neg h,if_neg h]
  have h':n≤0:=by omega
  clear h
  go_enter Tryz.func286,Tryz.ntmps286
  go_wp2_with fail
  refine C.out.mono ?_;clear C;rintro e w1 ⟨rfl,rfl⟩
  go_wp2_with fail
  refine D.out.mono ?_;clear D;rintro e w1 ⟨rfl,hb⟩
  go_wp2_with fail
  go_quiet (fail)
  go_wp2
  go_ret3
  exact⟨rfl,drewN (zC hb _)⟩
end Instr
namespace Val
open Go.RowKit Instr Mod
open Stk (Fr R ji vP qM yu yl yW vT)
structure St where
 h:Int
 l:List Fr
 cnt:Int
 at_:Int
 er:Int
def St.put (s:St) (r:R):St:=⟨r.h,r.l,s.cnt,s.at_,r.e⟩
def zv (e:Int) (s:St):St:=if s.er=0 then ⟨s.h,s.l,s.cnt,s.at_,e⟩ else s
def qL (n:Int) (s:St):St:=if s.er=0 then s.put (ji s.h s.l n) else s
def zx (n:Int) (s:St):St:=if s.er=0 then s.put (vP s.h s.l n) else s
def jl (s:St):St:=if s.er=0 then s.put (qM s.h s.l) else s
def yI (op re:Int) (s:St):St:=if s.er=0 then s.put (yu s.h s.l op re) else s
def jo (own:Int) (s:St):St:=if s.er=0 then St.put ⟨s.h,s.l,s.cnt,own,s.er⟩ (yl s.h s.l) else s
def ze (n:Int) (s:St):Int×St:=if s.er=0 then ((yW s.h s.l n).1,zv (yW s.h s.l n).2 s) else (0,s)
def j0 (k:Int):List Int→Bool→St→Bool×St
 | [],b,s=>(b,s)
 | t::r,b,s=>j0 k r (decide ((ze t s).1=k)&&b) (ze t s).2
def jD (tags:List Int) (last:Int) (s:St):St :=
 if (j0 (ze last s).1 tags true (ze last s).2).1 then (j0 (ze last s).1 tags true (ze last s).2).2 else zv 214 (j0 (ze last s).1 tags true (ze last s).2).2
def brS (a:Int) (s:St):St:=jl (zx (ze a s).1 (ze a s).2)
def zA9 (a:Int) (s:St):St:=qL (ze a s).1 (zx (ze a s).1 (zx 1 (ze a s).2))
def zT (m:Md) (x:Ix):(Int×Int)×Bool :=
 if x.op=16 then m.typeOf x.a.toNat else if m.tb.length=0∨(m.ty.length:Int)≤x.a then ((0,0),false) else (m.ty.getD x.a.toNat (0,0),true)
def zP (m:Md) (lo:Int) (x:Ix):Int :=
 if x.op=16∨x.op=17 then (if (zT m x).2 then 0 else 6)
 else if x.op=32∨x.op=33∨x.op=34 then (if x.a<lo then 0 else 6)
 else if x.op=35∨x.op=36 then (if x.a<(m.gl.length:Int) then (if x.op=36∧(m.gl.map (·.mu)).getD x.a.toNat false=false then 212 else 0) else 6)
 else if zS x.op then (if m.me.length=0 then 6 else if zf x.op<x.a then 211 else 0)
 else if x.op=63∨x.op=64 then (if m.me.length=0 then 6 else 0) else 0
def Zd (t:Int×Int) (s:St):St:=qL t.2 (zx t.1 s)
def St.back (s b:St):St:=⟨b.h,b.l,s.cnt,s.at_,s.er⟩
def kH (re:Int) (L E:St→St) (s:St):St:=E (yI 5 re ((L (yI 4 re (zx 1 s))).back (zx 1 s)))
def opS (m:Md) (re:Int) (x:Ix) (L E:St→St) (s:St):St :=
 if x.op=0 then jl s
 else if x.op=2∨x.op=3 then L (yI x.op x.res s)
 else if x.op=4 then kH x.res L E s
 else if x.op=14 then brS x.a (zx 1 (jD x.tags x.a s))
 else if x.op=12 then brS x.a s
 else if x.op=13 then zA9 x.a s
 else if x.op=15 then jl (zx re s)
 else if x.op=17 then Zd (zT m x).1 (zx 1 s)
 else if x.op=16 then Zd (zT m x).1 s
 else qL (yg x.op) (zx (yc x.op) s)
def yh (m:Md) (lo re:Int) (x:Ix) (L E:St→St) (s:St):St:=opS m re x L E (zv (zP m lo x) s)
def St.next (s:St):St:=⟨s.h,s.l,s.cnt+1,s.cnt+1,s.er⟩
def uP (m:Md) (lo re:Int):Il→St→St
 | .nil,s=>s
 | .cons x l e r,s=>if s.er=0 then uP m lo re r (yh m lo re x (fun s=>jo s.at_ (uP m lo re l s)) (fun s=>jo s.at_ (uP m lo re e s)) s.next) else s
def zK (m:Md) (lo re:Int) (t:Il) (s:St):St:=jo s.at_ (uP m lo re t s)
theorem kO (m:Md) (lo re:Int) (x:Ix) (l e r:Il) (s:St):uP m lo re (.cons x l e r) s=if s.er=0 then uP m lo re r (yh m lo re x (zK m lo re l) (zK m lo re e) s.next) else s:=rfl
theorem zBk (m:Md) (lo re:Int) (t:Il) (s:St) (h:s.er≠0):uP m lo re t s=s:=by
 cases t with
 | nil=>rfl
 | cons x l e r=>rw[kO,if_neg h]
def uI (re:Int):St:=⟨(vT re).h,(vT re).l,0,0,(vT re).e⟩
def Md.bodyP (m:Md) (n:Nat):Int×Int :=
 if (m.typeOf (m.im.length+n)).2=false then (6,0)
 else
  let f:=m.fu.getD n ⟨0,0,⟨none,0,.nil⟩⟩
  let t:=(m.typeOf (m.im.length+n)).1
  let s:=zK m (t.1+f.lo) t.2 f.l.t (uI t.2)
  (s.er,s.at_)
def Md.body (m:Md) (n:Int):Int×Int:=if m.check≠0 then (m.check,0) else if n<0∨(m.fu.length:Int)≤n then (6,0) else bodyP m n.toNat
theorem jE (e:Int) (s:St):(zv e s).cnt=s.cnt:=by unfold zv;split<;>rfl
theorem Yg (e:Int) (s:St):(qL e s).cnt=s.cnt:=by unfold qL;split<;>rfl
theorem jW (e:Int) (s:St):(zx e s).cnt=s.cnt:=by unfold zx;split<;>rfl
theorem Yu (s:St):(jl s).cnt=s.cnt:=by unfold jl;split<;>rfl
theorem yY (o e:Int) (s:St):(yI o e s).cnt=s.cnt:=by unfold yI;split<;>rfl
theorem Z6 (e:Int) (s:St):(jo e s).cnt=s.cnt:=by unfold jo;split<;>rfl
theorem uO (n:Int) (s:St):(ze n s).2.cnt=s.cnt:=by unfold ze;split<;>simp[jE]
theorem zA7 (k:Int):∀(l:List Int) (b:Bool) (s:St),(j0 k l b s).2.cnt=s.cnt
 | [],_,_=>rfl
 | t::r,b,s=>by rw[j0,zA7 k r,uO]
theorem zDs (tags:List Int) (last:Int) (s:St):(jD tags last s).cnt=s.cnt:=by unfold jD;split<;>simp[jE,zA7,uO]
theorem zEE (a:Int) (s:St):(brS a s).cnt=s.cnt:=by simp[brS,Yu,jW,uO]
theorem zEo (a:Int) (s:St):(zA9 a s).cnt=s.cnt:=by simp[zA9,Yg,jW,uO]
theorem zAo (t:Int×Int) (s:St):(Zd t s).cnt=s.cnt:=by simp[Zd,Yg,jW]
theorem zBG {m:Md} {re:Int} {x:Ix} {L E:St→St} {a b:Int} (ha:0≤a) (hb:0≤b) (hL:∀s,s.cnt≤(L s).cnt∧(L s).cnt≤s.cnt+a) (hE:∀s,s.cnt≤(E s).cnt∧(E s).cnt≤s.cnt+b) (s:St):s.cnt≤(opS m re x L E s).cnt∧(opS m re x L E s).cnt≤s.cnt+a+b:=by
 have h0:∀s':St,s'.cnt=s.cnt→s.cnt≤s'.cnt∧s'.cnt≤s.cnt+a+b:=fun s' h=>by omega
 unfold opS
 split;· exact h0 _ (Yu _)
 split
 ·have:=hL (yI x.op x.res s);rw[yY] at this;omega
 split
 ·unfold kH
  have h1:=hE (yI 5 x.res ((L (yI 4 x.res (zx 1 s))).back (zx 1 s)));have h2:=hL (yI 4 x.res (zx 1 s));rw[yY] at h1 h2;rw[jW] at h2;have h3:((L (yI 4 x.res (zx 1 s))).back (zx 1 s)).cnt=(L (yI 4 x.res (zx 1 s))).cnt:=rfl;omega
 split;· exact h0 _ (by rw[zEE,jW,zDs])
 split;· exact h0 _ (zEE _ _)
 split;· exact h0 _ (zEo _ _)
 split;· exact h0 _ (by rw[Yu,jW])
 split;· exact h0 _ (by rw[zAo,jW])
 split;· exact h0 _ (zAo _ _)
 exact h0 _ (by rw[Yg,jW])
theorem uo (m:Md) (lo re:Int):∀(t:Il) (s:St),s.cnt≤(uP m lo re t s).cnt∧(uP m lo re t s).cnt≤s.cnt+t.count
 | .nil,s=>by simp[uP,Il.count]
 | .cons x l e r,s=>by
  rw[kO]
  split
  ·have hL:∀s,s.cnt≤(zK m lo re l s).cnt∧(zK m lo re l s).cnt≤s.cnt+l.count:=fun s=>by unfold zK;rw[Z6];exact uo m lo re l s
   have hE:∀s,s.cnt≤(zK m lo re e s).cnt∧(zK m lo re e s).cnt≤s.cnt+e.count:=fun s=>by unfold zK;rw[Z6];exact uo m lo re e s
   have h1:=uo m lo re r (yh m lo re x (zK m lo re l) (zK m lo re e) s.next);have h2:=zBG (m:=m) (re:=re) (x:=x) (by omega) (by omega) hL hE (zv (zP m lo x) s.next);rw[jE] at h2;have h3:s.next.cnt=s.cnt+1:=rfl;unfold yh at h1 ⊢;simp only[Il.count];omega
  ·simp only[Il.count];omega
theorem uB (m:Md) (lo re:Int) (t:Il) (s:St):s.cnt≤(zK m lo re t s).cnt∧(zK m lo re t s).cnt≤s.cnt+t.count:=by
 unfold zK;rw[Z6];exact uo m lo re t s
end Val
namespace Stk
open Go.RowKit
def Z8 (h:Int):Bool:=decide (h<0)||decide (1073741824<h)
theorem JV (h:Int) (w:World):Calls Tryz.prog 364 #[.int .i64 h] w fun e w'=>e=.returned (.bool (Z8 h))∧w=w':=by
 have H:Hid (Z8 h=(decide (h<0)||decide (1073741824<h))):=rfl
 by_cases g:h<0
 ·have HE:Hid (Z8 h=true):=by show _=_;rw[H.out];simp[g]
  go_enter Tryz.func364,Tryz.ntmps364
  go_wp2;go_ret;exact⟨zA HE.out.symm,rfl⟩
 ·have h':decide (h<0)=false:=by simpa using g
  have HE:Hid (Z8 h=decide (1073741824<h)):=by show _=_;rw[H.out,h',Bool.false_or]
  clear H
  go_enter Tryz.func364,Tryz.ntmps364
  go_wp2;go_ret;exact⟨zA HE.out.symm,rfl⟩
theorem jx (h:Int) (w:World):Calls Tryz.prog 241 #[.int .i64 h] w fun e w'=>e=.returned (.bool (yD h))∧w=w':=by
 have H:Hid (yD h=(decide (h<0)||decide (1<h))):=rfl
 by_cases g:h<0
 ·have HE:Hid (yD h=true):=by show _=_;rw[H.out];simp[g]
  go_enter Tryz.func241,Tryz.ntmps241
  go_wp2;go_ret;exact⟨zA HE.out.symm,rfl⟩
 ·have h':decide (h<0)=false:=by simpa using g
  have HE:Hid (yD h=decide (1<h)):=by show _=_;rw[H.out,h',Bool.false_or]
  clear H
  go_enter Tryz.func241,Tryz.ntmps241
  go_wp2;go_ret;exact⟨zA HE.out.symm,rfl⟩
theorem Zi (op:Int) (w:World):Calls Tryz.prog 342 #[.int .i64 op] w fun e w'=>e=.returned (.bool (opens op))∧w=w':=by
 have H:Hid (opens op=(decide (op=2)||decide (op=3)||decide (op=4)||decide (op=5))):=rfl
 by_cases g2:op=2
 ·have HE:Hid (opens op=true):=by show _=_;rw[H.out];simp[g2]
  subst g2;clear H
  go_enter Tryz.func342,Tryz.ntmps342
  go_wp2;go_ret;exact⟨zA HE.out.symm,rfl⟩
 by_cases g3:op=3
 ·have HE:Hid (opens op=true):=by show _=_;rw[H.out];simp[g3]
  subst g3;clear H
  go_enter Tryz.func342,Tryz.ntmps342
  go_wp2;go_ret;exact⟨zA HE.out.symm,rfl⟩
 by_cases g4:op=4
 ·have HE:Hid (opens op=true):=by show _=_;rw[H.out];simp[g4]
  subst g4;clear H
  go_enter Tryz.func342,Tryz.ntmps342
  go_wp2;go_ret;exact⟨zA HE.out.symm,rfl⟩
 by_cases g5:op=5
 ·have HE:Hid (opens op=true):=by show _=_;rw[H.out];simp[g5]
  subst g5;clear H
  go_enter Tryz.func342,Tryz.ntmps342
  go_wp2;go_ret;exact⟨zA HE.out.symm,rfl⟩
 have HE:Hid (opens op=false):=by show _=_;rw[H.out];simp[g2,g3,g4,g5]
 have q2:(op==2)=false:=by simp[g2]
 have q3:(op==3)=false:=by simp[g3]
 have q4:(op==4)=false:=by simp[g4]
 have q5:(op==5)=false:=by simp[g5]
 clear H
 go_enter Tryz.func342,Tryz.ntmps342
 go_wp2;go_ret;exact⟨zA HE.out.symm,rfl⟩
theorem qi {x:Int} (h0:-9223372036854775808≤x) (h1:x≤9223372036854775807):IntKind.i64.wrap x=x:=by rw[IntKind.wrap_i64];omega
theorem JC (h n:Int) (f:Fr) (w:World) (h0:0≤h) (h1:h≤1073741824) (b0:0≤f.ba) (b1:f.ba≤h) (n0:0≤n) (n1:n≤9223372036854775807) :
  Calls Tryz.prog 326 #[.int .i64 h,.int .i64 n,.agg #[.int .i64 f.op,.int .i64 f.ba,.int .i64 f.re,.bool f.de]] w fun e w'=>e=.returned (.tuple #[.int .i64 (without h n f).1,.int .i64 (without h n f).2])∧Below w.heap.size w w':=by
 have HW:Hid (without h n f=if h-f.ba<n∧f.de=false then (0,200) else (if f.ba≤h-n then h-n else f.ba,0)):=rfl
 generalize hR:without h n f=R at HW ⊢
 obtain⟨op,ba,re,de⟩:=f;dsimp only at *;clear hR;have k1:IntKind.i64.wrap (h-ba)=h-ba:=qi (by omega) (by omega);have k2:IntKind.i64.wrap (h-n)=h-n:=qi (by omega) (by omega)
 by_cases g1:h-ba<n
 ·cases de with
  | false =>
   have HR:Hid (R=(0,200)):=by show _=_;rw[HW.out];simp[g1]
   clear HW
   go_enter Tryz.func326,Tryz.ntmps326
   go_wp2;go_ret2;exact⟨by rw[HR.out];rfl,(Below.refl _ _).alloc (Nat.le_refl _) _⟩
  | true =>
   have HR:Hid (R=(ba,0)):=by show _=_;rw[HW.out];simp;omega
   clear HW
   go_enter Tryz.func326,Tryz.ntmps326
   go_wp2;go_ret2;exact⟨by rw[HR.out];simp<;>omega,(Below.refl _ _).alloc (Nat.le_refl _) _⟩
 ·have HR:Hid (R=(h-n,0)):=by show _=_;rw[HW.out,if_neg (fun h=>g1 h.1),if_pos (by omega)]
  clear HW
  go_enter Tryz.func326,Tryz.ntmps326
  go_wp2;go_ret2;exact⟨by rw[HR.out];simp<;>omega,(Below.refl _ _).alloc (Nat.le_refl _) _⟩
end Stk
namespace Stk
theorem zDl {h h' b:Int} {f:Fr} (hv:YA h b f=false) (hb:f.ba≤h'):YA h' b f=false:=by
 unfold YA at hv ⊢;simp only[Bool.or_eq_false_iff,decide_eq_false_iff_not] at hv ⊢;exact⟨⟨hv.1.1,by omega⟩,hv.2⟩
theorem zAG {h h':Int}:∀ {b:Int} {l:List Fr},jK h b l=false→(∀f∈l,f.ba≤h')→jK h' b l=false
 | _,[],_,_=>rfl
 | b,g::l,hv,hb=>by
  simp only[jK,Bool.or_eq_false_iff] at hv ⊢;exact⟨zDl hv.1 (hb g (by simp)),zAG hv.2 (fun f hf=>hb f (by simp[hf]))⟩
theorem vE {h:Int} {l:List Fr} (hv:valid h l=true):∃g r,l=g::r∧0≤h∧h≤1073741824∧r.length+1≤1000∧jU g=false∧jK h 0 r=false:=by
 unfold valid at hv;simp only[Bool.and_eq_true,decide_eq_true_eq,Bool.not_eq_true'] at hv;obtain⟨⟨h1,h2⟩,h3⟩:=hv
 cases l with
 | nil=>simp[jB] at h3
 | cons g r =>
  simp only[jB,Bool.or_eq_false_iff,decide_eq_false_iff_not] at h3;exact⟨g,r,rfl,h1,h2,by omega,h3.2.1,h3.2.2⟩
theorem uy {h:Int} {g:Fr} {r:List Fr} (h1:0≤h) (h2:h≤1073741824) (h3:r.length+1≤1000) (h4:jU g=false) (h5:jK h 0 r=false):valid h (g::r)=true:=by
 unfold valid;simp only[jB,h4,h5,Bool.or_false,Bool.and_eq_true,decide_eq_true_eq,Bool.not_eq_true',decide_eq_false_iff_not];exact⟨⟨h1,h2⟩,by omega⟩
theorem vI {h h':Int} {l:List Fr} (hv:valid h l=true) (h0:0≤h') (h1:h'≤1073741824) (hb:∀f∈l,f.ba≤h'):valid h' l=true:=by
 obtain⟨g,r,rfl,_,_,h3,h4,h5⟩:=vE hv;exact uy h0 h1 h3 h4 (zAG h5 (fun f hf=>hb f (by simp[hf])))
theorem Jn (f g:Fr) (l:List Fr):zl (f::g::l)=zl (g::l):=by
 unfold zl;simp
theorem qP (l:List Fr) (f:Fr):zl (l++[f])=f:=by
 unfold zl;simp
theorem zAt {h:Int}:∀(r:List Fr) (g:Fr),jK h g.ba r=false→g.ba≤(zl (g::r)).ba∧∀f∈r,f.ba≤(zl (g::r)).ba
 | [],g,_=>⟨by simp[zl],by simp⟩
 | f::r,g,hv=>by
  simp only[jK,Bool.or_eq_false_iff] at hv;obtain⟨_,h2,_⟩:=zD8 hv.1;obtain⟨h3,h4⟩:=zAt r f hv.2;rw[Jn];refine⟨by omega,fun x hx=>?_⟩
  rcases List.mem_cons.1 hx with rfl|hx
  ·exact h3
  ·exact h4 x hx
theorem J4 {h:Int} {l:List Fr} (hv:valid h l=true):∀f∈l,f.ba≤(zl l).ba:=by
 obtain⟨g,r,rfl,_,_,h3,h4,h5⟩:=vE hv
 have hg:g.ba=0:=by
  unfold jU at h4;simp only[Bool.or_eq_false_iff,decide_eq_false_iff_not,ne_eq,Decidable.not_not] at h4;exact h4.1.2
 rw[←hg] at h5;obtain⟨h6,h7⟩:=zAt r g h5;intro f hf
 rcases List.mem_cons.1 hf with rfl|hf
 ·exact h6
 ·exact h7 f hf
theorem Yh {h:Int}:∀(r:List Fr) (g f:Fr),jK h g.ba (r++[f])=(jK h g.ba r||YA h (zl (g::r)).ba f)
 | [],g,f=>by simp[jK,zl]
 | x::r,g,f=>by
  rw[List.cons_append];simp only[jK];rw[Yh r x f,Jn,Bool.or_assoc]
theorem JA {h:Int} {l:List Fr} {op re:Int} (d:Bool) (hv:valid h l=true) (ho:opens op=true) (hr:yD re=false) (hl:l.length<1000):valid h (l++[⟨op,h,re,d⟩])=true:=by
 have hlast:=ki hv;obtain⟨g,r,rfl,h1,h2,h3,h4,h5⟩:=vE hv
 have hg:g.ba=0:=by
  unfold jU at h4;simp only[Bool.or_eq_false_iff,decide_eq_false_iff_not,ne_eq,Decidable.not_not] at h4;exact h4.1.2
 simp only[List.length_cons] at hl;refine uy h1 h2 (by simp;omega) h4 ?_
 show jK h 0 (r++[_])=false
 rw[←hg,Yh,hg,h5,Bool.false_or];unfold YA;simp only[ho,hr,Bool.not_true,Bool.or_false,Bool.false_or,Bool.or_eq_false_iff,decide_eq_false_iff_not];exact⟨by have:=hlast.2.1;omega,by omega⟩
end Stk
namespace Mod
open Go.RowKit Instr
def qd (b:Bool) (e:Int):Int:=if b then e else 0
theorem ye (b:Bool) (e:Int) (w:World):Calls Tryz.prog 148 #[.bool b,.int .i64 e] w fun x w'=>x=.returned (.int .i64 (qd b e))∧w=w':=by
 cases b
 all_goals
  go_enter Tryz.func148,Tryz.ntmps148
  go_wp2;go_ret;exact⟨rfl,rfl⟩
theorem zHP (x y:Int):max x y=if y>x then y else x:=by split<;>omega
theorem zBx (m:Md) (w:World) (hm:zN w.heap.size w m) (hf:m.fits) :
  Calls Tryz.prog 149 #[.agg m.v] w fun e w'=>e=.returned (.bool m.crowded)∧Below w.heap.size w w':=by
 have hb0:=(Below.refl w.heap.size w).alloc (Nat.le_refl _) (.cells m.v 40);have HE:=hid (zDO m);have HR:=hid (hm.on hb0).el;have HB:=hid hb0;have HX:=hid (zB.made w m.v 40);have hl:=hf.el
 have hmx:∀(ts:Array TypeId) (t:TypeId) (w:World),Sem.run Tryz.prog (Builtin.max_ ts t #[.int .i64 (m.ty.length:Int),.int .i64 (m.im.length:Int),.int .i64 (m.fu.length:Int),.int .i64 (m.gl.length:Int),.int .i64 (m.ex.length:Int),.int .i64 (m.el.length:Int),.int .i64 (m.da.length:Int)]) w=.ok (.int .i64 m.max7) w:=by
  intro ts t w;unfold Md.max7;simp only[zHP];simp[Builtin.max_,Builtin.max2]
 obtain⟨L0,hL0⟩:∃L0,m.max7=L0:=⟨_,rfl⟩;rw[hL0] at HE hmx;unfold Md.v at HR HB HX ⊢;clear hm hf hb0 hL0
 generalize m.el'.a=a at HR HB HX ⊢
 go_enter Tryz.func149,Tryz.ntmps149
 go_wp2;clear hmx;obtain⟨n,hn⟩:∃n,m.el.length=n:=⟨_,rfl⟩;have HN:=hid hn;rw[hn] at HX HB HR hl ⊢;clear hn
 generalize w.alloc (.cells #[.slice m.ty'.a m.ty.length m.ty'.c,.slice m.im'.a m.im.length m.im'.c,.slice m.fu'.a m.fu.length m.fu'.c,.slice m.tb'.a m.tb.length m.tb'.c,.slice m.me'.a m.me.length m.me'.c,.slice m.gl'.a m.gl.length m.gl'.c,.slice m.ex'.a m.ex.length m.ex'.c,.bool m.st,.int .u32 m.sn,.slice a n m.el'.c,.slice m.da'.a m.da.length m.da'.c] 40)=W0 at HX HB HR ⊢
 go_loopw [3,31] (fun vl vi wr=>∃(k:Nat) (L:Int),vl=.int .i64 L∧vi=.int .i64 k∧k≤n∧Hid (L=ZZ (m.el.take k) L0)∧Hid (Below W0.heap.size W0 wr)) (fun _ vi _=>n-(intOf vi).toNat)
 case atStart=>exact⟨0,L0,rfl,rfl,Nat.zero_le _,rfl,Below.refl _ _⟩
 case round =>
  obtain⟨k,L,rfl,rfl,hk,HL,HW⟩:=hrel
  by_cases hlt:k<n
  ·have hkl:k<m.el.length:=by rw[HN.out];exact hlt
   obtain⟨b,off,rfl,hb,hc⟩:=Rows.get HR.out hkl;have HS:=hid (show ZZ (m.el.take (k+1)) L0=max L (m.el[k].fs.length:Int) by rw[List.take_succ_eq_append_getElem hkl,zDB,←HL.out]);obtain⟨x,hxe⟩:∃x,m.el[k]=x:=⟨_,rfl⟩;rw[hxe] at hc HS;have cc:∀j,j<2→∀v,x.v[j]?=some v→wr.cell? ⟨b,off+k*2+j,none⟩=some v:=fun j hj v hv=>(HW.out.cell (p:=⟨b,off+k*2+j,none⟩) hb).trans (hc j hj v hv)
   have c0:wr.cell? ⟨b,off+k*2,none⟩=some x.l.val:=cc 0 (by omega) _ rfl;have c1:wr.cell? ⟨b,off+k*2+1,none⟩=some (.slice x.fa x.fs.length x.fc):=cc 1 (by omega) _ rfl;have hki:(k:Int)<(n:Int):=by omega
   unfold Lst.val at c0;have HW':=hid (show Below W0.heap.size W0 (wr.alloc (.cells #[.slice x.l.a x.l.t.len x.l.c,.slice x.fa x.fs.length x.fc] 131)) from HW.out.alloc HW.out.size _);clear hxe hc cc hb
   by_cases hgt:(x.fs.length:Int)>L
   ·have HS':=hid (show (x.fs.length:Int)=ZZ (m.el.take (k+1)) L0 by rw[HS.out];omega)
    go_wp2
    go_roundw
    case rel=>first|exact⟨k+1,_,rfl,by go_num,by omega,HS',HW'⟩|exact⟨k+1,_,rfl,by go_num,by omega,hid HS.out.symm,HW'⟩
    case measure=>simp[intOf];omega
   ·have HS':=hid (show L=ZZ (m.el.take (k+1)) L0 by rw[HS.out];omega)
    go_wp2
    go_roundw
    case rel=>first|exact⟨k+1,_,rfl,by go_num,by omega,HS',HW'⟩|exact⟨k+1,_,rfl,by go_num,by omega,hid HS.out.symm,HW'⟩
    case measure=>simp[intOf];omega
  ·obtain rfl:k=n:=by omega
   have HE':=hid (show m.crowded=(decide (16384<L)||(decide (1<m.tb.length)||decide (1<m.me.length))) by rw[HE.out,HL.out,←HN.out,List.take_length]);have x3:=kP HW.out (HX.out 3 _ rfl);have x4:=kP HW.out (HX.out 4 _ rfl);have HF:=hid (HB.out.trans (HW.out.mono HB.out.size));clear HR HL HX HE HW HB
   by_cases h1:16384<L
   ·have HC:=hid (show m.crowded=true by rw[HE'.out,decide_eq_true h1,Bool.true_or])
    clear HE';go_wp2;go_ret;exact⟨zA HC.out.symm,HF.out⟩
   ·by_cases h2:(1:Int)<(m.tb.length:Int)
    ·have HC:=hid (show m.crowded=true by rw[HE'.out,decide_eq_true (show 1<m.tb.length by omega),Bool.true_or,Bool.or_true])
     clear HE';go_wp2;go_ret;exact⟨zA HC.out.symm,HF.out⟩
    ·have HC:=hid (show m.crowded=decide (1<m.me.length) by rw[HE'.out,decide_eq_false h1,decide_eq_false (show ¬1<m.tb.length by omega),Bool.false_or,Bool.false_or])
     clear HE';go_wp2;go_ret;exact⟨zA (by rw[HC.out];simp;omega),HF.out⟩
theorem zEz (l:List Da) (a:Option Addr) (n c:Nat) (w:World) (hn:l.length=n) (hr:Rows w.heap.size w a 2 (l.map Da.v)) (hl:n≤140737488351232) :
  Calls Tryz.prog 156 #[.slice a n c] w fun e w'=>e=.returned (.bool (decide (1048576<qq l)))∧Below w.heap.size w w':=by
 have HR:=hid hr;have HN:=hid hn;clear hr hn
 go_enter Tryz.func156,Tryz.ntmps156
 go_wp2
 go_loopw [3,8] (fun vl vi wr=>∃(k:Nat) (L:Int),vl=.int .i64 L∧vi=.int .i64 k∧k≤n∧0≤L∧L≤1048576∧Hid (L=1048576-(qq (l.take k):Int))∧Hid (Below w.heap.size w wr)) (fun _ vi _=>n-(intOf vi).toNat)
 case atStart=>exact⟨0,1048576,rfl,rfl,Nat.zero_le _,by omega,by omega,rfl,Below.refl _ _⟩
 case round =>
  obtain⟨k,L,rfl,rfl,hk,h0,h1,HL,HW⟩:=hrel
  by_cases hlt:k<n
  ·have hkl:k<l.length:=by rw[HN.out];exact hlt
   obtain⟨b,off,rfl,hb,hc⟩:=Rows.get HR.out hkl;have HS:=hid (Ya hkl);have HT:=hid (zAj l (k+1));obtain⟨x,hxe⟩:∃x,l[k]=x:=⟨_,rfl⟩;rw[hxe] at hc HS;have cc:∀j,j<2→∀v,x.v[j]?=some v→wr.cell? ⟨b,off+k*2+j,none⟩=some v:=fun j hj v hv=>(HW.out.cell (p:=⟨b,off+k*2+j,none⟩) hb).trans (hc j hj v hv)
   have c0:wr.cell? ⟨b,off+k*2,none⟩=some x.l.val:=cc 0 (by omega) _ rfl;have c1:wr.cell? ⟨b,off+k*2+1,none⟩=some (.slice x.ba x.bs.length x.bc):=cc 1 (by omega) _ rfl;have hki:(k:Int)<(n:Int):=by omega
   unfold Lst.val at c0;have HW':=hid (show Below w.heap.size w (wr.alloc (.cells #[.slice x.l.a x.l.t.len x.l.c,.slice x.ba x.bs.length x.bc] 146)) from HW.out.alloc HW.out.size _);clear hxe hc cc hb
   by_cases hgt:L<(x.bs.length:Int)
   ·have HC:=hid (show decide (1048576<qq l)=true by rw[decide_eq_true_eq];have:=HS.out;have:=HT.out;have:=HL.out;omega)
    go_wp2;go_ret;exact⟨zA HC.out.symm,HW'.out⟩
   ·have HL':=hid (show L-(x.bs.length:Int)=1048576-(qq (l.take (k+1)):Int) by rw[HS.out];have:=HL.out;omega)
    go_wp2
    go_roundw
    case rel=>exact⟨k+1,_,rfl,by go_num,by omega,by omega,by omega,HL',HW'⟩
    case measure=>simp[intOf];omega
  ·obtain rfl:k=n:=by omega
   have HC:=hid (show decide (1048576<qq l)=false by rw[decide_eq_false_iff_not];have:=HL.out;rw[←HN.out,List.take_length] at this;omega);go_wp2;go_ret;exact⟨zA HC.out.symm,HW.out⟩
end Mod
namespace Leb
open Go.RowKit
theorem m4:(max (0:Int) 4).toNat=4:=rfl
theorem m0:(max (0:Int) (-3)).toNat=0:=rfl
end Leb
namespace Mod
open Go.RowKit Instr
def zCf:ByteArray:=⟨#[104,111,115,116]⟩
def sF:ByteArray:=⟨#[102]⟩
end Mod
end Go.Proofs.YtdljneclfgneoaaGreatDoor
