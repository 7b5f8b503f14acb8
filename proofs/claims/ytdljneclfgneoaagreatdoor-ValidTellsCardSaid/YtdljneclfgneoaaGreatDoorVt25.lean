import Derived.Test.YtdljneclfgneoaaGreatDoorVt24
import Derived.Laws.StructEq
import Derived.Deep.Cut
import Derived.RegionTactic
import Derived.KernelRfl
set_option linter.unusedVariables false
set_option linter.ambiguousOpen false
set_option maxRecDepth 100000
set_option maxHeartbeats 8000000
namespace Go.Proofs.YtdljneclfgneoaaGreatDoor
namespace Instr
end Instr
namespace Mod
end Mod
namespace Stk
end Stk
namespace Val
open Go.RowKit Instr Mod
open Stk (Fr R ji vP qM yu yl yW vT valid zl without yD opens)
theorem Out.pop {s:St} {p:Hv×J} (o:Out s p.2) (n a:Int):Out (zx n s) (zO n a p).2:=by
 have h:s.er≠0:=by rw[o.2.1];exact o.1
 rw[vu h,ZC o.1];exact o
theorem Out.ne {s:St} {j:J} (o:Out s j):s.er≠0:=by rw[o.2.1];exact o.1
section
variable {a b:Int} {ls:List Int} {fs:List Fr} {op ba re:Int} {s:St} {p:Hv×J}
theorem Rel.tagsIn (r:Rel a b ls fs op ba re s p) (k:Int):∀(l:List Int) (q:Bool),(∀t∈l,0≤t∧t<(ls.length:Int)) →
  j0 k l q s=(q&&l.all (fun t=>decide ((zI ls t a p.2).1=k)),s)∧jG ls a l p.2=p.2
 | [],q,_=>by simp[j0,jG]
 | t::l,q,h=>by
  obtain⟨h1,h2⟩:=h t (by simp);obtain⟨e1,e2,_⟩:=r.labelIn h1 h2;obtain⟨i1,i2⟩:=r.tagsIn k l (decide ((zI ls t a p.2).1=k)&&q) (fun x hx=>h x (by simp[hx]));rw[j0,jG,e1,e2,i1,i2];refine⟨?_,rfl⟩;rw[List.all_cons]
  congr 1
  cases decide ((zI ls t a p.2).1=k)<;>cases q<;>rfl
theorem Rel.tagsOut (r:Rel a b ls fs op ba re s p) (k:Int):∀(l:List Int) (q:Bool),(∀t∈l,0≤t)→(∃t∈l,(ls.length:Int)≤t) →
  (j0 k l q s).2=zv 6 s∧jG ls a l p.2=p.2.fault 6 a
 | [],q,_,h=>by simp at h
 | t::l,q,h0,h=>by
  rw[j0,jG]
  by_cases h1:(ls.length:Int)≤t
  ·obtain⟨e1,e2⟩:=r.labelOut h1
   rw[e1,e2];exact⟨ZT _ _ _ (YQ (by simp)),zAq _ _ _ (uj (by simp))⟩
  ·obtain⟨e1,e2,_⟩:=r.labelIn (h0 t (by simp)) (by omega)
   rw[e1,e2];refine r.tagsOut k l _ (fun x hx=>h0 x (by simp[hx])) ?_;obtain⟨x,hx,h2⟩:=h
   rcases List.mem_cons.1 hx with rfl|hx
   ·exact absurd h2 h1
   ·exact⟨x,hx,h2⟩
theorem Rel.unlike (r:Rel a b ls fs op ba re s p) (k:Int):∀(l:List Int),(∀t∈l,0≤t∧t<(ls.length:Int)) →
  yO ls k a l p.2=if l.all (fun t=>decide ((zI ls t a p.2).1=k)) then p.2 else p.2.fault 214 a
 | [],_=>by simp[yO]
 | t::l,h=>by
  obtain⟨h1,h2⟩:=h t (by simp);obtain⟨e1,e2,_⟩:=r.labelIn h1 h2;rw[yO,if_pos r.e,e2,List.all_cons]
  by_cases hk:(zI ls t a p.2).1=k
  ·rw[if_pos hk,r.unlike k l (fun x hx=>h x (by simp[hx]))]
   simp[hk]
  ·rw[if_neg hk,qw _ _ _ _ (uj (by simp))]
   simp[hk]
theorem Rel.table (r:Rel a b ls fs op ba re s p) {tags:List Int} {last:Int} (ht:∀t∈tags,0≤t) (hl:0≤last) :
  (last<(ls.length:Int)∧jD tags last s=s∧yO ls (zI ls last a (jG ls a tags p.2)).1 a tags (zI ls last a (jG ls a tags p.2)).2=p.2∧jG ls a tags p.2=p.2) ∨
   Out (jD tags last s) (yO ls (zI ls last a (jG ls a tags p.2)).1 a tags (zI ls last a (jG ls a tags p.2)).2):=by
 by_cases h1:∃t∈tags,(ls.length:Int)≤t
 ·right
  by_cases h2:(ls.length:Int)≤last
  ·obtain⟨e1,e2⟩:=r.labelOut h2
   obtain⟨_,i2⟩:=r.tagsOut 0 tags true ht h1;have hne:(p.2.fault 6 a).e≠0:=uj (by simp);rw[i2,Zp hne,qw _ _ _ _ hne]
   have:jD tags last s=zv 6 s:=by
    have h6:(zv 6 s).er≠0:=YQ (by simp);unfold jD;rw[e1];simp only;rw[ZT _ _ _ h6,Yq h6];split<;>rfl
   rw[this];exact r.fail (by simp)
  ·obtain⟨e1,e2,_⟩:=r.labelIn hl (by omega)
   obtain⟨i1,i2⟩:=r.tagsOut (zI ls last a p.2).1 tags true ht h1;have hne:(p.2.fault 6 a).e≠0:=uj (by simp);rw[i2,Zp hne,qw _ _ _ _ hne]
   have:jD tags last s=zv 6 s:=by
    have h6:(zv 6 s).er≠0:=YQ (by simp);unfold jD;rw[e1];simp only;rw[i1,Yq h6];split<;>rfl
   rw[this];exact r.fail (by simp)
 ·have h1':∀t∈tags,0≤t∧t<(ls.length:Int):=fun t hx=>⟨ht t hx,by
    rcases (show t<(ls.length:Int)∨(ls.length:Int)≤t by omega) with h|h
    · exact h
    · exact absurd ⟨t,hx,h⟩ h1⟩
  by_cases h2:(ls.length:Int)≤last
  ·right
   obtain⟨e1,e2⟩:=r.labelOut h2;obtain⟨_,i2⟩:=r.tagsIn 0 tags true h1';have hne:(p.2.fault 6 a).e≠0:=uj (by simp);rw[i2,e2,qw _ _ _ _ hne]
   have:jD tags last s=zv 6 s:=by
    have h6:(zv 6 s).er≠0:=YQ (by simp);unfold jD;rw[e1];simp only;rw[ZT _ _ _ h6,Yq h6];split<;>rfl
   rw[this];exact r.fail (by simp)
  ·obtain⟨e1,e2,_⟩:=r.labelIn hl (by omega)
   obtain⟨i1,i2⟩:=r.tagsIn (zI ls last a p.2).1 tags true h1';rw[i2,e2,r.unlike _ tags h1'];unfold jD;rw[e1];simp only;rw[i1];simp only[Bool.true_and]
   cases hq:tags.all (fun t=>decide ((zI ls t a p.2).1=(zI ls last a p.2).1)) with
   | true=>left;simp only[if_true];exact⟨by omega,trivial,trivial,trivial⟩
   | false=>right;exact r.fail (by simp)
end
structure Env (m:Md):Prop where
 fn:∀n,0≤(m.typeOf n).1.1∧0≤(m.typeOf n).1.2∧(m.typeOf n).1.2≤1
 ty:∀t∈m.ty,0≤t.1∧0≤t.2∧t.2≤1
theorem Env.callee {m:Md} (h:Env m) (x:Ix):0≤(zT m x).1.1∧0≤(zT m x).1.2∧(zT m x).1.2≤1:=by
 unfold zT
 split
 ·exact h.fn _
 split
 ·simp
 ·rename_i h1
  by_cases hk:x.a.toNat<m.ty.length
  ·have:m.ty.getD x.a.toNat (0,0)=m.ty[x.a.toNat]:=by simp[hk]
   simp only[this];exact h.ty _ (List.getElem_mem hk)
  ·have:m.ty.getD x.a.toNat (0,0)=(0,0):=by simp[hk]
   simp only[this];simp
theorem vW (op:Int):0≤yc op:=by
 unfold yc;split
 ·omega
 ·exact (uV op).1
theorem vZ (op:Int):0≤yg op∧yg op≤1:=by
 unfold yg;split
 ·simp
 ·exact Zg op
def Yl (t:Il) (ls:List Int) (res a:Int) (Ls:St→St) (LJ:Int→J→J):Prop :=
 ∀(o:Int) (fs:List Fr) (s:St) (j:J),Stk.opens o=true→valid s.h fs=true→fs.length+t.deep<1000→s.er=0→j.e=0→s.cnt=j.cnt→s.l=fs++[⟨o,s.h,res,false⟩]→ls=fs.map zAa→s.at_=a→s.h≤s.cnt→s.cnt+t.count≤1000000→j.at_=0 →
  Out (Ls s) (LJ (if o=3 then 0 else res) j) ∨
   ((Ls s).er=0∧(LJ (if o=3 then 0 else res) j).e=0∧(Ls s).cnt=(LJ (if o=3 then 0 else res) j).cnt∧(Ls s).l=fs∧(Ls s).h=s.h+res∧(Ls s).at_=a∧s.cnt≤(Ls s).cnt∧(Ls s).cnt≤s.cnt+t.count∧(LJ (if o=3 then 0 else res) j).at_=0)
section
variable {a b:Int} {ls:List Int} {fs:List Fr} {op ba re:Int} {s:St} {p:Hv×J}
theorem Rel.more (r:Rel a b ls fs op ba re s p) {c:Int} (h:b≤c):Rel a c ls fs op ba re s p:={ r with hb:=Int.le_trans r.hb h }
theorem Rel.entered (r:Rel a b ls fs op ba re s p) {o res:Int} (ho:Stk.opens o=true) (hr:0≤res∧res≤1) (hl:s.l.length<1000):yI o res s=⟨s.h,s.l++[⟨o,s.h,res,false⟩],s.cnt,s.at_,0⟩∧valid s.h (s.l++[⟨o,s.h,res,false⟩])=true:=by
 have hw:yD res=false:=by unfold yD;simp;omega
 refine⟨?_,Stk.JA false r.v ho hw hl⟩;unfold yI yu;rw[if_pos r.er,if_neg (by rw[r.v];simp),if_neg (by rw[ho,hw];simp),if_neg (by omega)];rfl
theorem Rel.behind (r:Rel a b ls fs op ba re s p) {s':St} {j':J} {res c:Int} (hr:0≤res∧res≤1) (hc:b+1≤c) (h2:c≤1073741824) (h1:s'.er=0) (he:j'.e=0) (hcnt:s'.cnt=j'.cnt) (hl:s'.l=s.l) (hh:s'.h=s.h+res) (ha:s'.at_=a) (hz:j'.at_=0) :
  Rel a c ls fs op ba re s' (yX res (p.1,j')):=by
 have hb:=r.hb;have h0:=(Stk.yK r.v).1;refine⟨h1,he,hcnt,by rw[hl];exact r.l,?_,?_,?_,by rw[hl];exact r.labs,ha,by omega,hz⟩
 ·have:=r.h;simp only[yX];omega
 ·have:=r.n0;simp only[yX];omega
 ·rw[hl]
  exact Stk.vI r.v (by omega) (by omega) (fun f hf=>by have:=(Stk.uM r.v f hf).2.1;omega)
theorem Rel.block (r:Rel a b ls fs op ba re s p) {t:Il} {o res c:Int} {Ls:St→St} {LJ:Int→J→J} (ho:Stk.opens o=true) (hr:0≤res∧res≤1) (hl:s.l.length+t.deep<1000) (hc:b+1≤c) (h2:c≤1073741824) (hcn:s.h≤s.cnt) (hct:s.cnt+t.count≤1000000)
  (H:Yl t ls res a Ls LJ):Out (Ls (yI o res s)) (LJ (if o=3 then 0 else res) p.2)∨Rel a c ls fs op ba re (Ls (yI o res s)) (yX res (p.1,LJ (if o=3 then 0 else res) p.2)):=by
 obtain⟨e1,e2⟩:=r.entered ho hr (by omega);rw[e1]
 rcases H o s.l ⟨s.h,s.l++[⟨o,s.h,res,false⟩],s.cnt,s.at_,0⟩ p.2 ho r.v hl rfl r.e r.cnt rfl r.labs r.at_ hcn hct r.z with h|⟨h1,h3,h4,h5,h6,h7,_,_,h8⟩
 ·exact .inl h
 ·exact .inr (r.behind hr hc h2 h1 h3 h4 h5 h6 h7 h8)
end
theorem ku:Stk.opens 2=true∧Stk.opens 3=true∧Stk.opens 4=true∧Stk.opens 5=true:=by decide
section
variable {a b:Int} {ls:List Int} {fs:List Fr} {op ba re:Int} {s:St} {p:Hv×J}
theorem Rel.either (r:Rel a b ls fs op ba re s p) {t u:Il} {res c:Int} {Ls Es:St→St} {LJ EJ:Int→J→J} (hr:0≤res∧res≤1) (hl:s.l.length+t.deep<1000) (hl2:s.l.length+u.deep<1000) (hc:b+1≤c) (h2:c≤1073741824) (hcn:s.h≤s.cnt) (hct:s.cnt+t.count+u.count≤1000000)
  (HL:Yl t ls res a Ls LJ) (HE:Yl u ls res a Es EJ) (hLer:∀s,s.er≠0→Ls s=s) (hEer:∀s,s.er≠0→Es s=s) :
  Out (kH res Ls Es s) (ifJ res a LJ EJ p).2∨Rel a c ls fs op ba re (kH res Ls Es s) (ifJ res a LJ EJ p):=by
 unfold kH ifJ;simp only
 rcases r.pop (n:=1) (by simp) with o|q
 ·left
  have h1:=o.ne;rw[Zy h1,hLer _ h1];have h3:((zx 1 s).back (zx 1 s))=zx 1 s:=rfl;rw[h3,Zy h1,hEer _ h1,if_neg o.1,if_neg o.1];exact o
 ·rw[if_pos q.e]
  have hpl:(zx 1 s).l=s.l:=by rw[q.l,r.l];unfold zO;rfl
  have hpc:(zx 1 s).cnt=s.cnt:=jW _ _
  have hph:(zx 1 s).h≤s.h:=by
   rw[q.h,r.h];unfold zO;have:=r.n0;simp only;omega
  have k4:(if (4:Int)=3 then (0:Int) else res)=res:=by simp
  have k5:(if (5:Int)=3 then (0:Int) else res)=res:=by simp
  obtain⟨e1,e2⟩:=q.entered ku.2.2.1 hr (by rw[hpl];omega);rw[e1];have hh:=HL 4 (zx 1 s).l ⟨(zx 1 s).h,(zx 1 s).l++[⟨4,(zx 1 s).h,res,false⟩],(zx 1 s).cnt,(zx 1 s).at_,0⟩ (zO 1 a p).2 ku.2.2.1 q.v (by rw[hpl];omega) rfl q.e q.cnt rfl q.labs q.at_ (by simp only;omega) (by simp only;omega) q.z;rw[k4] at hh
  generalize Ls ⟨(zx 1 s).h,(zx 1 s).l++[⟨4,(zx 1 s).h,res,false⟩],(zx 1 s).cnt,(zx 1 s).at_,0⟩=S1 at hh ⊢
  generalize LJ res (zO 1 a p).2=J1 at hh ⊢
  rcases hh with o|⟨h1,h3,h4,h5,h6,h7,h8,h9,h10⟩
  ·left
   have hb:(S1.back (zx 1 s)).er≠0:=o.ne;rw[Zy hb,hEer _ hb,if_neg o.1];exact o
  ·rw[if_pos h3]
   simp only at h8 h9;have q2:Rel a b ls fs op ba re (S1.back (zx 1 s)) ((zO 1 a p).1,J1):=⟨h1,h3,h4,q.l,q.h,q.n0,q.v,q.labs,h7,q.hb,h10⟩;have:=q2.block (t:=u) (o:=5) (res:=res) (c:=c) (Ls:=Es) (LJ:=EJ) ku.2.2.2 hr (by show (zx 1 s).l.length+_<_;rw[hpl];exact hl2) hc h2 (by show (zx 1 s).h≤S1.cnt;omega) (by show S1.cnt+_≤_;omega) HE;rw[k5] at this;exact this
theorem Rel.deadOut {q:Hv×J} {s':St} (h:Out s' q.2∨Rel a b ls fs op ba re s' q):Out (jl s') q.2∨Rel a b ls fs op ba re (jl s') (⟨0,true⟩,q.2):=by
 rcases h with o|r
 ·left;rw[Yo o.ne];exact o
 ·exact .inr r.dead
theorem Rel.popOut {q:Hv×J} {s':St} (h:Out s' q.2∨Rel a b ls fs op ba re s' q) {n:Int} (hn:0≤n):Out (zx n s') (zO n a q).2∨Rel a b ls fs op ba re (zx n s') (zO n a q):=by
 rcases h with o|r
 ·exact .inl (o.pop n a)
 ·exact r.pop hn
theorem Rel.pushOut {q:Hv×J} {s':St} (h:Out s' q.2∨Rel a b ls fs op ba re s' q) {n c:Int} (hn:0≤n) (h1:n≤1) (hc:b+1≤c) (h2:c≤1073741824):Out (qL n s') (yX n q).2∨Rel a c ls fs op ba re (qL n s') (yX n q):=by
 rcases h with o|r
 ·left;rw[zAk o.ne];exact o
 ·exact .inr (r.push hn (by have:=r.hb;omega) h2)
theorem Rel.deadMore {q:Hv×J} {s':St} (h:Out s' q.2∨Rel a b ls fs op ba re s' q) {c:Int} (hc:b≤c):Out (jl s') q.2∨Rel a c ls fs op ba re (jl s') (⟨0,true⟩,q.2):=by
 rcases Rel.deadOut h with o|r
 ·exact .inl o
 ·exact .inr (r.more hc)
theorem Rel.labelBoth (r:Rel a b ls fs op ba re s p) {n:Int} (hn:0≤n):(ze n s).1=(zI ls n a p.2).1∧0≤(ze n s).1∧(ze n s).1≤1∧(Out (ze n s).2 (zI ls n a p.2).2∨Rel a b ls fs op ba re (ze n s).2 (p.1,(zI ls n a p.2).2)):=by
 rcases (show n<(ls.length:Int)∨(ls.length:Int)≤n by omega) with h|h
 ·obtain⟨e1,e2,e3,e4⟩:=r.labelIn hn h
  rw[e1,e2];exact⟨rfl,e3,e4,.inr r⟩
 ·obtain⟨e1,e2⟩:=r.labelOut h
  rw[e1,e2];exact⟨rfl,Int.le_refl _,by simp,.inl (r.fail (by simp))⟩
theorem zF3 (m:Md) (he:Env m) (lo tr:Int) (htr:0≤tr) (x:Ix) (hx:0≤x.a) (ht:∀z∈x.tags,0≤z) (hres:0≤x.res∧x.res≤1) {t u:Il} {c:Int} {Ls Es:St→St} {LJ EJ:Int→J→J} (r:Rel a b ls fs op ba re s p) (hl:s.l.length+t.deep<1000) (hl2:s.l.length+u.deep<1000) (hc:b+1≤c) (h2:c≤1073741824) (hcn:s.h≤s.cnt) (hct:s.cnt+t.count+u.count≤1000000)
  (HL:Yl t ls x.res a Ls LJ) (HE:Yl u ls x.res a Es EJ) (hLer:∀s,s.er≠0→Ls s=s) (hEer:∀s,s.er≠0→Es s=s) :
  Out (yh m lo tr x Ls Es s) (qH m lo tr ls x LJ EJ a p).2∨Rel a c ls fs op ba re (yh m lo tr x Ls Es s) (qH m lo tr ls x LJ EJ a p):=by
 have hbc:b≤c:=by omega
 have lk:∀k:Int,x.op=k→k≠16→k≠17→(k=0∨k=2∨k=3∨k=4∨k=14∨k=12∨k=13∨k=15)→zP m lo x=0:=by
  intro k hk h16 h17 hh;unfold zP zS;rw[hk]
  rcases hh with rfl|rfl|rfl|rfl|rfl|rfl|rfl|rfl<;>rfl
 unfold yh
 by_cases g0:x.op=0
 ·rw[lk 0 g0 (by simp) (by simp) (by simp),r.fine0]
  unfold opS qH;rw[if_pos g0,if_pos g0];exact .inr (r.dead.more hbc)
 by_cases g2:x.op=2
 ·rw[lk 2 g2 (by simp) (by simp) (by simp),r.fine0]
  have:=r.block (t:=t) (o:=2) (c:=c) ku.1 hres hl hc h2 hcn (by omega) HL;unfold opS qH;simp only[g2];exact this
 by_cases g3:x.op=3
 ·rw[lk 3 g3 (by simp) (by simp) (by simp),r.fine0]
  have:=r.block (t:=t) (o:=3) (c:=c) ku.2.1 hres hl hc h2 hcn (by omega) HL;unfold opS qH;simp only[g3];exact this
 by_cases g4:x.op=4
 ·rw[lk 4 g4 (by simp) (by simp) (by simp),r.fine0]
  have:=r.either (t:=t) (u:=u) (c:=c) hres hl hl2 hc h2 hcn hct HL HE hLer hEer;unfold opS qH;simp only[g4];exact this
 by_cases g14:x.op=14
 ·rw[lk 14 g14 (by simp) (by simp) (by simp),r.fine0]
  have e1:opS m tr x Ls Es s=brS x.a (zx 1 (jD x.tags x.a s)):=by unfold opS;simp[g14]
  have e2:qH m lo tr ls x LJ EJ a p=vV ls x.tags x.a a p:=by unfold qH;simp[g14]
  rw[e1,e2]
  rcases r.table ht hx with ⟨k1,k2,k3,k4⟩|o
  ·rw[k2]
   unfold vV;rw[k3,k4];obtain⟨l1,l2,l3,l4⟩:=r.labelIn hx k1
   rcases r.pop (n:=1) (by simp) with o|q
   ·left
    unfold brS;rw[Z5 o.ne,vu o.ne,Yo o.ne,ZC (p:=zO 1 a p) o.1];exact o
   ·obtain⟨q1,q2,q3,q4⟩:=q.labelIn hx k1
    have hlj:(zI ls x.a a (zO 1 a p).2).1=(zI ls x.a a p.2).1:=by unfold zI;rw[if_neg (by omega),if_neg (by omega)]
    unfold brS;rw[q1];simp only;rw[hlj];have z:=Rel.deadMore (q.pop l3) hbc;exact z
  ·left
   unfold vV brS;have h3:(zx 1 (jD x.tags x.a s))=jD x.tags x.a s:=vu o.ne;rw[h3,Z5 o.ne,vu o.ne,Yo o.ne,ZC (by rw[ZC o.1];exact o.1),ZC o.1];exact o
 by_cases g12:x.op=12
 ·rw[lk 12 g12 (by simp) (by simp) (by simp),r.fine0]
  have e1:opS m tr x Ls Es s=brS x.a s:=by unfold opS;simp[g12]
  have e2:qH m lo tr ls x LJ EJ a p=(⟨0,true⟩,(zO (zI ls x.a a p.2).1 a (p.1,(zI ls x.a a p.2).2)).2):=by unfold qH;simp[g12]
  rw[e1,e2];obtain⟨l1,l2,l3,l4⟩:=r.labelBoth hx;unfold brS;rw[←l1];have z:=Rel.deadMore (Rel.popOut (q:=(p.1,(zI ls x.a a p.2).2)) l4 l2) hbc;exact z
 by_cases g13:x.op=13
 ·rw[lk 13 g13 (by simp) (by simp) (by simp),r.fine0]
  have e1:opS m tr x Ls Es s=zA9 x.a s:=by unfold opS;simp[g13]
  have e2:qH m lo tr ls x LJ EJ a p=yX (zI ls x.a a p.2).1 (zO (zI ls x.a a p.2).1 a (zO 1 a (p.1,(zI ls x.a a p.2).2))):=by unfold qH;simp[g13]
  rw[e1,e2];obtain⟨l1,l2,l3,l4⟩:=r.labelBoth hx;unfold zA9;rw[←l1];exact Rel.pushOut (Rel.popOut (Rel.popOut (q:=(p.1,(zI ls x.a a p.2).2)) l4 (by simp)) l2) l2 l3 hc h2
 by_cases g15:x.op=15
 ·rw[lk 15 g15 (by simp) (by simp) (by simp),r.fine0]
  have e1:opS m tr x Ls Es s=jl (zx tr s):=by unfold opS;simp[g15]
  have e2:qH m lo tr ls x LJ EJ a p=(⟨0,true⟩,(zO tr a p).2):=by unfold qH;simp[g15]
  rw[e1,e2];have z:=Rel.deadMore (r.pop htr) hbc;exact z
 have hcal:=he.callee x
 by_cases g16:x.op=16∨x.op=17
 ·have e2:qH m lo tr ls x LJ EJ a p=vq m x a p:=by unfold qH;rw[if_neg g0,if_neg g2,if_neg g3,if_neg g4,if_neg g14,if_neg g12,if_neg g13,if_neg g15,if_pos g16]
  have e3:zP m lo x=if (zT m x).2 then 0 else 6:=by unfold zP;rw[if_pos g16]
  have e1:∀s,opS m tr x Ls Es s=Zd (zT m x).1 (if x.op=17 then zx 1 s else s):=by
   intro s;unfold opS;rw[if_neg g0,if_neg (by omega),if_neg g4,if_neg g14,if_neg g12,if_neg g13,if_neg g15]
   by_cases g17:x.op=17
   ·rw[if_pos g17,if_pos g17]
   ·rw[if_neg g17,if_neg g17,if_pos (by omega)]
  rw[e1,e2,e3];unfold vq
  cases hq:(zT m x).2 with
  | false =>
   left
   have o:=r.fail (e:=6) (by simp);simp only[if_true,Bool.false_eq_true,if_false];rw[vu o.ne,ite_self,zEg o.ne];exact o
  | true =>
   simp only[if_true,Bool.true_eq_false,if_false];rw[r.fine0];unfold Zd
   have hp:Out (if x.op=17 then zx 1 s else s) (if x.op=17 then zO 1 a p else p).2∨Rel a b ls fs op ba re (if x.op=17 then zx 1 s else s) (if x.op=17 then zO 1 a p else p):=by
    split
    ·exact r.pop (by simp)
    ·exact .inr r
   exact Rel.pushOut (Rel.popOut hp hcal.1) hcal.2.1 hcal.2.2 hc h2
 have e1:∀s,opS m tr x Ls Es s=qL (yg x.op) (zx (yc x.op) s):=by
  intro s;unfold opS;rw[if_neg g0,if_neg (by omega),if_neg g4,if_neg g14,if_neg g12,if_neg g13,if_neg g15,if_neg (by omega),if_neg (by omega)]
 have e2:qH m lo tr ls x LJ EJ a p=yX (yg x.op) (zO (yc x.op) a (p.1,jc m lo x a p.2)):=by unfold qH;rw[if_neg g0,if_neg g2,if_neg g3,if_neg g4,if_neg g14,if_neg g12,if_neg g13,if_neg g15,if_neg g16]
 rw[e1,e2];unfold jc
 have hp:Out (zv (zP m lo x) s) (if zP m lo x=0 then p.2 else p.2.fault (zP m lo x) a)∨Rel a b ls fs op ba re (zv (zP m lo x) s) (p.1,if zP m lo x=0 then p.2 else p.2.fault (zP m lo x) a):=by
  by_cases h0:zP m lo x=0
  ·rw[h0,r.fine0,if_pos rfl];exact .inr r
  ·rw[if_neg h0];exact .inl (r.fail h0)
 have hlv:=vZ x.op;exact Rel.pushOut (Rel.popOut hp (vW _)) hlv.1 hlv.2 hc h2
end
def kr:Il→Prop
 | .nil=>True
 | .cons x l e r=>0≤x.a∧(∀z∈x.tags,0≤z)∧kr l∧kr e∧kr r
theorem J0 {x:Ix} (h:zW x=true):0≤x.res∧x.res≤1:=by
 unfold zW at h;simp only[Bool.and_eq_true,Bool.or_eq_true,decide_eq_true_eq] at h;omega
def zID (m:Md) (lo tr:Int) (t:Il):Prop :=
 ∀(ls:List Int) (fs:List Fr) (op ba re a:Int) (s:St) (p:Hv×J),Rel a s.cnt ls fs op ba re s p→s.l.length+t.deep≤1000→s.cnt+t.count≤1000000 →
  Out (uP m lo tr t s) (ZH m lo tr t ls p).2∨∃a',Rel a' (uP m lo tr t s).cnt ls fs op ba re (uP m lo tr t s) (ZH m lo tr t ls p)
theorem zAm {m:Md} {lo tr:Int} {t:Il} (H:zID m lo tr t) (ls:List Int) {res:Int} (hres:0≤res∧res≤1) (a:Int):Yl t ls res a (zK m lo tr t) (fun label=>yE m lo tr ls t label res a):=by
 intro o fs s j ho hv hlen her hje hcnt hl hls hat hh hct hz
 have r0:Rel a s.cnt (ls++[if o=3 then 0 else res]) fs o s.h res s (⟨0,false⟩,j):=by
  refine⟨her,hje,hcnt,hl,by simp,Int.le_refl _,?_,?_,hat,hh,hz⟩
  ·rw[hl];exact Stk.JA false hv ho (by unfold yD;simp;omega) (by omega)
  ·rw[hl,hls];simp[zAa]
 have hc:=uo m lo tr t s;have hX:=H _ _ _ _ _ _ _ _ r0 (by rw[hl];simp;omega) hct;simp only[zK,yE];rw[hat]
 generalize (if o=3 then 0 else res)=lab at hX ⊢
 generalize uP m lo tr t s=S at hX hc ⊢
 generalize ZH m lo tr t (ls++[lab]) (⟨0,false⟩,j)=P at hX ⊢
 rcases hX with q|⟨a',r⟩
 ·left
  rw[Zz q.ne];unfold Yf;rw[if_neg q.1];exact q
 ·have hlf:zl S.l=⟨o,s.h,res,P.1.d⟩:=by rw[r.l,Stk.qP]
  have hSh:=r.h;have hn:=r.n0;unfold jo Yf;rw[if_pos r.er,if_pos r.e];unfold yl;rw[if_neg (by rw[r.v];simp),hlf];simp only
  by_cases h1:P.1.n<res∧P.1.d=false
  ·left
   have hw:without S.h res ⟨o,s.h,res,P.1.d⟩=(0,200):=by unfold without;rw[if_pos ⟨by simp only;omega,h1.2⟩]
   rw[hw,if_pos (by simp)];have hz:¬0<(zO res a P).1.n:=by unfold zO;simp only;omega
   rw[if_neg hz];unfold zO Out;rw[if_pos h1];unfold J.fault;rw[if_pos r.e];exact⟨by simp,rfl,rfl⟩
  ·have hw:without S.h res ⟨o,s.h,res,P.1.d⟩=(if s.h≤S.h-res then S.h-res else s.h,0):=by
    unfold without;rw[if_neg (fun h=>h1 ⟨by have:=h.1;simp only at this;omega,h.2⟩)]
   rw[hw,if_neg (by simp)];simp only;have hp2:(zO res a P).2=P.2:=by unfold zO;rw[if_neg h1]
   have hp1:(zO res a P).1.n=max (P.1.n-res) 0:=by unfold zO;rfl
   rw[hp1,hp2]
   by_cases h2:s.h<(if s.h≤S.h-res then S.h-res else s.h)
   ·left
    have hz:0<max (P.1.n-res) 0:=by split at h2<;>omega
    rw[if_pos h2,if_pos hz];unfold J.fault Out;rw[if_pos r.e];exact⟨by simp,rfl,rfl⟩
   ·right
    have hz:¬(0<max (P.1.n-res) 0):=by split at h2<;>omega
    rw[if_neg h2,if_neg hz];refine⟨rfl,r.e,r.cnt,?_,?_,rfl,hc.1,hc.2,r.z⟩
    ·rw[r.l];simp[St.put]
    ·simp only[St.put];split at h2<;>split<;>omega
theorem zBW (m:Md) (he:Env m) (lo tr:Int) (htr:0≤tr):∀(t:Il),t.all=true→kr t→zID m lo tr t
 | .nil,_,_=>fun ls fs op ba re a s p r _ _=>.inr ⟨a,r⟩
 | .cons x l e q,hall,hnn=>by
  intro ls fs op ba re a s p r hd hct;simp only[Il.all,Bool.and_eq_true] at hall;obtain⟨⟨⟨hx,hal⟩,hae⟩,haq⟩:=hall;obtain⟨n1,n2,n3,n4,n5⟩:=hnn;have hres:=J0 hx;simp only[Il.deep] at hd;simp only[Il.count] at hct;have IL:=zAm (zBW m he lo tr htr l hal n3) ls hres (p.2.cnt+1);have IE:=zAm (zBW m he lo tr htr e hae n4) ls hres (p.2.cnt+1);have IQ:=zBW m he lo tr htr q haq n5;rw[kO,vv,if_pos r.er,if_pos r.e];have rn:Rel (p.2.cnt+1) s.cnt ls fs op ba re s.next (p.1,p.2.next):=⟨r.er,r.e,by have:=r.cnt;show s.cnt+1=p.2.cnt+1;omega,r.l,r.h,r.n0,r.v,r.labs,by have:=r.cnt;show s.cnt+1=_;omega,r.hb,r.z⟩;have hb:=r.hb;have hcn:=zBG (m:=m) (re:=tr) (x:=x) (a:=l.count) (b:=e.count) (L:=zK m lo tr l) (E:=zK m lo tr e) (by omega) (by omega) (uB m lo tr l) (uB m lo tr e) (zv (zP m lo x) s.next);rw[jE] at hcn;have hnx:s.next.cnt=s.cnt+1:=rfl;have hO:=zF3 (t:=l) (u:=e) (c:=s.cnt+1) m he lo tr htr x n1 n2 hres rn (by show s.l.length+_<_;omega) (by show s.l.length+_<_;omega) (Int.le_refl _) (by omega) (by show s.h≤s.cnt+1;omega) (by show s.cnt+1+_+_≤_;omega) IL IE (fun s h=>zAi h) (fun s h=>zAi h);unfold yh at hO ⊢
  generalize opS m tr x (zK m lo tr l) (zK m lo tr e) (zv (zP m lo x) s.next)=S at hO hcn ⊢
  generalize qH m lo tr ls x (fun label=>yE m lo tr ls l label x.res (p.2.cnt+1)) (fun label=>yE m lo tr ls e label x.res (p.2.cnt+1)) (p.2.cnt+1) (p.1,p.2.next)=P at hO ⊢
  rcases hO with o|r'
  ·left
   rw[zBk _ _ _ _ _ o.ne]
   have:ZH m lo tr q ls P=P:=by
    cases q with
    | nil=>rfl
    | cons x' l' e' q'=>rw[vv,if_neg o.1]
   rw[this];exact o
  ·refine IQ ls fs op ba re _ S P (r'.more (by omega)) ?_ (by omega)
   have h1:S.l.length=s.l.length:=by rw[r'.l,r.l];simp
   omega
theorem zFC (m:Md) (he:Env m) (lo tr:Int) (htr:0≤tr∧tr≤1) (t:Il) (hall:t.all=true) (hnn:kr t) (hd:t.deep≤900) (hct:t.count≤262144) :
  (zK m lo tr t (uI tr)).er=(yE m lo tr [] t tr tr 0 ⟨0,0,0⟩).e∧(zK m lo tr t (uI tr)).at_=(yE m lo tr [] t tr tr 0 ⟨0,0,0⟩).at_:=by
 have hn:vT tr=⟨0,[⟨0,0,tr,false⟩],0⟩:=by unfold vT;rw[if_neg (by unfold yD;simp;omega)]
 have hst:uI tr=⟨0,[⟨0,0,tr,false⟩],0,0,0⟩:=by unfold uI;rw[hn]
 have hv:valid 0 [⟨0,0,tr,false⟩]=true:=Stk.uy (Int.le_refl _) (by simp) (by simp) (by unfold Stk.jU yD;simp;omega) rfl;have r0:Rel 0 0 [tr] [] 0 0 tr ⟨0,[⟨0,0,tr,false⟩],0,0,0⟩ (⟨0,false⟩,⟨0,0,0⟩):=⟨rfl,rfl,rfl,rfl,rfl,Int.le_refl _,hv,by simp[zAa],rfl,Int.le_refl _,rfl⟩;have hX:=zBW m he lo tr htr.1 t hall hnn [tr] [] 0 0 tr 0 ⟨0,[⟨0,0,tr,false⟩],0,0,0⟩ (⟨0,false⟩,⟨0,0,0⟩) r0 (by simp;omega) (by simp only;omega);rw[hst];unfold zK yE;simp only[List.nil_append]
 generalize uP m lo tr t ⟨0,[⟨0,0,tr,false⟩],0,0,0⟩=S at hX ⊢
 generalize ZH m lo tr t [tr] (⟨0,false⟩,⟨0,0,0⟩)=P at hX ⊢
 rcases hX with q|⟨a',r⟩
 ·rw[Zz q.ne]
  unfold Yf;rw[if_neg q.1];exact q.2
 ·have hlf:zl S.l=⟨0,0,tr,P.1.d⟩:=by rw[r.l,Stk.qP]
  have hSh:=r.h;have hn:=r.n0;unfold jo Yf;rw[if_pos r.er,if_pos r.e];unfold yl;rw[if_neg (by rw[r.v];simp),hlf];simp only
  by_cases h1:P.1.n<tr∧P.1.d=false
  ·have hw:without S.h tr ⟨0,0,tr,P.1.d⟩=(0,200):=by unfold without;rw[if_pos ⟨by simp only;omega,h1.2⟩]
   rw[hw,if_pos (by simp)];have hz:¬0<(zO tr 0 P).1.n:=by unfold zO;simp only;omega
   rw[if_neg hz];unfold zO;rw[if_pos h1];unfold J.fault;rw[if_pos r.e];exact⟨rfl,rfl⟩
  ·have hw:without S.h tr ⟨0,0,tr,P.1.d⟩=(if 0≤S.h-tr then S.h-tr else 0,0):=by
    unfold without;rw[if_neg (fun h=>h1 ⟨by have:=h.1;simp only at this;omega,h.2⟩)]
   rw[hw,if_neg (by simp)];simp only;have hp2:(zO tr 0 P).2=P.2:=by unfold zO;rw[if_neg h1]
   have hp1:(zO tr 0 P).1.n=max (P.1.n-tr) 0:=by unfold zO;rfl
   rw[hp1,hp2]
   by_cases h2:(0:Int)<(if 0≤S.h-tr then S.h-tr else 0)
   ·have hz:0<max (P.1.n-tr) 0:=by split at h2<;>omega
    rw[if_pos h2,if_pos hz];unfold J.fault;rw[if_pos r.e];exact⟨rfl,rfl⟩
   ·have hz:¬(0<max (P.1.n-tr) 0):=by split at h2<;>omega
    rw[if_neg h2,if_neg hz];exact⟨r.e.symm,r.z.symm⟩
end Val
namespace Val
open Go.RowKit Instr Mod
theorem zG2 {m:Md} (h:ky m):Env m where
 fn n:=by
  have z:(0:Int)≤0∧(0:Int)≤0∧(0:Int)≤1:=by omega
  unfold Md.typeOf
  split
  ·exact z
  ·have:=h.tys.getD (m.typeN n).toNat
   exact⟨this.1,this.2.2.1,this.2.2.2⟩
 ty t ht:=by
  have:=h.tys t ht;exact⟨this.1,this.2.2.1,this.2.2.2⟩
theorem zA8 (m:Md) (k:Nat) (hk:k<m.fu.length):m.typeOf (m.im.length+k)=if (yL m k).ty<0∨(m.ty.length:Int)≤(yL m k).ty then ((0,0),false) else (m.ty.getD (yL m k).ty.toNat (0,0),true):=by
 have e:m.typeN (m.im.length+k)=(yL m k).ty:=by
  unfold Md.typeN yL;rw[if_neg (by omega),if_pos (by omega),Nat.add_sub_cancel_left,List.getD_eq_getElem?_getD,List.getD_eq_getElem?_getD,List.getElem?_map,List.getElem?_eq_getElem hk];rfl
 unfold Md.typeOf;rw[e]
theorem zEO {m:Md} (hf:ky m) (hn:∀l∈m.codes,kr l.t) {k:Nat} (hk:k<m.fu.length) (ht:(yL m k).ty<(m.ty.length:Int)):Md.bodyP m k=Md.bodyJ m k:=by
 have hm:yL m k∈m.fu:=by
  unfold yL;rw[List.getD_eq_getElem?_getD,List.getElem?_eq_getElem hk];exact List.getElem_mem _
 have h0:=hf.ty _ hm;have hc:(yL m k).l∈m.codes:=by unfold Md.codes;exact List.mem_append_left _ (List.mem_map.2 ⟨_,hm,rfl⟩)
 have e:=zA8 m k hk;rw[if_neg (by omega)] at e;have hz:=hf.cs _ hc;have ht2:=hf.tys.getD (yL m k).ty.toNat;unfold zJ at hz
 by_cases hall:(yL m k).l.t.all=true
 ·rw[if_pos hall] at hz
  by_cases hbig:262144<(yL m k).l.t.count∨900<(yL m k).l.t.deep∨(yL m k).l.t.tags=true
  ·rw[if_pos hbig] at hz;exact absurd hz (by decide)
  ·obtain⟨b1,b2⟩:=zFC m (zG2 hf) ((m.ty.getD (yL m k).ty.toNat (0,0)).1+(yL m k).lo) (m.ty.getD (yL m k).ty.toNat (0,0)).2 ⟨ht2.2.2.1,ht2.2.2.2⟩ (yL m k).l.t hall (hn _ hc) (by omega) (by omega)
   unfold Md.bodyP Md.bodyJ;rw[e,if_neg (by simp)];exact Prod.ext b1 b2
 ·rw[if_neg hall] at hz;exact absurd hz (by decide)
def Md.docBody (m:Md) (n:Int):Int×Int:=if m.check≠0 then (m.check,0) else if (n<0∨(m.fu.length:Int)≤n)∨(m.ty.length:Int)≤(yL m n.toNat).ty then (6,0) else Md.bodyJ m n.toNat
theorem zFk (m:Md) (hn:∀l∈m.codes,kr l.t) (n:Int):Md.body m n=Md.docBody m n:=by
 unfold Md.body Md.docBody
 by_cases hc:m.check≠0
 ·rw[if_pos hc,if_pos hc]
 rw[if_neg hc,if_neg hc];have hf:=YS (show m.check=0 by omega)
 by_cases h1:n<0∨(m.fu.length:Int)≤n
 ·rw[if_pos h1,if_pos (.inl h1)]
 rw[if_neg h1];have hk:n.toNat<m.fu.length:=by omega
 by_cases h2:(m.ty.length:Int)≤(yL m n.toNat).ty
 ·rw[if_pos (.inr h2)]
  have e:=zA8 m n.toNat hk;rw[if_pos (.inr h2)] at e;unfold Md.bodyP;rw[e,if_pos rfl]
 ·rw[if_neg (by rintro (h|h);exact h1 h;exact h2 h)]
  exact zEO hf hn hk (by omega)
theorem kT (m:Md) (b:Nat):∀(a j:Nat),zZ m j (a+b)=match zZ m j a with
  | some r=>some r
  | none=>zZ m (j+a) b
 | 0,j=>by rw[Nat.zero_add];rfl
 | a+1,j=>by
  rw[show a+1+b=(a+b)+1 by omega]
  cases h:zL m j 0 (yV m j) with
  | some r=>rw[yH h,yH h]
  | none =>
   rw[yU h,yU h,kT m b a (j+1),show j+1+a=j+(a+1) by omega]
theorem J2 (m:Md) (j:Nat):∀(n k:Nat),zL m j k n=none→∀i,k≤i→i<k+n→(zz m j i).1=0
 | 0,k,_,i,h1,h2=>by omega
 | n+1,k,h,i,h1,h2=>by
  unfold zL at h
  by_cases hz:(zz m j k).1=0
  ·rw[if_pos hz] at h
   by_cases hik:i=k
   ·rw[hik];exact hz
   ·exact J2 m j n (k+1) h i (by omega) (by omega)
  ·rw[if_neg hz] at h;cases h
theorem zAw (m:Md) (j:Nat):zZ m j 1=zL m j 0 (yV m j):=by
 unfold zZ
 cases h:zL m j 0 (yV m j)<;>rfl
theorem zGH {m:Md} (h:zZ m 0 3=none):∀k,k<m.fu.length→(yL m k).ty<(m.ty.length:Int):=by
 intro k hk
 have h1:zL m 1 0 m.fu.length=none:=by
  have e1:=kT m 2 1 0;rw[h] at e1
  cases h0:zZ m 0 1 with
  | some r=>rw[h0] at e1;cases e1
  | none =>
   rw[h0] at e1;have e2:=kT m 1 1 1;have e1':zZ m 1 2=none:=e1.symm;rw[e1'] at e2
   cases h2:zZ m 1 1 with
   | some r=>rw[h2] at e2;cases e2
   | none=>rw[zAw] at h2;exact h2
 have h2:=J2 m 1 _ _ h1 k (Nat.zero_le _) (by omega);have h3:qI m (yL m k).ty=0:=h2;unfold qI at h3
 by_cases hq:(m.ty.length:Int)≤(yL m k).ty
 ·rw[if_pos hq] at h3;exact absurd h3 (by decide)
 ·omega
end Val
namespace Val
open Go.RowKit Go.Shelf Instr Mod
theorem zER (a b c d x y z t:Int) (w:World):(Op.equalIn 10000 120 (.agg #[.int .i64 a,.int .i64 b,.int .i64 c,.int .i64 d]) (.agg #[.int .i64 x,.int .i64 y,.int .i64 z,.int .i64 t])).run Tryz.prog w=.ok (a==x&&b==y&&c==z&&d==t) w:=by
 have u3:=Tryz.underlying3;have a3:=Tryz.isAgg3;have z3:=Tryz.sizeOf3;have u4:=Tryz.underlying47;have a4:=Tryz.isAgg47;have z4:=Tryz.sizeOf47;have hS:Tryz.prog.underlying 120=some (.struct (Tryz.prog.fieldsOf 120)):=by kernel_rfl
 have hp:Tryz.prog.stoodInHeld 120=false:=by kernel_rfl
 rw[show (10000:Nat)=9999+1 from rfl,run_equalIn_agg w 9999 120 _ _ hS hp];simp only[Program.fieldsOf,Tryz.underlying120]
 go_simp
 by_cases h1:a=x<;>by_cases h2:b=y<;>by_cases h3:c=z<;>by_cases h4:d=t<;>simp[h1,h2,h3,h4]
theorem Jw (op:BinOp) (x y:Operand) (xs ys:Array Value) (w:World):(eqGuard op 120 x y (.agg xs) (.agg ys)).run Tryz.prog w=.ok () w :=
 run_eqGuard_agg w op _ x y xs ys (by kernel_rfl)
theorem jT {W:World} {b sz:Nat} {rs:List (List Value)} (hb:b<W.heap.size) (hl:∀r∈rs,r.length=sz) (h:zB W b (rs.flatten.toArray)):Mod.Rows W.heap.size W (some ⟨b,0,none⟩) sz rs :=
 .inr ⟨b,0,rfl,hb,fun i hi j hj v hv=>by
   have hf:=Stk.flat_get rs hl i j hi hj;rw[hv] at hf;have:=h (i*sz+j) v (by simpa using hf);simpa using this⟩
def ZY:List (Ix×Il×Il)→Il
 | []=>.nil
 | x::r=>.cons x.1 x.2.1 x.2.2 (ZY r)
theorem Jq:∀l:List (Ix×Il×Il),(ZY l).len=l.length
 | []=>rfl
 | x::r=>by simp[ZY,Il.len,Jq r]
structure zEI (n₀:Nat) (W:World) (x:Ix×Il×Il):Prop where
 ok:x.1.ok
 tags:zk n₀ W x.1.ta x.1.tags
 l:x.2.1.len=x.1.ln∧(x.2.1=.nil∨∃b' o',x.1.la=some ⟨b',o',none⟩∧zg n₀ W b' o' x.2.1)
 e:x.2.2.len=x.1.en∧(x.2.2=.nil∨∃b' o',x.1.ea=some ⟨b',o',none⟩∧zg n₀ W b' o' x.2.2)
theorem ux {n₀:Nat} {W:World} {g:Nat} (hg:g<n₀):∀(l:List (Ix×Il×Il)) (off:Nat),(∀i (hi:i<l.length),∀j v,(l[i].1.vals)[j]?=some v→W.cell? ⟨g,off+i*8+j,none⟩=some v)→(∀x∈l,zEI n₀ W x)→zg n₀ W g off (ZY l)
 | [],_,_,_=>trivial
 | x::r,off,h,hx=>by
  have c:∀j v,(x.1.vals)[j]?=some v→W.cell? ⟨g,off+j,none⟩=some v:=fun j v hv=>by have:=h 0 (by simp) j v hv;simpa using this
  have hx0:=hx x (by simp);refine⟨hg,hx0.ok,⟨c 0 _ rfl,c 1 _ rfl,c 2 _ rfl,c 3 _ rfl,c 4 _ rfl,c 5 _ rfl,c 6 _ rfl,c 7 _ rfl⟩,hx0.tags,hx0.l,hx0.e,ux hg r (off+8) (fun i hi j v hv=>?_) (fun y hy=>hx y (by simp[hy]))⟩;have:=h (i+1) (by simp;omega) j v hv;rw[show off+(i+1)*8+j=off+8+i*8+j by omega] at this;exact this
theorem zAK {W:World} {g:Nat} {l:List (Ix×Il×Il)} (hg:g<W.heap.size) (h:zB W g ((l.map fun x=>x.1.vals.toList).flatten.toArray)) (hx:∀x∈l,zEI W.heap.size W x):zD W.heap.size W (some ⟨g,0,none⟩) l.length (ZY l):=by
 refine⟨Jq l,.inr ⟨g,0,rfl,ux hg l 0 (fun i hi j v hv=>?_) hx⟩⟩
 have hlen:∀r∈l.map (fun x=>x.1.vals.toList),r.length=8:=by
  intro r hr;obtain⟨x,_,rfl⟩:=List.mem_map.1 hr;rfl
 have hj:j<8:=by
  rcases Nat.lt_or_ge j 8 with h|h
  ·exact h
  ·rw[Array.getElem?_eq_none (by show 8≤j;exact h)] at hv;cases hv
 have hf:=Stk.flat_get (l.map fun x=>x.1.vals.toList) hlen i j (by simpa using hi) hj;have hgd:(l.map fun x=>x.1.vals.toList).getD i []=l[i].1.vals.toList:=by simp[hi]
 rw[hgd] at hf;have:=h (i*8+j) v (by rw[List.getElem?_toArray,hf];simpa using hv);simpa using this
def ofM (g:Nat) (l:Lst):Md where
 ty:=[(1,1)]
 im:=[]
 fu:=[⟨0,0,l⟩]
 tb:=[]
 me:=[]
 gl:=[]
 ex:=[]
 st:=false
 sn:=0
 el:=[]
 da:=[]
 ty':=⟨some ⟨g,0,none⟩,1⟩
 im':=⟨none,0⟩
 fu':=⟨some ⟨g+1,0,none⟩,1⟩
 tb':=⟨none,0⟩
 me':=⟨none,0⟩
 gl':=⟨none,0⟩
 ex':=⟨none,0⟩
 el':=⟨none,0⟩
 da':=⟨none,0⟩
theorem zIr (g:Nat) (l:Lst) (hn:l.t.len≤140737488351232) (hc:l.t.count≤1000000):(ofM g l).few:=by
 have hcs:∀x∈(ofM g l).codes,x=l:=by simp[ofM,Md.codes]
 refine⟨⟨by simp[ofM],by simp[ofM],by simp[ofM],by simp[ofM],by simp[ofM],by simp[ofM],by simp[ofM],by simp[ofM],by simp[ofM],fun x hx=>by rw[hcs x hx];exact hn,by simp[ofM],by simp[ofM],by simp[ofM],by simp[ofM]⟩,fun x hx=>by rw[hcs x hx];exact hc,by simp[ofM]⟩
theorem zJS {g:Nat} {l:Lst} {W:World} (h0:zB W g #[.int .i64 1,.int .i64 1]) (h1:zB W (g+1) #[.int .i64 0,.int .i64 0,l.val]) (hL:zD W.heap.size W l.a l.t.len l.t):zN W.heap.size W (ofM g l):=by
 have hcs:∀x∈(ofM g l).codes,x=l:=by simp[ofM,Md.codes]
 have l0:=World.block_lt_of_cell? W _ (h0 0 _ rfl);have l1:=World.block_lt_of_cell? W _ (h1 0 _ rfl);exact⟨jT l0 (by simp[ofM,tyV]) h0,.inl rfl,jT l1 (by simp[ofM,Mod.Fn.v]) h1,.inl rfl,.inl rfl,.inl rfl,.inl rfl,.inl rfl,.inl rfl,fun x hx=>by rw[hcs x hx];exact hL,by simp[ofM],by simp[ofM]⟩
theorem zIU (w:World) (A0 A1 A2:Array Value) (t0 t1 t2:TypeId):∃W,(((w.alloc (.cells A0 t0)).alloc (.cells A1 t1)).alloc (.cells A2 t2))=W∧(zB W (w.heap.size) A0∧zB W (w.heap.size+1) A1∧zB W (w.heap.size+1+1) A2)∧Below w.heap.size w W:=by
 refine⟨_,rfl,⟨?_,?_,?_⟩,zC (zC (zC (Below.refl _ _) _) _) _⟩<;>(intro j x h;simp[go_sem,h])
theorem zIS (w:World) (A0 A1 A2 A3 A4 A5 A6 A7:Array Value) (t0 t1 t2 t3 t4 t5 t6 t7:TypeId):∃W,((((((((w.alloc (.cells A0 t0)).alloc (.cells A1 t1)).alloc (.cells A2 t2)).alloc (.cells A3 t3)).alloc (.cells A4 t4)).alloc (.cells A5 t5)).alloc (.cells A6 t6)).alloc (.cells A7 t7))=W∧(zB W (w.heap.size) A0∧zB W (w.heap.size+1) A1∧zB W (w.heap.size+1+1) A2∧zB W (w.heap.size+1+1+1) A3∧zB W (w.heap.size+1+1+1+1) A4∧zB W (w.heap.size+1+1+1+1+1) A5∧zB W (w.heap.size+1+1+1+1+1+1) A6∧zB W (w.heap.size+1+1+1+1+1+1+1) A7)∧Below w.heap.size w W:=by
 refine⟨_,rfl,⟨?_,?_,?_,?_,?_,?_,?_,?_⟩,zC (zC (zC (zC (zC (zC (zC (zC (Below.refl _ _) _) _) _) _) _) _) _) _⟩<;>(intro j x h;simp[go_sem,h])
def OfP (g:Nat) (l:Lst) (w:World) (e:Ending) (w':World):Prop:=e=.returned (.tuple #[.int .i64 (Md.body (ofM g l) 0).1,.int .i64 (Md.body (ofM g l) 0).2])∧Below w.heap.size w w'
theorem zJU (l:Lst) (w:World) (hL:zD w.heap.size w l.a l.t.len l.t) (hn:l.t.len≤140737488351232) (hc:l.t.count≤1000000) (hT:kC w) (hU:Utf.Tabs w) (hA:Num.ZX w) :
  Calls Tryz.prog 102 #[.slice l.a l.t.len l.c] w (OfP w.heap.size l w):=by
 have HFW:=hid (zIr w.heap.size l hn hc);have HL:=hid hL;have HT:=hid hT;have HU:=hid hU;have HA:=hid hA;clear hL hn hc hT hU hA
 go_enter Tryz.func102,Tryz.ntmps102
 go_upto_region 2 with fail
 obtain⟨W1,hW1,⟨b0,b1,b2⟩,hB⟩:=zIU w #[.int .i64 1,.int .i64 1] #[.int .i64 0,.int .i64 0,.slice l.a l.t.len l.c] #[.slice (some ⟨w.heap.size,0,none⟩) 1 1,.slice none 0 0,.slice (some ⟨w.heap.size+1,0,none⟩) 1 1,.slice none 0 0,.slice none 0 0,.slice none 0 0,.slice none 0 0,.bool false,.int .u32 0,.slice none 0 0,.slice none 0 0] 26 43 40;rw[hW1];have hm:zN W1.heap.size W1 (ofM w.heap.size l):=zJS b0 b1 (HL.out.on hB);have CB:=hid (zGA (ofM w.heap.size l) 0 W1 hm HFW.out (HT.out.below hB) (HU.out.below hB) (HA.out.below hB));rw[show (ofM w.heap.size l).v=#[.slice (some ⟨w.heap.size,0,none⟩) 1 1,.slice none 0 0,.slice (some ⟨w.heap.size+1,0,none⟩) 1 1,.slice none 0 0,.slice none 0 0,.slice none 0 0,.slice none 0 0,.bool false,.int .u32 0,.slice none 0 0,.slice none 0 0] from rfl] at CB;unfold zG0 at CB;obtain⟨q,hq⟩:∃q,Md.body (ofM w.heap.size l) 0=q:=⟨_,rfl⟩;rw[hq] at CB;have HQ:=hid hq;obtain⟨n0,n1,n2,n3,n4,n5,n6,n7,n8,n9,n10⟩:=zB.mod b2;have HB:=hid hB;clear hm hq b0 b1 b2 hB hW1
 go_wp2_with fail
 refine CB.out.mono ?_;rintro e2 w2 ⟨rfl,hb2⟩;have HB2:=hid (HB.out.trans (hb2.mono HB.out.size));clear CB hb2 n0 n1 n2 n3 n4 n5 n6 n7 n8 n9 n10;go_wp2;go_ret2;exact⟨by rw[HQ.out];rfl,HB2.out⟩
def Zr (n:Int):Ix:=⟨32,0,n,0,0,[],none,0,none,0,0,none,0,0⟩
theorem zH6 (n:Int) (w:World):Calls Tryz.prog 103 #[.int .u32 n] w fun e w'=>e=.returned (.agg (Zr n).vals)∧Below w.heap.size w w':=by
 go_enter Tryz.func103,Tryz.ntmps103
 go_wp2;refine bodyPost_ret (v:=.agg (Zr n).vals) (by simp[results,Tryz.results103,go_sem,Zr,Ix.vals]) rfl ⟨rfl,zC (Below.refl _ _) _⟩
def Zs:Ix:=⟨65,0,0,0,0,[],none,0,none,0,0,none,0,0⟩
def zB2 (g:Nat):Lst:=⟨some ⟨g+1,0,none⟩,1,ZY [(Zs,.nil,.nil)]⟩
def zCf:ByteArray:=⟨#[104,111,115,116]⟩
def sF:ByteArray:=⟨#[102]⟩
def zw (g:Nat):Md where
 ty:=[(1,1),(0,0)]
 im:=[⟨zCf,sF,0⟩]
 fu:=[⟨1,0,⟨none,0,.nil⟩⟩]
 tb:=[⟨1,0,false⟩]
 me:=[⟨1,0,false⟩]
 gl:=[⟨true,zB2 g⟩,⟨false,zB2 g⟩]
 ex:=[]
 st:=false
 sn:=0
 el:=[]
 da:=[]
 ty':=⟨some ⟨g+1+1,0,none⟩,2⟩
 im':=⟨some ⟨g+1+1+1,0,none⟩,1⟩
 fu':=⟨some ⟨g+1+1+1+1,0,none⟩,1⟩
 tb':=⟨some ⟨g+1+1+1+1+1,0,none⟩,1⟩
 me':=⟨some ⟨g+1+1+1+1+1+1,0,none⟩,1⟩
 gl':=⟨some ⟨g+1+1+1+1+1+1+1,0,none⟩,2⟩
 ex':=⟨none,0⟩
 el':=⟨none,0⟩
 da':=⟨none,0⟩
theorem Z7 (g:Nat):∀l∈(zw g).codes,l=⟨none,0,.nil⟩∨l=zB2 g:=by
 intro l hl;simp[zw,Md.codes] at hl;exact hl
theorem zF0 (g:Nat):(zw g).few:=by
 refine⟨⟨by simp[zw],by simp[zw],by simp[zw],by simp[zw],by simp[zw],by simp[zw],by simp[zw],by simp[zw],by simp[zw],fun l hl=>?_,by simp[zw],by simp[zw],fun i hi=>?_,by simp[zw]⟩,fun l hl=>?_,by simp[zw]⟩
 ·rcases Z7 g l hl with rfl|rfl<;>simp[zB2,ZY,Il.len]
 ·simp only[zw,List.mem_singleton] at hi;subst hi;decide
 ·rcases Z7 g l hl with rfl|rfl<;>simp[zB2,ZY,Il.count]
theorem zHD (g:Nat):Rg (zw g):=⟨by simp[zw],by simp[zw],by simp[zw]⟩
theorem zAf:Zs.ok:=by constructor<;>simp[Zs]
theorem zDX (g:Nat):qK (zw g)=⟨0,0,0,0⟩:=by kernel_rfl
theorem zHS {g:Nat} {W:World} (b1:zB W (g+1) Zs.vals) (b2:zB W (g+1+1) #[.int .i64 1,.int .i64 1,.int .i64 0,.int .i64 0]) (b3:zB W (g+1+1+1) #[.string zCf,.string sF,.int .i64 0]) (b4:zB W (g+1+1+1+1) #[.int .i64 1,.int .i64 0,.slice none 0 0])
  (b5:zB W (g+1+1+1+1+1) #[.int .u32 1,.int .u32 0,.bool false]) (b6:zB W (g+1+1+1+1+1+1) #[.int .u32 1,.int .u32 0,.bool false]) (b7:zB W (g+1+1+1+1+1+1+1) #[.bool true,.slice (some ⟨g+1,0,none⟩) 1 1,.bool false,.slice (some ⟨g+1,0,none⟩) 1 1]) :
  zN W.heap.size W (zw g):=by
 have l:∀ {b v},zB W b v→v[0]?.isSome→b<W.heap.size:=fun {b v} h h0=>by
  obtain⟨x,hx⟩:=Option.isSome_iff_exists.1 h0;exact World.block_lt_of_cell? W ⟨b,0,none⟩ (h 0 x hx)
 refine⟨jT (l b2 rfl) (by simp[zw,tyV]) b2,jT (l b3 rfl) (by simp[zw,Imp.v]) b3,jT (l b4 rfl) (by simp[zw,Mod.Fn.v]) b4,jT (l b5 rfl) (by simp[zw,Li.v]) b5,jT (l b6 rfl) (by simp[zw,Li.v]) b6,jT (l b7 rfl) (by simp[zw,Gl.v]) b7,.inl rfl,.inl rfl,.inl rfl,fun x hx=>?_,by simp[zw],by simp[zw]⟩
 rcases Z7 g x hx with rfl|rfl
 ·exact⟨rfl,.inl rfl⟩
 ·exact zAK (l:=[(Zs,.nil,.nil)]) (l b1 rfl) b1 (fun x hx=>by
    obtain rfl:=List.mem_singleton.1 hx;exact⟨zAf,.inl rfl,⟨rfl,.inl rfl⟩,⟨rfl,.inl rfl⟩⟩)
def zJZ (g:Nat) (w:World) (e:Ending) (w':World):Prop:=e=.returned (.agg (zw g).v)∧zN w'.heap.size w' (zw g)∧Below w.heap.size w w'
theorem zJE (w:World):Calls Tryz.prog 46 #[] w (zJZ w.heap.size w):=by
 go_enter Tryz.func46,Tryz.ntmps46
 go_wp2;obtain⟨W,hW,⟨b0,b1,b2,b3,b4,b5,b6,b7⟩,hB⟩:=zIS w #[.slice (some ⟨w.heap.size+1+1,0,none⟩) 2 2,.slice (some ⟨w.heap.size+1+1+1,0,none⟩) 1 1,.slice (some ⟨w.heap.size+1+1+1+1,0,none⟩) 1 1,.slice (some ⟨w.heap.size+1+1+1+1+1,0,none⟩) 1 1,.slice (some ⟨w.heap.size+1+1+1+1+1+1,0,none⟩) 1 1,.slice (some ⟨w.heap.size+1+1+1+1+1+1+1,0,none⟩) 2 2,.slice none 0 0,.bool false,.int .u32 0,.slice none 0 0,.slice none 0 0] #[.int .i64 65,.int .i64 0,.int .u32 0,.int .u32 0,.int .i32 0,.slice none 0 0,.slice none 0 0,.slice none 0 0] #[.int .i64 1,.int .i64 1,.int .i64 0,.int .i64 0] #[.string ⟨#[104,111,115,116]⟩,.string ⟨#[102]⟩,.int .i64 0] #[.int .i64 1,.int .i64 0,.slice none 0 0] #[.int .u32 1,.int .u32 0,.bool false] #[.int .u32 1,.int .u32 0,.bool false] #[.bool true,.slice (some ⟨w.heap.size+1,0,none⟩) 1 1,.bool false,.slice (some ⟨w.heap.size+1,0,none⟩) 1 1] 40 92 26 124 43 127 127 129;rw[hW];have hat:zN W.heap.size W (zw w.heap.size):=zHS b1 b2 b3 b4 b5 b6 b7;have HAT:=hid hat;have HB:=hid hB;obtain⟨n0,n1,n2,n3,n4,n5,n6,n7,n8,n9,n10⟩:=zB.mod b0;clear hat hB b0 b1 b2 b3 b4 b5 b6 b7 hW;refine bodyPost_ret (v:=.agg (zw w.heap.size).v) (by simp[results,Tryz.results46,go_sem,zw,Md.v,n0,n1,n2,n3,n4,n5,n6,n7,n8,n9,n10]) rfl ⟨rfl,HAT.out,HB.out⟩
structure Tb (w:World):Prop where
 nt:kC w
 ut:Utf.Tabs w
 ar:Num.ZX w
theorem Tb.on {w w':World} (h:Tb w) (hb:Below w.heap.size w w'):Tb w':=⟨h.nt.below hb,h.ut.below hb,h.ar.below hb⟩
theorem zEB (xs:List (Ix×Il×Il)) (b n c:Nat) (w:World) (r:Int×Int) (hT:Tb w) (h:zB w b ((xs.map fun x=>x.1.vals.toList).flatten.toArray)) (hb:b<w.heap.size) (hx:∀x∈xs,zEI w.heap.size w x) (hc:(ZY xs).count≤1000000) (hn:xs.length=n) (hn2:n≤1000) (hr:∀g,Md.body (ofM g ⟨some ⟨b,0,none⟩,c,ZY xs⟩) 0=r) :
  Calls Tryz.prog 102 #[.slice (some ⟨b,0,none⟩) n c] w fun e w'=>e=.returned (.tuple #[.int .i64 r.1,.int .i64 r.2])∧Below w.heap.size w w':=by
 have hl:(ZY xs).len=n:=(Jq xs).trans hn;have hL:=zAK hb h hx;have:=zJU ⟨some ⟨b,0,none⟩,c,ZY xs⟩ w (by show zD _ _ _ (ZY xs).len _;rw[hl,←hn];exact hL) (by show (ZY xs).len≤_;omega) hc hT.nt hT.ut hT.ar;simp only[hl] at this;refine this.mono fun e w' h=>?_
 unfold OfP at h;rw[hr] at h;exact h
theorem of_none (w:World) (hT:Tb w):Calls Tryz.prog 102 #[.slice none 0 0] w fun e w'=>e=.returned (.tuple #[.int .i64 200,.int .i64 0])∧Below w.heap.size w w':=by
 refine (zJU ⟨none,0,.nil⟩ w ⟨rfl,.inl rfl⟩ (by decide) (by decide) hT.nt hT.ut hT.ar).mono fun e w' h=>?_
 unfold OfP at h;rw[show ∀g,Md.body (ofM g ⟨none,0,.nil⟩) 0=(200,0) from fun g=>by kernel_rfl] at h;exact h
theorem zDq (g:Nat) (w:World) (hm:zN w.heap.size w (zw g)) (hT:Tb w):Calls Tryz.prog 49 #[.agg (zw g).v] w fun e w'=>e=.returned (.agg #[.int .i64 0,.int .i64 0,.int .i64 0,.int .i64 0])∧Below w.heap.size w w':=by
 refine (zEG (zw g) w hm (zF0 g) (zHD g) hT.nt hT.ut hT.ar).mono fun e w' h=>?_
 unfold zDw at h;rw[zDX] at h;exact h
theorem zGT (n₀:Nat) (W:World) (n:Int) (hn:0≤n∧n<4294967296):zEI n₀ W (Zr n,.nil,.nil):=⟨by constructor<;>simp[Zr]<;>omega,.inl rfl,⟨rfl,.inl rfl⟩,⟨rfl,.inl rfl⟩⟩
theorem zFB (b c g:Nat):Md.body (ofM g ⟨some ⟨b,0,none⟩,c,ZY [(Zr 0,.nil,.nil)]⟩) 0=(0,0):=by kernel_rfl
theorem zFK (b c g:Nat):Md.body (ofM g ⟨some ⟨b,0,none⟩,c,ZY [(Zr 1,.nil,.nil)]⟩) 0=(6,1):=by kernel_rfl
theorem zHz (w:World) (hT:Tb w):Calls Tryz.prog 51 #[] w fun e w'=>e=.returned (.bool true)∧Below w.heap.size w w':=by
 have HT:=hid hT;have q1:=zER;have q2:=Jw;clear hT
 go_enter Tryz.func51,Tryz.ntmps51
 go_wp2_with fail
 refine (zH6 0 _).mono ?_;rintro e w1 ⟨rfl,hb1⟩;have HB1:=hid hb1;clear hb1;have C1:=hid (zEB [(Zr 0,.nil,.nil)] w1.heap.size 1 1 (w1.alloc (.cells (Zr 0).vals 92)) (0,0) ((HT.out.on HB1.out).on (zG _ _)) (zB.made w1 (Zr 0).vals _) (by simp) (fun x hx=>by obtain rfl:=List.mem_singleton.1 hx;exact zGT _ _ 0 (by omega)) (by decide) rfl (by omega) (fun g=>zFB _ _ g));unfold Zr Ix.vals at C1
 go_wp2_with fail
 refine C1.out.mono ?_;rintro e w2 ⟨rfl,hb2⟩;have HB2:=hid (zM HB1.out (zM (zG w1 _) hb2));clear C1 hb2 HB1
 go_wp2_with fail
 refine (zH6 1 _).mono ?_;rintro e w3 ⟨rfl,hb3⟩;have HB3:=hid (zM HB2.out hb3);clear hb3 HB2;have C2:=hid (zEB [(Zr 1,.nil,.nil)] w3.heap.size 1 1 (w3.alloc (.cells (Zr 1).vals 92)) (6,1) ((HT.out.on HB3.out).on (zG _ _)) (zB.made w3 (Zr 1).vals _) (by simp) (fun x hx=>by obtain rfl:=List.mem_singleton.1 hx;exact zGT _ _ 1 (by omega)) (by decide) rfl (by omega) (fun g=>zFK _ _ g));unfold Zr Ix.vals at C2
 go_wp2_with fail
 refine C2.out.mono ?_;rintro e w4 ⟨rfl,hb4⟩;have HB4:=hid (zM HB3.out (zM (zG w3 _) hb4));clear C2 hb4 HB3;have C3:=hid (of_none w4 (HT.out.on HB4.out))
 go_wp2_with fail
 refine C3.out.mono ?_;rintro e w5 ⟨rfl,hb5⟩;have HB5:=hid (zM HB4.out hb5);clear C3 hb5 HB4
 go_wp2_with fail
 refine (zJE _).mono ?_;rintro e w6 ⟨rfl,hm6,hb6⟩;have HB6:=hid (zM HB5.out hb6);have C4:=hid (zDq _ w6 hm6 (HT.out.on HB6.out));clear hm6 hb6 HB5
 go_wp2_with fail
 refine C4.out.mono ?_;rintro e w7 ⟨rfl,hb7⟩;have HB7:=hid (zM HB6.out hb7);clear C4 hb7 HB6;go_wp2;go_ret;exact⟨rfl,HB7.out⟩
end Val
namespace Val
open Go.RowKit Instr Mod
open Stk (Fr R ji vP qM yu yl yW vT valid zl)
def deI:Ix:=⟨0,0,0,0,0,[],none,0,none,0,0,none,0,0⟩
def drI:Ix:=⟨26,0,0,0,0,[],none,0,none,0,0,none,0,0⟩
def tail3:Il:=.cons deI .nil .nil (.cons drI .nil .nil (.cons drI .nil .nil .nil))
def t5 (x:Ix):Il:=.cons deI .nil .nil (.cons x .nil .nil tail3)
end Val
namespace Val
open Go.RowKit Go.Shelf Instr Mod
structure zEM (g:Nat) (W:World):Prop where
 b1:zB W (g+1) Zs.vals
 b3:zB W (g+1+1+1) #[.string zCf,.string sF,.int .i64 0]
 b5:zB W (g+1+1+1+1+1) #[.int .u32 1,.int .u32 0,.bool false]
 b6:zB W (g+1+1+1+1+1+1) #[.int .u32 1,.int .u32 0,.bool false]
 b7:zB W (g+1+1+1+1+1+1+1) #[.bool true,.slice (some ⟨g+1,0,none⟩) 1 1,.bool false,.slice (some ⟨g+1,0,none⟩) 1 1]
theorem uu {W W':World} {k b:Nat} {v:Array Value} (h:zB W b v) (hs:zF k W W') (hk:b≠k):zB W' b v:=fun j x hj=>hs.cell hk (h j x hj)
theorem zEM.save {g k:Nat} {W W':World} (h:zEM g W) (hs:zF k W W') (h1:g+1≠k) (h3:g+1+1+1≠k) (h5:g+1+1+1+1+1≠k) (h6:g+1+1+1+1+1+1≠k) (h7:g+1+1+1+1+1+1+1≠k):zEM g W' :=
 ⟨uu h.b1 hs h1,uu h.b3 hs h3,uu h.b5 hs h5,uu h.b6 hs h6,uu h.b7 hs h7⟩
def NB (W:World) (g:Nat) (v:Array Value):Prop:=W.heap[g]?=some (.cells v 40 (0,0))
theorem NB.lt {W:World} {g:Nat} {v:Array Value} (b:NB W g v):g<W.heap.size:=(Array.getElem?_eq_some_iff.1 b).1
theorem NB.c {W:World} {g:Nat} {v:Array Value} (b:NB W g v) (j:Nat):W.cell? ⟨g,j,none⟩=v[j]?:=cell_of_row W g j _ _ _ b
theorem NB.f {W:World} {g:Nat} {v:Array Value} (b:NB W g v) (j:Nat):W.frozen? ⟨g,j,none⟩=false:=frozen_of_row W g j _ _ b
theorem NB.box {W:World} {g:Nat} {v:Array Value} (b:NB W g v):zB W g v:=fun j x h=>(b.c j).trans h
theorem NB.fs {W:World} {g:Nat} {v:Array Value} (b:NB W g v):W.frozen? ⟨g,0,none⟩=false∧W.frozen? ⟨g,1,none⟩=false∧W.frozen? ⟨g,2,none⟩=false∧W.frozen? ⟨g,3,none⟩=false∧W.frozen? ⟨g,4,none⟩=false∧W.frozen? ⟨g,5,none⟩=false ∧
  W.frozen? ⟨g,6,none⟩=false∧W.frozen? ⟨g,7,none⟩=false∧W.frozen? ⟨g,8,none⟩=false∧W.frozen? ⟨g,9,none⟩=false∧W.frozen? ⟨g,10,none⟩=false:=⟨b.f 0,b.f 1,b.f 2,b.f 3,b.f 4,b.f 5,b.f 6,b.f 7,b.f 8,b.f 9,b.f 10⟩
theorem NB.cs {W:World} {g:Nat} {v0 v1 v2 v3 v4 v5 v6 v7 v8 v9 v10:Value} (b:NB W g #[v0,v1,v2,v3,v4,v5,v6,v7,v8,v9,v10]):W.cell? ⟨g,0,none⟩=some v0∧W.cell? ⟨g,1,none⟩=some v1∧W.cell? ⟨g,2,none⟩=some v2∧W.cell? ⟨g,3,none⟩=some v3∧W.cell? ⟨g,4,none⟩=some v4∧W.cell? ⟨g,5,none⟩=some v5 ∧
  W.cell? ⟨g,6,none⟩=some v6∧W.cell? ⟨g,7,none⟩=some v7∧W.cell? ⟨g,8,none⟩=some v8∧W.cell? ⟨g,9,none⟩=some v9∧W.cell? ⟨g,10,none⟩=some v10:=⟨b.c 0,b.c 1,b.c 2,b.c 3,b.c 4,b.c 5,b.c 6,b.c 7,b.c 8,b.c 9,b.c 10⟩
end Val
section
open Go.RowKit
end
namespace Val
open Go.RowKit Instr Mod
def Y5 (g:Nat) (sty sfu:Sl) (r lo:Int) (a:Option Addr) (c:Nat) (t:Il):Md:={ zw g with ty:=[(1,1),(0,0),(0,r)],fu:=[⟨1,0,⟨none,0,.nil⟩⟩,⟨2,lo,⟨a,c,t⟩⟩],ty':=sty,fu':=sfu }
end Val
namespace Val
open Go.RowKit Go.Shelf Instr Mod
theorem zAL {e:TypeId} {sz base k n c q:Nat} {w:World} {rs:List (List Value)} {v:Value} (h:Stk.zR e sz base w (.slice (some ⟨k,0,none⟩) n c) rs) (hv:rs.flatten[q]?=some v):w.cell? ⟨k,q,none⟩=some v∧w.frozen? ⟨k,q,none⟩=false:=by
 rcases h.row.2 with ⟨h1,_⟩|⟨b,cap,cur,h1,h2,h3,h4,h5,h6,h7⟩
 ·cases h1
 ·simp only[Value.slice.injEq,Option.some.injEq,Addr.mk.injEq,and_true] at h1
  obtain⟨rfl,-,rfl⟩:=h1;refine⟨?_,frozen_of_row w k q cur e h3⟩;rw[cell_of_row w k q cur e _ h3,←Array.getElem?_toList];rw[←h7] at hv;rw[List.getElem?_take] at hv
  split at hv
  ·exact hv
  ·cases hv
def zJa (g a3 c3 a4 c4:Nat):Array Value:=#[.slice (some ⟨a3,0,none⟩) 3 c3,.slice (some ⟨g+1+1+1,0,none⟩) 1 1,.slice (some ⟨a4,0,none⟩) 2 c4,.slice (some ⟨g+1+1+1+1+1,0,none⟩) 1 1,.slice (some ⟨g+1+1+1+1+1+1,0,none⟩) 1 1,.slice (some ⟨g+1+1+1+1+1+1+1,0,none⟩) 2 2,.slice none 0 0,.bool false,.int .u32 0,.slice none 0 0,.slice none 0 0]
structure PM (n₀:Nat) (w0:World) (g gb a3 c3 a4 c4:Nat) (r lo:Int) (la:Option Addr) (ln lc:Nat) (W:World):Prop where
 box:NB W gb (zJa g a3 c3 a4 c4)
 rich:zEM g W
 ty:Stk.zR 26 2 g W (.slice (some ⟨a3,0,none⟩) 3 c3) [[.int .i64 1,.int .i64 1],[.int .i64 0,.int .i64 0],[.int .i64 0,.int .i64 r]]
 fu:Stk.zR 43 3 g W (.slice (some ⟨a4,0,none⟩) 2 c4) [[.int .i64 1,.int .i64 0,.slice none 0 0],[.int .i64 2,.int .i64 lo,.slice la ln lc]]
 bel:Below n₀ w0 W
 hg:n₀≤g
 hgb:g+1+1+1+1+1+1+1<gb
 sz:n₀≤W.heap.size
theorem zEF {e:TypeId} {sz base k n c:Nat} {w:World} {rs:List (List Value)} (h:Stk.zR e sz base w (.slice (some ⟨k,0,none⟩) n c) rs):base≤k∧∃cs,w.heap[k]?=some (.cells cs e (0,0)):=by
 rcases h.row.2 with ⟨h1,_⟩|⟨b,cap,cur,h1,h2,h3,h4,h5,h6,h7⟩
 ·cases h1
 ·simp only[Value.slice.injEq,Option.some.injEq,Addr.mk.injEq,and_true] at h1
  obtain⟨rfl,-,rfl⟩:=h1;exact⟨h2,cur,h3⟩
section
variable {n₀ g gb a3 c3 a4 c4 ln lc:Nat} {w0 W:World} {r lo:Int} {la:Option Addr}
structure Apart (g gb a3 a4:Nat):Prop where
 r3:∀b∈[g+1,g+1+1+1,g+1+1+1+1+1,g+1+1+1+1+1+1,g+1+1+1+1+1+1+1],b≠a3
 r4:∀b∈[g+1,g+1+1+1,g+1+1+1+1+1,g+1+1+1+1+1+1,g+1+1+1+1+1+1+1],b≠a4
theorem PM.b3 (h:PM n₀ w0 g gb a3 c3 a4 c4 r lo la ln lc W):gb≠a3:=by
 obtain⟨_,cs,h4⟩:=zEF h.ty;intro e;have h5:=h.box;unfold NB at h5;rw[e,h4] at h5;simp at h5
theorem PM.apart (h:PM n₀ w0 g gb a3 c3 a4 c4 r lo la ln lc W):Apart g gb a3 a4:=by
 have e3:=(zAL (q:=0) h.ty rfl).1;have e4:=(zAL (q:=0) h.fu rfl).1;have f1:W.cell? ⟨g+1,0,none⟩=some (.int .i64 65):=h.rich.b1 0 _ rfl;have f3:W.cell? ⟨g+1+1+1,0,none⟩=some (.string zCf):=h.rich.b3 0 _ rfl;have f5:W.cell? ⟨g+1+1+1+1+1,0,none⟩=some (.int .u32 1):=h.rich.b5 0 _ rfl;have f6:W.cell? ⟨g+1+1+1+1+1+1,0,none⟩=some (.int .u32 1):=h.rich.b6 0 _ rfl;have f7:W.cell? ⟨g+1+1+1+1+1+1+1,0,none⟩=some (.bool true):=h.rich.b7 0 _ rfl;refine⟨fun b hb e=>?_,fun b hb e=>?_⟩
 ·simp only[List.mem_cons,List.not_mem_nil,or_false] at hb
  rcases hb with h|h|h|h|h
  ·rw[←e,h,f1] at e3;simp at e3
  ·rw[←e,h,f3] at e3;simp at e3
  ·rw[←e,h,f5] at e3;simp at e3
  ·rw[←e,h,f6] at e3;simp at e3
  ·rw[←e,h,f7] at e3;simp at e3
 ·simp only[List.mem_cons,List.not_mem_nil,or_false] at hb
  rcases hb with h|h|h|h|h
  ·rw[←e,h,f1] at e4;simp at e4
  ·rw[←e,h,f3] at e4;simp at e4
  ·rw[←e,h,f5] at e4;simp at e4
  ·rw[←e,h,f6] at e4;simp at e4
  ·rw[←e,h,f7] at e4;simp at e4
theorem PM.c5 (h:PM n₀ w0 g gb a3 c3 a4 c4 r lo la ln lc W):W.cell? ⟨a4,5,none⟩=some (.slice la ln lc)∧W.frozen? ⟨a4,5,none⟩=false:=zAL h.fu rfl
theorem PM.cs (h:PM n₀ w0 g gb a3 c3 a4 c4 r lo la ln lc W):W.cell? ⟨gb,0,none⟩=some (.slice (some ⟨a3,0,none⟩) 3 c3)∧W.cell? ⟨gb,1,none⟩=some (.slice (some ⟨g+1+1+1,0,none⟩) 1 1)∧W.cell? ⟨gb,2,none⟩=some (.slice (some ⟨a4,0,none⟩) 2 c4)∧W.cell? ⟨gb,3,none⟩=some (.slice (some ⟨g+1+1+1+1+1,0,none⟩) 1 1)∧W.cell? ⟨gb,4,none⟩=some (.slice (some ⟨g+1+1+1+1+1+1,0,none⟩) 1 1)∧W.cell? ⟨gb,5,none⟩=some (.slice (some ⟨g+1+1+1+1+1+1+1,0,none⟩) 2 2)∧W.cell? ⟨gb,6,none⟩=some (.slice none 0 0)∧W.cell? ⟨gb,7,none⟩=some (.bool false)∧W.cell? ⟨gb,8,none⟩=some (.int .u32 0)∧W.cell? ⟨gb,9,none⟩=some (.slice none 0 0)∧W.cell? ⟨gb,10,none⟩=some (.slice none 0 0):=NB.cs h.box
theorem PM.at_ (h:PM n₀ w0 g gb a3 c3 a4 c4 r lo la ln lc W) {t:Il} (hl:zD W.heap.size W la ln t):zN W.heap.size W (Y5 g ⟨some ⟨a3,0,none⟩,c3⟩ ⟨some ⟨a4,0,none⟩,c4⟩ r lo la lc t):=by
 have hB:=h.rich
 have l:∀ {b v},zB W b v→v[0]?.isSome→b<W.heap.size:=fun {b v} h h0=>by
  obtain⟨x,hx⟩:=Option.isSome_iff_exists.1 h0;exact World.block_lt_of_cell? W ⟨b,0,none⟩ (h 0 x hx)
 obtain⟨a3',c3',e3,r3,-⟩:=Stk.zR.rows h.ty;obtain⟨a4',c4',e4,r4,-⟩:=Stk.zR.rows h.fu;simp only[List.length_cons,List.length_nil,Value.slice.injEq] at e3 e4;obtain⟨rfl,-,rfl⟩:=e3;obtain⟨rfl,-,rfl⟩:=e4;have hln:t.len=ln:=hl.1;have r4':Stk.Rows W.heap.size W (some ⟨a4,0,none⟩) 3 [[.int .i64 1,.int .i64 0,.slice none 0 0],[.int .i64 2,.int .i64 lo,.slice la t.len lc]]:=by rw[hln];exact r4
 refine⟨r3,jT (l hB.b3 rfl) (by simp[Y5,zw,Imp.v]) hB.b3,r4',jT (l hB.b5 rfl) (by simp[Y5,zw,Li.v]) hB.b5,jT (l hB.b6 rfl) (by simp[Y5,zw,Li.v]) hB.b6,jT (l hB.b7 rfl) (by simp[Y5,zw,Gl.v]) hB.b7,.inl rfl,.inl rfl,.inl rfl,fun y hy=>?_,by simp[Y5,zw],by simp[Y5,zw]⟩;simp[Y5,zw,Md.codes] at hy
 rcases hy with rfl|rfl|rfl
 ·exact⟨rfl,.inl rfl⟩
 ·show zD W.heap.size W la t.len t
  rw[hln];exact hl
 ·exact zAK (l:=[(Zs,.nil,.nil)]) (l hB.b1 rfl) hB.b1 (fun x hx=>by
    obtain rfl:=List.mem_singleton.1 hx;exact⟨zAf,.inl rfl,⟨rfl,.inl rfl⟩,⟨rfl,.inl rfl⟩⟩)
end
end Val
namespace Val
open Go.RowKit Go.Shelf Instr Mod
structure JAt (W:World) (g:Nat) (hd:List Value) (lab:Value) (j:J):Prop where
 box:W.heap[g]?=some (.cells (hd++[lab,.int .i64 j.cnt,.int .i64 j.e,.int .i64 j.at_]).toArray 261 (0,0))
 len:hd.length=14
theorem JAt.lt {W:World} {g:Nat} {hd:List Value} {lab:Value} {j:J} (h:JAt W g hd lab j):g<W.heap.size:=(Array.getElem?_eq_some_iff.1 h.box).1
theorem JAt.c {W:World} {g:Nat} {hd:List Value} {lab:Value} {j:J} (h:JAt W g hd lab j):W.cell? ⟨g,14,none⟩=some lab∧W.cell? ⟨g,15,none⟩=some (.int .i64 j.cnt)∧W.cell? ⟨g,16,none⟩=some (.int .i64 j.e)∧W.cell? ⟨g,17,none⟩=some (.int .i64 j.at_):=by
 have hl:=h.len;refine⟨(cell_of_row W g 14 _ _ _ h.box).trans ?_,(cell_of_row W g 15 _ _ _ h.box).trans ?_,(cell_of_row W g 16 _ _ _ h.box).trans ?_,(cell_of_row W g 17 _ _ _ h.box).trans ?_⟩
 all_goals
  rw[List.getElem?_toArray,List.getElem?_append_right (by omega),hl];rfl
theorem JAt.f {W:World} {g:Nat} {hd:List Value} {lab:Value} {j:J} (h:JAt W g hd lab j) (i:Nat):W.frozen? ⟨g,i,none⟩=false:=frozen_of_row W g i _ _ h.box
theorem JAt.hd_ {W:World} {g:Nat} {hd:List Value} {lab:Value} {j:J} (h:JAt W g hd lab j) {i:Nat} {v:Value} (hi:hd[i]?=some v):W.cell? ⟨g,i,none⟩=some v:=by
 have hl:=(List.getElem?_eq_some_iff.1 hi).1;refine (cell_of_row W g i _ _ _ h.box).trans ?_;rw[List.getElem?_toArray,List.getElem?_append_left hl];exact hi
theorem JAt.keep {W W':World} {g k:Nat} {hd:List Value} {lab:Value} {j:J} (h:JAt W g hd lab j) (hs:zF k W W') (hne:g≠k):JAt W' g hd lab j:=⟨(hs.block g h.lt hne).trans h.box,h.len⟩
theorem JAt.below {W W':World} {g:Nat} {hd:List Value} {lab:Value} {j:J} (h:JAt W g hd lab j) (hb:Below W.heap.size W W'):JAt W' g hd lab j:=⟨(hb.block g h.lt).trans h.box,h.len⟩
theorem zHU {hd:List Value} (hl:hd.length=14) (a b c d x:Value):(hd++[a,b,c,d]).toArray.set! 14 x=(hd++[x,b,c,d]).toArray∧(hd++[a,b,c,d]).toArray.set! 15 x=(hd++[a,x,c,d]).toArray∧(hd++[a,b,c,d]).toArray.set! 16 x=(hd++[a,b,x,d]).toArray∧(hd++[a,b,c,d]).toArray.set! 17 x=(hd++[a,b,c,x]).toArray:=by
 refine⟨?_,?_,?_,?_⟩
 all_goals
  simp[hl]
theorem JAt.setLab {W:World} {g:Nat} {hd:List Value} {lab:Value} {j:J} (h:JAt W g hd lab j) (x:Value):JAt (W.setCell ⟨g,14,none⟩ x) g hd x j :=
 ⟨by have:=heap_setCell_same W g 14 _ _ x h.box;rw[←(zHU h.len lab _ _ _ x).1];exact this,h.len⟩
theorem JAt.setCnt {W:World} {g:Nat} {hd:List Value} {lab:Value} {j:J} (h:JAt W g hd lab j) (x:Int):JAt (W.setCell ⟨g,15,none⟩ (.int .i64 x)) g hd lab ⟨x,j.e,j.at_⟩ :=
 ⟨by have:=heap_setCell_same W g 15 _ _ (.int .i64 x) h.box;rw[←(zHU h.len lab _ _ _ _).2.1];exact this,h.len⟩
theorem JAt.setE {W:World} {g:Nat} {hd:List Value} {lab:Value} {j:J} (h:JAt W g hd lab j) (x:Int):JAt (W.setCell ⟨g,16,none⟩ (.int .i64 x)) g hd lab ⟨j.cnt,x,j.at_⟩ :=
 ⟨by have:=heap_setCell_same W g 16 _ _ (.int .i64 x) h.box;rw[←(zHU h.len lab _ _ _ _).2.2.1];exact this,h.len⟩
theorem JAt.setAt {W:World} {g:Nat} {hd:List Value} {lab:Value} {j:J} (h:JAt W g hd lab j) (x:Int):JAt (W.setCell ⟨g,17,none⟩ (.int .i64 x)) g hd lab ⟨j.cnt,j.e,x⟩ :=
 ⟨by have:=heap_setCell_same W g 17 _ _ (.int .i64 x) h.box;rw[←(zHU h.len lab _ _ _ _).2.2.2];exact this,h.len⟩
def JQ (g:Nat) (hd:List Value) (lab:Value) (j:J) (W W':World):Prop:=JAt W' g hd lab j∧zF g W W'
theorem JQ.refl {g:Nat} {hd:List Value} {lab:Value} {j:J} {W:World} (h:JAt W g hd lab j):JQ g hd lab j W W:=⟨h,zF.refl g W⟩
theorem JQ.trans {g:Nat} {hd hd':List Value} {lab lab':Value} {j j':J} {A B C:World} (h:JQ g hd lab j A B) (h2:JQ g hd' lab' j' B C):JQ g hd' lab' j' A C:=⟨h2.1,h.2.trans h2.2⟩
theorem JQ.drewN {g:Nat} {hd:List Value} {lab:Value} {j:J} {W W':World} (h:JQ g hd lab j W W') (n:Nat):JQ g hd lab j W (W'.drewN n):=⟨⟨h.1.box,h.1.len⟩,⟨h.2.os,h.2.tape,h.2.output,h.2.size,h.2.block⟩⟩
theorem jZ {W:World} {g:Nat} {hd:List Value} {lab:Value} {j:J} (h:JAt W g hd lab j) (er a:Int) :
  Calls Tryz.prog 250 #[.pointer (some ⟨g,0,none⟩),.int .i64 er,.int .i64 a] W fun e W'=>e=.returned (.tuple #[])∧JQ g hd lab (j.fault er a) W W':=by
 obtain⟨c14,c15,c16,c17⟩:=h.c;have f16:=h.f 16;have f17:=h.f 17;have H:=hid h;unfold J.fault
 by_cases h0:j.e=0
 ·rw[if_pos h0]
  have HN:=hid (show JQ g hd lab ⟨j.cnt,er,a⟩ W ((W.setCell ⟨g,16,none⟩ (.int .i64 er)).setCell ⟨g,17,none⟩ (.int .i64 a)) from ⟨(h.setE er).setAt a,((zF.refl g W).setCell (p:=⟨g,16,none⟩) (.inl rfl) _).setCell (p:=⟨g,17,none⟩) (.inl rfl) _⟩);rw[h0] at c16;clear h
  go_enter Tryz.func250,Tryz.ntmps250
  go_wp2
  go_end0
  exact⟨rfl,HN.out⟩
 ·rw[if_neg h0]
  clear h
  go_enter Tryz.func250,Tryz.ntmps250
  go_wp2
  go_end0
  exact⟨rfl,JQ.refl H.out⟩
def HvV (h:Hv):Value:=.agg #[.int .i64 h.n,.bool h.d]
structure zIW (W:World) (B:Nat) (n0:Int) (d:Bool) (W':World):Prop where
 a:W'.heap[B]?=some (.cells #[.int .i64 n0,.bool d] 312 (0,0))
 b:W'.heap[B+1]?=some (.cells #[.int .i64 0,.bool false] 312 (0,0))
theorem zHp {W w1:World} {g:Nat} {hd:List Value} {lab:Value} {j:J} {n0:Int} {d:Bool} (hq:JQ g hd lab j W w1) (h2:zIW W W.heap.size n0 d w1) (hg:g<W.heap.size) (x y z:Value) :
  JQ g hd lab j W (((w1.setCell ⟨W.heap.size,0,none⟩ x).setCell ⟨W.heap.size+1,0,none⟩ y).setCell ⟨W.heap.size+1,1,none⟩ z)∧(((w1.setCell ⟨W.heap.size,0,none⟩ x).setCell ⟨W.heap.size+1,0,none⟩ y).setCell ⟨W.heap.size+1,1,none⟩ z).heap[W.heap.size+1]?=some (.cells #[y,z] 312 (0,0)):=by
 refine⟨⟨?_,((hq.2.setCell (p:=⟨W.heap.size,0,none⟩) (.inr (Nat.le_refl _)) _).setCell (p:=⟨W.heap.size+1,0,none⟩) (.inr (by simp)) _).setCell (p:=⟨W.heap.size+1,1,none⟩) (.inr (by simp)) _⟩,?_⟩
 ·have e1:=hq.1.keep (zF.setCell (p:=⟨W.heap.size,0,none⟩) (zF.refl W.heap.size w1) (.inl rfl) x) (by omega)
  have e2:=e1.keep (zF.setCell (p:=⟨W.heap.size+1,0,none⟩) (zF.refl (W.heap.size+1) _) (.inl rfl) y) (by omega);exact e2.keep (zF.setCell (p:=⟨W.heap.size+1,1,none⟩) (zF.refl (W.heap.size+1) _) (.inl rfl) z) (by omega)
 ·have hs:=zF.setCell (p:=⟨W.heap.size,0,none⟩) (zF.refl W.heap.size w1) (.inl rfl) x
  have hb:=(hs.block (W.heap.size+1) (Array.getElem?_eq_some_iff.1 h2.b).1 (by omega)).trans h2.b;exact heap_setCell_same _ _ 1 _ _ z (heap_setCell_same _ _ 0 _ _ y hb)
theorem qc {W:World} {g:Nat} {hd:List Value} {lab:Value} {j:J} (h:JAt W g hd lab j) (hv:Hv) (n a:Int) (hn:0≤n∧n≤4611686018427387904) (hh:0≤hv.n∧hv.n≤4611686018427387904) :
  Calls Tryz.prog 249 #[.pointer (some ⟨g,0,none⟩),HvV hv,.int .i64 n,.int .i64 a] W fun e W'=>e=.returned (HvV (zO n a (hv,j)).1)∧JQ g hd lab (zO n a (hv,j)).2 W W':=by
 obtain⟨n0,d⟩:=hv;have hb0:Below W.heap.size W ((W.alloc (.cells #[.int .i64 n0,.bool d] 312)).alloc (.cells #[.int .i64 0,.bool false] 312)):=zC (zG W _) _;have H0:=hid (h.below hb0);have HG:=hid h.lt;have CF:=hid (jZ H0.out 200 a);have hx0:zIW W W.heap.size n0 d ((W.alloc (.cells #[.int .i64 n0,.bool d] 312)).alloc (.cells #[.int .i64 0,.bool false] 312)):=⟨(zG (W.alloc (.cells #[.int .i64 n0,.bool d] 312)) _).block W.heap.size (by simp) |>.trans (heap_alloc_new W _),by have:=heap_alloc_new (W.alloc (.cells #[.int .i64 n0,.bool d] 312)) (.cells #[.int .i64 0,.bool false] 312);rw[World.size_alloc] at this;exact this⟩;have HH:=hid h;have HJ0:=hid (⟨H0.out,zF.of_below hb0⟩:JQ g hd lab j W ((W.alloc (.cells #[.int .i64 n0,.bool d] 312)).alloc (.cells #[.int .i64 0,.bool false] 312)));have HX0:=hid hx0;have HF:=hid (fun (W':World) (j':J) (hq:JQ g hd lab j' ((W.alloc (.cells #[.int .i64 n0,.bool d] 312)).alloc (.cells #[.int .i64 0,.bool false] 312)) W')=>(show zIW W W.heap.size n0 d W'∧JQ g hd lab j' W W' from ⟨⟨(hq.2.block _ (by simp;omega) (by have:=HG.out;omega)).trans hx0.a,(hq.2.block _ (by simp) (by have:=HG.out;omega)).trans hx0.b⟩,hq.1,(zF.of_below hb0).trans hq.2⟩));unfold HvV zO;dsimp only at hh ⊢;obtain⟨h0,h1⟩:=hh;obtain⟨k0,k1⟩:=hn;clear h hb0 H0 hx0;obtain⟨W2,hW2⟩:∃W2,W2=(W.alloc (.cells #[.int .i64 n0,.bool d] 312)).alloc (.cells #[.int .i64 0,.bool false] 312):=⟨_,rfl⟩;rw[←hW2] at CF HJ0 HX0 HF;have HW2:=hid hW2;clear hW2
 by_cases hc:n0<n∧d=false
 ·obtain⟨hc1,rfl⟩:=hc
  rw[if_pos ⟨hc1,rfl⟩];clear HJ0 HH
  go_enter Tryz.func249,Tryz.ntmps249
  go_wp2_with fail
  rw[←HW2.out];refine CF.out.mono ?_;rintro e w1 ⟨rfl,hq⟩;obtain⟨hx1,hq1⟩:=HF.out _ _ hq;have HE1:=hid (fun x y z=>zHp hq1 hx1 HG.out x y z);have x0:=cell_of_row w1 W.heap.size 0 _ _ _ hx1.a;have x1:=cell_of_row w1 W.heap.size 1 _ _ _ hx1.a;have y0:=frozen_of_row w1 W.heap.size 0 _ _ hx1.a;have z0:=cell_of_row w1 (W.heap.size+1) 0 _ _ _ hx1.b;have z1:=cell_of_row w1 (W.heap.size+1) 1 _ _ _ hx1.b;have t0:=frozen_of_row w1 (W.heap.size+1) 0 _ _ hx1.b;have t1:=frozen_of_row w1 (W.heap.size+1) 1 _ _ hx1.b;simp at x0 x1 z0 z1;clear hx1 hq1 hq CF HF HW2 HX0;go_wp2;obtain⟨q1,q2⟩:=HE1.out (.int .i64 (max (n0-n) 0)) (.int .i64 (max (n0-n) 0)) (.bool false);exact bodyPost_ret (results_cell_row Tryz.results249 _ _ (W.heap.size+1) _ _ _ _ rfl q2 Tryz.underlying312 rfl (by kernel_rfl)) rfl ⟨rfl,q1⟩
 ·rw[if_neg hc]
  have HE:=hid (fun (o1 o2:Obj)=>(show JQ g hd lab j W ((W.alloc o1).alloc o2) from ⟨HH.out.below (zC (zG W o1) o2),zF.of_below (zC (zG W o1) o2)⟩))
  have HR:=hid (fun (o1 o2:Obj) (c:Array Value) (t:TypeId) (e:o2=.cells c t)=>(show ((W.alloc o1).alloc o2).heap[W.heap.size+1]?=some (.cells c t (0,0)) by
    subst e;have:=heap_alloc_new (W.alloc o1) (.cells c t);rw[World.size_alloc] at this;exact this))
  have hc':¬n0<n∨d=true:=by
   rcases Decidable.em (n0<n) with h|h
   ·right
    cases d with
    | true=>rfl
    | false=>exact absurd ⟨h,rfl⟩ hc
   ·exact .inl h
  clear CF HF HW2 HX0 HJ0 hc HH
  rcases hc' with hc|rfl
  ·go_enter Tryz.func249,Tryz.ntmps249
   go_wp2;exact bodyPost_ret (results_cell_row Tryz.results249 _ _ (W.heap.size+1) _ _ _ _ rfl (HR.out _ _ _ _ rfl) Tryz.underlying312 rfl (by kernel_rfl)) rfl ⟨rfl,HE.out _ _⟩
  ·rcases Decidable.em (n0<n) with hc|hc
   ·go_enter Tryz.func249,Tryz.ntmps249
    go_wp2;exact bodyPost_ret (results_cell_row Tryz.results249 _ _ (W.heap.size+1) _ _ _ _ rfl (HR.out _ _ _ _ rfl) Tryz.underlying312 rfl (by kernel_rfl)) rfl ⟨rfl,HE.out _ _⟩
   ·go_enter Tryz.func249,Tryz.ntmps249
    go_wp2;exact bodyPost_ret (results_cell_row Tryz.results249 _ _ (W.heap.size+1) _ _ _ _ rfl (HR.out _ _ _ _ rfl) Tryz.underlying312 rfl (by kernel_rfl)) rfl ⟨rfl,HE.out _ _⟩
def vg (n₀:Nat) (W:World) (a:Option Addr) (ls:List Int):Prop:=ls=[]∨∃b,a=some ⟨b,0,none⟩∧b<n₀∧∀i,i<ls.length→W.cell? ⟨b,i,none⟩=some (.int .i64 (ls.getD i 0))
theorem Zo {W:World} {g:Nat} {hd:List Value} {la:Option Addr} {lc:Nat} {ls:List Int} {j:J} (h:JAt W g hd (.slice la ls.length lc) j) (hl:vg W.heap.size W la ls) (hn:ls.length≤1000000) (n:Nat) (a:Int) (hnn:n≤4294967295) :
  Calls Tryz.prog 328 #[.pointer (some ⟨g,0,none⟩),.int .u32 n,.int .i64 a] W fun e W'=>e=.returned (.int .i64 (zI ls n a j).1)∧JQ g hd (.slice la ls.length lc) (zI ls n a j).2 W W':=by
 have c14:=h.c.1;have CF:=hid (jZ h 6 a);have H:=hid (JQ.refl h);unfold zI
 by_cases hc:(ls.length:Int)≤n
 ·rw[if_pos hc]
  clear h
  generalize ls.length=k at *
  go_enter Tryz.func328,Tryz.ntmps328
  go_wp2_with fail
  refine CF.out.mono ?_;rintro e w1 ⟨rfl,hq⟩;have HQ:=hid hq;clear hq c14 H CF;go_wp2;go_ret;exact⟨rfl,HQ.out⟩
 ·rw[if_neg hc]
  obtain⟨b,rfl,hb,hcell⟩:=hl.resolve_left (fun e=>by subst e;simp at hc);have hx:=hcell (ls.length-1-n) (by omega);have e1:((n:Int)).toNat=n:=by simp
  rw[e1]
  generalize ls.getD (ls.length-1-n) 0=z at *
  clear h hcell CF hl
  generalize ls.length=k at *
  obtain⟨q,hq⟩:∃q:Nat,(k:Int)-1-(n:Int)=(q:Int):=⟨k-1-n,by omega⟩;have hq2:k-1-n=q:=by omega
  have hq3:(q:Int)<(k:Int):=by omega
  have hq4:q<k:=by omega
  rw[hq2] at hx;clear hq2
  go_enter Tryz.func328,Tryz.ntmps328
  go_upto_region 4 with fail
  go_quiet (fail)
  go_wp2;go_ret;exact⟨rfl,H.out.drewN _⟩
end Val
namespace Mod
open Go.RowKit Go.Shelf Instr
theorem qi (x:Int) (h0:0≤x) (h1:x≤1000000000000000):IntKind.i64.wrap x=x:=by rw[IntKind.wrap_i64];omega
theorem vS (m:Md) (n:Nat) (w:World) (hm:zN w.heap.size w m) (hf:m.fits) (hn:n<4294967296) :
  Calls Tryz.prog 126 #[.agg m.v,.int .u32 (n:Int)] w fun e w'=>e=.returned (.tuple #[.agg #[.int .i64 (m.typeOf n).1.1,.int .i64 (m.typeOf n).1.2],.bool (m.typeOf n).2])∧Below w.heap.size w w':=by
 have hb1:Below w.heap.size w ((w.alloc (.cells m.v 40)).alloc (.cells #[.int .i64 0,.int .i64 0] 26)):=zC (zC (Below.refl _ _) _) _;have HB:=hid hb1;have hm1:=hm.on hb1;have hx:=((zB.made w m.v 40).keep ((Below.refl _ _).alloc (Nat.le_refl _) (.cells #[.int .i64 0,.int .i64 0] 26))).all;obtain⟨k0,k1,k2,-⟩:=hx;have r0:((w.alloc (.cells m.v 40)).alloc (.cells #[.int .i64 0,.int .i64 0] 26)).cell? ⟨w.heap.size+1,0,none⟩=some (.int .i64 0):=by go_simp
 have r1:((w.alloc (.cells m.v 40)).alloc (.cells #[.int .i64 0,.int .i64 0] 26)).cell? ⟨w.heap.size+1,1,none⟩=some (.int .i64 0):=by go_simp
 have f0:((w.alloc (.cells m.v 40)).alloc (.cells #[.int .i64 0,.int .i64 0] 26)).frozen? ⟨w.heap.size+1,0,none⟩=false:=by go_simp
 have f1:((w.alloc (.cells m.v 40)).alloc (.cells #[.int .i64 0,.int .i64 0] 26)).frozen? ⟨w.heap.size+1,1,none⟩=false:=by go_simp
 have HTY:=hid hm1.ty;have HI:=hid hm1.im;have HF:=hid hm1.fu;have HE:Hid (m.typeN n=if n<m.im.length then ((m.im.map (·.ty)).getD n 0) else if n<m.im.length+m.fu.length then ((m.fu.map (·.ty)).getD (n-m.im.length) 0) else -1):=rfl;have HG:=hid (show ∀k (hk:k<m.im.length),(m.im.map (·.ty)).getD k 0=m.im[k].ty from fun k hk=>by simp[hk]);have HH:=hid (show ∀k (hk:k<m.fu.length),(m.fu.map (·.ty)).getD k 0=m.fu[k].ty from fun k hk=>by simp[hk]);have lt:=hf.ty;have li:=hf.im;have lf:=hf.fu;have HN:=hid (fun h=>zAr (m:=m) (n:=n) h);have HY:=hid (fun k h hk=>zAE (m:=m) (n:=n) (k:=k) h hk);unfold Md.v at HI HF HTY HB k0 k1 k2 r0 r1 f0 f1 ⊢;clear hm hf hb1 hm1
 by_cases h1:n<m.im.length
 ·obtain⟨b,off,ha,hb,hc⟩:=Rows.get HI.out h1
  have HT0:=hid (show m.typeN n=m.im[n].ty by rw[HE.out,if_pos h1,HG.out n h1]);obtain⟨y,hy⟩:∃y,m.im[n]=y:=⟨_,rfl⟩;rw[hy] at hc HT0
  generalize m.im'.a=ai at ha k0 k1 k2 r0 r1 f0 f1 HB HTY hc HI HF ⊢
  subst ha;have c0:=hc 2 (by omega) (.int .i64 y.ty) rfl;obtain⟨t,ht⟩:∃t,y.ty=t:=⟨_,rfl⟩;rw[ht] at c0 HT0;have HT:=HT0;have h1i:(n:Int)<(m.im.length:Int):=by omega
  clear hy ht HT0 hc HE HG HH HI HF hb h1
  by_cases g1:t<0
  ·have HR:=hid (HN.out (.inl (by rw[HT.out];exact g1)))
   clear HN HY HT HTY
   go_enter Tryz.func126,Tryz.ntmps126
   go_wp2;refine bodyPost_ret (v:=.tuple #[.agg #[.int .i64 0,.int .i64 0],.bool false]) (by simp[results,Tryz.results126,go_sem,r0,r1]) rfl (And.intro (vU (by rw[HR.out])) ?_)
   first|exact HB.out|exact (Below.refl _ _).drew|exact zC (zC (Below.refl _ _) _) _|exact (zC (zC (Below.refl _ _) _) _).drew|exact (HB.out.setCell (p:=⟨w.heap.size+1,0,none⟩) (by simp) _).setCell (p:=⟨w.heap.size+1,1,none⟩) (by simp) _
  ·by_cases g2:(m.ty.length:Int)≤t
   ·have HR:=hid (HN.out (.inr (by rw[HT.out];exact g2)))
    clear HN HY HT HTY
    go_enter Tryz.func126,Tryz.ntmps126
    go_wp2;refine bodyPost_ret (v:=.tuple #[.agg #[.int .i64 0,.int .i64 0],.bool false]) (by simp[results,Tryz.results126,go_sem,r0,r1]) rfl (And.intro (vU (by rw[HR.out])) ?_)
    first|exact HB.out|exact (Below.refl _ _).drew|exact zC (zC (Below.refl _ _) _) _|exact (zC (zC (Below.refl _ _) _) _).drew|exact (HB.out.setCell (p:=⟨w.heap.size+1,0,none⟩) (by simp) _).setCell (p:=⟨w.heap.size+1,1,none⟩) (by simp) _
   ·obtain⟨j,rfl⟩:∃j:Nat,t=j:=⟨t.toNat,by omega⟩
    have hj:j<m.ty.length:=by omega
    have HR:=hid (HY.out j HT.out hj);obtain⟨b2,off2,ha2,hb2,hc2⟩:=Rows.get HTY.out hj
    generalize m.ty'.a=at9 at ha2 hb2 hc2 k0 k1 k2 r0 r1 f0 f1 HB HTY c0 ⊢
    subst ha2;obtain⟨x,hx⟩:∃x,m.ty[j]=x:=⟨_,rfl⟩;rw[hx] at hc2 HR;have d0:=hc2 0 (by omega) (.int .i64 x.1) rfl;have d1:=hc2 1 (by omega) (.int .i64 x.2) rfl;have hji:(j:Int)<(m.ty.length:Int):=by omega
    clear hx hc2 HN HY HT HTY g1 g2
    try simp only[Nat.add_zero] at d0
    go_enter Tryz.func126,Tryz.ntmps126
    go_wp2;refine bodyPost_ret (v:=.tuple #[.agg #[.int .i64 x.1,.int .i64 x.2],.bool true]) (by simp[results,Tryz.results126,go_sem]) rfl (And.intro (vU (by rw[HR.out])) ?_)
    first|exact HB.out|exact (Below.refl _ _).drew|exact zC (zC (Below.refl _ _) _) _|exact (zC (zC (Below.refl _ _) _) _).drew|exact (HB.out.setCell (p:=⟨w.heap.size+1,0,none⟩) (by simp) _).setCell (p:=⟨w.heap.size+1,1,none⟩) (by simp) _
 ·have h1i:¬(n:Int)<(m.im.length:Int):=by omega
  have us:=qi ((m.im.length:Int)+(m.fu.length:Int)) (by omega) (by omega)
  by_cases h2:n<m.im.length+m.fu.length
  ·obtain⟨k,rfl⟩:∃k,n=m.im.length+k:=⟨n-m.im.length,by omega⟩
   have hk:k<m.fu.length:=by omega
   have HT0:=hid (show m.typeN (m.im.length+k)=m.fu[k].ty by rw[HE.out,if_neg h1,if_pos h2,Nat.add_sub_cancel_left,HH.out k hk]);obtain⟨b,off,ha,hb,hc⟩:=Rows.get HF.out hk;obtain⟨y,hy⟩:∃y,m.fu[k]=y:=⟨_,rfl⟩;rw[hy] at hc HT0
   generalize m.fu'.a=ai at ha k0 k1 k2 r0 r1 f0 f1 HB HTY hc HI HF ⊢
   subst ha;have c0:=hc 0 (by omega) (.int .i64 y.ty) rfl;simp only[Nat.add_zero] at c0;obtain⟨t,ht⟩:∃t,y.ty=t:=⟨_,rfl⟩;rw[ht] at c0 HT0;have HT:=HT0;clear hy ht HT0 hc HE HG HH HI HF hb h1 h2
   generalize m.im.length=A at *
   generalize m.fu.length=F at *
   have e1:((A+k:Nat):Int)=(A:Int)+(k:Int):=by omega
   rw[e1] at h1i ⊢;have ui:=qi ((A:Int)+(k:Int)) (by omega) (by omega);have ud2:(A:Int)+(k:Int)-(A:Int)=(k:Int):=by omega
   have uk:=qi (k:Int) (by omega) (by omega);have h2i:(A:Int)+(k:Int)<(A:Int)+(F:Int):=by omega
   have hki:(k:Int)<(F:Int):=by omega
   clear e1
   by_cases g1:t<0
   ·have HR:=hid (HN.out (.inl (by rw[HT.out];exact g1)))
    clear HN HY HT HTY
    go_enter Tryz.func126,Tryz.ntmps126
    go_wp2;refine bodyPost_ret (v:=.tuple #[.agg #[.int .i64 0,.int .i64 0],.bool false]) (by simp[results,Tryz.results126,go_sem,r0,r1]) rfl (And.intro (vU (by rw[HR.out])) ?_)
    first|exact HB.out|exact (Below.refl _ _).drew|exact zC (zC (Below.refl _ _) _) _|exact (zC (zC (Below.refl _ _) _) _).drew|exact (HB.out.setCell (p:=⟨w.heap.size+1,0,none⟩) (by simp) _).setCell (p:=⟨w.heap.size+1,1,none⟩) (by simp) _
   ·by_cases g2:(m.ty.length:Int)≤t
    ·have HR:=hid (HN.out (.inr (by rw[HT.out];exact g2)))
     clear HN HY HT HTY
     go_enter Tryz.func126,Tryz.ntmps126
     go_wp2;refine bodyPost_ret (v:=.tuple #[.agg #[.int .i64 0,.int .i64 0],.bool false]) (by simp[results,Tryz.results126,go_sem,r0,r1]) rfl (And.intro (vU (by rw[HR.out])) ?_)
     first|exact HB.out|exact (Below.refl _ _).drew|exact zC (zC (Below.refl _ _) _) _|exact (zC (zC (Below.refl _ _) _) _).drew|exact (HB.out.setCell (p:=⟨w.heap.size+1,0,none⟩) (by simp) _).setCell (p:=⟨w.heap.size+1,1,none⟩) (by simp) _
    ·obtain⟨j,rfl⟩:∃j:Nat,t=j:=⟨t.toNat,by omega⟩
     have hj:j<m.ty.length:=by omega
     have HR:=hid (HY.out j HT.out hj);obtain⟨b2,off2,ha2,hb2,hc2⟩:=Rows.get HTY.out hj
     generalize m.ty'.a=at9 at ha2 hb2 hc2 k0 k1 k2 r0 r1 f0 f1 HB HTY c0 ⊢
     subst ha2;obtain⟨x,hx⟩:∃x,m.ty[j]=x:=⟨_,rfl⟩;rw[hx] at hc2 HR;have d0:=hc2 0 (by omega) (.int .i64 x.1) rfl;have d1:=hc2 1 (by omega) (.int .i64 x.2) rfl;have hji:(j:Int)<(m.ty.length:Int):=by omega
     clear hx hc2 HN HY HT HTY g1 g2
     try simp only[Nat.add_zero] at d0
     go_enter Tryz.func126,Tryz.ntmps126
     go_wp2;refine bodyPost_ret (v:=.tuple #[.agg #[.int .i64 x.1,.int .i64 x.2],.bool true]) (by simp[results,Tryz.results126,go_sem]) rfl (And.intro (vU (by rw[HR.out])) ?_)
     first|exact HB.out|exact (Below.refl _ _).drew|exact zC (zC (Below.refl _ _) _) _|exact (zC (zC (Below.refl _ _) _) _).drew|exact (HB.out.setCell (p:=⟨w.heap.size+1,0,none⟩) (by simp) _).setCell (p:=⟨w.heap.size+1,1,none⟩) (by simp) _
  ·have h2i:¬(n:Int)<(m.im.length:Int)+(m.fu.length:Int):=by omega
   have HR:=hid (HN.out (.inl (show m.typeN n<0 by rw[HE.out,if_neg h1,if_neg h2];omega)));clear HN HY HTY HE HG HH HI HF h1 h2
   go_enter Tryz.func126,Tryz.ntmps126
   go_wp2;refine bodyPost_ret (v:=.tuple #[.agg #[.int .i64 0,.int .i64 0],.bool false]) (by simp[results,Tryz.results126,go_sem,r0,r1]) rfl (And.intro (vU (by rw[HR.out])) ?_)
   first|exact HB.out|exact (Below.refl _ _).drew|exact zC (zC (Below.refl _ _) _) _|exact (zC (zC (Below.refl _ _) _) _).drew|exact (HB.out.setCell (p:=⟨w.heap.size+1,0,none⟩) (by simp) _).setCell (p:=⟨w.heap.size+1,1,none⟩) (by simp) _
end Mod
end Go.Proofs.YtdljneclfgneoaaGreatDoor
