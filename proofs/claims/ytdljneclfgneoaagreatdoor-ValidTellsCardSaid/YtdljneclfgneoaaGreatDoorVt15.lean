import Derived.Test.YtdljneclfgneoaaGreatDoorVt14
set_option linter.unusedVariables false
set_option linter.ambiguousOpen false
set_option maxRecDepth 100000
set_option maxHeartbeats 8000000
namespace Go.Proofs.YtdljneclfgneoaaGreatDoor
namespace Instr
end Instr
namespace Body
end Body
namespace Mod
open Go.RowKit Instr
open Body (jy zH5 yw)
theorem zE7 {xs ys:List Int} {i:Nat} (h1:i<xs.length) (h2:i<ys.length) (h:∀j (h1:j<xs.length) (h2:j<ys.length),j<i→xs[j]=ys[j]) (hx:xs.getD i 0=ys.getD i 0):∀j (h1:j<xs.length) (h2:j<ys.length),j<i+1→xs[j]=ys[j] :=
 ja h1 h2 h (by rw[getD_lt h1,getD_lt h2] at hx;exact hx)
theorem Zb (a1 a2:Option Addr) (n1 n2 c1 c2 n₀:Nat) (xs ys:List Int) (w:World) (h1:xs.length=n1) (h2:ys.length=n2) (hx:zk n₀ w a1 xs) (hy:zk n₀ w a2 ys) (hn0:n₀≤w.heap.size) (hb1:n1≤140737488351232) (hb2:n2≤140737488351232) :
  Calls Tryz.prog 33 #[.slice a1 n1 c1,.slice a2 n2 c2] w fun e w'=>e=.returned (.bool (is (xs=ys)))∧Below w.heap.size w w':=by
 by_cases hnn:n1=n2
 ·subst hnn
  have HL:=hid h1;have HR:=hid h2;have HX:=hid hx;have HY:=hid hy;have HN:=hid hn0;clear h1 h2 hx hy hn0
  go_enter Tryz.func33,Tryz.ntmps33
  go_wp2
  go_loopw [5] (fun vi wr=>∃i:Nat,vi=.int .i64 i∧i≤n1∧Below w.heap.size w wr∧Hid (∀j (h1:j<xs.length) (h2:j<ys.length),j<i→xs[j]=ys[j])) (fun vi _=>n1-(intOf vi).toNat)
  case atStart=>exact⟨0,rfl,Nat.zero_le _,Below.refl _ _,jX _ _⟩
  case round =>
   obtain⟨i,rfl,hi,hb,HQ⟩:=hrel
   by_cases hil:i<n1
   ·have g1:i<xs.length:=by have:=HL.out;omega
    have g2:i<ys.length:=by have:=HR.out;omega
    have hcell:∀(a:Option Addr) (zs:List Int),i<zs.length→zk n₀ w a zs→∃b off,a=some ⟨b,off,none⟩∧wr.cell? ⟨b,off+i,none⟩=some (.int .u32 (zs.getD i 0)):=by
     intro a zs h1 h
     rcases h with h|⟨b,off,ha,hl,hc⟩
     ·subst h;exact absurd h1 (by simp)
     ·exact⟨b,off,ha,(hb.cell (p:=⟨b,off+i,none⟩) (Nat.lt_of_lt_of_le hl HN.out)).trans (hc i h1)⟩
    obtain⟨b1,o1,rfl,hd1⟩:=hcell a1 xs g1 HX.out;obtain⟨b2,o2,rfl,hd2⟩:=hcell a2 ys g2 HY.out;have HS:=hid (fun h=>zE7 g1 g2 HQ.out h);have HF:=hid (fun (h:¬xs.getD i 0=ys.getD i 0)=>zY (p:=xs=ys) (fun e=>h (by rw[e])));obtain⟨x,hx0⟩:∃x,xs.getD i 0=x:=⟨_,rfl⟩;obtain⟨y,hy0⟩:∃y,ys.getD i 0=y:=⟨_,rfl⟩;rw[hx0] at hd1 HS HF;rw[hy0] at hd2 HS HF;have hi0:(i:Int)<(n1:Int):=by omega
    clear hcell hx0 hy0 HQ g1 g2
    by_cases hxy:x=y
    ·subst hxy
     have HE:=hid (HS.out rfl);clear HS HF;go_wp2
     go_quiet (fail)
     go_wp2
     go_roundw
     case rel=>exact⟨i+1,by go_num,by omega,jy hb _,HE⟩
     case measure=>simp[intOf];omega
    ·have HE:=hid (HF.out hxy)
     have q1:(x==y)=false:=by simp[hxy]
     have q2:(x != y)=true:=by simp[hxy]
     clear HS HF;go_wp2
     go_quiet (fail)
     go_wp2;go_ret;exact⟨zA HE.out.symm,jy hb _⟩
   ·obtain rfl:i=n1:=by omega
    have HE:=hid (ya (jb HL.out HR.out HQ.out));clear HQ;go_wp2;go_ret;exact⟨zA HE.out.symm,hb⟩
 ·have HE:=hid (zY (p:=xs=ys) (fun e=>hnn (by rw[←h1,←h2,e])))
  have hni:¬(n1:Int)=(n2:Int):=by omega
  have q1:((n1:Int)==(n2:Int))=false:=beq_eq_false_iff_ne.2 hni;have q2:((n1:Int) != (n2:Int))=true:=bne_iff_ne.2 hni;clear h1 h2 hx hy hn0
  go_enter Tryz.func33,Tryz.ntmps33
  go_wp2;go_ret;exact⟨zA HE.out.symm,Below.refl _ _⟩
def vJ (n₀ n k m:Nat) (a:Option Addr) (w:World) (r:Il):Prop:=r.len+k=n∧r.count≤m+1∧(r=.nil∨∃b off,a=some ⟨b,off,none⟩∧zg n₀ w b (off+k*8) r)
theorem vJ.start {n₀ n m:Nat} {a:Option Addr} {w:World} {t:Il} (hm:t.count≤m+1) (h:zD n₀ w a n t):vJ n₀ n 0 m a w t:=by
 refine⟨h.1,hm,?_⟩
 rcases h.2 with rfl|⟨b,off,ha,hi⟩
 ·exact .inl rfl
 ·exact .inr ⟨b,off,ha,by simpa using hi⟩
theorem vJ.below {n₀ n k m:Nat} {a:Option Addr} {w w':World} {r:Il} (h:vJ n₀ n k m a w r) (hb:Below n₀ w w'):vJ n₀ n k m a w' r:=by
 obtain⟨h1,h2,h3⟩:=h;refine⟨h1,h2,?_⟩
 rcases h3 with h|⟨b,off,ha,hi⟩
 ·exact .inl h
 ·exact .inr ⟨b,off,ha,hi.below hb⟩
theorem vJ.step {n₀ n k m:Nat} {a:Option Addr} {w:World} {r:Il} (h:vJ n₀ n k m a w r) (hk:k<n) :
  ∃(x:Ix) (l e s:Il) (b off:Nat),r=.cons x l e s∧b<n₀∧a=some ⟨b,off,none⟩∧zH5 x b (off+k*8) w∧x.ok∧zk n₀ w x.ta x.tags∧zD n₀ w x.la x.ln l∧zD n₀ w x.ea x.en e∧l.count≤m∧e.count≤m∧vJ n₀ n (k+1) m a w s:=by
 obtain⟨h1,h2,h3⟩:=h
 cases r with
 | nil=>simp only[Il.len] at h1;omega
 | cons x l e s =>
  rcases h3 with h|⟨b,off,ha,hb,hx,c,ht,hl,he,hr⟩
  ·cases h
  ·simp only[Il.len] at h1
   simp only[Il.count] at h2;exact⟨x,l,e,s,b,off,rfl,hb,ha,c,hx,ht,hl,he,by omega,by omega,by omega,by omega,.inr ⟨b,off,ha,by rw[show off+(k+1)*8=off+k*8+8 by omega];exact hr⟩⟩
theorem vJ.done {n₀ n m:Nat} {a:Option Addr} {w:World} {r:Il} (h:vJ n₀ n n m a w r):r=.nil:=by
 have:=h.1
 cases r with
 | nil=>rfl
 | cons x l e s=>simp only[Il.len] at this;omega
theorem zE8 {t u:Il} {n1 n2:Nat} (h1:t.len=n1) (h2:u.len=n2) (h:¬n1=n2):¬t.bare=u.bare:=by
 intro e;have:=qX t;rw[e,qX u] at this;omega
structure zHb (x y:Ix) (l e l' e':Il):Prop where
 op:x.op=y.op
 res:x.res=y.res
 a:x.a=y.a
 b:x.b=y.b
 n:x.n=y.n
 tags:x.tags=y.tags
 l:l.bare=l'.bare
 e:e.bare=e'.bare
theorem zFS {x y:Ix} {l e s l' e' s':Il} (hl:l.len=x.ln) (he:e.len=x.en) (hl':l'.len=y.ln) (he':e'.len=y.en):(Il.cons x l e s).bare=(Il.cons y l' e' s').bare↔zHb x y l e l' e'∧s.bare=s'.bare:=by
 simp only[Il.bare,Il.cons.injEq,Ix.bare,Ix.mk.injEq]
 constructor
 ·rintro⟨⟨h1,h2,h3,h4,h5,h6,_⟩,h7,h8,h9⟩
  exact⟨⟨h1,h2,h3,h4,h5,h6,h7,h8⟩,h9⟩
 ·rintro⟨⟨h1,h2,h3,h4,h5,h6,h7,h8⟩,h9⟩
  have b1:=qX l;have b2:=qX e;rw[h7,qX] at b1;rw[h8,qX] at b2;exact⟨⟨h1,h2,h3,h4,h5,h6,trivial,trivial,trivial,by omega,trivial,trivial,by omega,trivial⟩,h7,h8,h9⟩
theorem qY (n₀:Nat):∀(m:Nat) (t u:Il) (a1 a2:Option Addr) (n1 n2 c1 c2:Nat) (w:World),t.count≤m→u.count≤m→zD n₀ w a1 n1 t→zD n₀ w a2 n2 u→n₀≤w.heap.size→n1≤140737488351232→n2≤140737488351232 →
  Calls Tryz.prog 139 #[.slice a1 n1 c1,.slice a2 n2 c2] w fun e w'=>e=.returned (.bool (is (t.bare=u.bare)))∧Below w.heap.size w w':=by
 intro m
 induction m with
 | zero =>
  intro t u a1 a2 n1 n2 c1 c2 w hm hm2 h1 h2 hn0 hn1 hn2
  cases t with
  | cons x l e r=>simp only[Il.count] at hm;omega
  | nil =>
   cases u with
   | cons x l e r=>simp only[Il.count] at hm2;omega
   | nil =>
    have h0:n1=0:=h1.1.symm;have h00:n2=0:=h2.1.symm;subst h0 h00;have HE:=hid (ya (rfl:Il.nil.bare=Il.nil.bare));clear h1 h2 hm hm2 hn0
    go_enter Tryz.func139,Tryz.ntmps139
    go_wp2
    go_loopw [5] (fun vi wr=>vi=.int .i64 0∧wr=w) (fun _ _=>0)
    case atStart=>exact⟨rfl,rfl⟩
    case round =>
     obtain⟨rfl,rfl⟩:=hrel;go_wp2;go_ret;exact⟨zA HE.out.symm,Below.refl _ _⟩
 | succ m ih =>
  intro t u a1 a2 n1 n2 c1 c2 w hm hm2 h1 h2 hn0 hn1 hn2
  by_cases hnn:n1=n2
  ·subst hnn
   have HM:=hid hm;have HM2:=hid hm2;have H1:=hid h1;have H2:=hid h2;have HN:=hid hn0;clear hm hm2 h1 h2 hn0
   go_enter Tryz.func139,Tryz.ntmps139
   go_wp2
   go_loopw [5] (fun vi wr=>∃(k:Nat) (r s:Il),vi=.int .i64 k∧k≤n1∧Hid (Below w.heap.size w wr)∧Hid (vJ n₀ n1 k m a1 wr r)∧Hid (vJ n₀ n1 k m a2 wr s)∧Hid (t.bare=u.bare↔r.bare=s.bare)) (fun vi _=>n1-(intOf vi).toNat)
   case atStart=>exact⟨0,t,u,rfl,Nat.zero_le _,Below.refl _ _,vJ.start HM.out H1.out,vJ.start HM2.out H2.out,Iff.rfl⟩
   case round =>
    clear H1 H2 HM HM2;obtain⟨k,r,s,rfl,hk,HB,HR,HS,HI⟩:=hrel
    by_cases hkn:k<n1
    ·obtain⟨x,l,e,r',b1,o1,rfl,hb1,rfl,⟨c0,c1,c2,c3,c4,c5,c6,c7⟩,hox,htx,hlx,hex,hcl,hce,hr'⟩:=HR.out.step hkn
     obtain⟨y,l',e',s',b2,o2,rfl,hb2,rfl,⟨d0,d1,d2,d3,d4,d5,d6,d7⟩,hoy,hty,hly,hey,hcl',hce',hs'⟩:=HS.out.step hkn;have HI2:=hid (HI.out.trans (zFS hlx.1 hex.1 hly.1 hey.1));have HR2:=hid hr';have HS2:=hid hs';obtain⟨op,res,xa,xb,xn,tags,ta,tc,la,ln,lc,ea,en,ec⟩:=x;obtain⟨op',res',xa',xb',xn',tags',ta',tc',la',ln',lc',ea',en',ec'⟩:=y;dsimp only at c0 c1 c2 c3 c4 c5 c6 c7 d0 d1 d2 d3 d4 d5 d6 d7 htx hty hlx hly hex hey;have hk0:(k:Int)<(n1:Int):=by omega
     have hs:=HB.out.size;have hn0:=HN.out;have e1:b1<wr.heap.size:=by omega
     have e2:b2<wr.heap.size:=by omega
     have tnx:tags.length≤140737488351232:=hox.tn;have tny:tags'.length≤140737488351232:=hoy.tn;have lnx:ln≤140737488351232:=hox.ln;have lny:ln'≤140737488351232:=hoy.ln;have enx:en≤140737488351232:=hox.en;have eny:en'≤140737488351232:=hoy.en;have SC:=hid (fun (W:World) (hb:Below wr.heap.size wr W)=>Zb ta ta' tags.length tags'.length tc tc' n₀ tags tags' W rfl rfl (htx.below (hb.mono (Nat.le_trans hn0 hs))) (hty.below (hb.mono (Nat.le_trans hn0 hs))) (Nat.le_trans (Nat.le_trans hn0 hs) hb.size) tnx tny);have SL:=hid (fun (W:World) (hb:Below wr.heap.size wr W)=>ih l l' la la' ln ln' lc lc' W hcl hcl' (hlx.below (hb.mono (Nat.le_trans hn0 hs))) (hly.below (hb.mono (Nat.le_trans hn0 hs))) (Nat.le_trans (Nat.le_trans hn0 hs) hb.size) lnx lny);have SE:=hid (fun (W:World) (hb:Below wr.heap.size wr W)=>ih e e' ea ea' en en' ec ec' W hce hce' (hex.below (hb.mono (Nat.le_trans hn0 hs))) (hey.below (hb.mono (Nat.le_trans hn0 hs))) (Nat.le_trans (Nat.le_trans hn0 hs) hb.size) enx eny);clear hb1 hb2 hs hn0 hox htx hlx hex hcl hce hr' hoy hty hly hey hcl' hce' hs' HR HS HI hn2 tnx tny lnx lny enx eny;go_wp2
     go_region
     ·skip
      obtain⟨w1,hw1,A1,A2,hb1⟩:∃w1,w1=((wr.alloc (.cells #[.int .i64 op,.int .i64 res,.int .u32 xa,.int .u32 xb,.int .i32 xn,.slice ta tags.length tc,.slice la ln lc,.slice ea en ec] 92)).alloc (.cells #[.int .i64 op',.int .i64 res',.int .u32 xa',.int .u32 xb',.int .i32 xn',.slice ta' tags'.length tc',.slice la' ln' lc',.slice ea' en' ec'] 92)).drew∧At ⟨op,res,xa,xb,xn,tags,ta,tc,la,ln,lc,ea,en,ec⟩ wr.heap.size w1∧At ⟨op',res',xa',xb',xn',tags',ta',tc',la',ln',lc',ea',en',ec'⟩ (wr.heap.size+1) w1∧Below wr.heap.size wr w1:=by
       obtain⟨A1,A2,hb⟩:=yw wr ⟨op,res,xa,xb,xn,tags,ta,tc,la,ln,lc,ea,en,ec⟩ ⟨op',res',xa',xb',xn',tags',ta',tc',la',ln',lc',ea',en',ec'⟩;exact⟨_,rfl,A1,A2,hb⟩
      rw[←hw1];clear hw1;have HB1:=hid hb1;have HA1:=hid A1;have HA2:=hid A2;obtain⟨x0,x1,x2,x3,x4,x5,x6,x7⟩:=A1;obtain⟨y0,y1,y2,y3,y4,y5,y6,y7⟩:=A2;dsimp only at x0 x1 x2 x3 x4 x5 x6 x7 y0 y1 y2 y3 y4 y5 y6 y7;clear hb1 c0 c1 c2 c3 c4 c5 c6 c7 d0 d1 d2 d3 d4 d5 d6 d7 e1 e2
      by_cases g0:op=op'
      rotate_left
      ·have HE:=hid (zY (p:=t.bare=u.bare) (fun e=>g0 (HI2.out.1 e).1.op))
       have q1:(op==op')=false:=by simp[g0]
       have q2:(op != op')=true:=by simp[g0]
       clear SC SL SE HI2 HR2 HS2;go_wp2;go_ret;exact⟨zA HE.out.symm,HB.out.trans (HB1.out.mono HB.out.size)⟩
      subst g0
      by_cases g1:res=res'
      rotate_left
      ·have HE:=hid (zY (p:=t.bare=u.bare) (fun e=>g1 (HI2.out.1 e).1.res))
       have q1:(res==res')=false:=by simp[g1]
       have q2:(res != res')=true:=by simp[g1]
       clear SC SL SE HI2 HR2 HS2;go_wp2;go_ret;exact⟨zA HE.out.symm,HB.out.trans (HB1.out.mono HB.out.size)⟩
      subst g1
      by_cases g2:xa=xa'
      rotate_left
      ·have HE:=hid (zY (p:=t.bare=u.bare) (fun e=>g2 (HI2.out.1 e).1.a))
       have q1:(xa==xa')=false:=by simp[g2]
       have q2:(xa != xa')=true:=by simp[g2]
       clear SC SL SE HI2 HR2 HS2;go_wp2;go_ret;exact⟨zA HE.out.symm,HB.out.trans (HB1.out.mono HB.out.size)⟩
      subst g2
      by_cases g3:xb=xb'
      rotate_left
      ·have HE:=hid (zY (p:=t.bare=u.bare) (fun e=>g3 (HI2.out.1 e).1.b))
       have q1:(xb==xb')=false:=by simp[g3]
       have q2:(xb != xb')=true:=by simp[g3]
       clear SC SL SE HI2 HR2 HS2;go_wp2;go_ret;exact⟨zA HE.out.symm,HB.out.trans (HB1.out.mono HB.out.size)⟩
      subst g3
      by_cases g4:xn=xn'
      rotate_left
      ·have HE:=hid (zY (p:=t.bare=u.bare) (fun e=>g4 (HI2.out.1 e).1.n))
       have q1:(xn==xn')=false:=by simp[g4]
       have q2:(xn != xn')=true:=by simp[g4]
       clear SC SL SE HI2 HR2 HS2;go_wp2;go_ret;exact⟨zA HE.out.symm,HB.out.trans (HB1.out.mono HB.out.size)⟩
      subst g4;have SC1:=hid (SC.out w1 HB1.out)
      by_cases g5:tags=tags'
      rotate_left
      ·have HE:=hid (zY (p:=t.bare=u.bare) (fun e=>g5 (HI2.out.1 e).1.tags))
       rw[zY g5] at SC1;clear SC SL SE HI2 HR2 HS2
       go_wp2_with fail
       refine SC1.out.mono ?_;rintro e9 w9 ⟨rfl,hb9⟩;have HB9:=hid (HB1.out.trans (hb9.mono HB1.out.size));clear SC1 hb9;go_wp2;go_ret;exact⟨zA HE.out.symm,HB.out.trans (HB9.out.mono HB.out.size)⟩
      rw[ya g5] at SC1;have G5:=hid g5;clear g5 SC
      go_wp2_with fail
      refine SC1.out.mono ?_;clear SC1 x0 x1 x2 x3 x4 x5 x6 x7 y0 y1 y2 y3 y4 y5 y6 y7;rintro e2 w2 ⟨rfl,hb2⟩;have HB2:=hid (HB1.out.trans (hb2.mono HB1.out.size));have HA3:=hid (HA1.out.below hb2);have HA4:=hid (HA2.out.below hb2);have x6:=HA3.out.c6;have y6:=HA4.out.c6;dsimp only at x6 y6;clear hb2 HA1 HA2 HB1;have SL1:=hid (SL.out w2 HB2.out)
      by_cases g6:l.bare=l'.bare
      rotate_left
      ·have HE:=hid (zY (p:=t.bare=u.bare) (fun e=>g6 (HI2.out.1 e).1.l))
       rw[zY g6] at SL1;clear SL SE HI2 HR2 HS2
       go_wp2_with fail
       refine SL1.out.mono ?_;rintro e9 w9 ⟨rfl,hb9⟩;have HB9:=hid (HB2.out.trans (hb9.mono HB2.out.size));clear SL1 hb9;go_wp2;go_ret;exact⟨zA HE.out.symm,HB.out.trans (HB9.out.mono HB.out.size)⟩
      rw[ya g6] at SL1;have G6:=hid g6;clear g6 SL
      go_wp2_with fail
      refine SL1.out.mono ?_;clear SL1 x6 y6;rintro e3 w3 ⟨rfl,hb3⟩;have HB3:=hid (HB2.out.trans (hb3.mono HB2.out.size));have hA3:=HA3.out.below hb3;have hA4:=HA4.out.below hb3;have x7:=hA3.c7;have y7:=hA4.c7;dsimp only at x7 y7;clear hb3 hA3 hA4 HA3 HA4 HB2;have SE1:=hid (SE.out w3 HB3.out)
      by_cases g7:e.bare=e'.bare
      rotate_left
      ·have HE:=hid (zY (p:=t.bare=u.bare) (fun e=>g7 (HI2.out.1 e).1.e))
       rw[zY g7] at SE1;clear SE HI2 HR2 HS2
       go_wp2_with fail
       refine SE1.out.mono ?_;rintro e9 w9 ⟨rfl,hb9⟩;have HB9:=hid (HB3.out.trans (hb9.mono HB3.out.size));clear SE1 hb9;go_wp2;go_ret;exact⟨zA HE.out.symm,HB.out.trans (HB9.out.mono HB.out.size)⟩
      rw[ya g7] at SE1;have HI3:=hid (HI2.out.trans ⟨fun h=>h.2,fun h=>⟨⟨rfl,rfl,rfl,rfl,rfl,G5.out,G6.out,g7⟩,h⟩⟩);clear g7 SE HI2 G5 G6
      go_wp2_with fail
      refine SE1.out.mono ?_;clear SE1 x7 y7;rintro e4 w4 ⟨rfl,hb4⟩;have HB4:=hid (HB3.out.trans (hb4.mono HB3.out.size));clear hb4 HB3;go_wp2
      go_roundw
      case rel=>exact⟨k+1,r',s',by go_num,by omega,HB.out.trans (HB4.out.mono HB.out.size),HR2.out.below (HB4.out.mono (Nat.le_trans HN.out HB.out.size)),HS2.out.below (HB4.out.mono (Nat.le_trans HN.out HB.out.size)),HI3⟩
      case measure=>simp[intOf];omega
     ·skip
      obtain⟨w1,hw1,A1,A2,hb1⟩:∃w1,w1=((wr.alloc (.cells #[.int .i64 op',.int .i64 res',.int .u32 xa',.int .u32 xb',.int .i32 xn',.slice ta' tags'.length tc',.slice la' ln' lc',.slice ea' en' ec'] 92)).alloc (.cells #[.int .i64 op,.int .i64 res,.int .u32 xa,.int .u32 xb,.int .i32 xn,.slice ta tags.length tc,.slice la ln lc,.slice ea en ec] 92)).drew∧At ⟨op,res,xa,xb,xn,tags,ta,tc,la,ln,lc,ea,en,ec⟩ (wr.heap.size+1) w1∧At ⟨op',res',xa',xb',xn',tags',ta',tc',la',ln',lc',ea',en',ec'⟩ wr.heap.size w1∧Below wr.heap.size wr w1:=by
       obtain⟨A2,A1,hb⟩:=yw wr ⟨op',res',xa',xb',xn',tags',ta',tc',la',ln',lc',ea',en',ec'⟩ ⟨op,res,xa,xb,xn,tags,ta,tc,la,ln,lc,ea,en,ec⟩;exact⟨_,rfl,A1,A2,hb⟩
      rw[←hw1];clear hw1;have HB1:=hid hb1;have HA1:=hid A1;have HA2:=hid A2;obtain⟨x0,x1,x2,x3,x4,x5,x6,x7⟩:=A1;obtain⟨y0,y1,y2,y3,y4,y5,y6,y7⟩:=A2;dsimp only at x0 x1 x2 x3 x4 x5 x6 x7 y0 y1 y2 y3 y4 y5 y6 y7;clear hb1 c0 c1 c2 c3 c4 c5 c6 c7 d0 d1 d2 d3 d4 d5 d6 d7 e1 e2
      by_cases g0:op=op'
      rotate_left
      ·have HE:=hid (zY (p:=t.bare=u.bare) (fun e=>g0 (HI2.out.1 e).1.op))
       have q1:(op==op')=false:=by simp[g0]
       have q2:(op != op')=true:=by simp[g0]
       clear SC SL SE HI2 HR2 HS2;go_wp2;go_ret;exact⟨zA HE.out.symm,HB.out.trans (HB1.out.mono HB.out.size)⟩
      subst g0
      by_cases g1:res=res'
      rotate_left
      ·have HE:=hid (zY (p:=t.bare=u.bare) (fun e=>g1 (HI2.out.1 e).1.res))
       have q1:(res==res')=false:=by simp[g1]
       have q2:(res != res')=true:=by simp[g1]
       clear SC SL SE HI2 HR2 HS2;go_wp2;go_ret;exact⟨zA HE.out.symm,HB.out.trans (HB1.out.mono HB.out.size)⟩
      subst g1
      by_cases g2:xa=xa'
      rotate_left
      ·have HE:=hid (zY (p:=t.bare=u.bare) (fun e=>g2 (HI2.out.1 e).1.a))
       have q1:(xa==xa')=false:=by simp[g2]
       have q2:(xa != xa')=true:=by simp[g2]
       clear SC SL SE HI2 HR2 HS2;go_wp2;go_ret;exact⟨zA HE.out.symm,HB.out.trans (HB1.out.mono HB.out.size)⟩
      subst g2
      by_cases g3:xb=xb'
      rotate_left
      ·have HE:=hid (zY (p:=t.bare=u.bare) (fun e=>g3 (HI2.out.1 e).1.b))
       have q1:(xb==xb')=false:=by simp[g3]
       have q2:(xb != xb')=true:=by simp[g3]
       clear SC SL SE HI2 HR2 HS2;go_wp2;go_ret;exact⟨zA HE.out.symm,HB.out.trans (HB1.out.mono HB.out.size)⟩
      subst g3
      by_cases g4:xn=xn'
      rotate_left
      ·have HE:=hid (zY (p:=t.bare=u.bare) (fun e=>g4 (HI2.out.1 e).1.n))
       have q1:(xn==xn')=false:=by simp[g4]
       have q2:(xn != xn')=true:=by simp[g4]
       clear SC SL SE HI2 HR2 HS2;go_wp2;go_ret;exact⟨zA HE.out.symm,HB.out.trans (HB1.out.mono HB.out.size)⟩
      subst g4;have SC1:=hid (SC.out w1 HB1.out)
      by_cases g5:tags=tags'
      rotate_left
      ·have HE:=hid (zY (p:=t.bare=u.bare) (fun e=>g5 (HI2.out.1 e).1.tags))
       rw[zY g5] at SC1;clear SC SL SE HI2 HR2 HS2
       go_wp2_with fail
       refine SC1.out.mono ?_;rintro e9 w9 ⟨rfl,hb9⟩;have HB9:=hid (HB1.out.trans (hb9.mono HB1.out.size));clear SC1 hb9;go_wp2;go_ret;exact⟨zA HE.out.symm,HB.out.trans (HB9.out.mono HB.out.size)⟩
      rw[ya g5] at SC1;have G5:=hid g5;clear g5 SC
      go_wp2_with fail
      refine SC1.out.mono ?_;clear SC1 x0 x1 x2 x3 x4 x5 x6 x7 y0 y1 y2 y3 y4 y5 y6 y7;rintro e2 w2 ⟨rfl,hb2⟩;have HB2:=hid (HB1.out.trans (hb2.mono HB1.out.size));have HA3:=hid (HA1.out.below hb2);have HA4:=hid (HA2.out.below hb2);have x6:=HA3.out.c6;have y6:=HA4.out.c6;dsimp only at x6 y6;clear hb2 HA1 HA2 HB1;have SL1:=hid (SL.out w2 HB2.out)
      by_cases g6:l.bare=l'.bare
      rotate_left
      ·have HE:=hid (zY (p:=t.bare=u.bare) (fun e=>g6 (HI2.out.1 e).1.l))
       rw[zY g6] at SL1;clear SL SE HI2 HR2 HS2
       go_wp2_with fail
       refine SL1.out.mono ?_;rintro e9 w9 ⟨rfl,hb9⟩;have HB9:=hid (HB2.out.trans (hb9.mono HB2.out.size));clear SL1 hb9;go_wp2;go_ret;exact⟨zA HE.out.symm,HB.out.trans (HB9.out.mono HB.out.size)⟩
      rw[ya g6] at SL1;have G6:=hid g6;clear g6 SL
      go_wp2_with fail
      refine SL1.out.mono ?_;clear SL1 x6 y6;rintro e3 w3 ⟨rfl,hb3⟩;have HB3:=hid (HB2.out.trans (hb3.mono HB2.out.size));have hA3:=HA3.out.below hb3;have hA4:=HA4.out.below hb3;have x7:=hA3.c7;have y7:=hA4.c7;dsimp only at x7 y7;clear hb3 hA3 hA4 HA3 HA4 HB2;have SE1:=hid (SE.out w3 HB3.out)
      by_cases g7:e.bare=e'.bare
      rotate_left
      ·have HE:=hid (zY (p:=t.bare=u.bare) (fun e=>g7 (HI2.out.1 e).1.e))
       rw[zY g7] at SE1;clear SE HI2 HR2 HS2
       go_wp2_with fail
       refine SE1.out.mono ?_;rintro e9 w9 ⟨rfl,hb9⟩;have HB9:=hid (HB3.out.trans (hb9.mono HB3.out.size));clear SE1 hb9;go_wp2;go_ret;exact⟨zA HE.out.symm,HB.out.trans (HB9.out.mono HB.out.size)⟩
      rw[ya g7] at SE1;have HI3:=hid (HI2.out.trans ⟨fun h=>h.2,fun h=>⟨⟨rfl,rfl,rfl,rfl,rfl,G5.out,G6.out,g7⟩,h⟩⟩);clear g7 SE HI2 G5 G6
      go_wp2_with fail
      refine SE1.out.mono ?_;clear SE1 x7 y7;rintro e4 w4 ⟨rfl,hb4⟩;have HB4:=hid (HB3.out.trans (hb4.mono HB3.out.size));clear hb4 HB3;go_wp2
      go_roundw
      case rel=>exact⟨k+1,r',s',by go_num,by omega,HB.out.trans (HB4.out.mono HB.out.size),HR2.out.below (HB4.out.mono (Nat.le_trans HN.out HB.out.size)),HS2.out.below (HB4.out.mono (Nat.le_trans HN.out HB.out.size)),HI3⟩
      case measure=>simp[intOf];omega
    ·obtain rfl:k=n1:=by omega
     have HE:=hid (ya (HI.out.2 (by rw[HR.out.done,HS.out.done])));clear HR HS HI;go_wp2;go_ret;exact⟨zA HE.out.symm,HB.out⟩
  ·have HE:=hid (zY (zE8 h1.1 h2.1 hnn))
   have hni:¬(n1:Int)=(n2:Int):=by omega
   have q1:((n1:Int)==(n2:Int))=false:=beq_eq_false_iff_ne.2 hni;have q2:((n1:Int) != (n2:Int))=true:=bne_iff_ne.2 hni;clear h1 h2 hn0 hm hm2
   go_enter Tryz.func139,Tryz.ntmps139
   go_wp2;go_ret;exact⟨zA HE.out.symm,Below.refl _ _⟩
end Mod
end Go.Proofs.YtdljneclfgneoaaGreatDoor
