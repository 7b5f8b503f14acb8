import Derived.Test.YtdljneclfgneoaaGreatDoorVt07
import Derived.Test.YtdljneclfgneoaaGreatDoorVt04
import Derived.BigQuiet
import Derived.Deep.QuietTactic
import Derived.Lib.SliceRun
import Derived.Deep.Cut
import Derived.Deep.RegionHeld
import Derived.Deep.RegionHeldLaw
import Derived.Deep.RegionHeld3
import Derived.Deep.RegionWith
set_option linter.unusedVariables false
set_option linter.ambiguousOpen false
set_option maxRecDepth 100000
set_option maxHeartbeats 8000000
namespace Go.Proofs.YtdljneclfgneoaaGreatDoor
namespace Instr
end Instr
namespace Stk
open Go.RowKit
theorem jy {B:Nat} {a w:World} (h:Below B a w) (n:Nat):Below B a (w.drewN n):=⟨h.os,h.tape,h.output,h.size,h.block⟩
structure qm (n₀:Nat) (w:World) (a:Option Addr) (n c:Nat) (l:List Fr):Prop where
 rows:Rows n₀ w a 4 (l.map Fr.v)
 len:l.length=n
 cap:n≤c
 fit:n≤140737488351232
theorem qm.below {n₀:Nat} {w w':World} {a:Option Addr} {n c:Nat} {l:List Fr} (hb:Below n₀ w w') (h:qm n₀ w a n c l):qm n₀ w' a n c l:=⟨h.rows.below hb,h.len,h.cap,h.fit⟩
theorem qm.more {n₀ n₁:Nat} {w:World} {a:Option Addr} {n c:Nat} {l:List Fr} (hn:n₀≤n₁) (h:qm n₀ w a n c l):qm n₁ w a n c l:=⟨h.rows.more hn,h.len,h.cap,h.fit⟩
theorem qm.on {w w':World} {a:Option Addr} {n c:Nat} {l:List Fr} (h:qm w.heap.size w a n c l) (hb:Below w.heap.size w w'):qm w'.heap.size w' a n c l:=(h.below hb).more hb.size
theorem qm.get {n₀:Nat} {w:World} {a:Option Addr} {n c:Nat} {l:List Fr} (h:qm n₀ w a n c l) (h0:0<n):∃b off,a=some ⟨b,off,none⟩∧b<n₀∧∀k (hk:k<l.length),
  w.cell? ⟨b,off+k*4,none⟩=some (.int .i64 l[k].op)∧w.cell? ⟨b,off+k*4+1,none⟩=some (.int .i64 l[k].ba)∧w.cell? ⟨b,off+k*4+2,none⟩=some (.int .i64 l[k].re)∧w.cell? ⟨b,off+k*4+3,none⟩=some (.bool l[k].de):=by
 have hl:=h.len
 rcases h.rows with h1|⟨b,off,ha,hb,hc⟩
 ·rw[List.map_eq_nil_iff] at h1;subst h1;simp at hl;omega
 ·refine⟨b,off,ha,hb,fun k hk=>?_⟩
  have key:∀j,j<4→∀v,(l[k].v)[j]?=some v→w.cell? ⟨b,off+k*4+j,none⟩=some v:=fun j hj v hv=>hc k (by simpa using hk) j hj v (by
    rw[List.getD_eq_getElem?_getD,List.getElem?_map,List.getElem?_eq_getElem hk];exact hv)
  exact⟨key 0 (by omega) _ rfl,key 1 (by omega) _ rfl,key 2 (by omega) _ rfl,key 3 (by omega) _ rfl⟩
theorem JS (h:Int) (a:Option Addr) (n c:Nat) (l:List Fr) (w:World) (hs:qm w.heap.size w a n c l) :
  Calls Tryz.prog 365 #[.agg #[.int .i64 h,.slice a n c]] w fun e w'=>e=.returned (.bool (jB h l))∧Below w.heap.size w w':=by
 have HL:=hid hs.len;have HB1:=hid ((Below.refl w.heap.size w).alloc (Nat.le_refl _) (.cells #[.int .i64 h,.slice a n c] 254));have x0:(w.alloc (.cells #[.int .i64 h,.slice a n c] 254)).cell? ⟨w.heap.size,0,none⟩=some (.int .i64 h):=by go_simp
 have x1:(w.alloc (.cells #[.int .i64 h,.slice a n c] 254)).cell? ⟨w.heap.size,1,none⟩=some (.slice a n c):=by go_simp
 by_cases h0:n=0
 ·subst h0
  have HE:Hid (jB h l=true):=by show _=_;rw[List.eq_nil_of_length_eq_zero HL.out];rfl
  clear hs
  go_enter Tryz.func365,Tryz.ntmps365
  go_wp2;go_ret;exact⟨zA HE.out.symm,HB1.out⟩
 by_cases h1:1000<n
 ·have HE:Hid (jB h l=true):=by
   show _=_
   cases l with
   | nil=>rfl
   | cons f l=>have hl:=HL.out;simp only[List.length_cons] at hl;simp only[jB,Bool.or_eq_true,decide_eq_true_eq];left;omega
  have h1i:(1000:Int)<(n:Int):=by omega
  have h0i:((n:Int)==0)=false:=by simp;omega
  clear hs
  go_enter Tryz.func365,Tryz.ntmps365
  go_wp2;go_ret;exact⟨zA HE.out.symm,HB1.out⟩
 have HN1:=hid h1;obtain⟨b,off,rfl,hb,hc⟩:=hs.get (Nat.pos_of_ne_zero h0);have HC:=hid hc
 cases l with
 | nil=>exact absurd HL.out (by simp;omega)
 | cons f l' =>
 obtain⟨op,ba,re,de⟩:=f;obtain⟨c0,c1,c2,c3⟩:=HC.out 0 (by simp);simp only[List.getElem_cons_zero,Nat.zero_mul,Nat.add_zero] at c0 c1 c2 c3;have h1i:¬(1000:Int)<(n:Int):=by omega
 have h0i:((n:Int)==0)=false:=by simp;omega
 have h0j:(0:Int)<(n:Int):=by omega
 have HW1:=hid hs.cap
 have HE0:Hid (jB h (⟨op,ba,re,de⟩::l')=(jU ⟨op,ba,re,de⟩||jK h 0 l')):=by
  show _=_
  have hl:=HL.out;simp only[List.length_cons] at hl;simp only[jB];rw[show decide (1000<l'.length+1)=false by simp;omega,Bool.false_or]
 have CR:=hid (fun W=>jx re W);obtain⟨W1,hW1⟩:∃W1,W1=((w.alloc (.cells #[.int .i64 h,.slice (some ⟨b,off,none⟩) n c] 254)).alloc (.cells #[.int .i64 op,.int .i64 ba,.int .i64 re,.bool de] 305)):=⟨_,rfl⟩;have HBW:=hid (show Below w.heap.size w W1 by rw[hW1];exact HB1.out.alloc (by simp) _);have y0:W1.cell? ⟨w.heap.size,0,none⟩=some (.int .i64 h):=by rw[hW1];go_simp
 have y1:W1.cell? ⟨w.heap.size,1,none⟩=some (.slice (some ⟨b,off,none⟩) n c):=by rw[hW1];go_simp
 have HSZ:=hid (show w.heap.size+2=W1.heap.size by rw[hW1];simp);have HW:=hid hW1;clear hc hs h1 hW1
 by_cases g0:op=0
 rotate_left
 ·have HE:Hid (jB h (⟨op,ba,re,de⟩::l')=true):=by show _=_;rw[HE0.out];simp[jU,g0]
  have q0:(op != 0)=true:=by simp[g0]
  clear HE0 HC
  go_enter Tryz.func365,Tryz.ntmps365
  go_wp2_with fail
  go_ret;exact⟨zA HE.out.symm,by rw[←HW.out];exact HBW.out⟩
 subst g0
 by_cases g1:ba=0
 rotate_left
 ·have HE:Hid (jB h (⟨0,ba,re,de⟩::l')=true):=by show _=_;rw[HE0.out];simp[jU,g1]
  have q0:(ba != 0)=true:=by simp[g1]
  clear HE0 HC
  go_enter Tryz.func365,Tryz.ntmps365
  go_wp2_with fail
  go_ret;exact⟨zA HE.out.symm,by rw[←HW.out];exact HBW.out⟩
 subst g1;obtain⟨q,hq⟩:∃q,yD re=q:=⟨_,rfl⟩;rw[hq] at CR;have HE1:Hid (jB h (⟨0,0,re,de⟩::l')=(q||jK h 0 l')):=by show _=_;rw[HE0.out];simp[jU,hq]
 obtain⟨R,hR⟩:∃R,jB h (⟨0,0,re,de⟩::l')=R:=⟨_,rfl⟩;rw[hR] at HE1 ⊢;clear hq HE0 hR
 cases q with
 | true =>
  have HE:Hid (R=true):=HE1.out;clear HE1 HC
  go_enter Tryz.func365,Tryz.ntmps365
  go_wp2_with fail
  refine (CR.out _).mono ?_;rintro e w1 ⟨rfl,rfl⟩;rw[←HW.out];go_wp2;go_ret;exact⟨zA HE.out.symm,HBW.out⟩
 | false =>
  go_enter Tryz.func365,Tryz.ntmps365
  go_wp2_with fail
  refine (CR.out _).mono ?_;rintro e w1 ⟨rfl,rfl⟩;rw[←HW.out];clear CR HW
  by_cases hcc:c=1
  ·subst hcc
   obtain rfl:n=1:=by have:=HW1.out;omega
   have hl0:l'=[]:=List.eq_nil_of_length_eq_zero (by have:=HL.out;simpa using this);subst hl0;have HE:Hid (R=false):=HE1.out;clear HE1 HC;go_wp2
   go_loopw [4,5,37] (fun _ _ vi wr=>vi=.int .i64 0∧wr=W1) (fun _ _ _ _=>0)
   case atStart=>exact⟨rfl,rfl⟩
   case round =>
    obtain⟨rfl,rfl⟩:=hrel;go_wp2;go_ret;exact⟨zA HE.out.symm,HBW.out⟩
  ·obtain⟨m,rfl⟩:∃m,n=m+1:=⟨n-1,by omega⟩
   have hc1:1≤m+1:=by omega
   have hc2:m+1≤c:=HW1.out;have hc3:¬((c:Int)=1):=by omega
   have HLM:Hid (l'.length=m):=hid (by have:=HL.out;simpa using this);have HE2:Hid (R=jK h 0 l'):=HE1.out;clear HE1 HL
   have HCC:=hid (fun (W:World) (hW:Below W1.heap.size W1 W) k (hk:k<l'.length+1)=>(by
     obtain⟨g0,g1,g2,g3⟩:=HC.out k (by simpa using hk);have hbw:=HBW.out.trans (hW.mono HBW.out.size);exact⟨(hbw.cell (p:=⟨b,off+k*4,none⟩) hb).trans g0,(hbw.cell (p:=⟨b,off+k*4+1,none⟩) hb).trans g1,(hbw.cell (p:=⟨b,off+k*4+2,none⟩) hb).trans g2,(hbw.cell (p:=⟨b,off+k*4+3,none⟩) hb).trans g3⟩ :
     W.cell? ⟨b,off+k*4,none⟩=some (.int .i64 ((⟨0,0,re,de⟩::l':List Fr)[k]'(by simpa using hk)).op)∧W.cell? ⟨b,off+k*4+1,none⟩=some (.int .i64 ((⟨0,0,re,de⟩::l':List Fr)[k]'(by simpa using hk)).ba)∧W.cell? ⟨b,off+k*4+2,none⟩=some (.int .i64 ((⟨0,0,re,de⟩::l':List Fr)[k]'(by simpa using hk)).re)∧W.cell? ⟨b,off+k*4+3,none⟩=some (.bool ((⟨0,0,re,de⟩::l':List Fr)[k]'(by simpa using hk)).de)))
   clear HC c0 c1 c2 c3;go_wp2
   go_loopw [4,5,37] (fun _ _ vi wr=>∃k:Nat,vi=.int .i64 k∧k≤m∧Hid (Below W1.heap.size W1 wr)∧Hid (R=jK h ((⟨0,0,re,de⟩::l':List Fr).getD k Fr.none).ba (l'.drop k))) (fun _ _ vi _=>m-(intOf vi).toNat)
   case atStart=>exact⟨0,rfl,Nat.zero_le _,Below.refl _ _,HE2.out⟩
   case round =>
    obtain⟨k,rfl,hk,HB,HI⟩:=hrel
    by_cases hlt:k<m
    ·have hkl:k<l'.length:=by rw[HLM.out];exact hlt
     obtain⟨g0,g1,g2,g3⟩:=HCC.out wr HB.out (k+1) (by omega);obtain⟨-,e1,-,-⟩:=HCC.out wr HB.out k (by omega);have hy:(⟨0,0,re,de⟩::l':List Fr)[k+1]'(by simpa using hkl)=l'[k]:=rfl;have HS:Hid (R=(YA h ((⟨0,0,re,de⟩::l':List Fr).getD k Fr.none).ba l'[k]||jK h l'[k].ba (l'.drop (k+1)))):=hid (by rw[HI.out,zHt hkl]);have hgd:((⟨0,0,re,de⟩::l':List Fr).getD k Fr.none)=(⟨0,0,re,de⟩::l':List Fr)[k]'(by simp;omega):=by rw[List.getD_eq_getElem?_getD,List.getElem?_eq_getElem (by simp;omega)];rfl
     have hgd1:((⟨0,0,re,de⟩::l':List Fr).getD (k+1) Fr.none)=l'[k]:=by rw[List.getD_eq_getElem?_getD,List.getElem?_eq_getElem (by simpa using hkl)];rfl
     have HG1:=hid hgd1;rw[hgd] at HS;rw[hy] at g0 g1 g2 g3;obtain⟨b0,hb0⟩:∃b0,((⟨0,0,re,de⟩::l':List Fr)[k]'(by simp;omega)).ba=b0:=⟨_,rfl⟩;rw[hb0] at e1 HS;obtain⟨y,hye⟩:∃y,l'[k]=y:=⟨_,rfl⟩;rw[hye] at g0 g1 g2 g3 HS HG1;obtain⟨yo,yb,yr,yd⟩:=y;dsimp only at g0 g1 g2 g3 HS HG1;have ad:off+(k+1)*4=off+4+k*4:=by omega
     rw[ad] at g0 g1 g2 g3;have hki:(k:Int)<(m:Int):=by omega
     clear hye hb0 hgd hgd1 hy ad HI;have hks:k<m+1:=by omega
     have hkj:(k:Int)<(m:Int)+1:=by omega
     have t0:wr.cell? ⟨w.heap.size,0,none⟩=some (.int .i64 h):=(HB.out.cell (p:=⟨w.heap.size,0,none⟩) (by have:=HSZ.out;show w.heap.size<_;omega)).trans y0;have t1:wr.cell? ⟨w.heap.size,1,none⟩=some (.slice (some ⟨b,off,none⟩) (m+1) c):=(HB.out.cell (p:=⟨w.heap.size,1,none⟩) (by have:=HSZ.out;show w.heap.size<_;omega)).trans y1;obtain⟨W2,hW2⟩:∃W2,W2=wr.alloc (.cells #[.int .i64 yo,.int .i64 yb,.int .i64 yr,.bool yd] 305):=⟨_,rfl⟩;have HW2:=hid hW2;have hA:=(Below.refl wr.heap.size wr).alloc (Nat.le_refl _) (.cells #[.int .i64 yo,.int .i64 yb,.int .i64 yr,.bool yd] 305);rw[←hW2] at hA;have HB2:=hid (HB.out.trans (hA.mono HB.out.size));have z0:W2.cell? ⟨wr.heap.size,0,none⟩=some (.int .i64 yo):=by rw[hW2];go_simp
     have z1:W2.cell? ⟨wr.heap.size,1,none⟩=some (.int .i64 yb):=by rw[hW2];go_simp
     have z2:W2.cell? ⟨wr.heap.size,2,none⟩=some (.int .i64 yr):=by rw[hW2];go_simp
     have t0':=keep hA t0;have t1':=keep hA t1;have e1':=keep hA e1;clear hA hW2 y0 y1;obtain⟨q,hq⟩:∃q,opens yo=q:=⟨_,rfl⟩;have CO:=hid (fun W=>Zi yo W);rw[hq] at CO
     cases q with
     | false =>
      have HF:Hid (R=true):=hid (by rw[HS.out];simp[YA,hq]);clear hq HS HE2 HG1 HCC HLM;go_wp2;rw[←HW2.out]
      go_quiet ((go_at_call 342;exact Calls.quiet_of_same ((CO.out _).mono fun e w' h=>⟨h.1,h.2.symm⟩)))
      go_wp2;go_ret;exact⟨zA HF.out.symm,HBW.out.trans ((jy HB2.out _).mono HBW.out.size)⟩
     | true =>
      have CR2:=hid (fun W=>jx yr W)
      by_cases d1:yb<b0
      ·have HF:Hid (R=true):=hid (by rw[HS.out];simp[YA,hq,d1])
       clear hq HS HE2 HG1 HCC HLM;go_wp2;rw[←HW2.out]
       go_quiet (first|(go_at_call 342;exact Calls.quiet_of_same ((CO.out _).mono fun e w' h=>⟨h.1,h.2.symm⟩))|(go_at_call 241;exact Calls.quiet_of_same ((CR2.out _).mono fun e w' h=>⟨h.1,h.2.symm⟩)))
       go_wp2;go_ret;exact⟨zA HF.out.symm,HBW.out.trans ((jy HB2.out _).mono HBW.out.size)⟩
      have d1':decide (yb<b0)=false:=by simpa using d1
      by_cases d2:h<yb
      ·have HF:Hid (R=true):=hid (by rw[HS.out];simp[YA,hq,d1,d2])
       clear hq HS HE2 HG1 HCC HLM d1;go_wp2;rw[←HW2.out]
       go_quiet (first|(go_at_call 342;exact Calls.quiet_of_same ((CO.out _).mono fun e w' h=>⟨h.1,h.2.symm⟩))|(go_at_call 241;exact Calls.quiet_of_same ((CR2.out _).mono fun e w' h=>⟨h.1,h.2.symm⟩)))
       go_wp2;go_ret;exact⟨zA HF.out.symm,HBW.out.trans ((jy HB2.out _).mono HBW.out.size)⟩
      have d2':decide (h<yb)=false:=by simpa using d2
      obtain⟨q2,hq2⟩:∃q,yD yr=q:=⟨_,rfl⟩;rw[hq2] at CR2;have HX:Hid (R=(q2||jK h yb (l'.drop (k+1)))):=hid (by rw[HS.out];simp[YA,hq,d1,d2,hq2]);clear hq HS hq2 d1 d2
      cases q2 with
      | true =>
       have HF:Hid (R=true):=HX.out;clear HX HE2 HG1 HCC HLM;go_wp2;rw[←HW2.out]
       go_quiet (first|(go_at_call 342;exact Calls.quiet_of_same ((CO.out _).mono fun e w' h=>⟨h.1,h.2.symm⟩))|(go_at_call 241;exact Calls.quiet_of_same ((CR2.out _).mono fun e w' h=>⟨h.1,h.2.symm⟩)))
       go_wp2;go_ret;exact⟨zA HF.out.symm,HBW.out.trans ((jy HB2.out _).mono HBW.out.size)⟩
      | false =>
       have HF:Hid (R=jK h yb (l'.drop (k+1))):=HX.out;clear HX HE2;go_wp2;rw[←HW2.out]
       go_quiet (first|(go_at_call 342;exact Calls.quiet_of_same ((CO.out _).mono fun e w' h=>⟨h.1,h.2.symm⟩))|(go_at_call 241;exact Calls.quiet_of_same ((CR2.out _).mono fun e w' h=>⟨h.1,h.2.symm⟩)))
       go_wp2
       go_roundw
       case rel=>exact⟨k+1,by go_num,by omega,jy HB2.out _,by rw[HG1.out];exact HF.out⟩
       case measure=>simp[intOf];omega
    ·obtain rfl:k=m:=by omega
     have HF:Hid (R=false):=hid (by rw[HI.out,List.drop_eq_nil_of_le (by rw[HLM.out];exact Nat.le_refl _)];rfl);clear HI HE2;go_wp2;go_ret;exact⟨zA HF.out.symm,HBW.out.trans (HB.out.mono HBW.out.size)⟩
theorem zHh {h:Int} {l:List Fr} (g:h<0):chk h l=2:=by unfold chk valid;rw[show decide (0≤h)=false by simp;omega];simp
theorem zGF {h:Int} {l:List Fr} (g:1073741824<h):chk h l=2:=by unfold chk valid;rw[show decide (h≤1073741824)=false by simp;omega];simp
theorem zIy {h:Int} {l:List Fr} (g0:¬h<0) (g1:¬1073741824<h):chk h l=if jB h l then 2 else 0:=by
 unfold chk valid;rw[show decide (0≤h)=true by simp;omega,show decide (h≤1073741824)=true by simp;omega]
 cases jB h l<;>rfl
theorem check_any (h:Int) (a:Option Addr) (n c:Nat) (l:List Fr) (w:World) (hs:qm w.heap.size w a n c l) :
  Calls Tryz.prog 343 #[.agg #[.int .i64 h,.slice a n c]] w fun e w'=>e=.returned (.int .i64 (chk h l))∧Below w.heap.size w w':=by
 have HB1:=hid ((Below.refl w.heap.size w).alloc (Nat.le_refl _) (.cells #[.int .i64 h,.slice a n c] 254));have CW:=hid (JS h a n c l (w.alloc (.cells #[.int .i64 h,.slice a n c] 254)) (hs.on HB1.out));have CH:=hid (fun W=>JV h W);obtain⟨q,hq⟩:∃q,Z8 h=q:=⟨_,rfl⟩;rw[hq] at CH;have x0:(w.alloc (.cells #[.int .i64 h,.slice a n c] 254)).cell? ⟨w.heap.size,0,none⟩=some (.int .i64 h):=by go_simp
 have x1:(w.alloc (.cells #[.int .i64 h,.slice a n c] 254)).cell? ⟨w.heap.size,1,none⟩=some (.slice a n c):=by go_simp
 have HQ:=hid hq;have HI:=hid (fun g0 g1=>zIy (h:=h) (l:=l) g0 g1);have HT:=hid (fun g=>zHh (h:=h) (l:=l) g);have HT2:=hid (fun g=>zGF (h:=h) (l:=l) g);obtain⟨B,hB⟩:∃B,jB h l=B:=⟨_,rfl⟩;obtain⟨R,hR⟩:∃R,chk h l=R:=⟨_,rfl⟩;rw[hB] at CW HI;rw[hR] at HI HT HT2 ⊢;clear hq hs hB hR
 cases q with
 | true =>
  have HR:Hid (R=2):=hid (by
    have h:=HQ.out;simp only[Z8,Bool.or_eq_true,decide_eq_true_eq] at h;exact h.elim HT.out HT2.out)
  clear HQ HI HT HT2 CW
  go_enter Tryz.func343,Tryz.ntmps343
  go_wp2_with fail
  refine (CH.out _).mono ?_;rintro e w1 ⟨rfl,rfl⟩;go_wp2;go_ret;exact⟨zH HR.out.symm,HB1.out⟩
 | false =>
  have HR:Hid (R=if B then 2 else 0):=hid (by
    have h:=HQ.out;simp only[Z8,Bool.or_eq_false_iff,decide_eq_false_iff_not] at h;exact HI.out h.1 h.2)
  clear HQ HI HT HT2
  cases B with
  | true =>
   have HF:Hid (R=2):=HR.out;clear HR
   go_enter Tryz.func343,Tryz.ntmps343
   go_wp2_with fail
   refine (CH.out _).mono ?_;rintro e w1 ⟨rfl,rfl⟩
   go_wp2_with fail
   refine CW.out.mono ?_;rintro e w1 ⟨rfl,hb⟩;have HB:=hid (HB1.out.trans (hb.mono HB1.out.size));clear hb;go_wp2;go_ret;exact⟨zH HF.out.symm,HB.out⟩
  | false =>
   have HF:Hid (R=0):=HR.out;clear HR
   go_enter Tryz.func343,Tryz.ntmps343
   go_wp2_with fail
   refine (CH.out _).mono ?_;rintro e w1 ⟨rfl,rfl⟩
   go_wp2_with fail
   refine CW.out.mono ?_;rintro e w1 ⟨rfl,hb⟩;have HB:=hid (HB1.out.trans (hb.mono HB1.out.size));clear hb;go_wp2;go_ret;exact⟨zH HF.out.symm,HB.out⟩
theorem zGj:(Tryz.prog.info? 305).map (fun i=>(i.zero,i.size,i.bytes))=some (some (.agg #[.int .i64 0,.int .i64 0,.int .i64 0,.bool false]),4,32):=by kernel_rfl
def Bx (W:World) (g:Nat) (x y:Value):Prop:=W.heap[g]?=some (.cells #[x,y] 254 (0,0))
theorem Bx.lt {W:World} {g:Nat} {x y:Value} (h:Bx W g x y):g<W.heap.size:=(Array.getElem?_eq_some_iff.1 h).1
theorem Bx.made (W:World) (x y:Value):Bx (W.alloc (.cells #[x,y] 254)) W.heap.size x y:=heap_alloc_new W _
theorem Bx.belowB {B:Nat} {W W':World} {g:Nat} {x y:Value} (h:Bx W g x y) (hb:Below B W W') (hg:g<B):Bx W' g x y:=(hb.block g hg).trans h
theorem Bx.below {W W':World} {g:Nat} {x y:Value} (h:Bx W g x y) (hb:Below W.heap.size W W'):Bx W' g x y:=h.belowB hb h.lt
theorem Bx.c0 {W:World} {g:Nat} {x y:Value} (h:Bx W g x y):W.cell? ⟨g,0,none⟩=some x:=cell_of_row W g 0 _ _ _ h
theorem Bx.c1 {W:World} {g:Nat} {x y:Value} (h:Bx W g x y):W.cell? ⟨g,1,none⟩=some y:=cell_of_row W g 1 _ _ _ h
theorem Bx.f {W:World} {g:Nat} {x y:Value} (h:Bx W g x y) (j:Nat):W.frozen? ⟨g,j,none⟩=false:=frozen_of_row W g j _ _ h
theorem Bx.set0 {W:World} {g:Nat} {x y:Value} (h:Bx W g x y) (u:Value):Bx (W.setCell ⟨g,0,none⟩ u) g u y:=heap_setCell_same W g 0 _ _ u h
theorem Bx.set1 {W:World} {g:Nat} {x y:Value} (h:Bx W g x y) (u:Value):Bx (W.setCell ⟨g,1,none⟩ u) g x u:=heap_setCell_same W g 1 _ _ u h
theorem Bx.far {W:World} {g:Nat} {x y:Value} (h:Bx W g x y) {p:Addr} (hp:g≠p.block) (u:Value):Bx (W.setCell p u) g x y:=(Below.heap_setCell W p u g hp).trans h
theorem four (f:Fr):f.v.length=4:=rfl
theorem zAv (l:List Fr):∀r∈l.map Fr.v,r.length=4:=by
 intro r hr;obtain⟨f,_,rfl⟩:=List.mem_map.1 hr;rfl
theorem zJo (l:List Fr):∀r∈l.map Fr.v,∀u∈r,u.oneCell'=true:=by
 intro r hr u hu;obtain⟨f,_,rfl⟩:=List.mem_map.1 hr;simp only[Fr.v,List.mem_cons,List.not_mem_nil,or_false] at hu
 rcases hu with rfl|rfl|rfl|rfl<;>rfl
def yG (base:Nat) (w:World) (v:Value) (l:List Fr):Prop:=zR 305 4 base w v (l.map Fr.v)
theorem yG.slice {base:Nat} {w:World} {v:Value} {l:List Fr} (h:yG base w v l) (hl:l.length≤1000000):∃a c,v=.slice a l.length c∧qm w.heap.size w a l.length c l:=by
 obtain⟨a,c,hv,hr,_⟩:=zR.rows h;rw[List.length_map] at hv;refine⟨a,c,hv,⟨hr,rfl,?_,by omega⟩⟩
 ·rcases h.row.2 with ⟨h1,h0⟩|⟨g,cap,cur,h1,_,_,hc,_⟩
  ·rw[List.length_map] at h0;omega
  ·rw[hv] at h1
   simp only[Value.slice.injEq] at h1;rw[List.length_map] at hc;omega
theorem kW {W:World} {g:Nat} {x y:Value} (h:Bx W g x y) (u v:Value):Bx ((W.setCell ⟨g,0,none⟩ u).setCell ⟨g,1,none⟩ v) g u v:=(h.set0 u).set1 v
theorem yG.set {base:Nat} {w:World} {v:Value} {l:List Fr} (h:yG base w v l) {p:Addr} (hp:p.block<base) (u:Value):yG base (w.setCell p u) v l:=zR.setCell h hp u
theorem yG.mono {base base':Nat} {w:World} {v:Value} {l:List Fr} (h:yG base w v l) (hb:base'≤base):yG base' w v l:=zR.mono h hb
theorem yG.below {base:Nat} {w w':World} {v:Value} {l:List Fr} (h:yG base w v l) (hb:Below w.heap.size w w'):yG base w' v l:=zR.below h hb
theorem zFv (base:Nat) (w:World):yG base w (.slice none 0 0) []:=zR.start _ _ _ _
theorem clone_any (w:World) (a:Option Addr) (n c:Nat) (l:List Fr) (hn:l.length=n) (hr:Rows w.heap.size w a 4 (l.map Fr.v)) (hl:n≤1000000) :
  Calls Tryz.prog 344 #[.slice a n c] w fun e w'=>∃v,e=.returned v∧yG w.heap.size w' v l∧Below w.heap.size w w':=by
 unfold yG;have HL:=hid (zAv l);have H1:=hid (zJo l);have HN0:Hid (l=[]∨(l.map Fr.v).length=n):=hid (.inr (by simpa using hn));have HE:=hid (fun (h:l.map Fr.v=[])=>h);obtain⟨ys,hys⟩:∃ys,l.map Fr.v=ys:=⟨_,rfl⟩;have HN:=hid (show ys.length=n by rw[←hys];simpa using hn);rw[hys] at hr HL H1 ⊢;have HR:=hid hr;have HM:=hid (show ys.length≤1000000000 by rw[HN.out];omega);clear hn hr hl HN0 HE hys
 cases a with
 | none =>
  have HY:Hid (ys=[]):=hid (HR.out.elim id (fun ⟨b,off,h,_⟩=>by cases h));have qn:=Lib.run_eql_slice_nil (P:=Tryz.prog) w 252 305 Option.none n c 0 0 Tryz.underlying252;rw[Option.isNone_none] at qn
  go_enter Tryz.func344,Tryz.ntmps344
  go_wp2;go_ret;exact⟨_,rfl,by rw[HY.out];exact zR.start _ _ _ _,Below.refl _ _⟩
 | some ad =>
  have qn:=Lib.run_eql_slice_nil (P:=Tryz.prog) w 252 305 (some ad) n c 0 0 Tryz.underlying252;rw[Option.isNone_some] at qn
  go_enter Tryz.func344,Tryz.ntmps344
  go_wp2_with (at_builtin;refine jH zGj rfl (by omega) (by omega) Tryz.underlying252 rfl (.tmp 5) (.tmp 6) rfl rfl (zR.madeG 305 4 _ rfl) (by simp) _ _ _ rfl ys HN.out ((HR.out.below ((Below.refl _ _).alloc (Nat.le_refl _) _)).more (by simp)) HL.out H1.out HM.out ?_;intro v1 u1 ho hb hsz)
  go_ret;exact⟨_,rfl,ho,(((Below.refl w.heap.size w).alloc (Nat.le_refl _) _).trans hb)⟩
theorem zX {fn:Func} {p q:Tmp} (h:fn.results=#[.cell p 254,.tmp q]) (tmps:Array Value) (w:World) (g:Nat) {x y:Value} (hp:tmps.getD p undef=.pointer (some ⟨g,0,none⟩)) (hb:Bx w g x y) :
  (results fn tmps).run Tryz.prog w=.ok (.tuple #[.agg #[x,y],tmps.getD q undef]) w:=by
 have hp':tmps[p]?.getD undef=.pointer (some ⟨g,0,none⟩):=by simpa using hp
 simp[results,h,hp',asAddr,run_loadVar_row w g _ 254 _ _ _ hb Tryz.underlying254 rfl (by kernel_rfl)]
theorem JF {fn:Func} {p q r:Tmp} (h:fn.results=#[.cell p 254,.tmp q,.tmp r]) (tmps:Array Value) (w:World) (g:Nat) {x y:Value} (hp:tmps.getD p undef=.pointer (some ⟨g,0,none⟩)) (hb:Bx w g x y) :
  (results fn tmps).run Tryz.prog w=.ok (.tuple #[.agg #[x,y],tmps.getD q undef,tmps.getD r undef]) w:=by
 have hp':tmps[p]?.getD undef=.pointer (some ⟨g,0,none⟩):=by simpa using hp
 simp[results,h,hp',asAddr,run_loadVar_row w g _ 254 _ _ _ hb Tryz.underlying254 rfl (by kernel_rfl)]
theorem yw (w:World) (x y:Value):∃W0,W0=(w.alloc (.cells #[x,y] 254)).alloc (.cells #[.int .i64 0,.slice none 0 0] 254)∧Below w.heap.size w W0∧Bx W0 w.heap.size x y∧Bx W0 (w.heap.size+1) (.int .i64 0) (.slice none 0 0)∧W0.heap.size=w.heap.size+2:=by
 refine⟨_,rfl,((Below.refl w.heap.size w).alloc (Nat.le_refl _) _).alloc (by simp) _,(Bx.made w _ _).below ((Below.refl _ _).alloc (Nat.le_refl _) _),?_,by simp⟩;have h:=Bx.made (w.alloc (.cells #[x,y] 254)) (.int .i64 0) (.slice none 0 0);rw[World.size_alloc] at h;exact h
theorem vr (h:Int) (a:Option Addr) (n c:Nat) (l:List Fr) (w:World) (hs:qm w.heap.size w a n c l) (hv:valid h l=false) :
  Calls Tryz.prog 325 #[.agg #[.int .i64 h,.slice a n c]] w fun e w'=>e=.returned (.tuple #[.agg #[.int .i64 0,.slice none 0 0],.pointer none,.int .i64 2])∧Below w.heap.size w w':=by
 obtain⟨W0,hW0,hb,hx,hy,hsz⟩:=yw w (.int .i64 h) (.slice a n c);have CC:=hid (check_any h a n c l W0 (hs.on hb));have he:chk h l=2:=by unfold chk;rw[hv];rfl
 rw[he] at CC;have c0:=hx.c0;have c1:=hx.c1;have HB:=hid hb;have HY:=hid hy;have HW:=hid hW0;have HS:=hid hsz;clear hs hv he hb hx hy hW0 hsz
 go_enter Tryz.func325,Tryz.ntmps325
 go_upto_region 1 with fail
 rw[←HW.out]
 go_wp2_with fail
 refine CC.out.mono ?_;rintro e w1 ⟨rfl,hb1⟩;have hy1:=HY.out.below hb1;have f0:=hy1.f 0;have f1:=hy1.f 1;have k0:=hy1.c0;have k1:=hy1.c1;have HY1:=hid hy1;have HB1:=hid (HB.out.trans (hb1.mono HB.out.size));clear hy1 hb1;go_wp2;exact bodyPost_ret (JF Tryz.results325 _ _ (w.heap.size+1) rfl (kW HY1.out _ _)) rfl ⟨rfl,(HB1.out.setCell (by simp) _).setCell (by simp) _⟩
theorem Bx.drew {W:World} {g:Nat} {x y:Value} (h:Bx W g x y):Bx W.drew g x y:=h
theorem yG.drew {base:Nat} {w:World} {v:Value} {l:List Fr} (h:yG base w v l):yG base w.drew v l:=⟨h.row,h.len⟩
theorem zHq {w W W':World} {x y:Value} (hx:Bx W w.heap.size x y) (h:Below (w.heap.size+1) W W'):W'.cell? ⟨w.heap.size,0,none⟩=some x∧W'.cell? ⟨w.heap.size,1,none⟩=some y :=
 ⟨(hx.belowB h (by omega)).c0,(hx.belowB h (by omega)).c1⟩
theorem kV (h:Int) (a:Option Addr) (n c:Nat) (l:List Fr) (w:World) (hs:qm w.heap.size w a n c l) (hv:valid h l=true) :
  Calls Tryz.prog 325 #[.agg #[.int .i64 h,.slice a n c]] w fun e w'=>∃g c',e=.returned (.tuple #[.agg #[.int .i64 h,.slice (some ⟨g,0,none⟩) n c'],.pointer (some ⟨g,(n-1)*4,none⟩),.int .i64 0])∧yG w.heap.size w' (.slice (some ⟨g,0,none⟩) n c') l∧Below w.heap.size w w':=by
 obtain⟨W0,hW0,hb,hx,hy,hsz⟩:=yw w (.int .i64 h) (.slice a n c);obtain⟨-,-,hne,hle⟩:=yK hv;have hl:=hs.len;have CC:=hid (check_any h a n c l W0 (hs.on hb));have CL:=hid (fun W (hB:Below W0.heap.size W0 W)=>clone_any W a n c l hl (((hs.on hb).below hB).more hB.size).rows (by omega));have he:chk h l=0:=by unfold chk;rw[hv];rfl
 rw[he] at CC;obtain⟨m,rfl⟩:∃m,n=m+1:=⟨n-1,by have:=List.length_pos_iff.2 hne;omega⟩;rw[Nat.add_sub_cancel];have hmm:m≤1000:=by omega
 have hm0:(m:Int)<(m:Int)+1:=by omega
 have km:IntKind.i64.wrap (m:Int)=m:=qi (by omega) (by omega);have c0:=hx.c0;have c1:=hx.c1;have HL:=hid hl;have HB:=hid hb;have HX:=hid hx;have HY:=hid hy;have HW:=hid hW0;have HS:=hid hsz;clear hs hv he hb hx hy hW0 hsz hl hne hle
 go_enter Tryz.func325,Tryz.ntmps325
 go_upto_region 1 with fail
 rw[←HW.out]
 go_wp2_with fail
 refine CC.out.mono ?_;rintro e w1 ⟨rfl,hb1⟩;have hx1:=HX.out.below hb1;have d0:=hx1.c0;have d1:=hx1.c1;have HX1:=hid hx1;have HB1:=hid hb1;clear hb1 hx1 c0 c1
 go_wp2_with fail
 refine (CL.out _ HB1.out).mono ?_;rintro e w2 ⟨v,rfl,ho,hb2⟩;obtain⟨a1,c1,hv1,hst⟩:=yG.slice ho (by rw[HL.out];omega);rw[HL.out] at hv1
 have hpos:∃g,a1=some ⟨g,0,none⟩∧w1.heap.size≤g:=by
  rcases ho.row.2 with ⟨h1,h0⟩|⟨g,cap,cur,h1,hg,_⟩
  ·rw[List.length_map,HL.out] at h0;omega
  ·rw[hv1] at h1
   simp only[Value.slice.injEq] at h1;exact⟨g,h1.1,hg⟩
 obtain⟨g,rfl,hg⟩:=hpos;subst hv1;have hx2:=HX1.out.below hb2;have e0:=hx2.c0;have e1:=hx2.c1;have f1:=hx2.f 1;have HX2:=hid hx2;have HY2:=hid ((HY.out.below HB1.out).below hb2);have HO:=hid ho;have HB2:=hid (HB.out.trans ((HB1.out.trans (hb2.mono HB1.out.size)).mono HB.out.size));have HZ:=hid (show w.heap.size+2≤w1.heap.size by have:=HB1.out.size;have:=HS.out;omega);have HG:=hid hg;clear ho hst hb2 hx2 CC CL HX1 hg d0 d1;go_wp2;obtain⟨w3,hw3⟩:∃w3,w3=w2.setCell ⟨w.heap.size,1,none⟩ (.slice (some ⟨g,0,none⟩) (m+1) c1):=⟨_,rfl⟩;rw[←hw3];have hx3:Bx w3 w.heap.size (.int .i64 h) (.slice (some ⟨g,0,none⟩) (m+1) c1):=by rw[hw3];exact HX2.out.set1 _
 have hy3:Bx w3 (w.heap.size+1) (.int .i64 0) (.slice none 0 0):=by rw[hw3];exact HY2.out.far (by simp) _
 have HO3:Hid (yG w1.heap.size w3 (.slice (some ⟨g,0,none⟩) (m+1) c1) l):=hid (by rw[hw3];exact HO.out.set (by have:=HZ.out;show w.heap.size<_;omega) _);have HB3:Hid (Below w.heap.size w w3):=hid (by rw[hw3];exact HB2.out.setCell (by simp) _);have HY3:=hid hy3;have e0:=hx3.c0;have e1:=hx3.c1;have f0:=hy3.f 0;have f1:=hy3.f 1;have k0:=hy3.c0;have k1:=hy3.c1;have hS:w3.cell? ⟨w.heap.size,0,none⟩=some (.int .i64 h)∧w3.cell? ⟨w.heap.size,1,none⟩=some (.slice (some ⟨g,0,none⟩) (m+1) c1):=⟨e0,e1⟩;have HK:=hid (fun (W':World) (h:Below (w.heap.size+1) w3 W')=>zHq hx3 h);clear hw3 hx3 hy3 HO HB2 HX2 HY2 HX HY HB HB1
 go_region_held3 (fun w'=>w'.cell? ⟨w.heap.size,0,none⟩=some (.int .i64 h)∧w'.cell? ⟨w.heap.size,1,none⟩=some (.slice (some ⟨g,0,none⟩) (m+1) c1))
  (first
    | (with_reducible assumption)
    | (with_reducible exact HK.out _ ((Below.refl _ _).drew))
    | (with_reducible exact HK.out _ ((((Below.refl _ _).drew).setCell (by simp) _).setCell (by simp) _))
    | (with_reducible exact HK.out _ (((Below.refl _ _).setCell (by simp) _).setCell (by simp) _)))
  (fail)
 go_wp2;have hz:=HZ.out;exact bodyPost_ret (JF Tryz.results325 _ _ (w.heap.size+1) rfl (Bx.drew (kW HY3.out _ _))) rfl ⟨g,c1,rfl,yG.drew (((HO3.out.set (by show w.heap.size+1<_;omega) _).set (by show w.heap.size+1<_;omega) _).mono (by omega)),((HB3.out.setCell (by simp) _).setCell (by simp) _).drew⟩
def vH (w:World) (r:R) (e:Ending) (w':World):Prop:=∃a n c,e=.returned (.tuple #[.agg #[.int .i64 r.h,.slice a n c],.int .i64 r.e])∧yG w.heap.size w' (.slice a n c) r.l∧Below w.heap.size w w'
structure Mid (w w2:World) (h:Int) (g n c:Nat) (l:List Fr):Prop where
 par:Bx w2 w.heap.size (.int .i64 h) (.slice (some ⟨g,0,none⟩) n c)
 res:Bx w2 (w.heap.size+1) (.int .i64 0) (.slice none 0 0)
 own:yG (w.heap.size+2) w2 (.slice (some ⟨g,0,none⟩) n c) l
 below:Below w.heap.size w w2
theorem Mid.of {w W0 w1:World} {h:Int} {x y:Value} {g n c:Nat} {l:List Fr} (hb:Below w.heap.size w W0) (hx:Bx W0 w.heap.size x y) (hy:Bx W0 (w.heap.size+1) (.int .i64 0) (.slice none 0 0)) (hz:W0.heap.size=w.heap.size+2)
  (ho:yG W0.heap.size w1 (.slice (some ⟨g,0,none⟩) n c) l) (hb1:Below W0.heap.size W0 w1):Mid w ((w1.setCell ⟨w.heap.size,0,none⟩ (.int .i64 h)).setCell ⟨w.heap.size,1,none⟩ (.slice (some ⟨g,0,none⟩) n c)) h g n c l:=by
 rw[hz] at ho;refine⟨kW (hx.below hb1) _ _,((hy.below hb1).far (by simp) _).far (by simp) _,(ho.set (by simp) _).set (by simp) _,((hb.trans (hb1.mono hb.size)).setCell (by simp) _).setCell (by simp) _⟩
theorem YL {w W:World} {h':Int} {a:Option Addr} {n c:Nat} {l':List Fr} {r:R} (hr:r=⟨h',l',0⟩) (ho:yG (w.heap.size+2) W (.slice a n c) l') (hb:Below w.heap.size w W):vH w r (.returned (.tuple #[.agg #[.int .i64 h',.slice a n c],.int .i64 0])) W:=by
 subst hr;exact⟨a,n,c,rfl,ho.mono (by omega),hb⟩
theorem YO {base:Nat} {w:World} {g m c:Nat} {l:List Fr} (h:yG base w (.slice (some ⟨g,0,none⟩) (m+1) c) l) (hl:l.length=m+1) (hm:m≤1000) :
  w.cell? ⟨g,m*4,none⟩=some (.int .i64 (zl l).op)∧w.cell? ⟨g,m*4+1,none⟩=some (.int .i64 (zl l).ba)∧w.cell? ⟨g,m*4+2,none⟩=some (.int .i64 (zl l).re)∧w.cell? ⟨g,m*4+3,none⟩=some (.bool (zl l).de):=by
 obtain⟨a,c',hv,hst⟩:=h.slice (by omega);simp only[Value.slice.injEq] at hv;obtain⟨rfl,_,_⟩:=hv;obtain⟨b,off,hbo,_,hc⟩:=hst.get (by omega);simp only[Option.some.injEq,Addr.mk.injEq,and_true] at hbo;obtain⟨rfl,rfl⟩:=hbo
 have hlast:l[m]'(by omega)=zl l:=by
  unfold zl;rw[List.getD_eq_getElem?_getD,List.getElem?_eq_getElem (by omega)];simp[hl]
 have:=hc m (by omega);rw[hlast,Nat.zero_add] at this;exact this
theorem kQ {base:Nat} {w:World} {g n c:Nat} {l:List Fr} (h:yG base w (.slice (some ⟨g,0,none⟩) n c) l):base≤g∧g<w.heap.size:=World.ownsRow.lt h.row g rfl
theorem ZG {w W:World} (h:Below w.drew.heap.size w.drew W):Below w.heap.size w W:=⟨h.os,h.tape,h.output,h.size,h.block⟩
theorem yT {w W:World} {h z:Int} {v:Value} {er:Int} (hb:Below w.heap.size w W) {r:R} (hr:r=bad er):vH w r (.returned (.tuple #[.agg #[.int .i64 0,.slice none 0 0],.int .i64 er])) W:=by
 subst hr;exact⟨none,0,0,rfl,zFv _ _,hb⟩
theorem push_any (h:Int) (a:Option Addr) (n c:Nat) (l:List Fr) (k:Int) (w:World) (hs:qm w.heap.size w a n c l) :
  Calls Tryz.prog 323 #[.agg #[.int .i64 h,.slice a n c],.int .i64 k] w fun e w'=>vH w (ji h l k) e w':=by
 obtain⟨W0,hW0,hb,hx,hy,hsz⟩:=yw w (.int .i64 h) (.slice a n c);have hsW:=hs.on hb;have c0:=hx.c0;have c1:=hx.c1;have HB:=hid hb;have HX:=hid hx;have HY:=hid hy;have HW:=hid hW0;have HS:=hid hsz;have HRE:Hid (ji h l k=ji h l k):=rfl;obtain⟨r,hr⟩:∃r,r=ji h l k:=⟨_,rfl⟩;rw[←hr];clear HRE;clear hb hx hy hW0 hsz
 cases hv:valid h l with
 | false =>
  have HE:Hid (r=bad 2):=hid (by rw[hr];simp[ji,hv]);have CC:=hid (vr h a n c l W0 hsW hv);clear hs hsW hv hr
  go_enter Tryz.func323,Tryz.ntmps323
  go_upto_region 1 with fail
  rw[←HW.out]
  go_wp2_with fail
  refine CC.out.mono ?_;rintro e w1 ⟨rfl,hb1⟩;have hx1:=HX.out.below hb1;have hy1:=HY.out.below hb1;have f0:=hx1.f 0;have f1:=hx1.f 1;have k0:=hx1.c0;have k1:=hx1.c1;have HX1:=hid hx1;have HY1:=hid hy1;have HB1:=hid (HB.out.trans (hb1.mono HB.out.size));clear hx1 hy1 hb1 c0 c1 CC
  go_upto_region 2 with fail
  obtain⟨w2,hw2⟩:∃w2,w2=(w1.setCell ⟨w.heap.size,0,none⟩ (.int .i64 0)).setCell ⟨w.heap.size,1,none⟩ (.slice none 0 0):=⟨_,rfl⟩;rw[←hw2];have hy2:Bx w2 (w.heap.size+1) (.int .i64 0) (.slice none 0 0):=by rw[hw2];exact (HY1.out.far (by simp) _).far (by simp) _
  have HB2:Hid (Below w.heap.size w w2):=hid (by rw[hw2];exact (HB1.out.setCell (by simp) _).setCell (by simp) _);have HY2:=hid hy2;have f0:=hy2.f 0;have f1:=hy2.f 1;have k0:=hy2.c0;have k1:=hy2.c1;clear hy2 hw2 HX1 HY1 HB1;go_wp2;exact bodyPost_ret (zX Tryz.results323 _ _ (w.heap.size+1) rfl (kW HY2.out _ _)) rfl (yT (h:=0) (z:=0) (v:=.bool true) ((HB2.out.setCell (by simp) _).setCell (by simp) _) HE.out)
 | true =>
  have CC:=hid (kV h a n c l W0 hsW hv);have HV:=hid hv;have HR:=hid hr;have HLN:=hid hs.len;clear hs hsW hv hr;obtain⟨hh0,hh1,-,-⟩:=yK HV.out;have q:IntKind.i64.wrap (1073741824-h)=1073741824-h:=qi (by omega) (by omega);have HH:=hid (And.intro hh0 hh1);clear hh0 hh1
  by_cases g1:k<0
  ·have HE:Hid (r=bad 2):=hid (by rw[HR.out];simp[ji,HV.out,g1])
   go_enter Tryz.func323,Tryz.ntmps323
   go_upto_region 1 with fail
   rw[←HW.out]
   go_wp2_with fail
   refine CC.out.mono ?_;rintro e w1 ⟨g,c',rfl,ho,hb1⟩;have HM0:=hid (Mid.of (h:=h) HB.out HX.out HY.out HS.out ho hb1);have hx1:=HX.out.below hb1;have f0:=hx1.f 0;have f1:=hx1.f 1;have k0:=hx1.c0;have k1:=hx1.c1;clear hx1 hb1 ho c0 c1 CC
   go_upto_region 2 with fail
   obtain⟨w2,hw2⟩:∃w2,w2=(w1.setCell ⟨w.heap.size,0,none⟩ (.int .i64 h)).setCell ⟨w.heap.size,1,none⟩ (.slice (some ⟨g,0,none⟩) n c'):=⟨_,rfl⟩;rw[←hw2] at HM0 ⊢;clear hw2 f0 f1 k0 k1 HB HX HY HS HW;have hp:=HM0.out.par;have hy:=HM0.out.res;have p0:=hp.c0;have p1:=hp.c1;have pf0:=hp.f 0;have pf1:=hp.f 1;have r0:=hy.c0;have r1:=hy.c1;have rf0:=hy.f 0;have rf1:=hy.f 1;clear hp hy;go_wp2;exact bodyPost_ret (zX Tryz.results323 _ _ (w.heap.size+1) rfl (kW HM0.out.res _ _)) rfl (yT (h:=0) (z:=0) (v:=.bool true) ((HM0.out.below.setCell (by simp) _).setCell (by simp) _) HE.out)
  by_cases g2:1073741824-h<k
  ·have HE:Hid (r=bad 8):=hid (by rw[HR.out];simp[ji,HV.out,g1,g2])
   go_enter Tryz.func323,Tryz.ntmps323
   go_upto_region 1 with fail
   rw[←HW.out]
   go_wp2_with fail
   refine CC.out.mono ?_;rintro e w1 ⟨g,c',rfl,ho,hb1⟩;have HM0:=hid (Mid.of (h:=h) HB.out HX.out HY.out HS.out ho hb1);have hx1:=HX.out.below hb1;have f0:=hx1.f 0;have f1:=hx1.f 1;have k0:=hx1.c0;have k1:=hx1.c1;clear hx1 hb1 ho c0 c1 CC
   go_upto_region 2 with fail
   obtain⟨w2,hw2⟩:∃w2,w2=(w1.setCell ⟨w.heap.size,0,none⟩ (.int .i64 h)).setCell ⟨w.heap.size,1,none⟩ (.slice (some ⟨g,0,none⟩) n c'):=⟨_,rfl⟩;rw[←hw2] at HM0 ⊢;clear hw2 f0 f1 k0 k1 HB HX HY HS HW;have hp:=HM0.out.par;have hy:=HM0.out.res;have p0:=hp.c0;have p1:=hp.c1;have pf0:=hp.f 0;have pf1:=hp.f 1;have r0:=hy.c0;have r1:=hy.c1;have rf0:=hy.f 0;have rf1:=hy.f 1;clear hp hy;go_wp2;exact bodyPost_ret (zX Tryz.results323 _ _ (w.heap.size+1) rfl (kW HM0.out.res _ _)) rfl (yT (h:=0) (z:=0) (v:=.bool true) ((HM0.out.below.setCell (by simp) _).setCell (by simp) _) HE.out)
  have HE:Hid (r=⟨h+k,l,0⟩):=hid (by rw[HR.out];simp[ji,HV.out,g1,g2]);have q2:IntKind.i64.wrap (h+k)=h+k:=qi (by have:=HH.out;omega) (by omega)
  go_enter Tryz.func323,Tryz.ntmps323
  go_upto_region 1 with fail
  rw[←HW.out]
  go_wp2_with fail
  refine CC.out.mono ?_;rintro e w1 ⟨g,c',rfl,ho,hb1⟩;have HM0:=hid (Mid.of (h:=h) HB.out HX.out HY.out HS.out ho hb1);have hx1:=HX.out.below hb1;have f0:=hx1.f 0;have f1:=hx1.f 1;have k0:=hx1.c0;have k1:=hx1.c1;clear hx1 hb1 ho c0 c1 CC
  go_upto_region 2 with fail
  obtain⟨w2,hw2⟩:∃w2,w2=(w1.setCell ⟨w.heap.size,0,none⟩ (.int .i64 h)).setCell ⟨w.heap.size,1,none⟩ (.slice (some ⟨g,0,none⟩) n c'):=⟨_,rfl⟩;rw[←hw2] at HM0 ⊢;clear hw2 f0 f1 k0 k1 HB HX HY HS HW;have hp:=HM0.out.par;have hy:=HM0.out.res;have p0:=hp.c0;have p1:=hp.c1;have pf0:=hp.f 0;have pf1:=hp.f 1;have r0:=hy.c0;have r1:=hy.c1;have rf0:=hy.f 0;have rf1:=hy.f 1;clear hp hy;go_wp2;exact bodyPost_ret (zX Tryz.results323 _ _ (w.heap.size+1) rfl (kW (HM0.out.res.far (by simp) _) _ _)) rfl (YL HE.out (((HM0.out.own.set (by simp) _).set (by simp) _).set (by simp) _) (((HM0.out.below.setCell (by simp) _).setCell (by simp) _).setCell (by simp) _))
theorem zG6 (w:World) (f:Fr):yG w.heap.size (w.alloc (.cells #[.int .i64 f.op,.int .i64 f.ba,.int .i64 f.re,.bool f.de] 305)) (.slice (some ⟨w.heap.size,0,none⟩) 1 1) [f]:=by
 refine⟨?_,zAv _⟩;have h:=World.ownsRow_lit (base:=w.heap.size) (e:=305) (size:=4) w #[.int .i64 f.op,.int .i64 f.ba,.int .i64 f.re,.bool f.de] 1 (Nat.le_refl _) (by unfold maxLen;omega) rfl;simpa[Fr.v] using h
theorem zEm (w:World) (re:Int):Bx ((w.alloc (.cells #[.int .i64 0,.slice (some ⟨w.heap.size+1,0,none⟩) 1 1] 254)).alloc (.cells #[.int .i64 0,.int .i64 0,.int .i64 re,.bool false] 305)) w.heap.size (.int .i64 0) (.slice (some ⟨w.heap.size+1,0,none⟩) 1 1) ∧
  yG w.heap.size ((w.alloc (.cells #[.int .i64 0,.slice (some ⟨w.heap.size+1,0,none⟩) 1 1] 254)).alloc (.cells #[.int .i64 0,.int .i64 0,.int .i64 re,.bool false] 305)) (.slice (some ⟨w.heap.size+1,0,none⟩) 1 1) [⟨0,0,re,false⟩] ∧
  Below w.heap.size w ((w.alloc (.cells #[.int .i64 0,.slice (some ⟨w.heap.size+1,0,none⟩) 1 1] 254)).alloc (.cells #[.int .i64 0,.int .i64 0,.int .i64 re,.bool false] 305)):=by
 refine⟨(Bx.made w _ _).below ((Below.refl _ _).alloc (Nat.le_refl _) _),?_,((Below.refl _ _).alloc (Nat.le_refl _) _).alloc (by simp) _⟩;have h:=zG6 (w.alloc (.cells #[.int .i64 0,.slice (some ⟨w.heap.size+1,0,none⟩) 1 1] 254)) ⟨0,0,re,false⟩;rw[World.size_alloc] at h;exact h.mono (by omega)
theorem new_any (re:Int) (w:World):Calls Tryz.prog 176 #[.int .i64 re] w fun e w'=>vH w (vT re) e w':=by
 obtain⟨W0,hW0⟩:∃W0,W0=w.alloc (.cells #[.int .i64 0,.slice none 0 0] 254):=⟨_,rfl⟩;have hy:Bx W0 w.heap.size (.int .i64 0) (.slice none 0 0):=by rw[hW0];exact Bx.made w _ _
 have hb:Below w.heap.size w W0:=by rw[hW0];exact (Below.refl _ _).alloc (Nat.le_refl _) _
 have hsz:W0.heap.size=w.heap.size+1:=by rw[hW0];simp
 have HB:=hid hb;have HY:=hid hy;have HW:=hid hW0;have HS:=hid hsz;have r0:=hy.c0;have r1:=hy.c1;have rf0:=hy.f 0;have rf1:=hy.f 1;have CR:=hid (fun W=>jx re W);obtain⟨r,hr⟩:∃r,r=vT re:=⟨_,rfl⟩;rw[←hr];have HR1:Hid (r=if yD re=true then bad 2 else ⟨0,[⟨0,0,re,false⟩],0⟩):=hid (by rw[hr];simp[vT]);have HQ:Hid (yD re=(decide (re<0)||decide (1<re))):=rfl;clear hy hb hW0 hsz hr;obtain⟨q,hq⟩:∃q,yD re=q:=⟨_,rfl⟩;rw[hq] at CR HR1;clear hq HQ
 cases q with
 | true =>
  have HE:Hid (r=bad 2):=HR1.out;clear HR1
  go_enter Tryz.func176,Tryz.ntmps176
  go_upto_region 1 with fail
  rw[←HW.out]
  go_wp2_with fail
  refine (CR.out _).mono ?_;rintro e w1 ⟨rfl,rfl⟩;go_wp2;exact bodyPost_ret (zX Tryz.results176 _ _ w.heap.size rfl (kW HY.out _ _)) rfl (yT (h:=0) (z:=0) (v:=.bool true) ((HB.out.setCell (by simp) _).setCell (by simp) _) HE.out)
 | false =>
  have HE:Hid (r=⟨0,[⟨0,0,re,false⟩],0⟩):=HR1.out;clear HR1
  go_enter Tryz.func176,Tryz.ntmps176
  go_wp2_with fail
  refine (CR.out _).mono ?_;rintro e w1 ⟨rfl,rfl⟩;go_wp2;obtain⟨n1,n2,n3⟩:=zEm w re;exact bodyPost_ret (zX Tryz.results176 _ _ w.heap.size rfl n1) rfl (by show vH w r _ _;rw[HE.out];exact⟨_,_,_,rfl,n2,n3⟩)
theorem zE9 (h:Int) (a:Option Addr) (n c:Nat) (l:List Fr) (k:Int) (w:World) (hs:qm w.heap.size w a n c l) :
  Calls Tryz.prog 322 #[.agg #[.int .i64 h,.slice a n c],.int .i64 k] w fun e w'=>e=.returned (.tuple #[.int .i64 (yW h l k).1,.int .i64 (yW h l k).2])∧Below w.heap.size w w':=by
 obtain⟨W0,hW0⟩:∃W0,W0=w.alloc (.cells #[.int .i64 h,.slice a n c] 254):=⟨_,rfl⟩;have hx:Bx W0 w.heap.size (.int .i64 h) (.slice a n c):=by rw[hW0];exact Bx.made w _ _
 have hb:Below w.heap.size w W0:=by rw[hW0];exact (Below.refl _ _).alloc (Nat.le_refl _) _
 have hsW:=hs.on hb;have CC:=hid (check_any h a n c l W0 hsW);have c0:=hx.c0;have c1:=hx.c1;have HB:=hid hb;have HX:=hid hx;have HW:=hid hW0;have HS:=hid hs;obtain⟨r,hr⟩:∃r,r=yW h l k:=⟨_,rfl⟩;rw[←hr];clear hs hsW hx hb hW0
 cases hv:valid h l with
 | false =>
  have HE:Hid (r=(0,2)):=hid (by rw[hr];simp[yW,hv]);have hc:chk h l=2:=by simp[chk,hv]
  rw[hc] at CC;clear hc hr hv
  go_enter Tryz.func322,Tryz.ntmps322
  go_upto_region 1 with fail
  rw[←HW.out]
  go_wp2_with fail
  refine CC.out.mono ?_;rintro e w1 ⟨rfl,hb1⟩;have HB1:=hid (HB.out.trans (hb1.mono HB.out.size));clear hb1;go_wp2;go_ret2;exact⟨by rw[HE.out];rfl,HB1.out⟩
 | true =>
  have hc:chk h l=0:=by simp[chk,hv]
  rw[hc] at CC;have HR1:Hid (r=if k<0∨(l.length:Int)≤k then (0,6) else if (l.getD (l.length-1-k.toNat) Fr.none).op=3 then (0,0) else ((l.getD (l.length-1-k.toNat) Fr.none).re,0)):=hid (by rw[hr];simp only[yW,hv];rfl);obtain⟨-,-,hne,hle⟩:=yK hv;have hl:=HS.out.len;rw[hl] at HR1 hle;have hn0:0<n:=by rw[←hl];exact List.length_pos_iff.2 hne
  have PRE:∀(P:Prop),P→P:=fun _ h=>h
  clear hc hr hv hne
  by_cases g1:k<0
  ·have HE:Hid (r=(0,6)):=hid (by rw[HR1.out,if_pos (.inl g1)])
   clear HR1
   go_enter Tryz.func322,Tryz.ntmps322
   go_upto_region 1 with fail
   rw[←HW.out]
   go_wp2_with fail
   refine CC.out.mono ?_;rintro e w1 ⟨rfl,hb1⟩;have HB1:=hid (HB.out.trans (hb1.mono HB.out.size));clear hb1;go_wp2;go_ret2;exact⟨by rw[HE.out];rfl,HB1.out⟩
  by_cases g2:(n:Int)≤k
  ·have HE:Hid (r=(0,6)):=hid (by rw[HR1.out,if_pos (.inr g2)])
   clear HR1
   go_enter Tryz.func322,Tryz.ntmps322
   go_upto_region 1 with fail
   rw[←HW.out]
   go_wp2_with fail
   refine CC.out.mono ?_;rintro e w1 ⟨rfl,hb1⟩;have hx1:=HX.out.below hb1;have d0:=hx1.c0;have d1:=hx1.c1;have HB1:=hid (HB.out.trans (hb1.mono HB.out.size));clear hb1 hx1;go_wp2;go_ret2;exact⟨by rw[HE.out];rfl,HB1.out⟩
  obtain⟨j,hj⟩:∃j:Nat,k=(n:Int)-1-j:=⟨n-1-k.toNat,by omega⟩;have hjn:j<n:=by omega
  have hjl:j<l.length:=by rw[hl];exact hjn
  have hjk:n-1-k.toNat=j:=by omega
  have hget:l.getD j Fr.none=l[j]:=by rw[List.getD_eq_getElem?_getD,List.getElem?_eq_getElem hjl];rfl
  rw[if_neg (by omega),hjk,hget] at HR1;obtain⟨b,off,rfl,hbb,hcc⟩:=HS.out.get hn0;obtain⟨e0,e1,e2,e3⟩:=hcc j hjl;obtain⟨f,hf⟩:∃f,l[j]=f:=⟨_,rfl⟩;rw[hf] at e0 e1 e2 e3 HR1;obtain⟨op,ba,re,de⟩:=f;dsimp only at e0 e1 e2 e3 HR1;have k1:IntKind.i64.wrap ((n:Int)-1)=(n:Int)-1:=qi (by omega) (by omega);have k2:IntKind.i64.wrap ((n:Int)-1-k)=(j:Int):=by rw[qi (by omega) (by omega)];omega
  have hji:(j:Int)<(n:Int):=by omega
  have hbs:b<w.heap.size:=hbb;have HEE:=hid (And.intro e0 (And.intro e1 (And.intro e2 e3)));clear hf hget hjk hj hjl hcc e0 e1 e2 e3 HS
  go_enter Tryz.func322,Tryz.ntmps322
  go_upto_region 1 with fail
  rw[←HW.out]
  go_wp2_with fail
  refine CC.out.mono ?_;rintro e w1 ⟨rfl,hb1⟩;have hx1:=HX.out.below hb1;have hbw:=HB.out.trans (hb1.mono HB.out.size);have d0:=hx1.c0;have d1:=hx1.c1;have e0:=(hbw.cell (p:=⟨b,off+j*4,none⟩) hbs).trans HEE.out.1;have e1:=(hbw.cell (p:=⟨b,off+j*4+1,none⟩) hbs).trans HEE.out.2.1;have e2:=(hbw.cell (p:=⟨b,off+j*4+2,none⟩) hbs).trans HEE.out.2.2.1;have e3:=(hbw.cell (p:=⟨b,off+j*4+3,none⟩) hbs).trans HEE.out.2.2.2;have HB1:=hid hbw;have HA:=hid (hbw.alloc hbw.size (.cells #[.int .i64 op,.int .i64 ba,.int .i64 re,.bool de] 305));clear hb1 hx1 hbw HEE c0 c1
  by_cases g3:op=3
  ·subst g3
   have HE:Hid (r=(0,0)):=hid (by rw[HR1.out];rfl);clear HR1;go_wp2;go_ret2;exact⟨by rw[HE.out];rfl,HA.out⟩
  ·have HE:Hid (r=(re,0)):=hid (by rw[HR1.out,if_neg g3])
   have g3b:(op==3)=false:=by simp[g3]
   clear HR1;go_wp2;go_ret2;exact⟨by rw[HE.out];rfl,HA.out⟩
theorem zCC {w w2 W:World} {x y:Value} {g o:Nat} {t0 t1 t2 t3:Value} (hx:Bx w2 w.heap.size x y) (c0:w2.cell? ⟨g,o,none⟩=some t0) (c1:w2.cell? ⟨g,o+1,none⟩=some t1) (c2:w2.cell? ⟨g,o+2,none⟩=some t2) (c3:w2.cell? ⟨g,o+3,none⟩=some t3) (h:Below w2.heap.size w2 W) :
  Below w2.heap.size w2 W∧W.cell? ⟨w.heap.size,0,none⟩=some x∧W.cell? ⟨g,o,none⟩=some t0∧W.cell? ⟨g,o+1,none⟩=some t1∧W.cell? ⟨g,o+2,none⟩=some t2∧W.cell? ⟨g,o+3,none⟩=some t3 :=
 ⟨h,(hx.below h).c0,keep h c0,keep h c1,keep h c2,keep h c3⟩
theorem pop_any (h:Int) (a:Option Addr) (n c:Nat) (l:List Fr) (k:Int) (w:World) (hs:qm w.heap.size w a n c l) (hk:k≤9223372036854775807) :
  Calls Tryz.prog 321 #[.agg #[.int .i64 h,.slice a n c],.int .i64 k] w fun e w'=>vH w (vP h l k) e w':=by
 obtain⟨W0,hW0,hb,hx,hy,hsz⟩:=yw w (.int .i64 h) (.slice a n c);have hsW:=hs.on hb;have c0:=hx.c0;have c1:=hx.c1;have HB:=hid hb;have HX:=hid hx;have HY:=hid hy;have HW:=hid hW0;have HS:=hid hsz;have HRE:Hid (vP h l k=vP h l k):=rfl;obtain⟨r,hr⟩:∃r,r=vP h l k:=⟨_,rfl⟩;rw[←hr];clear HRE;clear hb hx hy hW0 hsz
 cases hv:valid h l with
 | false =>
  have HE:Hid (r=bad 2):=hid (by rw[hr];simp[vP,hv]);have CC:=hid (vr h a n c l W0 hsW hv);clear hs hsW hv hr
  go_enter Tryz.func321,Tryz.ntmps321
  go_upto_region 1 with fail
  rw[←HW.out]
  go_wp2_with fail
  refine CC.out.mono ?_;rintro e w1 ⟨rfl,hb1⟩;have hx1:=HX.out.below hb1;have hy1:=HY.out.below hb1;have f0:=hx1.f 0;have f1:=hx1.f 1;have k0:=hx1.c0;have k1:=hx1.c1;have HX1:=hid hx1;have HY1:=hid hy1;have HB1:=hid (HB.out.trans (hb1.mono HB.out.size));clear hx1 hy1 hb1 c0 c1 CC
  go_upto_region 2 with fail
  obtain⟨w2,hw2⟩:∃w2,w2=(w1.setCell ⟨w.heap.size,0,none⟩ (.int .i64 0)).setCell ⟨w.heap.size,1,none⟩ (.slice none 0 0):=⟨_,rfl⟩;rw[←hw2];have hy2:Bx w2 (w.heap.size+1) (.int .i64 0) (.slice none 0 0):=by rw[hw2];exact (HY1.out.far (by simp) _).far (by simp) _
  have HB2:Hid (Below w.heap.size w w2):=hid (by rw[hw2];exact (HB1.out.setCell (by simp) _).setCell (by simp) _);have HY2:=hid hy2;have f0:=hy2.f 0;have f1:=hy2.f 1;have k0:=hy2.c0;have k1:=hy2.c1;clear hy2 hw2 HX1 HY1 HB1;go_wp2;exact bodyPost_ret (zX Tryz.results321 _ _ (w.heap.size+1) rfl (kW HY2.out _ _)) rfl (yT (h:=0) (z:=0) (v:=.bool true) ((HB2.out.setCell (by simp) _).setCell (by simp) _) HE.out)
 | true =>
  have CC:=hid (kV h a n c l W0 hsW hv);have HV:=hid hv;have HR:=hid hr;have HLN:=hid hs.len;clear hs hsW hv hr;obtain⟨hh0,hh1,hne,hle⟩:=yK HV.out;obtain⟨m,rfl⟩:∃m,n=m+1:=⟨n-1,by have:=HLN.out;have:=List.length_pos_iff.2 hne;omega⟩;have hm:m≤1000:=by have:=HLN.out;omega
  have hfi:=ki HV.out;have HT:=hid (fun (W:World) (g c':Nat) (ho:yG (w.heap.size+2) W (.slice (some ⟨g,0,none⟩) (m+1) c') l)=>YO ho HLN.out hm);obtain⟨f,hf⟩:∃f,zl l=f:=⟨_,rfl⟩;rw[hf] at HT hfi;obtain⟨op,ba,re,de⟩:=f;dsimp only[zFZ] at HT hfi;obtain⟨hb0,hb1',hr0,hr1⟩:=hfi;rw[Nat.add_sub_cancel] at CC
  by_cases g1:k<0
  ·have HE:Hid (r=bad 2):=hid (by rw[HR.out];simp[vP,HV.out,g1])
   clear hm
   go_enter Tryz.func321,Tryz.ntmps321
   go_upto_region 1 with fail
   rw[←HW.out]
   go_wp2_with fail
   refine CC.out.mono ?_;rintro e w1 ⟨g,c',rfl,ho,hb1⟩;have HM0:=hid (Mid.of (h:=h) HB.out HX.out HY.out HS.out ho hb1);have hx1:=HX.out.below hb1;have f0:=hx1.f 0;have f1:=hx1.f 1;have k0:=hx1.c0;have k1:=hx1.c1;clear hx1 hb1 ho c0 c1 CC
   go_upto_region 2 with fail
   obtain⟨w2,hw2⟩:∃w2,w2=(w1.setCell ⟨w.heap.size,0,none⟩ (.int .i64 h)).setCell ⟨w.heap.size,1,none⟩ (.slice (some ⟨g,0,none⟩) (m+1) c'):=⟨_,rfl⟩;rw[←hw2] at HM0 ⊢;clear hw2 f0 f1 k0 k1 HB HX HY HS HW;have hp:=HM0.out.par;have hy:=HM0.out.res;have p0:=hp.c0;have p1:=hp.c1;have pf0:=hp.f 0;have pf1:=hp.f 1;have r0:=hy.c0;have r1:=hy.c1;have rf0:=hy.f 0;have rf1:=hy.f 1;clear hp hy;go_wp2;exact bodyPost_ret (zX Tryz.results321 _ _ (w.heap.size+1) rfl (kW HM0.out.res _ _)) rfl (yT (h:=0) (z:=0) (v:=.bool true) ((HM0.out.below.setCell (by simp) _).setCell (by simp) _) HE.out)
  have CW:=hid (fun W=>JC h k ⟨op,ba,re,de⟩ W hh0 hh1 hb0 hb1' (by omega) hk);have HR1:Hid (r=if (without h k ⟨op,ba,re,de⟩).2=0 then ⟨(without h k ⟨op,ba,re,de⟩).1,l,0⟩ else bad (without h k ⟨op,ba,re,de⟩).2):=hid (by rw[HR.out];simp[vP,HV.out,g1,hf]);obtain⟨x,y,hxy⟩:∃x y,without h k ⟨op,ba,re,de⟩=(x,y):=⟨_,_,rfl⟩;rw[hxy] at CW HR1;dsimp only at CW HR1;clear hxy hf HR hh0 hh1 hb0 hb1' hr0 hr1 hne hle hk HV
  go_enter Tryz.func321,Tryz.ntmps321
  go_upto_region 1 with fail
  rw[←HW.out]
  go_wp2_with fail
  refine CC.out.mono ?_;rintro e w1 ⟨g,c',rfl,ho,hb1⟩;have HM0:=hid (Mid.of (h:=h) HB.out HX.out HY.out HS.out ho hb1);have hx1:=HX.out.below hb1;have f0:=hx1.f 0;have f1:=hx1.f 1;have k0:=hx1.c0;have k1:=hx1.c1;clear hx1 hb1 ho c0 c1 CC
  go_upto_region 2 with fail
  obtain⟨w2,hw2⟩:∃w2,w2=(w1.setCell ⟨w.heap.size,0,none⟩ (.int .i64 h)).setCell ⟨w.heap.size,1,none⟩ (.slice (some ⟨g,0,none⟩) (m+1) c'):=⟨_,rfl⟩;rw[←hw2] at HM0 ⊢;clear hw2 f0 f1 k0 k1 HB HX HY HS HW;have hp:=HM0.out.par;have hy:=HM0.out.res;have p0:=hp.c0;have p1:=hp.c1;have pf0:=hp.f 0;have pf1:=hp.f 1;have r0:=hy.c0;have r1:=hy.c1;have rf0:=hy.f 0;have rf1:=hy.f 1;clear hp hy;obtain⟨t0,t1,t2,t3⟩:=HT.out _ _ _ HM0.out.own;have hS:=zCC HM0.out.par t0 t1 t2 t3 (Below.refl _ _);have HKP:=hid (fun (W:World) (h:Below w2.heap.size w2 W)=>zCC HM0.out.par t0 t1 t2 t3 h);clear HT;go_wp2
  go_region_with
   (go_at_call 326;refine (CW.out _).mono ?_;rintro e w3 ⟨rfl,hb3'⟩;have hb3:Below w2.heap.size w2 w3:=(by first|exact hb3'|exact ZG hb3');have q0:=(HKP.out _ hb3).2.1;have q1:w3.frozen? ⟨w.heap.size,0,none⟩=false:=(HM0.out.par.below hb3).f 0;have HB3:=hid hb3;clear hb3 hb3')
  all_goals
   obtain⟨w4,hw4⟩:∃w4,w4=w3.setCell ⟨w.heap.size,0,none⟩ (.int .i64 x):=⟨_,rfl⟩;rw[←hw4];have hp4:Bx w4 w.heap.size (.int .i64 x) (.slice (some ⟨g,0,none⟩) (m+1) c'):=by rw[hw4];exact (HM0.out.par.below HB3.out).set0 _
   have hy4:Bx w4 (w.heap.size+1) (.int .i64 0) (.slice none 0 0):=by rw[hw4];exact (HM0.out.res.below HB3.out).far (by simp) _
   have HO4:Hid (yG (w.heap.size+2) w4 (.slice (some ⟨g,0,none⟩) (m+1) c') l):=hid (by rw[hw4];exact (HM0.out.own.below HB3.out).set (by simp) _);have HB4:Hid (Below w.heap.size w w4):=hid (by rw[hw4];exact (HM0.out.below.trans (HB3.out.mono HM0.out.below.size)).setCell (by simp) _);have HY4:=hid hy4;have p0:=hp4.c0;have p1:=hp4.c1;have r0:=hy4.c0;have r1:=hy4.c1;have rf0:=hy4.f 0;have rf1:=hy4.f 1;clear hw4 hp4 hy4 HM0 HB3 q0 q1 HKP hS t0 t1 t2 t3
   by_cases hy:y=0
   ·subst hy
    have HE:Hid (r=⟨x,l,0⟩):=HR1.out;go_wp2;exact bodyPost_ret (zX Tryz.results321 _ _ (w.heap.size+1) rfl (kW HY4.out _ _)) rfl (YL HE.out ((HO4.out.set (by simp) _).set (by simp) _) ((HB4.out.setCell (by simp) _).setCell (by simp) _))
   ·have HE:Hid (r=bad y):=hid (by rw[HR1.out,if_neg hy])
    have hyb:(y != 0)=true:=by simp[hy]
    go_wp2;exact bodyPost_ret (zX Tryz.results321 _ _ (w.heap.size+1) rfl (kW HY4.out _ _)) rfl (yT (h:=0) (z:=0) (v:=.bool true) ((HB4.out.setCell (by simp) _).setCell (by simp) _) HE.out)
theorem zCG {u:Value} {q:Nat} {f':Fr} (hq:q<4):∀(l:List Fr) (k:Nat) (hk:k<l.length),(l[k].v).set q u=f'.v→((l.map Fr.v).flatten).set (k*4+q) u=((l.set k f').map Fr.v).flatten
 | [],k,hk,_=>by simp at hk
 | f::l,0,_,h=>by
  simp only[List.getElem_cons_zero] at h;simp only[List.map_cons,List.flatten_cons,List.set_cons_zero,Nat.zero_mul,Nat.zero_add];rw[List.set_append_left _ _ (by rw[four];exact hq),h]
 | f::l,k+1,hk,h=>by
  simp only[List.getElem_cons_succ] at h;have hk':k<l.length:=by simpa using hk
  have e:(k+1)*4+q=f.v.length+(k*4+q):=by rw[four];omega
  simp only[List.map_cons,List.flatten_cons,List.set_cons_succ];rw[e,List.set_append_right _ _ (by omega),Nat.add_sub_cancel_left,zCG hq l k hk' h]
theorem zA6:∀(l:List Fr) (m:Nat),((l.map Fr.v).flatten).take (m*4)=((l.take m).map Fr.v).flatten
 | [],m=>by simp
 | f::l,0=>by simp
 | f::l,m+1=>by
  simp only[List.map_cons,List.flatten_cons,List.take_succ_cons];rw[List.take_append,four,List.take_of_length_le (by rw[four];omega),show (m+1)*4-4=m*4 by omega,zA6 l m]
theorem zEX (l:List Fr):((l.map Fr.v).flatten).length=l.length*4:=by rw[flat_length _ (zAv l),List.length_map]
theorem yG.store {base:Nat} {w:World} {g n c:Nat} {l:List Fr} (h:yG base w (.slice (some ⟨g,0,none⟩) n c) l) (hn:l.length=n) {k q:Nat} {u:Value} {f':Fr} (hk:k<l.length) (hq:q<4) (hf:(l[k].v).set q u=f'.v) :
  yG base (w.setCell ⟨g,k*4+q,none⟩ u) (.slice (some ⟨g,0,none⟩) n c) (l.set k f'):=by
 subst hn;have h1:=h.row;rw[List.length_map] at h1;have h2:=(World.ownsRow.stored h1 (k*4+q) u).1;rw[zCG hq l k hk hf] at h2;exact⟨by rw[List.length_map,List.length_set];exact h2,zAv _⟩
theorem yG.take {base:Nat} {w:World} {g m c:Nat} {l:List Fr} (h:yG base w (.slice (some ⟨g,0,none⟩) (m+1) c) l) (hn:l.length=m+1):yG base w (.slice (some ⟨g,0,none⟩) m c) (l.take m):=by
 have hl:(l.take m).length=m:=by rw[List.length_take];omega
 refine⟨?_,zAv _⟩;rw[List.length_map,hl];refine⟨by rw[zEX,hl],?_⟩
 rcases h.row.2 with ⟨h1,_⟩|⟨g',cap,cur,hv,hg,hh,hc,hm,hs,ht⟩
 ·simp at h1
 ·rw[List.length_map,hn] at hv hc ht
  simp only[Value.slice.injEq] at hv;obtain⟨h3,_,h4⟩:=hv;refine .inr ⟨g',cap,cur,by simp only[Value.slice.injEq];exact⟨h3,trivial,h4⟩,hg,hh,by omega,hm,hs,?_⟩;rw[←zA6,←ht,List.take_take]
  congr 1
  omega
theorem yG.frozen {base:Nat} {w:World} {g n c:Nat} {l:List Fr} (h:yG base w (.slice (some ⟨g,0,none⟩) n c) l) (hn:l.length=n) (j:Nat):w.frozen? ⟨g,j,none⟩=false:=by
 subst hn;have h1:=h.row;rw[List.length_map] at h1;exact World.ownsRow.frozenAt h1 j
theorem yG.cells {base:Nat} {w:World} {g n c:Nat} {l:List Fr} (h:yG base w (.slice (some ⟨g,0,none⟩) n c) l) (hn:l.length=n) {k:Nat} (hk:k<l.length) :
  w.cell? ⟨g,k*4,none⟩=some (.int .i64 l[k].op)∧w.cell? ⟨g,k*4+1,none⟩=some (.int .i64 l[k].ba)∧w.cell? ⟨g,k*4+2,none⟩=some (.int .i64 l[k].re)∧w.cell? ⟨g,k*4+3,none⟩=some (.bool l[k].de):=by
 subst hn;have h1:=h.row;rw[List.length_map] at h1
 have key:∀j,j<4→∀v,(l[k].v)[j]?=some v→w.cell? ⟨g,k*4+j,none⟩=some v:=by
  intro j hj v hv;rw[World.ownsRow.cellAt h1 (k*4+j) (by omega),flat_get _ (zAv l) k j (by simpa using hk) hj];rw[List.getD_eq_getElem?_getD,List.getElem?_map,List.getElem?_eq_getElem hk];exact hv
 exact⟨key 0 (by omega) _ rfl,key 1 (by omega) _ rfl,key 2 (by omega) _ rfl,key 3 (by omega) _ rfl⟩
theorem yG.cap {base:Nat} {w:World} {g n c:Nat} {l:List Fr} (h:yG base w (.slice (some ⟨g,0,none⟩) n c) l) (hn:l.length=n):n≤c:=by
 subst hn
 rcases h.row.2 with ⟨h1,_⟩|⟨g',cap,cur,hv,_,_,hc,_⟩
 ·simp at h1
 ·rw[List.length_map] at hv hc
  simp only[Value.slice.injEq] at hv;omega
theorem zGU {l:List Fr} {m:Nat} (hl:l.length=m+1):l[m]'(by omega)=zl l:=by
 unfold zl;rw[List.getD_eq_getElem?_getD,List.getElem?_eq_getElem (by omega)];simp[hl]
theorem zGk (w:World) (f:Fr):∀j u,([f.v].flatten)[j]?=some u→(w.alloc (.cells #[.int .i64 f.op,.int .i64 f.ba,.int .i64 f.re,.bool f.de] 305)).cell? ((⟨w.heap.size,0,none⟩:Addr).add j)=some u:=by
 intro j u hj;have hadd:(⟨w.heap.size,0,none⟩:Addr).add j=⟨w.heap.size,j,none⟩:=by unfold Addr.add;split<;>simp_all
 rw[hadd,cell_of_row _ _ j _ _ _ (heap_alloc_new w _)];rw[List.flatten_cons,List.flatten_nil,List.append_nil] at hj;rw[←Array.getElem?_toList];exact hj
theorem zDz {base:Nat} {w:World} {v:Value} {l:List Fr} {f:Fr} (h:zR 305 4 base w v (l.map Fr.v++[f.v])):yG base w v (l++[f]):=by
 unfold yG;rw[List.map_append];exact h
theorem zFr (h:Int) (a:Option Addr) (n c:Nat) (l:List Fr) (w:World) (hs:qm w.heap.size w a n c l) :
  Calls Tryz.prog 319 #[.agg #[.int .i64 h,.slice a n c]] w fun e w'=>vH w (qM h l) e w':=by
 obtain⟨W0,hW0,hb,hx,hy,hsz⟩:=yw w (.int .i64 h) (.slice a n c);have hsW:=hs.on hb;have c0:=hx.c0;have c1:=hx.c1;have HB:=hid hb;have HX:=hid hx;have HY:=hid hy;have HW:=hid hW0;have HS:=hid hsz;have HRE:Hid (qM h l=qM h l):=rfl;obtain⟨r,hr⟩:∃r,r=qM h l:=⟨_,rfl⟩;rw[←hr];clear HRE;clear hb hx hy hW0 hsz
 cases hv:valid h l with
 | false =>
  have HE:Hid (r=bad 2):=hid (by rw[hr];simp[qM,hv]);have CC:=hid (vr h a n c l W0 hsW hv);clear hs hsW hv hr
  go_enter Tryz.func319,Tryz.ntmps319
  go_upto_region 1 with fail
  rw[←HW.out]
  go_wp2_with fail
  refine CC.out.mono ?_;rintro e w1 ⟨rfl,hb1⟩;have hx1:=HX.out.below hb1;have hy1:=HY.out.below hb1;have f0:=hx1.f 0;have f1:=hx1.f 1;have k0:=hx1.c0;have k1:=hx1.c1;have HX1:=hid hx1;have HY1:=hid hy1;have HB1:=hid (HB.out.trans (hb1.mono HB.out.size));clear hx1 hy1 hb1 c0 c1 CC
  go_upto_region 2 with fail
  obtain⟨w2,hw2⟩:∃w2,w2=(w1.setCell ⟨w.heap.size,0,none⟩ (.int .i64 0)).setCell ⟨w.heap.size,1,none⟩ (.slice none 0 0):=⟨_,rfl⟩;rw[←hw2];have hy2:Bx w2 (w.heap.size+1) (.int .i64 0) (.slice none 0 0):=by rw[hw2];exact (HY1.out.far (by simp) _).far (by simp) _
  have HB2:Hid (Below w.heap.size w w2):=hid (by rw[hw2];exact (HB1.out.setCell (by simp) _).setCell (by simp) _);have HY2:=hid hy2;have f0:=hy2.f 0;have f1:=hy2.f 1;have k0:=hy2.c0;have k1:=hy2.c1;clear hy2 hw2 HX1 HY1 HB1;go_wp2;exact bodyPost_ret (zX Tryz.results319 _ _ (w.heap.size+1) rfl (kW HY2.out _ _)) rfl (yT (h:=0) (z:=0) (v:=.bool true) ((HB2.out.setCell (by simp) _).setCell (by simp) _) HE.out)
 | true =>
  have CC:=hid (kV h a n c l W0 hsW hv);have HV:=hid hv;have HR:=hid hr;have HLN:=hid hs.len;clear hs hsW hv hr;obtain⟨hh0,hh1,hne,hle⟩:=yK HV.out;obtain⟨m,rfl⟩:∃m,n=m+1:=⟨n-1,by have:=HLN.out;have:=List.length_pos_iff.2 hne;omega⟩;have hm:m≤1000:=by have:=HLN.out;omega
  have hfi:=ki HV.out;have HT:=hid (fun (W:World) (g c':Nat) (ho:yG (w.heap.size+2) W (.slice (some ⟨g,0,none⟩) (m+1) c') l)=>YO ho HLN.out hm);obtain⟨f,hf⟩:∃f,zl l=f:=⟨_,rfl⟩;rw[hf] at HT hfi;obtain⟨op,ba,re,de⟩:=f;have hlk:l[m]'(by have:=HLN.out;omega)=⟨op,ba,re,de⟩:=by rw[zGU HLN.out,hf]
  dsimp only[zFZ] at HT hfi;obtain⟨hb0,hb1',hr0,hr1⟩:=hfi;rw[Nat.add_sub_cancel] at CC;have HE:Hid (r=⟨ba,l.set m ⟨op,ba,re,true⟩,0⟩):=hid (by rw[HR.out];simp only[qM,HV.out,hf,HLN.out];rfl);have HLK:=hid hlk;clear hlk hf HR hh0 hh1 hb0 hb1' hr0 hr1 hne hle HV
  go_enter Tryz.func319,Tryz.ntmps319
  go_upto_region 1 with fail
  rw[←HW.out]
  go_wp2_with fail
  refine CC.out.mono ?_;rintro e w1 ⟨g,c',rfl,ho,hb1⟩;have HM0:=hid (Mid.of (h:=h) HB.out HX.out HY.out HS.out ho hb1);have hx1:=HX.out.below hb1;have f0:=hx1.f 0;have f1:=hx1.f 1;have k0:=hx1.c0;have k1:=hx1.c1;clear hx1 hb1 ho c0 c1 CC
  go_upto_region 2 with fail
  obtain⟨w2,hw2⟩:∃w2,w2=(w1.setCell ⟨w.heap.size,0,none⟩ (.int .i64 h)).setCell ⟨w.heap.size,1,none⟩ (.slice (some ⟨g,0,none⟩) (m+1) c'):=⟨_,rfl⟩;rw[←hw2] at HM0 ⊢;clear hw2 f0 f1 k0 k1 HB HX HY HS HW;have hp:=HM0.out.par;have hy:=HM0.out.res;have p0:=hp.c0;have p1:=hp.c1;have pf0:=hp.f 0;have pf1:=hp.f 1;have r0:=hy.c0;have r1:=hy.c1;have rf0:=hy.f 0;have rf1:=hy.f 1;clear hp hy;obtain⟨t0,t1,t2,t3⟩:=HT.out _ _ _ HM0.out.own;have HGB:=hid (kQ HM0.out.own);have z1:=HM0.out.own.frozen HLN.out (m*4+3);clear HT
  go_upto_region 5 with fail
  obtain⟨w3,hw3⟩:∃w3,w3=w2.setCell ⟨w.heap.size,0,none⟩ (.int .i64 ba):=⟨_,rfl⟩;rw[←hw3];have hp3:Bx w3 w.heap.size (.int .i64 ba) (.slice (some ⟨g,0,none⟩) (m+1) c'):=by rw[hw3];exact HM0.out.par.set0 _
  have hy3:Bx w3 (w.heap.size+1) (.int .i64 0) (.slice none 0 0):=by rw[hw3];exact HM0.out.res.far (by simp) _
  have HO3:Hid (yG (w.heap.size+2) w3 (.slice (some ⟨g,0,none⟩) (m+1) c') l):=hid (by rw[hw3];exact HM0.out.own.set (by simp) _);have HB3:Hid (Below w.heap.size w w3):=hid (by rw[hw3];exact HM0.out.below.setCell (by simp) _);have t3:=(YO HO3.out HLN.out hm).2.2.2;have z3:=HO3.out.frozen HLN.out (m*4+3);have HP3:=hid hp3;have HY3:=hid hy3;clear hw3 hp3 hy3 HM0 p0 p1 pf0 pf1 r0 r1 rf0 rf1 t0 t1 t2 z1
  go_upto_region 6 with fail
  obtain⟨w4,hw4⟩:∃w4,w4=w3.setCell ⟨g,m*4+3,none⟩ (.bool true):=⟨_,rfl⟩;rw[←hw4];have hgb:=HGB.out;have hp4:Bx w4 w.heap.size (.int .i64 ba) (.slice (some ⟨g,0,none⟩) (m+1) c'):=by rw[hw4];exact HP3.out.far (by show _≠g;omega) _
  have hy4:Bx w4 (w.heap.size+1) (.int .i64 0) (.slice none 0 0):=by rw[hw4];exact HY3.out.far (by show _≠g;omega) _
  have HO4:Hid (yG (w.heap.size+2) w4 (.slice (some ⟨g,0,none⟩) (m+1) c') (l.set m ⟨op,ba,re,true⟩)):=hid (by
    rw[hw4];exact HO3.out.store HLN.out (by have:=HLN.out;omega) (by omega) (by rw[HLK.out];rfl))
  have HB4:Hid (Below w.heap.size w w4):=hid (by rw[hw4];exact HB3.out.setCell (by show _≤g;omega) _);have p0:=hp4.c0;have p1:=hp4.c1;have r0:=hy4.c0;have r1:=hy4.c1;have rf0:=hy4.f 0;have rf1:=hy4.f 1;have HY4:=hid hy4;clear hw4 hp4 hy4 hgb t3 z3 HO3 HB3 HP3 HY3;go_wp2;exact bodyPost_ret (zX Tryz.results319 _ _ (w.heap.size+1) rfl (kW HY4.out _ _)) rfl (YL HE.out ((HO4.out.set (by simp) _).set (by simp) _) ((HB4.out.setCell (by simp) _).setCell (by simp) _))
theorem zFH (h:Int) (a:Option Addr) (n c:Nat) (l:List Fr) (op re:Int) (w:World) (hs:qm w.heap.size w a n c l) :
  Calls Tryz.prog 320 #[.agg #[.int .i64 h,.slice a n c],.int .i64 op,.int .i64 re] w fun e w'=>vH w (yu h l op re) e w':=by
 obtain⟨W0,hW0,hb,hx,hy,hsz⟩:=yw w (.int .i64 h) (.slice a n c);have hsW:=hs.on hb;have c0:=hx.c0;have c1:=hx.c1;have HB:=hid hb;have HX:=hid hx;have HY:=hid hy;have HW:=hid hW0;have HS:=hid hsz;have HRE:Hid (yu h l op re=yu h l op re):=rfl;obtain⟨r,hr⟩:∃r,r=yu h l op re:=⟨_,rfl⟩;rw[←hr];clear HRE;clear hb hx hy hW0 hsz
 cases hv:valid h l with
 | false =>
  have HE:Hid (r=bad 2):=hid (by rw[hr];simp[yu,hv]);have CC:=hid (vr h a n c l W0 hsW hv);clear hs hsW hv hr
  go_enter Tryz.func320,Tryz.ntmps320
  go_upto_region 1 with fail
  rw[←HW.out]
  go_wp2_with fail
  refine CC.out.mono ?_;rintro e w1 ⟨rfl,hb1⟩;have hx1:=HX.out.below hb1;have hy1:=HY.out.below hb1;have f0:=hx1.f 0;have f1:=hx1.f 1;have k0:=hx1.c0;have k1:=hx1.c1;have HX1:=hid hx1;have HY1:=hid hy1;have HB1:=hid (HB.out.trans (hb1.mono HB.out.size));clear hx1 hy1 hb1 c0 c1 CC
  go_upto_region 2 with fail
  obtain⟨w2,hw2⟩:∃w2,w2=(w1.setCell ⟨w.heap.size,0,none⟩ (.int .i64 0)).setCell ⟨w.heap.size,1,none⟩ (.slice none 0 0):=⟨_,rfl⟩;rw[←hw2];have hy2:Bx w2 (w.heap.size+1) (.int .i64 0) (.slice none 0 0):=by rw[hw2];exact (HY1.out.far (by simp) _).far (by simp) _
  have HB2:Hid (Below w.heap.size w w2):=hid (by rw[hw2];exact (HB1.out.setCell (by simp) _).setCell (by simp) _);have HY2:=hid hy2;have f0:=hy2.f 0;have f1:=hy2.f 1;have k0:=hy2.c0;have k1:=hy2.c1;clear hy2 hw2 HX1 HY1 HB1;go_wp2;exact bodyPost_ret (zX Tryz.results320 _ _ (w.heap.size+1) rfl (kW HY2.out _ _)) rfl (yT (h:=0) (z:=0) (v:=.bool true) ((HB2.out.setCell (by simp) _).setCell (by simp) _) HE.out)
 | true =>
  have CC:=hid (kV h a n c l W0 hsW hv);have HV:=hid hv;have HR:=hid hr;have HLN:=hid hs.len;clear hs hsW hv hr;have CO:=hid (fun W=>Zi op W);have CR:=hid (fun W=>jx re W);have HR1:Hid (r=if opens op=false∨yD re=true then bad 2 else if l.length=1000 then bad 8 else ⟨h,l++[⟨op,h,re,false⟩],0⟩):=hid (by rw[HR.out];simp[yu,HV.out]);obtain⟨hh0,hh1,hne,hle⟩:=yK HV.out;have HLE:=hid (show n≤1000 by rw[←HLN.out];exact hle);clear HR HV hh0 hh1 hne hle;obtain⟨q1,hq1⟩:∃q,opens op=q:=⟨_,rfl⟩;obtain⟨q2,hq2⟩:∃q,yD re=q:=⟨_,rfl⟩;rw[hq1] at CO HR1;rw[hq2] at CR HR1;clear hq1 hq2
  cases q1 with
  | false =>
   have HE:Hid (r=bad 2):=hid (by rw[HR1.out];rfl);clear HR1 CR
   go_enter Tryz.func320,Tryz.ntmps320
   go_upto_region 1 with fail
   rw[←HW.out]
   go_wp2_with fail
   refine CC.out.mono ?_;rintro e w1 ⟨g,c',rfl,ho,hb1⟩;have HM0:=hid (Mid.of (h:=h) HB.out HX.out HY.out HS.out ho hb1);have hx1:=HX.out.below hb1;have f0:=hx1.f 0;have f1:=hx1.f 1;have k0:=hx1.c0;have k1:=hx1.c1;clear hx1 hb1 ho c0 c1 CC
   go_upto_region 2 with fail
   obtain⟨w2,hw2⟩:∃w2,w2=(w1.setCell ⟨w.heap.size,0,none⟩ (.int .i64 h)).setCell ⟨w.heap.size,1,none⟩ (.slice (some ⟨g,0,none⟩) n c'):=⟨_,rfl⟩;rw[←hw2] at HM0 ⊢;clear hw2 f0 f1 k0 k1 HB HX HY HS HW;have hp:=HM0.out.par;have hy:=HM0.out.res;have p0:=hp.c0;have p1:=hp.c1;have pf0:=hp.f 0;have pf1:=hp.f 1;have r0:=hy.c0;have r1:=hy.c1;have rf0:=hy.f 0;have rf1:=hy.f 1;clear hp hy
   go_wp2_with fail
   refine (CO.out _).mono ?_;rintro e w3 ⟨rfl,rfl⟩;go_wp2;exact bodyPost_ret (zX Tryz.results320 _ _ (w.heap.size+1) rfl (kW HM0.out.res _ _)) rfl (yT (h:=0) (z:=0) (v:=.bool true) ((HM0.out.below.setCell (by simp) _).setCell (by simp) _) HE.out)
  | true =>
  cases q2 with
  | true =>
   have HE:Hid (r=bad 2):=hid (by rw[HR1.out];rfl);clear HR1
   go_enter Tryz.func320,Tryz.ntmps320
   go_upto_region 1 with fail
   rw[←HW.out]
   go_wp2_with fail
   refine CC.out.mono ?_;rintro e w1 ⟨g,c',rfl,ho,hb1⟩;have HM0:=hid (Mid.of (h:=h) HB.out HX.out HY.out HS.out ho hb1);have hx1:=HX.out.below hb1;have f0:=hx1.f 0;have f1:=hx1.f 1;have k0:=hx1.c0;have k1:=hx1.c1;clear hx1 hb1 ho c0 c1 CC
   go_upto_region 2 with fail
   obtain⟨w2,hw2⟩:∃w2,w2=(w1.setCell ⟨w.heap.size,0,none⟩ (.int .i64 h)).setCell ⟨w.heap.size,1,none⟩ (.slice (some ⟨g,0,none⟩) n c'):=⟨_,rfl⟩;rw[←hw2] at HM0 ⊢;clear hw2 f0 f1 k0 k1 HB HX HY HS HW;have hp:=HM0.out.par;have hy:=HM0.out.res;have p0:=hp.c0;have p1:=hp.c1;have pf0:=hp.f 0;have pf1:=hp.f 1;have r0:=hy.c0;have r1:=hy.c1;have rf0:=hy.f 0;have rf1:=hy.f 1;clear hp hy
   go_wp2_with fail
   refine (CO.out _).mono ?_;rintro e w3 ⟨rfl,rfl⟩
   go_wp2_with fail
   refine (CR.out _).mono ?_;rintro e w3 ⟨rfl,rfl⟩;go_wp2;exact bodyPost_ret (zX Tryz.results320 _ _ (w.heap.size+1) rfl (kW HM0.out.res _ _)) rfl (yT (h:=0) (z:=0) (v:=.bool true) ((HM0.out.below.setCell (by simp) _).setCell (by simp) _) HE.out)
  | false =>
  by_cases g3:n=1000
  ·have HE:Hid (r=bad 8):=hid (by rw[HR1.out,HLN.out,if_neg (by simp),if_pos g3])
   subst g3;clear HR1
   go_enter Tryz.func320,Tryz.ntmps320
   go_upto_region 1 with fail
   rw[←HW.out]
   go_wp2_with fail
   refine CC.out.mono ?_;rintro e w1 ⟨g,c',rfl,ho,hb1⟩;have HM0:=hid (Mid.of (h:=h) HB.out HX.out HY.out HS.out ho hb1);have hx1:=HX.out.below hb1;have f0:=hx1.f 0;have f1:=hx1.f 1;have k0:=hx1.c0;have k1:=hx1.c1;clear hx1 hb1 ho c0 c1 CC
   go_upto_region 2 with fail
   obtain⟨w2,hw2⟩:∃w2,w2=(w1.setCell ⟨w.heap.size,0,none⟩ (.int .i64 h)).setCell ⟨w.heap.size,1,none⟩ (.slice (some ⟨g,0,none⟩) 1000 c'):=⟨_,rfl⟩;rw[←hw2] at HM0 ⊢;clear hw2 f0 f1 k0 k1 HB HX HY HS HW;have hp:=HM0.out.par;have hy:=HM0.out.res;have p0:=hp.c0;have p1:=hp.c1;have pf0:=hp.f 0;have pf1:=hp.f 1;have r0:=hy.c0;have r1:=hy.c1;have rf0:=hy.f 0;have rf1:=hy.f 1;clear hp hy
   go_wp2_with fail
   refine (CO.out _).mono ?_;rintro e w3 ⟨rfl,rfl⟩
   go_wp2_with fail
   refine (CR.out _).mono ?_;rintro e w3 ⟨rfl,rfl⟩;go_wp2;exact bodyPost_ret (zX Tryz.results320 _ _ (w.heap.size+1) rfl (kW HM0.out.res _ _)) rfl (yT (h:=0) (z:=0) (v:=.bool true) ((HM0.out.below.setCell (by simp) _).setCell (by simp) _) HE.out)
  have HE:Hid (r=⟨h,l++[⟨op,h,re,false⟩],0⟩):=hid (by rw[HR1.out,HLN.out,if_neg (by simp),if_neg g3]);have g3i:((n:Int)==1000)=false:=by simp;omega
  clear HR1
  go_enter Tryz.func320,Tryz.ntmps320
  go_upto_region 1 with fail
  rw[←HW.out]
  go_wp2_with fail
  refine CC.out.mono ?_;rintro e w1 ⟨g,c',rfl,ho,hb1⟩;have HM0:=hid (Mid.of (h:=h) HB.out HX.out HY.out HS.out ho hb1);have hx1:=HX.out.below hb1;have f0:=hx1.f 0;have f1:=hx1.f 1;have k0:=hx1.c0;have k1:=hx1.c1;clear hx1 hb1 ho c0 c1 CC
  go_upto_region 2 with fail
  obtain⟨w2,hw2⟩:∃w2,w2=(w1.setCell ⟨w.heap.size,0,none⟩ (.int .i64 h)).setCell ⟨w.heap.size,1,none⟩ (.slice (some ⟨g,0,none⟩) n c'):=⟨_,rfl⟩;rw[←hw2] at HM0 ⊢;clear hw2 f0 f1 k0 k1 HB HX HY HS HW;have hp:=HM0.out.par;have hy:=HM0.out.res;have p0:=hp.c0;have p1:=hp.c1;have pf0:=hp.f 0;have pf1:=hp.f 1;have r0:=hy.c0;have r1:=hy.c1;have rf0:=hy.f 0;have rf1:=hy.f 1;clear hp hy
  go_wp2_with fail
  refine (CO.out _).mono ?_;rintro e w3 ⟨rfl,rfl⟩
  go_wp2_with fail
  refine (CR.out _).mono ?_;rintro e w3 ⟨rfl,rfl⟩;have HOW:=hid HM0.out.own;have HNL:=hid (zGk w2 ⟨op,h,re,false⟩);have HBW:Hid (Below (w.heap.size+2) w2 (w2.alloc (.cells #[.int .i64 op,.int .i64 h,.int .i64 re,.bool false] 305))):=hid ((Below.refl _ _).alloc (by have:=(kQ HM0.out.own).2;have:=(kQ HM0.out.own).1;omega) _);have HOA:=hid (yG.below HOW.out ((Below.refl _ _).alloc (Nat.le_refl _) (.cells #[.int .i64 op,.int .i64 h,.int .i64 re,.bool false] 305)));have HZ:=hid (show w.heap.size+2≤w2.heap.size by have:=(kQ HM0.out.own).2;have:=(kQ HM0.out.own).1;omega);have HL1:Hid ((l++[(⟨op,h,re,false⟩:Fr)]).length=n+1):=hid (by simp[HLN.out]);clear HOW
  go_upto_region 8 with fail
  go_upto_region 9 with (at_builtin;refine jI zGj rfl (by omega) (by omega) Tryz.underlying252 rfl (.tmp 37) (.tmp 43) rfl (base:=w.heap.size+2) (w0:=w2) (xs:=l.map Fr.v) [(⟨op,h,re,false⟩:Fr).v] rfl HOA.out HBW.out (by rw[World.size_alloc];have:=HZ.out;omega) ⟨w2.heap.size,0,none⟩ 1 1 rfl rfl (by simp[Fr.v]) HNL.out (by simp[Fr.v,Value.oneCell']) (by rw[List.length_map,HLN.out];have:=HLE.out;omega) ?_;intro v1 u1 ho hb hsz hgrow;have ho1:=zDz ho;obtain⟨a1,c1,hv1,-⟩:=yG.slice ho1 (by simp;rw[HLN.out];have:=HLE.out;omega);rw[HL1.out] at hv1;subst hv1;have hp:=HM0.out.par.belowB hb (by omega);have hy:=HM0.out.res.belowB hb (by omega);have p0:=hp.c0;have p1:=hp.c1;have pf0:=hp.f 0;have pf1:=hp.f 1;have HO1:=hid ho1;have HP:=hid hp;have HY:=hid hy;have HB1:=hid (HM0.out.below.trans (hb.mono (by omega)));clear hp hy ho ho1 hb hsz hgrow)
  obtain⟨w5,hw5⟩:∃w5,w5=u1.setCell ⟨w.heap.size,1,none⟩ (.slice a1 (n+1) c1):=⟨_,rfl⟩;rw[←hw5];have hp5:Bx w5 w.heap.size (.int .i64 h) (.slice a1 (n+1) c1):=by rw[hw5];exact HP.out.set1 _
  have hy5:Bx w5 (w.heap.size+1) (.int .i64 0) (.slice none 0 0):=by rw[hw5];exact HY.out.far (by simp) _
  have HO5:=hid (HO1.out.set (p:=⟨w.heap.size,1,none⟩) (by simp) (.slice a1 (n+1) c1));have HB5:=hid (HB1.out.setCell (p:=⟨w.heap.size,1,none⟩) (by simp) (.slice a1 (n+1) c1));rw[←hw5] at HO5 HB5;have p0:=hp5.c0;have p1:=hp5.c1;have r0:=hy5.c0;have r1:=hy5.c1;have rf0:=hy5.f 0;have rf1:=hy5.f 1;have HY5:=hid hy5;clear hw5 hp5 hy5 HO1 HB1 HP HY HM0 HNL HBW HOA;go_wp2;exact bodyPost_ret (zX Tryz.results320 _ _ (w.heap.size+1) rfl (kW HY5.out _ _)) rfl (YL HE.out ((HO5.out.set (by simp) _).set (by simp) _) ((HB5.out.setCell (by simp) _).setCell (by simp) _))
end Stk
namespace Mod
open Go.RowKit Go.Shelf Instr
def zCg (w:World) (g:Nat) (p:ByteArray→Bool):Prop :=
 (∀args w,(callFunc g args).run Tryz.prog w=.ok (.enter g args) w) ∧
  ∀(W:World) (s:ByteArray),s.size≤140737488351232→Below w.heap.size w W→Calls Tryz.prog g #[.string s] W fun e w'=>e=.returned (.bool (p s))∧Below W.heap.size W w'
theorem zCg.on {w w':World} {g:Nat} {p:ByteArray→Bool} (h:zCg w g p) (hb:Below w.heap.size w w'):zCg w' g p:=⟨h.1,fun W s hs hW=>h.2 W s hs (hb.trans (hW.mono hb.size))⟩
theorem zBj (x:Imp) (b g:Nat) (p:ByteArray→Bool) (w:World) (hc:w.cell? ⟨b,0,none⟩=some (.func (.func g) #[] #[])) (hp:zCg w g p) (h1:x.mo.size≤140737488351232) (h2:x.na.size≤140737488351232) :
  Calls Tryz.prog 231 #[.agg #[.string x.mo,.string x.na,.int .i64 x.ty],.pointer (some ⟨b,0,none⟩)] w fun e w'=>e=.returned (.bool (p x.mo||p x.na))∧Below w.heap.size w w':=by
 have eg:=hp.1;have C1:=hid (hp.2 (w.alloc (.cells #[.string x.mo,.string x.na,.int .i64 x.ty] 124)) x.mo h1 ((Below.refl _ _).alloc (Nat.le_refl _) _));have C2:=hid (fun W (hb:Below w.heap.size w W)=>hp.2 W x.na h2 hb);have HC:=hid (show ∀w1,Below w.heap.size w w1→w1.cell? ⟨b,0,none⟩=some (.func (.func g) #[] #[]) from fun w1 hb=>kP hb hc);have hbl:=World.block_lt_of_cell? w _ hc;obtain⟨q,hq⟩:∃q,p x.mo=q:=⟨_,rfl⟩;rw[hq] at C1 ⊢;clear hq hp h1 h2
 cases q with
 | true =>
  go_enter Tryz.func231,Tryz.ntmps231
  go_wp2_with (go_at_fn g;refine C1.out.mono ?_;rintro e w1 ⟨rfl,hb1⟩)
  go_ret;exact⟨rfl,zM ((Below.refl _ _).alloc (Nat.le_refl _) _) hb1⟩
 | false =>
  rw[Bool.false_or];obtain⟨r,hr⟩:∃r,p x.na=r:=⟨_,rfl⟩;rw[hr] at C2 ⊢;clear hr
  go_enter Tryz.func231,Tryz.ntmps231
  go_wp2_with fail
  refine (Calls.mono (R':=fun e w1=>(e=.returned (.bool false)∧Below w.heap.size w w1)∧w1.cell? ⟨b,0,none⟩=some (.func (.func g) #[] #[])∧w1.cell? ⟨w.heap.size,1,none⟩=some (.string x.na)) C1.out ?_).mono ?_
  ·rintro e w1 ⟨rfl,hb1⟩
   have hB:=zM ((Below.refl _ _).alloc (Nat.le_refl _) _) hb1;exact⟨⟨rfl,hB⟩,HC.out _ hB,kP hb1 (by go_simp)⟩
  rintro e w1 ⟨⟨rfl,hb1⟩,hc1,hc2⟩;have C3:=hid (C2.out w1 hb1);clear hc C2
  go_wp2_with (go_at_fn g;refine C3.out.mono ?_;rintro e w2 ⟨rfl,hb2⟩)
  go_ret;exact⟨rfl,zM hb1 hb2⟩
theorem zBC (x:Ex) (b g:Nat) (p:ByteArray→Bool) (w:World) (hc:w.cell? ⟨b,0,none⟩=some (.func (.func g) #[] #[])) (hp:zCg w g p) (h1:x.na.size≤140737488351232) :
  Calls Tryz.prog 232 #[.agg #[.string x.na,.int .i64 x.k,.int .u32 x.i],.pointer (some ⟨b,0,none⟩)] w fun e w'=>e=.returned (.bool (p x.na))∧Below w.heap.size w w':=by
 have eg:=hp.1;have C1:=hid (hp.2 (w.alloc (.cells #[.string x.na,.int .i64 x.k,.int .u32 x.i] 45)) x.na h1 ((Below.refl _ _).alloc (Nat.le_refl _) _));have hbl:=World.block_lt_of_cell? w _ hc;clear hp h1
 go_enter Tryz.func232,Tryz.ntmps232
 go_wp2_with (go_at_fn g;refine C1.out.mono ?_;rintro e w1 ⟨rfl,hb1⟩)
 go_ret;exact⟨rfl,zM ((Below.refl _ _).alloc (Nat.le_refl _) _) hb1⟩
theorem enters1:∀args w,(callFunc 231 args).run Tryz.prog w=.ok (.enter 231 args) w:=enters_of Tryz.func231 (by kernel_rfl) rfl
theorem enters2:∀args w,(callFunc 232 args).run Tryz.prog w=.ok (.enter 232 args) w:=enters_of Tryz.func232 (by kernel_rfl) rfl
theorem Yx (m:Md) (g:Nat) (p:ByteArray→Bool) (w:World) (hm:zN w.heap.size w m) (hf:m.fits) (hp:zCg w g p) :
  Calls Tryz.prog 153 #[.agg m.v,.func (.func g) #[] #[]] w fun e w'=>e=.returned (.bool (m.anyName p))∧Below w.heap.size w w':=by
 have B1:=hid (((Below.refl w.heap.size w).alloc (Nat.le_refl _) (.cells m.v 40)).alloc (by simp) (.cells #[.func (.func g) #[] #[]] 240));have hbx:zB ((w.alloc (.cells m.v 40)).alloc (.cells #[.func (.func g) #[] #[]] 240)) w.heap.size m.v:=(zB.made w m.v _).keep ((Below.refl _ _).alloc (Nat.le_refl _) _);have hcb:((w.alloc (.cells m.v 40)).alloc (.cells #[.func (.func g) #[] #[]] 240)).cell? ⟨w.heap.size+1,0,none⟩=some (.func (.func g) #[] #[]):=by go_simp
 have C1:=hid (zGl m.im m.im'.a m.im.length m.im'.c ((w.alloc (.cells m.v 40)).alloc (.cells #[.func (.func g) #[] #[]] 240)) rfl (hm.on B1.out).im hf.im
   231 #[.pointer (some ⟨w.heap.size+1,0,none⟩)] enters1 (fun x=>p x.mo||p x.na) (fun W x hx hW=>zBj x _ g p W (kP hW hcb) ((hp.on B1.out).on hW) (hf.iS x hx).1 (hf.iS x hx).2))
 have C2:=hid (fun (W:World) (hW:Below ((w.alloc (.cells m.v 40)).alloc (.cells #[.func (.func g) #[] #[]] 240)).heap.size ((w.alloc (.cells m.v 40)).alloc (.cells #[.func (.func g) #[] #[]] 240)) W) =>
   zGZ m.ex m.ex'.a m.ex.length m.ex'.c W rfl ((hm.on B1.out).on hW).ex hf.ex
     232 #[.pointer (some ⟨w.heap.size+1,0,none⟩)] enters2 (fun x=>p x.na) (fun W' x hx hW'=>zBC x _ g p W' (kP hW' (kP hW hcb)) (((hp.on B1.out).on hW).on hW') (hf.eS x hx)))
 have HX:=hid (fun (W:World) (hW:Below ((w.alloc (.cells m.v 40)).alloc (.cells #[.func (.func g) #[] #[]] 240)).heap.size ((w.alloc (.cells m.v 40)).alloc (.cells #[.func (.func g) #[] #[]] 240)) W)=>(hbx.keep hW) 6 _ rfl);have HE:Hid (m.anyName p=((m.im.any fun i=>p i.mo||p i.na)||(m.ex.any fun e=>p e.na))):=rfl;obtain⟨q,hq⟩:∃q,(m.im.any fun x=>p x.mo||p x.na)=q:=⟨_,rfl⟩;rw[hq] at C1 HE;unfold Md.v at C1 C2 B1 HX ⊢;clear hq hcb hbx hm hf hp
 cases q with
 | true =>
  have HE':Hid (m.anyName p=true):=by show _=_;rw[HE.out,Bool.true_or]
  clear HE
  go_enter Tryz.func153,Tryz.ntmps153
  go_wp2_with fail
  refine C1.out.mono ?_;rintro e w1 ⟨rfl,hb1⟩;clear C1 C2 HX;go_wp2;go_ret;exact⟨zA HE'.out.symm,B1.out.trans (hb1.mono B1.out.size)⟩
 | false =>
  obtain⟨r,hr⟩:∃r,(m.ex.any fun x=>p x.na)=r:=⟨_,rfl⟩;have HE':Hid (m.anyName p=r):=by show _=_;rw[HE.out,Bool.false_or];exact hr
  rw[hr] at C2;clear HE hr
  go_enter Tryz.func153,Tryz.ntmps153
  go_wp2_with fail
  refine C1.out.mono ?_;rintro e w1 ⟨rfl,hb1⟩;have hx:=HX.out w1 hb1;have C3:=hid (C2.out w1 hb1);clear C1 C2 HX
  go_wp2_with fail
  refine C3.out.mono ?_;rintro e w2 ⟨rfl,hb2⟩;clear C3 hx;go_wp2;go_ret;exact⟨zA HE'.out.symm,B1.out.trans ((zM hb1 hb2).mono B1.out.size)⟩
end Mod
namespace Leb
open Go.RowKit
def Got (k:IntKind) (w:World) (r:Int×Int×Int×Int) (e:Ending) (w':World):Prop :=
 e=.returned (.tuple #[.int k r.1,.int .i64 r.2.1,.agg #[.int .i64 r.2.2.1,.int .i64 r.2.2.2]])∧Below w.heap.size w w'
end Leb
namespace Instr
open Go.RowKit
def zGI (n₀:Nat) (w:World):Il→Prop
 | .nil=>True
 | .cons x l e r=>x.ok∧zk n₀ w x.ta x.tags∧(l.len=x.ln∧(l=.nil∨∃b' o',x.la=some ⟨b',o',none⟩∧zg n₀ w b' o' l))∧(e.len=x.en∧(e=.nil∨∃b' o',x.ea=some ⟨b',o',none⟩∧zg n₀ w b' o' e))∧zGI n₀ w r
def Il.rows:Il→List (List Value)
 | .nil=>[]
 | .cons x _ _ r=>x.vals.toList::r.rows
theorem zGI.more {n₀ n₁:Nat} {w:World} (hn:n₀≤n₁):∀ {t:Il},zGI n₀ w t→zGI n₁ w t
 | .nil,_=>trivial
 | .cons x l e r,⟨hx,ht,⟨l1,l2⟩,⟨e1,e2⟩,hr⟩=>by
  refine⟨hx,ht.more hn,⟨l1,?_⟩,⟨e1,?_⟩,zGI.more hn hr⟩
  ·rcases l2 with h|⟨b',o',ha,hi⟩
   ·exact .inl h
   ·exact .inr ⟨b',o',ha,zg.more hn hi⟩
  ·rcases e2 with h|⟨b',o',ha,hi⟩
   ·exact .inl h
   ·exact .inr ⟨b',o',ha,zg.more hn hi⟩
end Instr
end Go.Proofs.YtdljneclfgneoaaGreatDoor
