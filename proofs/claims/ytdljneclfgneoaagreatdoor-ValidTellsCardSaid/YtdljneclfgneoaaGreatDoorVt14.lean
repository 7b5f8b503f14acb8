import Derived.Test.YtdljneclfgneoaaGreatDoorVt13
import Derived.Test.YtdljneclfgneoaaGreatDoorVt06
import Derived.Laws.OwnMore
import Derived.WalkSmall
import Derived.Deep.AppendLies
import Derived.Laws.AppendOwnNone
import Derived.Lib.OthersKept
import Derived.Laws.MakeOwn
import Derived.Deep.RegionHeld3
import Derived.RegionTactic
import Derived.ChangeAlike
import Derived.Deep.RegionWith
import Derived.BigQuiet
import Derived.Deep.RegionHeldLaw
import Derived.Deep.RegionLaw
import Derived.Laws.Tables
import Derived.Deep.WholeRow
import Derived.Deep.QuietTactic
set_option linter.unusedVariables false
set_option linter.ambiguousOpen false
set_option maxRecDepth 100000
set_option maxHeartbeats 8000000
namespace Go.Proofs.YtdljneclfgneoaaGreatDoor
namespace Instr
end Instr
namespace Mod
end Mod
namespace Kind
end Kind
namespace Leb
end Leb
namespace Val
open Go.RowKit Go.Shelf Instr Mod
structure Wr where
 e:Int
 s:Int
 i:Int
 a:Int
def Wr.v (r:Wr):Array Value:=#[.int .i64 r.e,.int .i64 r.s,.int .i64 r.i,.int .i64 r.a]
def zL (m:Md) (j:Nat):Nat→Nat→Option Wr
 | _,0=>none
 | k,n+1=>if (zz m j k).1=0 then zL m j (k+1) n else some ⟨(zz m j k).1,zHA j,k,(zz m j k).2⟩
def zZ (m:Md):Nat→Nat→Option Wr
 | _,0=>none
 | j,c+1=>match zL m j 0 (yV m j) with
  | some r=>some r
  | none=>zZ m (j+1) c
def qK (m:Md):Wr:=if m.check=0 then (zZ m 0 8).getD ⟨0,0,0,0⟩ else ⟨m.check,0,0,0⟩
theorem yH {m:Md} {j c:Nat} {r:Wr} (h:zL m j 0 (yV m j)=some r):zZ m j (c+1)=some r:=by rw[zZ,h]
theorem yU {m:Md} {j c:Nat} (h:zL m j 0 (yV m j)=none):zZ m j (c+1)=zZ m (j+1) c:=by rw[zZ,h]
theorem zDT (k:Nat) (hk:k<8):∀args w,(callFunc (zGx k) args).run Tryz.prog w=.ok (.enter (zGx k) args) w:=by
 match k,hk with
 | 0,_=>exact enters_of Tryz.func184 (by kernel_rfl) rfl
 | 1,_=>exact enters_of Tryz.func186 (by kernel_rfl) rfl
 | 2,_=>exact enters_of Tryz.func187 (by kernel_rfl) rfl
 | 3,_=>exact enters_of Tryz.func189 (by kernel_rfl) rfl
 | 4,_=>exact enters_of Tryz.func191 (by kernel_rfl) rfl
 | 5,_=>exact enters_of Tryz.func193 (by kernel_rfl) rfl
 | 6,_=>exact enters_of Tryz.func195 (by kernel_rfl) rfl
 | 7,_=>exact enters_of Tryz.func196 (by kernel_rfl) rfl
theorem zJb (gm gn bm:Nat) (m:Md) (j k:Nat) (hj:j<8) (W:World) (h:Sx gm gn bm m W) (hf:m.few) (hfi:ky m) (hrg:Rg m) (hk:k<yV m j) :
  Calls Tryz.prog (zGx j) (#[.int .i64 k]++zJK gm gn j) W fun e w'=>e=.returned (.tuple #[.int .i64 (zz m j k).1,.int .i64 (zz m j k).2])∧Below W.heap.size W w':=by
 match j,hj,hk with
 | 0,_,hk=>exact zJC gm gn bm m k W h hf hfi hrg hk
 | 1,_,hk=>exact zIH gm gn bm m k W h hf hfi hrg hk
 | 2,_,hk=>exact zJJ gm gn bm m k W h hf hfi hrg hk
 | 3,_,hk=>exact zIJ gm gn bm m k W h hf hfi hrg hk
 | 4,_,hk=>exact zJL gm gn bm m k W h hf hfi hrg hk
 | 5,_,hk=>exact zIf gm gn bm m k W h hf hfi hrg hk
 | 6,_,hk=>exact zIm gm gn bm m k W h hf hfi hrg hk
 | 7,_,hk=>exact zI1 gm gn bm m k W h hf hfi hrg hk
theorem zHF {m:Md} (hf:m.few) (j:Nat):yV m j≤1000000:=by
 have h:=hf.lens;unfold yV
 split<;>(try split)<;>omega
def Bx4 (W:World) (g:Nat) (r:Wr):Prop:=W.heap[g]?=some (.cells r.v 120 (0,0))
theorem Bx4.lt {W:World} {g:Nat} {r:Wr} (h:Bx4 W g r):g<W.heap.size:=(Array.getElem?_eq_some_iff.1 h).1
theorem Bx4.on {W W':World} {g:Nat} {r:Wr} (h:Bx4 W g r) (hb:Below W.heap.size W W'):Bx4 W' g r:=(hb.block g h.lt).trans h
theorem Bx4.c {W:World} {g:Nat} {r:Wr} (h:Bx4 W g r):W.cell? ⟨g,0,none⟩=some (.int .i64 r.e)∧W.cell? ⟨g,1,none⟩=some (.int .i64 r.s)∧W.cell? ⟨g,2,none⟩=some (.int .i64 r.i)∧W.cell? ⟨g,3,none⟩=some (.int .i64 r.a) ∧
  W.frozen? ⟨g,0,none⟩=false∧W.frozen? ⟨g,1,none⟩=false∧W.frozen? ⟨g,2,none⟩=false∧W.frozen? ⟨g,3,none⟩=false :=
 ⟨cell_of_row W g 0 _ _ _ h,cell_of_row W g 1 _ _ _ h,cell_of_row W g 2 _ _ _ h,cell_of_row W g 3 _ _ _ h,frozen_of_row W g 0 _ _ h,frozen_of_row W g 1 _ _ h,frozen_of_row W g 2 _ _ h,frozen_of_row W g 3 _ _ h⟩
theorem Bx4.set {W:World} {g:Nat} {r:Wr} (h:Bx4 W g r) (x y z t:Int):Bx4 ((((W.setCell ⟨g,0,none⟩ (.int .i64 x)).setCell ⟨g,1,none⟩ (.int .i64 y)).setCell ⟨g,2,none⟩ (.int .i64 z)).setCell ⟨g,3,none⟩ (.int .i64 t)) g ⟨x,y,z,t⟩ :=
 heap_setCell_same _ g 3 _ _ _ (heap_setCell_same _ g 2 _ _ _ (heap_setCell_same _ g 1 _ _ _ (heap_setCell_same W g 0 _ _ _ h)))
theorem zU {fn:Func} {p:Tmp} (h:fn.results=#[.cell p 120]) (tmps:Array Value) (w:World) (g:Nat) {r:Wr} (hp:tmps.getD p undef=.pointer (some ⟨g,0,none⟩)) (hb:Bx4 w g r) :
  (results fn tmps).run Tryz.prog w=.ok (.agg r.v) w:=by
 have hp':tmps[p]?.getD undef=.pointer (some ⟨g,0,none⟩):=by simpa using hp
 simp[results,h,hp',asAddr,run_loadVar_row w g _ 120 _ _ _ hb Tryz.underlying120 rfl (by kernel_rfl)]
def zDw (m:Md) (w:World) (e:Ending) (w':World):Prop:=e=.returned (.agg (qK m).v)∧Below w.heap.size w w'
theorem zEG (m:Md) (w:World) (hm:zN w.heap.size w m) (hf:m.few) (hrg:Rg m) (hT:kC w) (hU:Utf.Tabs w) (hA:Num.ZX w):Calls Tryz.prog 49 #[.agg m.v] w (zDw m w):=by
 obtain⟨W0,hW0⟩:∃W0,W0=(w.alloc (.cells m.v 40)).alloc (.cells #[.int .i64 0,.int .i64 0,.int .i64 0,.int .i64 0] 120):=⟨_,rfl⟩;have hb0:Below w.heap.size w W0:=by rw[hW0];exact zC (zC (Below.refl _ _) _) _
 have hbx:zB W0 w.heap.size m.v:=by rw[hW0];exact (zB.made w m.v _).keep (zG _ _)
 have hr:Bx4 W0 (w.heap.size+1) ⟨0,0,0,0⟩:=by rw[hW0];have:=heap_alloc_new (w.alloc (.cells m.v 40)) (.cells #[.int .i64 0,.int .i64 0,.int .i64 0,.int .i64 0] 120);rw[World.size_alloc] at this;exact this
 have HX:=hid hbx;have HB:=hid hb0;have HR:=hid hr;have HM:=hid (hm.on hb0);have HF:=hid hf;have HRG:=hid hrg;have HT:=hid (hT.below hb0);have HAR:=hid (hA.below hb0);have C:=hid (YJ m W0 (hT.below hb0) (hU.below hb0) (hm.on hb0) hf);have HFI:=hid (fun h=>YS (m:=m) h);have HE:Hid (qK m=if m.check=0 then (zZ m 0 8).getD ⟨0,0,0,0⟩ else ⟨m.check,0,0,0⟩):=rfl;obtain⟨ck,hck⟩:∃c,m.check=c:=⟨_,rfl⟩;rw[hck] at C HFI HE;obtain⟨v0,v1,v2,v3,v4,v5,v6,v7,v8,v9,v10,hv⟩:∃v0 v1 v2 v3 v4 v5 v6 v7 v8 v9 v10,m.v=#[v0,v1,v2,v3,v4,v5,v6,v7,v8,v9,v10]:=⟨_,_,_,_,_,_,_,_,_,_,_,rfl⟩;have CS:=hid (fun w' hm' hT' hA'=>zD3 m w' hm' hf hT' hA');rw[hv] at hW0 HX C CS ⊢;obtain⟨n0,n1,n2,n3,n4,n5,n6,n7,n8,n9,n10⟩:=zB.mod HX.out;clear hm hf hrg hT hU hA hb0 hbx hr hck hv
 go_enter Tryz.func49,Tryz.ntmps49
 go_upto_region 1 with fail
 rw[←hW0];clear hW0
 go_wp2_with fail
 refine C.out.mono ?_;rintro e1 w1 ⟨rfl,hb1⟩;have HX1:=hid (HX.out.keep hb1);have HB1:=hid (HB.out.trans (hb1.mono HB.out.size));have HR1:=hid (HR.out.on hb1);have HM1:=hid (HM.out.on hb1);have HT1:=hid (HT.out.below hb1);have HA1:=hid (HAR.out.below hb1);clear C hb1 n0 n1 n2 n3 n4 n5 n6 n7 n8 n9 n10 HX HB HR HM HT HAR
 by_cases hc:ck=0
 ·subst hc
  have HW:=hid (show qK m=(zZ m 0 8).getD ⟨0,0,0,0⟩ by rw[HE.out,if_pos rfl]);have HFN:=hid (HFI.out rfl);obtain⟨n0,n1,n2,n3,n4,n5,n6,n7,n8,n9,n10⟩:=zB.mod HX1.out;have C2:=hid (CS.out w1 HM1.out HT1.out HA1.out);clear HE HFI CS
  go_wp2_with fail
  refine C2.out.mono ?_;rintro e2 w2 ⟨gs,gm,gn,bm,rfl,hs2,hx2,hb2⟩;have HB2:=hid (HB1.out.trans (hb2.mono HB1.out.size));have HR2:=hid (HR1.out.on hb2);have HS2:=hid hs2;have HX2:=hid hx2;clear C2 hs2 hx2 hb2 n0 n1 n2 n3 n4 n5 n6 n7 n8 n9 n10 HX1 HB1 HR1 HM1 HT1 HA1;go_wp2
  go_loopw [18] (fun vi wr=>∃j:Nat,vi=.int .i64 j∧j≤8∧Hid (zZ m 0 8=zZ m j (8-j))∧Hid (Zu gs gm gn m wr)∧Hid (Sx gm gn bm m wr)∧Hid (Bx4 wr (w.heap.size+1) ⟨0,0,0,0⟩)∧Hid (Below w.heap.size w wr)) (fun vi _=>8-(intOf vi).toNat)
  case atStart=>exact⟨0,rfl,Nat.zero_le _,rfl,HS2,HX2,HR2,HB2⟩
  case round =>
   clear HB2 HR2 HS2 HX2;obtain⟨j,rfl,hj,HQ,HS,HX,HR,HB⟩:=hrel
   by_cases hlt:j<8
   ·have hji:(j:Int)<8:=by omega
    obtain⟨s0,s1,s2⟩:=HS.out j hlt;have HLE:=hid (zHF HF.out j);have HL8:=hid hlt;have eg:=zDT j hlt;have HCC:=hid (fun k hk W hx=>zJb gm gn bm m j k hlt W hx HF.out HFN.out HRG.out hk);obtain⟨L,hL⟩:∃L,yV m j=L:=⟨_,rfl⟩;obtain⟨N,hN⟩:∃N,zHA j=N:=⟨_,rfl⟩;obtain⟨G,hG⟩:∃G,zGx j=G:=⟨_,rfl⟩;obtain⟨cb,hcb⟩:∃L,zJK gm gn j=L:=⟨_,rfl⟩;rw[hL] at s1 HLE HCC;rw[hN] at s0;rw[hG] at s2 eg HCC;rw[hcb] at s2 HCC;have HLL:=hid hL;have HNN:=hid hN;clear hL hN hG hcb hlt
    go_upto_region 7 with fail
    have hA:Below wr.heap.size wr (wr.alloc (.cells #[.int .i64 N,.int .i64 L,.func (.func G) #[] cb] 180)):=(Below.refl _ _).alloc (Nat.le_refl _) _;have b0:(wr.alloc (.cells #[.int .i64 N,.int .i64 L,.func (.func G) #[] cb] 180)).cell? ⟨wr.heap.size,0,none⟩=some (.int .i64 N):=by simp[go_sem]
    have b1:(wr.alloc (.cells #[.int .i64 N,.int .i64 L,.func (.func G) #[] cb] 180)).cell? ⟨wr.heap.size,1,none⟩=some (.int .i64 L):=by simp[go_sem]
    have b2:(wr.alloc (.cells #[.int .i64 N,.int .i64 L,.func (.func G) #[] cb] 180)).cell? ⟨wr.heap.size,2,none⟩=some (.func (.func G) #[] cb):=by simp[go_sem]
    obtain⟨u1,hu1⟩:∃u,u=wr.alloc (.cells #[.int .i64 N,.int .i64 L,.func (.func G) #[] cb] 180):=⟨_,rfl⟩;rw[←hu1] at hA b0 b1 b2 ⊢;obtain⟨gx,hgx⟩:∃gx,gx=wr.heap.size:=⟨_,rfl⟩;rw[←hgx] at b0 b1 b2 ⊢
    replace HS:=hid (HS.out.on hA)
    replace HX:=hid (HX.out.on hA)
    replace HR:=hid (HR.out.on hA)
    replace HB:=hid (HB.out.trans (hA.mono HB.out.size))
    have K0:=hid b0;have K2:=hid b2;clear hu1 hgx hA b0 b2 s0 s1 s2;go_wp2;clear b1
    go_loopw [24] (fun vi wr'=>∃k:Nat,vi=.int .i64 k∧k≤L∧Hid (zL m j 0 L=zL m j k (L-k))∧Hid (Zu gs gm gn m wr')∧Hid (Sx gm gn bm m wr')∧Hid (Bx4 wr' (w.heap.size+1) ⟨0,0,0,0⟩)∧Hid (Below w.heap.size w wr')∧Hid (wr'.cell? ⟨gx,0,none⟩=some (.int .i64 N))∧Hid (wr'.cell? ⟨gx,2,none⟩=some (.func (.func G) #[] cb))) (fun vi _=>L-(intOf vi).toNat)
    case atStart=>exact⟨0,rfl,Nat.zero_le _,rfl,HS,HX,HR,HB,K0,K2⟩
    case round =>
     clear HS HX HR HB K0 K2;obtain⟨k,rfl,hk,HI,HS,HX,HR,HB,K0,K2⟩:=hrel
     by_cases hlk:k<L
     ·have hki:(k:Int)<(L:Int):=by omega
      have hLb:L≤1000000:=HLE.out;have C3:=hid (HCC.out k hlk wr HX.out);obtain⟨q,hq⟩:∃q,zz m j k=q:=⟨_,rfl⟩;rw[hq] at C3;have HSQ:=hid hq;obtain⟨q1,q2⟩:=q;simp only at C3;have b0:=K0.out;have b2:=K2.out;have HLK:=hid hlk;clear hq hlk
      by_cases hz:q1=0
      ·subst hz
       go_wp2_with (go_at_fn G;refine C3.out.mono ?_;rintro e3 u3 ⟨rfl,hb3⟩;clear b0 b2)
       have HB3:=hid (HB.out.trans (hb3.mono HB.out.size));have HS3:=hid (HS.out.on hb3);have HX3:=hid (HX.out.on hb3);have HR3:=hid (HR.out.on hb3);have K03:=hid (kP hb3 K0.out);have K23:=hid (kP hb3 K2.out)
       go_roundw
       case rel =>
        refine⟨k+1,by go_num,by have:=HLK.out;omega,hid ?_,HS3,HX3,HR3,HB3,K03,K23⟩;rw[HI.out];have:L-k=(L-(k+1))+1:=by have:=HLK.out;omega
        rw[this,zL,HSQ.out,if_pos rfl]
       case measure=>simp[intOf];have:=HLK.out;omega
      ·have hzb:(q1==0)=false:=by simpa using hz
       have HV:=hid (show qK m=⟨q1,N,k,q2⟩ by
         have h1:zL m j 0 (yV m j)=some ⟨q1,N,k,q2⟩:=by
           rw[HLL.out,HI.out];have:L-k=(L-(k+1))+1:=by have:=HLK.out;omega
           rw[this,zL,HSQ.out,if_neg hz,HNN.out]
         have h2:8-j=(8-(j+1))+1:=by have:=HL8.out;omega
         rw[HW.out,HQ.out,h2,yH h1];rfl)
       go_wp2_with (go_at_fn G;refine C3.out.mono ?_;rintro e3 u3 ⟨rfl,hb3⟩;have b03:=kP hb3 K0.out;obtain⟨c0,c1,c2,c3,f0,f1,f2,f3⟩:=(HR.out.on hb3).c)
       have HB3:=hid (HB.out.trans (hb3.mono HB.out.size));have HR3:=hid (HR.out.on hb3);exact bodyPost_ret (zU Tryz.results49 _ _ (w.heap.size+1) rfl (HR3.out.set q1 N k q2)) rfl ⟨by rw[HV.out],(((HB3.out.setCell (by simp) _).setCell (by simp) _).setCell (by simp) _).setCell (by simp) _⟩
     ·obtain rfl:L=k:=by omega
      have hn:zL m j 0 (yV m j)=none:=by
       rw[HLL.out,HI.out,Nat.sub_self];rfl
      have h2:8-j=(8-(j+1))+1:=by have:=HL8.out;omega
      have HQ2:=hid (show zZ m 0 8=zZ m (j+1) (8-(j+1)) by rw[HQ.out,h2,yU hn]);clear hn h2;go_wp2
      go_roundw
      case rel=>exact⟨j+1,by go_num,by have:=HL8.out;omega,HQ2,HS,HX,HR,HB⟩
      case measure=>simp[intOf];have:=HL8.out;omega
   ·obtain rfl:j=8:=by omega
    have HV:=hid (show qK m=⟨0,0,0,0⟩ by rw[HW.out,HQ.out];rfl);obtain⟨c0,c1,c2,c3,f0,f1,f2,f3⟩:=HR.out.c;go_wp2;exact bodyPost_ret (zU Tryz.results49 _ _ (w.heap.size+1) rfl (HR.out.set 0 0 0 0)) rfl ⟨by rw[HV.out],(((HB.out.setCell (by simp) _).setCell (by simp) _).setCell (by simp) _).setCell (by simp) _⟩
 ·have HV:=hid (show qK m=⟨ck,0,0,0⟩ by rw[HE.out,if_neg hc])
  have hcb:(ck==0)=false:=by simpa using hc
  obtain⟨c0,c1,c2,c3,f0,f1,f2,f3⟩:=HR1.out.c;clear HE HFI CS;go_wp2;exact bodyPost_ret (zU Tryz.results49 _ _ (w.heap.size+1) rfl (HR1.out.set ck 0 0 0)) rfl ⟨by rw[HV.out],(((HB1.out.setCell (by simp) _).setCell (by simp) _).setCell (by simp) _).setCell (by simp) _⟩
def zG0 (m:Md) (n:Int) (w:World) (e:Ending) (w':World):Prop:=e=.returned (.tuple #[.int .i64 (Md.body m n).1,.int .i64 (Md.body m n).2])∧Below w.heap.size w w'
theorem zGA (m:Md) (n:Int) (w:World) (hm:zN w.heap.size w m) (hf:m.few) (hT:kC w) (hU:Utf.Tabs w) (hA:Num.ZX w):Calls Tryz.prog 47 #[.agg m.v,.int .i64 n] w (zG0 m n w):=by
 obtain⟨W0,hW0⟩:∃W0,W0=w.alloc (.cells m.v 40):=⟨_,rfl⟩;have hb0:Below w.heap.size w W0:=by rw[hW0];exact zC (Below.refl _ _) _
 have hbx:zB W0 w.heap.size m.v:=by rw[hW0];exact zB.made w m.v _
 have HX:=hid hbx;have HB:=hid hb0;have HM:=hid (hm.on hb0);have HF:=hid hf;have HAR:=hid (hA.below hb0);have C:=hid (YJ m W0 (hT.below hb0) (hU.below hb0) (hm.on hb0) hf);have HFI:=hid (fun h=>YS (m:=m) h);have HE:Hid (Md.body m n=if m.check≠0 then (m.check,0) else if n<0∨(m.fu.length:Int)≤n then (6,0) else Md.bodyP m n.toNat):=rfl;have CB:=hid (fun k w' hm' hA' hfi hk=>Yz m k w' hm' hA' hf hfi hk);obtain⟨ck,hck⟩:∃c,m.check=c:=⟨_,rfl⟩;rw[hck] at C HFI HE;obtain⟨v0,v1,v3,v4,v5,v6,v7,v8,v9,v10,hv⟩:∃v0 v1 v3 v4 v5 v6 v7 v8 v9 v10,m.v=#[v0,v1,.slice m.fu'.a m.fu.length m.fu'.c,v3,v4,v5,v6,v7,v8,v9,v10]:=⟨_,_,_,_,_,_,_,_,_,_,rfl⟩;have bfu:=hf.fit.fu;rw[hv] at hW0 HX C CB ⊢;obtain⟨n0,n1,n2,n3,n4,n5,n6,n7,n8,n9,n10⟩:=zB.mod HX.out;clear hm hf hT hU hA hb0 hbx hck hv
 go_enter Tryz.func47,Tryz.ntmps47
 go_upto_region 1 with fail
 rw[←hW0];clear hW0
 go_wp2_with fail
 refine C.out.mono ?_;rintro e1 w1 ⟨rfl,hb1⟩;have HX1:=hid (HX.out.keep hb1);have HB1:=hid (HB.out.trans (hb1.mono HB.out.size));have HM1:=hid (HM.out.on hb1);have HA1:=hid (HAR.out.below hb1);clear C hb1 n0 n1 n2 n3 n4 n5 n6 n7 n8 n9 n10 HX HB HM HAR
 by_cases hc:ck=0
 ·subst hc
  have HFN:=hid (HFI.out rfl);obtain⟨n0,n1,n2,n3,n4,n5,n6,n7,n8,n9,n10⟩:=zB.mod HX1.out
  by_cases h1:n<0
  ·have HV:=hid (show Md.body m n=(6,0) by rw[HE.out,if_neg (by simp),if_pos (.inl h1)])
   clear HE HFI CB;go_wp2;go_ret2;exact⟨by rw[HV.out];rfl,HB1.out⟩
  by_cases h2:(m.fu.length:Int)≤n
  ·have HV:=hid (show Md.body m n=(6,0) by rw[HE.out,if_neg (by simp),if_pos (.inr h2)])
   clear HE HFI CB;go_wp2;go_ret2;exact⟨by rw[HV.out];rfl,HB1.out⟩
  ·obtain⟨k,rfl⟩:∃k:Nat,n=k:=⟨n.toNat,by omega⟩
   have HV:=hid (show Md.body m k=Md.bodyP m k by rw[HE.out,if_neg (by simp),if_neg (by omega)];simp);have C2:=hid (CB.out k w1 HM1.out HA1.out HFN.out (by omega));unfold zEJ at C2;obtain⟨q,hq⟩:∃q,Md.bodyP m k=q:=⟨_,rfl⟩;rw[hq] at C2 HV;clear HE HFI CB hq
   go_wp2_with fail
   refine C2.out.mono ?_;rintro e2 w2 ⟨rfl,hb2⟩;have HB2:=hid (HB1.out.trans (hb2.mono HB1.out.size));clear C2 hb2 n0 n1 n2 n3 n4 n5 n6 n7 n8 n9 n10;go_wp2;go_ret2;exact⟨by rw[HV.out];rfl,HB2.out⟩
 ·have HV:=hid (show Md.body m n=(ck,0) by rw[HE.out,if_pos hc])
  have hcb:(ck==0)=false:=by simpa using hc
  clear HE HFI CB;go_wp2;go_ret2;exact⟨by rw[HV.out];rfl,HB1.out⟩
end Val
namespace Val
open Go.RowKit Instr Mod
theorem Y4 (m:Md) (x:Ix):zT m.bare x.bare=zT m x:=by
 unfold zT;rw[show x.bare.op=x.op from rfl,show x.bare.a=x.a from rfl,uQ];rfl
theorem zJj (l:List Gl):(l.map Gl.bare).map (·.mu)=l.map (·.mu):=by
 rw[List.map_map];rfl
theorem zDA (m:Md) (lo:Int) (x:Ix):zP m.bare lo x.bare=zP m lo x:=by
 unfold zP;rw[Y4,show m.bare.gl=m.gl.map Gl.bare from rfl,zJj,List.length_map];rfl
theorem zHm (m:Md) (re:Int) (x:Ix) (L E:St→St) (s:St):opS m.bare re x.bare L E s=opS m re x L E s:=by
 unfold opS;rw[Y4];rfl
theorem YK (m:Md) (lo re:Int):∀(t:Il) (s:St),uP m.bare lo re t.bare s=uP m lo re t s
 | .nil,s=>rfl
 | .cons x l e r,s=>by
  have hl:zK m.bare lo re l.bare=zK m lo re l:=by funext s;unfold zK;rw[YK m lo re l]
  have he:zK m.bare lo re e.bare=zK m lo re e:=by funext s;unfold zK;rw[YK m lo re e]
  rw[Il.bare,kO,kO,hl,he,YK m lo re r];unfold yh;rw[zHm,zDA]
theorem zFb (m:Md) (lo re:Int) (t:Il) (s:St):zK m.bare lo re t.bare s=zK m lo re t s:=by unfold zK;rw[YK]
theorem getD_map {α β:Type} (f:α→β) (l:List α) (k:Nat) (d:α):(l.map f).getD k (f d)=f (l.getD k d):=by
 simp only[List.getD_eq_getElem?_getD,List.getElem?_map]
 cases l[k]?<;>rfl
theorem J7 (m:Md) (n:Nat):Md.bodyP m.bare n=Md.bodyP m n:=by
 unfold Md.bodyP;rw[show m.bare.im=m.im from rfl,uQ];have e:m.bare.fu.getD n ⟨0,0,⟨none,0,.nil⟩⟩=(m.fu.getD n ⟨0,0,⟨none,0,.nil⟩⟩).bare:=getD_map Mod.Fn.bare m.fu n ⟨0,0,⟨none,0,.nil⟩⟩;rw[e]
 by_cases h:(m.typeOf (m.im.length+n)).2=false
 ·rw[if_pos h,if_pos h]
 rw[if_neg h,if_neg h];dsimp only;rw[show (m.fu.getD n ⟨0,0,⟨none,0,.nil⟩⟩).bare.l.t=(m.fu.getD n ⟨0,0,⟨none,0,.nil⟩⟩).l.t.bare from rfl,zFb];rfl
theorem J9 (m:Md) (n:Int):Md.body m.bare n=Md.body m n:=by
 unfold Md.body;rw[JD,J7,show m.bare.fu=m.fu.map Mod.Fn.bare from rfl,List.length_map]
theorem Ji (m:Md) (k:Int):countP m.bare k=countP m k:=by
 unfold countP Md.bare;simp only[List.length_map]
theorem zFf (m:Md) (j k:Nat):zz m.bare j k=zz m j k:=by
 have e1:yL m.bare k=(yL m k).bare:=getD_map Mod.Fn.bare m.fu k ⟨0,0,⟨none,0,.nil⟩⟩;have e2:uA m.bare k=(uA m k).bare:=getD_map Gl.bare m.gl k ⟨false,⟨none,0,.nil⟩⟩;have e3:Yn m.bare k=(Yn m k).bare:=getD_map El.bare m.el k ⟨⟨none,0,.nil⟩,none,0,[]⟩;have e4:k7 m.bare k=(k7 m k).bare:=getD_map Da.bare m.da k ⟨⟨none,0,.nil⟩,none,0,[]⟩
 match j with
 | 0=>rfl
 | 1=>show (qI m.bare (yL m.bare k).ty,(0:Int))=(qI m (yL m k).ty,0);rw[e1];rfl
 | 2=>show ((zy (uA m.bare k).l.t).2,(0:Int))=((zy (uA m k).l.t).2,0);rw[e2,show (uA m k).bare.l.t=(uA m k).l.t.bare from rfl,uw]
 | 3=>show (jV m.bare k,(0:Int))=(jV m k,0);unfold jV;rw[Ji];rfl
 | 4=>show (jd m.bare,(0:Int))=(jd m,0);unfold jd;rw[show m.bare.sn=m.sn from rfl,uQ]
 | 5=>show (kE m.bare (Yn m.bare k),(0:Int))=(kE m (Yn m k),0);rw[e3];unfold kE;rw[Ji,show (Yn m k).bare.l.t=(Yn m k).l.t.bare from rfl,uw];rfl
 | 6=>exact J7 m k
 | _+7=>show (qj m.bare (k7 m.bare k).l.t,(0:Int))=(qj m (k7 m k).l.t,0);rw[e4];unfold qj;rw[show (k7 m k).bare.l.t=(k7 m k).l.t.bare from rfl,uw,show m.bare.me=m.me from rfl]
theorem zE1 (m:Md) (j:Nat):yV m.bare j=yV m j:=by
 unfold yV Md.bare;simp only[List.length_map]
theorem Jp (m:Md) (j:Nat):∀(n k:Nat),zL m.bare j k n=zL m j k n
 | 0,k=>rfl
 | n+1,k=>by rw[zL,zL,zFf,Jp m j n]
theorem Jl (m:Md):∀(c j:Nat),zZ m.bare j c=zZ m j c
 | 0,j=>rfl
 | c+1,j=>by rw[zZ,zZ,zE1,Jp,Jl m c]
theorem JG (m:Md):qK m.bare=qK m:=by unfold qK;rw[JD,Jl]
theorem zFU {a b:Md} (h:b.bare=a.bare) (n:Int):Md.body b n=Md.body a n:=by rw[←J9 b,h,J9]
theorem zDU {a b:Md} (h:b.bare=a.bare):qK b=qK a:=by rw[←JG b,h,JG]
end Val
section
open Go.RowKit
structure Touch (S:Nat→Prop) (w w':World):Prop where
 os:w'.os=w.os
 tape:w'.tape=w.tape
 output:w'.output=w.output
 size:w.heap.size≤w'.heap.size
 block:∀j,j<w.heap.size→¬S j→w'.heap[j]?=w.heap[j]?
theorem Touch.refl (S:Nat→Prop) (w:World):Touch S w w:=⟨rfl,rfl,rfl,Nat.le_refl _,fun _ _ _=>rfl⟩
theorem Touch.trans {S:Nat→Prop} {a b c:World} (h:Touch S a b) (g:Touch S b c):Touch S a c :=
 ⟨g.os.trans h.os,g.tape.trans h.tape,g.output.trans h.output,Nat.le_trans h.size g.size,fun j hj hk=>(g.block j (Nat.lt_of_lt_of_le hj h.size) hk).trans (h.block j hj hk)⟩
theorem Touch.mono {S T:Nat→Prop} {a b:World} (h:Touch S a b) (hs:∀j,S j→T j):Touch T a b:=⟨h.os,h.tape,h.output,h.size,fun j hj hk=>h.block j hj (fun hs'=>hk (hs j hs'))⟩
theorem Touch.of_save {k:Nat} {w w':World} (h:zF k w w'):Touch (fun j=>j=k) w w':=⟨h.os,h.tape,h.output,h.size,fun j hj hk=>h.block j hj hk⟩
theorem Touch.of_below {S:Nat→Prop} {w w':World} (h:Below w.heap.size w w'):Touch S w w':=⟨h.os,h.tape,h.output,h.size,fun j hj _=>h.block j hj⟩
theorem Touch.of_grown {w w':World} {row:Option Nat} (h:w.grownBy w' row):Touch (fun j=>row=some j) w w':=⟨h.os,h.tape,h.output,h.size,fun j hj hk=>h.block j hj (fun e=>hk e.symm)⟩
theorem Touch.alloc {S:Nat→Prop} {a b:World} (h:Touch S a b) (o:Obj):Touch S a (b.alloc o):=h.trans (.of_below ((Below.refl _ _).alloc (Nat.le_refl _) o))
theorem Touch.setCell {S:Nat→Prop} {a b:World} (h:Touch S a b) {p:Addr} (hp:S p.block∨a.heap.size≤p.block) (v:Value):Touch S a (b.setCell p v) :=
 ⟨h.os,h.tape,h.output,by have:=h.size;simpa[World.setCell] using this,fun j hj hk=>(Below.heap_setCell _ _ _ _ (by rcases hp with hp|hp;rintro rfl;exact hk hp;omega)).trans (h.block j hj hk)⟩
theorem Touch.below {S:Nat→Prop} {B:Nat} {a b:World} (h:Touch S a b) (hB:B≤a.heap.size) (hs:∀j,S j→B≤j):Below B a b :=
 ⟨h.os,h.tape,h.output,h.size,fun j hj=>h.block j (by omega) (fun hj'=>by have:=hs j hj';omega)⟩
theorem Touch.cell {S:Nat→Prop} {w w':World} (h:Touch S w w') {p:Addr} {v:Value} (hk:¬S p.block) (hc:w.cell? p=some v):w'.cell? p=some v :=
 (World.cell?_of_block (w:=w) (h.block p.block (World.block_lt_of_cell? w _ hc) hk)).trans hc
theorem Ye {S:Nat→Prop} {w w':World} {base size n:Nat} {e:TypeId} {v:Value} {xs:List Value} (h:w.ownsRow base e size v n xs) (ht:Touch S w w') (hk:∀g,v.ownBlock=some g→¬S g):w'.ownsRow base e size v n xs:=by
 refine⟨h.1,?_⟩
 rcases h.2 with h0|⟨g,cap,cur,rfl,hg,hh,rest⟩
 ·exact .inl h0
 ·exact .inr ⟨g,cap,cur,rfl,hg,(ht.block g (Array.getElem?_eq_some_iff.1 hh).1 (hk g rfl)).trans hh,rest⟩
theorem zFI (b i:Nat):(⟨b,0,none⟩:Addr).add i=⟨b,i,none⟩:=by unfold Addr.add;split<;>simp_all
def Zn (w:World) (q:Nat):Prop:=∃cs e,w.heap[q]?=some (.cells cs e (0,0))
theorem Zn.touch {S:Nat→Prop} {w w':World} {q:Nat} (h:Zn w q) (ht:Touch S w w') (hk:¬S q):Zn w' q:=by
 obtain⟨cs,e,h⟩:=h;exact⟨cs,e,(ht.block q (Array.getElem?_eq_some_iff.1 h).1 hk).trans h⟩
theorem Zn.frozen {w:World} {q:Nat} (h:Zn w q) (i:Nat):w.frozen? ⟨q,i,none⟩=false:=by
 obtain⟨cs,e,h⟩:=h;simp[World.frozen?,h]
theorem Zn.lt {w:World} {q:Nat} (h:Zn w q):q<w.heap.size:=by
 obtain⟨cs,e,h⟩:=h;exact (Array.getElem?_eq_some_iff.1 h).1
theorem zGu {w:World} {base size n:Nat} {e:TypeId} {v:Value} {xs:List Value} (h:w.ownsRow base e size v n xs) {g:Nat} (hg:v.ownBlock=some g):Zn w g:=by
 rcases h.2 with ⟨rfl,_⟩|⟨g',cap,cur,rfl,_,hh,_⟩
 ·simp[Value.ownBlock] at hg
 ·simp only[Value.ownBlock,Option.some.injEq] at hg
  subst hg;exact⟨_,_,hh⟩
namespace Instr
def zV (n:Nat) (a:Option Addr):List Nat:=if n=0 then [] else match a with
 | some p=>[p.block]
 | none=>[]
def Il.foot:Il→List Nat
 | .nil=>[]
 | .cons x l e r=>(zV x.tags.length x.ta++(zV x.ln x.la++l.foot)++(zV x.en x.ea++e.foot))++r.foot
def Il.cells:Il→List Value
 | .nil=>[]
 | .cons x _ _ r=>x.vals.toList++r.cells
def Il.kids (w:World):Il→Prop
 | .nil=>True
 | .cons x l e r=>x.ok∧zk w.heap.size w x.ta x.tags∧zD w.heap.size w x.la x.ln l∧zD w.heap.size w x.ea x.en e∧r.kids w
theorem Jz:∀t u:Il,(t.app u).foot=t.foot++u.foot
 | .nil,_=>rfl
 | .cons x l e r,u=>by simp only[Il.app,Il.foot,Jz r,List.append_assoc]
theorem zA3:∀t u:Il,(t.app u).cells=t.cells++u.cells
 | .nil,_=>rfl
 | .cons x l e r,u=>by simp only[Il.app,Il.cells,zA3 r,List.append_assoc]
theorem zCu {w:World}:∀t u:Il,t.kids w→u.kids w→(t.app u).kids w
 | .nil,_,_,h=>h
 | .cons _ _ _ r,u,⟨h1,h2,h3,h4,h5⟩,h=>⟨h1,h2,h3,h4,zCu r u h5 h⟩
theorem zk.touch {S:Nat→Prop} {n₀:Nat} {w w':World} {a:Option Addr} {zs:List Int} (h:zk n₀ w a zs) (ht:Touch S w w') (hk:∀q∈zV zs.length a,¬S q):zk n₀ w' a zs:=by
 rcases h with h|⟨b,off,rfl,hl,hc⟩
 ·exact .inl h
 ·by_cases h0:zs=[]
  ·exact .inl h0
  ·have hne:zs.length≠0:=fun h=>h0 (List.eq_nil_of_length_eq_zero h)
   exact .inr ⟨b,off,rfl,hl,fun i hi=>ht.cell (p:=⟨b,off+i,none⟩) (hk b (by simp[zV,hne])) (hc i hi)⟩
theorem zg.touch {S:Nat→Prop} {n₀:Nat} {w w':World} (ht:Touch S w w'):∀ {t:Il} {b off:Nat},zg n₀ w b off t→¬S b→(∀q∈t.foot,¬S q)→zg n₀ w' b off t
 | .nil,_,_,_,_,_=>trivial
 | .cons x l e r,b,off,⟨hl,hx,⟨c0,c1,c2,c3,c4,c5,c6,c7⟩,htg,⟨l1,l2⟩,⟨e1,e2⟩,hr⟩,hb,hf=>by
  have k:∀j v,w.cell? ⟨b,off+j,none⟩=some v→w'.cell? ⟨b,off+j,none⟩=some v:=fun j v h=>ht.cell (p:=⟨b,off+j,none⟩) hb h
  simp only[Il.foot,List.mem_append] at hf;refine⟨hl,hx,⟨k 0 _ c0,k 1 _ c1,k 2 _ c2,k 3 _ c3,k 4 _ c4,k 5 _ c5,k 6 _ c6,k 7 _ c7⟩,htg.touch ht (fun q hq=>hf q (.inl (.inl (.inl hq)))),⟨l1,?_⟩,⟨e1,?_⟩,zg.touch ht hr hb (fun q hq=>hf q (.inr hq))⟩
  ·rcases l2 with h|⟨b',o',ha,hi⟩
   ·exact .inl h
   ·cases l with
    | nil=>exact .inl rfl
    | cons y m f s =>
     have hne:x.ln≠0:=by rw[←l1];simp[Il.len]
     exact .inr ⟨b',o',ha,zg.touch ht hi (hf b' (.inl (.inl (.inr (.inl (by simp[zV,hne,ha])))))) (fun q hq=>hf q (.inl (.inl (.inr (.inr hq)))))⟩
  ·rcases e2 with h|⟨b',o',ha,hi⟩
   ·exact .inl h
   ·cases e with
    | nil=>exact .inl rfl
    | cons y m f s =>
     have hne:x.en≠0:=by rw[←e1];simp[Il.len]
     exact .inr ⟨b',o',ha,zg.touch ht hi (hf b' (.inl (.inr (.inl (by simp[zV,hne,ha]))))) (fun q hq=>hf q (.inl (.inr (.inr hq))))⟩
theorem zD.touch {S:Nat→Prop} {n₀:Nat} {w w':World} {a:Option Addr} {n:Nat} {t:Il} (h:zD n₀ w a n t) (ht:Touch S w w') (hk:∀q∈zV n a++t.foot,¬S q):zD n₀ w' a n t:=by
 obtain⟨h1,h2⟩:=h;refine⟨h1,?_⟩
 rcases h2 with h|⟨b',o',ha,hi⟩
 ·exact .inl h
 ·cases t with
  | nil=>exact .inl rfl
  | cons y m f s =>
   have hne:n≠0:=by rw[←h1];simp[Il.len]
   exact .inr ⟨b',o',ha,zg.touch ht hi (hk b' (by simp[zV,hne,ha])) (fun q hq=>hk q (by simp[hq]))⟩
theorem kY {S:Nat→Prop} {w w':World} (ht:Touch S w w'):∀ {t:Il},t.kids w→(∀q∈t.foot,¬S q)→t.kids w'
 | .nil,_,_=>trivial
 | .cons x l e r,⟨h1,h2,h3,h4,h5⟩,hf=>by
  simp only[Il.foot,List.mem_append] at hf
  exact⟨h1,(h2.touch ht (fun q hq=>hf q (.inl (.inl (.inl hq))))).more ht.size,zD.more ht.size (h3.touch ht (fun q hq=>hf q (.inl (.inl (.inr (List.mem_append.1 hq)))))),
    zD.more ht.size (h4.touch ht (fun q hq=>hf q (.inl (.inr (List.mem_append.1 hq))))),kY ht h5 (fun q hq=>hf q (.inr hq))⟩
theorem zBV {n₀:Nat} {w:World} {a:Option Addr} {zs:List Int} (h:zk n₀ w a zs):∀q∈zV zs.length a,q<n₀:=by
 intro q hq
 rcases h with rfl|⟨b,off,rfl,hl,_⟩
 ·simp[zV] at hq
 ·unfold zV at hq
  split at hq
  ·simp at hq
  ·simp at hq;omega
mutual
theorem zCm {n₀:Nat} {w:World}:∀ {t:Il} {b off:Nat},zg n₀ w b off t→∀q∈t.foot,q<n₀
 | .nil,_,_,_,q,hq=>by simp[Il.foot] at hq
 | .cons x l e r,b,off,⟨_,_,_,ht,hl,he,hr⟩,q,hq=>by
  simp only[Il.foot,List.mem_append] at hq
  rcases hq with ((hq|hq)|hq)|hq
  ·exact zBV ht q hq
  ·exact qo (t:=l) hl q (List.mem_append.2 hq)
  ·exact qo (t:=e) he q (List.mem_append.2 hq)
  ·exact zCm hr q hq
theorem qo {n₀:Nat} {w:World} {a:Option Addr} {n:Nat}:∀ {t:Il},zD n₀ w a n t→∀q∈zV n a++t.foot,q<n₀
 | .nil,⟨h1,_⟩,q,hq=>by simp[←h1,zV,Il.len,Il.foot] at hq
 | .cons x l e r,⟨h1,h2⟩,q,hq=>by
  rcases h2 with h|⟨b,off,rfl,hb,hx,hc,ht,hl,he,hr⟩
  ·cases h
  ·rcases List.mem_append.1 hq with hq|hq
   ·unfold zV at hq
    split at hq
    ·simp at hq
    ·simp at hq;omega
   ·simp only[Il.foot,List.mem_append] at hq
    rcases hq with ((hq|hq)|hq)|hq
    ·exact zBV ht q hq
    ·exact qo (t:=l) hl q (List.mem_append.2 hq)
    ·exact qo (t:=e) he q (List.mem_append.2 hq)
    ·exact zCm hr q hq
end
theorem JW {w:World}:∀ {t:Il},t.kids w→∀q∈t.foot,q<w.heap.size
 | .nil,_,q,hq=>by simp[Il.foot] at hq
 | .cons x l e r,⟨_,ht,hl,he,hr⟩,q,hq=>by
  simp only[Il.foot,List.mem_append] at hq
  rcases hq with ((hq|hq)|hq)|hq
  ·exact zBV ht q hq
  ·exact qo hl q (List.mem_append.2 hq)
  ·exact qo he q (List.mem_append.2 hq)
  ·exact JW hr q hq
theorem ux {w:World} {g:Nat} (hg:g<w.heap.size):∀(t:Il) (off:Nat),(∀j u,t.cells[j]?=some u→w.cell? ⟨g,off+j,none⟩=some u)→t.kids w→zg w.heap.size w g off t
 | .nil,_,_,_=>trivial
 | .cons x l e r,off,hc,⟨h1,h2,h3,h4,h5⟩=>by
  have h8:∀q u,q<8→x.vals.toList[q]?=some u→w.cell? ⟨g,off+q,none⟩=some u:=fun q u hq hu=>hc q u (by
    rw[Il.cells,List.getElem?_append_left (by simpa[Ix.vals] using hq)];exact hu)
  refine⟨hg,h1,⟨h8 0 _ (by omega) rfl,h8 1 _ (by omega) rfl,h8 2 _ (by omega) rfl,h8 3 _ (by omega) rfl,h8 4 _ (by omega) rfl,h8 5 _ (by omega) rfl,h8 6 _ (by omega) rfl,h8 7 _ (by omega) rfl⟩,h2,h3,h4,ux hg r (off+8) (fun j u hu=>?_) h5⟩
  have:=hc (8+j) u (by
    rw[Il.cells,List.getElem?_append_right (by simp[Ix.vals])];simpa[Ix.vals] using hu)
  rw[show off+8+j=off+(8+j) by omega];exact this
theorem zCo {w:World} {base:Nat} {v:Value} {t:Il} (h:w.ownsRow base 92 8 v t.len t.cells) (hk:t.kids w):∃a c,v=.slice a t.len c∧zD w.heap.size w a t.len t∧zV t.len a=(if t.len=0 then [] else match v.ownBlock with
    | some g=>[g]
    | none=>[]):=by
 rcases h.2 with ⟨rfl,h0⟩|⟨g,cap,cur,rfl,_,hh,_⟩
 ·refine⟨none,0,by rw[h0],⟨rfl,.inl (zCV h0)⟩,by simp[zV,h0]⟩
 ·have hlt:g<w.heap.size:=(Array.getElem?_eq_some_iff.1 hh).1
  refine⟨_,_,rfl,⟨rfl,.inr ⟨g,0,rfl,ux hlt t 0 (fun j u hu=>?_) hk⟩⟩,by simp[zV,Value.ownBlock]⟩;have:=World.ownsRow.cells h (g:=g) rfl j u hu;rw[zFI] at this;rw[Nat.zero_add];exact this
where zCV:∀ {t:Il},t.len=0→t=.nil
 | .nil,_=>rfl
 | .cons _ _ _ _,h=>by simp[Il.len] at h
end Instr
end
/-
  BODY: the open lists in memory: a row of them,each with a row of its instructions;how a top one turns.
-/
namespace Body
open Go.RowKit Instr
open Kind (Rd)
end Body
namespace Mod
open Go.RowKit Instr
structure Part where
 l:Lst
 ta:Option Addr
 ts:List Int
 ba:Option Addr
 bs:List Int
def Part.lies (p:Part) (w:World):Prop:=zD w.heap.size w p.l.a p.l.t.len p.l.t∧zk w.heap.size w p.ta p.ts∧BytesAt w.heap.size w p.ba p.bs
def Part.foot (p:Part):List Nat:=(zV p.l.t.len p.l.a++p.l.t.foot)++(zV p.ts.length p.ta++zV p.bs.length p.ba)
def zCp (x:Fn):Part:=⟨x.l,none,[],none,[]⟩
def zCK (x:Gl):Part:=⟨x.l,none,[],none,[]⟩
def zAF (x:El):Part:=⟨x.l,x.fa,x.fs,none,[]⟩
def Jh (x:Da):Part:=⟨x.l,none,[],x.ba,x.bs⟩
theorem BytesAt.touch {S:Nat→Prop} {n₀:Nat} {w w':World} {a:Option Addr} {zs:List Int} (h:BytesAt n₀ w a zs) (ht:Touch S w w') (hk:∀q∈zV zs.length a,¬S q):BytesAt n₀ w' a zs:=by
 rcases h with h|⟨b,off,rfl,hl,hc⟩
 ·exact .inl h
 ·by_cases h0:zs=[]
  ·exact .inl h0
  ·have hne:zs.length≠0:=fun h=>h0 (List.eq_nil_of_length_eq_zero h)
   exact .inr ⟨b,off,rfl,hl,fun i hi=>ht.cell (p:=⟨b,off+i,none⟩) (hk b (by simp[zV,hne])) (hc i hi)⟩
theorem Part.touch {S:Nat→Prop} {p:Part} {w w':World} (h:p.lies w) (ht:Touch S w w') (hk:∀q∈p.foot,¬S q):p.lies w':=by
 obtain⟨h1,h2,h3⟩:=h;have k1:∀q∈zV p.l.t.len p.l.a++p.l.t.foot,¬S q:=fun q hq=>hk q (List.mem_append_left _ hq)
 have k2:∀q∈zV p.ts.length p.ta,¬S q:=fun q hq=>hk q (List.mem_append_right _ (List.mem_append_left _ hq))
 have k3:∀q∈zV p.bs.length p.ba,¬S q:=fun q hq=>hk q (List.mem_append_right _ (List.mem_append_right _ hq))
 exact⟨(h1.touch ht k1).more ht.size,(h2.touch ht k2).more ht.size,(h3.touch ht k3).more ht.size⟩
section
variable {α:Type}
structure Got (e:TypeId) (sz base:Nat) (f:α→List Value) (p:α→Part) (W:World) (v:Value) (us:List α):Prop where
 row:zR e sz base W v (us.map f)
 kids:∀x∈us,(p x).lies W
 low:∀x∈us,∀q∈(p x).foot,base≤q
 lt:∀x∈us,∀q∈(p x).foot,q<W.heap.size
 apart:∀x∈us,∀q∈(p x).foot,v.ownBlock≠some q
theorem Got.start (e:TypeId) (sz base:Nat) (f:α→List Value) (p:α→Part) (W:World):Got e sz base f p W (.slice none 0 0) [] :=
 ⟨zR.start e sz base W,by simp,by simp,by simp,by simp⟩
theorem zR.touch {e:TypeId} {sz base:Nat} {S:Nat→Prop} {w w':World} {v:Value} {rs:List (List Value)} (h:zR e sz base w v rs) (ht:Touch S w w') (hk:∀g,v.ownBlock=some g→¬S g):zR e sz base w' v rs :=
 ⟨Ye h.row ht hk,h.len⟩
theorem Got.touch {e:TypeId} {sz base:Nat} {f:α→List Value} {p:α→Part} {S:Nat→Prop} {W W':World} {v:Value} {us:List α} (h:Got e sz base f p W v us) (ht:Touch S W W') (hs:∀q,base≤q→q<W.heap.size→¬S q):Got e sz base f p W' v us :=
 ⟨h.row.touch ht (fun g hg=>hs g (World.ownsRow.lt h.row.row g hg).1 (World.ownsRow.lt h.row.row g hg).2),fun x hx=>Part.touch (h.kids x hx) ht (fun q hq=>hs q (h.low x hx q hq) (h.lt x hx q hq)),h.low,fun x hx q hq=>Nat.lt_of_lt_of_le (h.lt x hx q hq) ht.size,h.apart⟩
theorem Got.save {e:TypeId} {sz base k:Nat} {f:α→List Value} {p:α→Part} {W W':World} {v:Value} {us:List α} (h:Got e sz base f p W v us) (hs:zF k W W') (hk:k<base):Got e sz base f p W' v us :=
 h.touch (.of_save hs) (fun q hq _ e=>by omega)
theorem Got.below {e:TypeId} {sz base:Nat} {f:α→List Value} {p:α→Part} {W W':World} {v:Value} {us:List α} (h:Got e sz base f p W v us) (hb:Below W.heap.size W W'):Got e sz base f p W' v us :=
 h.touch (S:=fun _=>False) (.of_below hb) (fun _ _ _ h=>h)
theorem Got.snoc {e:TypeId} {sz base:Nat} {f:α→List Value} {p:α→Part} {W W3:World} {v v':Value} {us:List α} {x:α} {n0:Nat} (h:Got e sz base f p W v us) (hx:(p x).lies W) (hlo:∀q∈(p x).foot,n0≤q) (hlt:∀q∈(p x).foot,q<W.heap.size) (hb:base≤n0) (hv:∀g,v.ownBlock=some g→g<n0)
  (hown:zR e sz base W3 v' (us.map f++[f x])) (hg:W.grownBy W3 v.ownBlock) (hat:∀g,v'.ownBlock=some g→v.ownBlock=some g∨W.heap.size≤g):Got e sz base f p W3 v' (us++[x]):=by
 have ht:Touch (fun j=>v.ownBlock=some j) W W3:=Touch.of_grown hg
 have hne:∀q∈(p x).foot,v.ownBlock≠some q:=fun q hq e=>by
  have h1:=hlo q hq;have h2:=hv q e;omega
 refine⟨by rw[List.map_append];exact hown,?_,?_,?_,?_⟩
 ·intro y hy
  rcases List.mem_append.1 hy with hy|hy
  ·exact Part.touch (h.kids y hy) ht (h.apart y hy)
  ·rw[List.mem_singleton] at hy;subst hy
   exact Part.touch hx ht hne
 ·intro y hy q hq
  rcases List.mem_append.1 hy with hy|hy
  ·exact h.low y hy q hq
  ·rw[List.mem_singleton] at hy;subst hy
   exact Nat.le_trans hb (hlo q hq)
 ·intro y hy q hq
  rcases List.mem_append.1 hy with hy|hy
  ·exact Nat.lt_of_lt_of_le (h.lt y hy q hq) ht.size
  ·rw[List.mem_singleton] at hy;subst hy
   exact Nat.lt_of_lt_of_le (hlt q hq) ht.size
 ·intro y hy q hq e
  rcases List.mem_append.1 hy with hy|hy
  ·rcases hat q e with e2|e2
   ·exact h.apart y hy q hq e2
   ·have:=h.lt y hy q hq;omega
  ·rw[List.mem_singleton] at hy;subst hy
   rcases hat q e with e2|e2
   ·exact hne q hq e2
   ·have:=hlt q hq;omega
end
theorem zHM {p:Part} {w:World} (h:p.lies w):∀q∈p.foot,q<w.heap.size:=by
 obtain⟨h1,h2,h3⟩:=h;intro q hq
 rcases List.mem_append.1 hq with hq|hq
 ·exact qo h1 q hq
 ·rcases List.mem_append.1 hq with hq|hq
  ·rcases h2 with h2|⟨b,off,ha,hl,_⟩
   ·rw[h2] at hq;simp[zV] at hq
   ·rw[ha] at hq
    unfold zV at hq
    split at hq
    ·simp at hq
    ·simp at hq;subst hq;exact hl
  ·rcases h3 with h3|⟨b,off,ha,hl,_⟩
   ·rw[h3] at hq;simp[zV] at hq
   ·rw[ha] at hq
    unfold zV at hq
    split at hq
    ·simp at hq
    ·simp at hq;subst hq;exact hl
end Mod
section
open Go.RowKit
structure Nums (k:IntKind) (w:World) (a:Option Addr) (zs:List Int):Prop where
 at_:zs=[]∨∃b off,a=some ⟨b,off,none⟩∧∀i,i<zs.length→w.cell? ⟨b,off+i,none⟩=some (.int k (zs.getD i 0))
def qR (e:TypeId) (k:IntKind) (base:Nat) (w:World) (v:Value) (zs:List Int):Prop:=w.ownsRow base e 1 v zs.length (zs.map (Value.int k))
theorem qR.sliceN {e:TypeId} {k:IntKind} {base n:Nat} {w:World} {v:Value} {zs:List Int} (h:qR e k base w v zs) (hn:zs.length=n):∃a c,v=.slice a n c:=by
 subst hn
 rcases h.2 with ⟨rfl,h0⟩|⟨g,cap,cur,rfl,_⟩
 ·exact⟨none,0,by rw[h0]⟩
 ·exact⟨_,cap,rfl⟩
theorem qR.nil {e:TypeId} {k:IntKind} {base n c:Nat} {w:World} {a:Option Addr} {zs:List Int} (h:qR e k base w (.slice a n c) zs):Hid (a=none→c=0):=by
 refine hid fun ha=>?_
 subst ha
 rcases h.2 with ⟨h',_⟩|⟨g,cap,cur,h',_⟩
 ·simp at h';exact h'.2
 ·simp at h'
theorem qR.nums {e:TypeId} {k:IntKind} {base n cap:Nat} {w:World} {a:Option Addr} {zs:List Int} (h:qR e k base w (.slice a n cap) zs):Nums k w a zs:=by
 refine⟨?_⟩
 rcases h.2 with ⟨_,h0⟩|⟨g,cap',cur,hv,_,hh,_,_,_,ht⟩
 ·exact .inl (List.eq_nil_of_length_eq_zero h0)
 ·simp only[Value.slice.injEq] at hv
  obtain⟨rfl,_,_⟩:=hv;refine .inr ⟨g,0,rfl,fun i hi=>?_⟩;have hj:(zs.map (Value.int k))[i]?=some (.int k (zs.getD i 0)):=by rw[getD_lt hi];simp[hi]
  have:=World.ownsRow.cells (show w.ownsRow base e 1 (.slice (some ⟨g,0,none⟩) n cap) zs.length (zs.map (Value.int k)) from h) (g:=g) rfl i _ hj;have hplain:(⟨g,0,none⟩:Addr).add i=⟨g,0+i,none⟩:=by unfold Addr.add;split<;>simp_all
  rw[hplain] at this;exact this
theorem qR.mono {e:TypeId} {k:IntKind} {base base':Nat} {w:World} {v:Value} {zs:List Int} (h:qR e k base w v zs) (hb:base'≤base):qR e k base' w v zs:=by
 refine⟨h.1,?_⟩
 rcases h.2 with h0|⟨g,cap,cur,hv,hg,rest⟩
 ·exact .inl h0
 ·exact .inr ⟨g,cap,cur,hv,Nat.le_trans hb hg,rest⟩
theorem qR.setCell {e:TypeId} {k:IntKind} {base:Nat} {w:World} {v:Value} {zs:List Int} (h:qR e k base w v zs) {p:Addr} (hp:p.block<base) (u:Value):qR e k base (w.setCell p u) v zs:=by
 refine⟨h.1,?_⟩
 rcases h.2 with h0|⟨g,cap,cur,hv,hg,hh,rest⟩
 ·exact .inl h0
 ·exact .inr ⟨g,cap,cur,hv,hg,(Below.heap_setCell w p u g (by omega)).trans hh,rest⟩
theorem qR.below {e:TypeId} {k:IntKind} {base:Nat} {w w':World} {v:Value} {zs:List Int} (h:qR e k base w v zs) (hb:Below w.heap.size w w'):qR e k base w' v zs:=by
 refine⟨h.1,?_⟩
 rcases h.2 with h0|⟨g,cap,cur,hv,hg,hh,rest⟩
 ·exact .inl h0
 ·exact .inr ⟨g,cap,cur,hv,hg,(hb.block g (Array.getElem?_eq_some_iff.1 hh).1).trans hh,rest⟩
theorem qR.iterAt {e:TypeId} {k:IntKind} {base j:Nat} {w:World} {v:Value} {zs:List Int} {s:ByteArray} {p:Nat} (h:qR e k base w v zs) (hk:w.heap[j]?=some (.stringIter s p)) (p':Nat):qR e k base (w.iterAt j s p') v zs:=by
 refine⟨h.1,?_⟩
 rcases h.2 with h0|⟨g,cap,cur,hv,hg,hh,rest⟩
 ·exact .inl h0
 ·refine .inr ⟨g,cap,cur,hv,hg,(Lib.iterAt_other w j g s p' (fun hgj=>?_)).trans hh,rest⟩
  subst hgj;rw[hh] at hk
  cases hk
theorem zFQ {e:TypeId} {k:IntKind} {base:Nat} {w w':World} {v:Value} {zs:List Int} (h:qR e k base w v zs) (o:Obj) (hg:(w.alloc o).grownBy w' v.ownBlock) (j:Nat) (s:ByteArray) (p:Nat)
  (hk:w.heap[j]?=some (.stringIter s p)):w'.heap[j]?=some (.stringIter s p):=by
 have hj:j<w.heap.size:=(Array.getElem?_eq_some_iff.1 hk).1;refine (hg.block j (by simp;omega) ?_).trans ((Below.heap_alloc w o j hj).trans hk);intro he
 rcases h.2 with ⟨rfl,_⟩|⟨g,cap,cur,rfl,_,hh,_⟩
 ·cases he
 ·simp[Value.ownBlock] at he
  subst he;rw[hh] at hk
  cases hk
section
variable {ops:Array Oper} {rest:List Oper} {o:Oper} {act:Act} {Q:Exit→Act→World→Prop}
theorem zDh {e ts:TypeId} {k:IntKind} {nb:Nat} (inf:(Tryz.prog.info? e).map (fun i=>(i.zero,i.size,i.bytes))=some (some (.int k 0),1,nb)) (ut:Tryz.prog.underlying ts=some (.slice e))
  (hgd:o.guard=none) (s x:Operand) (ho:o.op=.call { callee:=.builtin .append,args:=#[s,x],argTypes:=#[ts,ts] })
  {base:Nat} {w0 wr:World} {v:Value} {xs:List Int} (z:Int) (hs:act.eval s=v) (hown:qR e k base wr v xs) (hb:Below base w0 wr) (hbase:base≤wr.heap.size)
  (hx:act.eval x=.slice (some ⟨wr.heap.size,0,none⟩) 1 1) (hl:(xs.length+1)*nb≤140737488355328) (hl':xs.length≤140737488351232)
  (h:∀v' w',qR e k base w' v' (xs++[z])→Below base w0 w'→base≤w'.heap.size→(∀(j:Nat) (t:ByteArray) (p:Nat),wr.heap[j]?=some (Obj.stringIter t p)→w'.heap[j]?=some (Obj.stringIter t p))→wpList Tryz.prog ops Q rest (act.put o.dst v') w') :
  wpList Tryz.prog ops Q (o::rest) act (wr.alloc (.cells #[.int k z] e)):=by
 obtain⟨i0,hi,hz0,hz1,hz2⟩:=info_parts inf
 refine wpList_append_own _ hgd s x ts ho base e i0 (.int k 0) 1 nb ut hi hz0 hz1 hz2 rfl (by decide) v xs.length _ hs (World.ownsRow.alloc hown _) ⟨wr.heap.size,0,none⟩ 1 1 [.int k z] hx rfl
  ?_ ?_ ?_ ?_ ?_ (fun v' w' hown' hgrow _=>?_)
 ·intro j u hj
  match j,hj with
  | 0,hj=>simp at hj;subst hj;simp[Addr.add]
 ·intro u hu;simp at hu;subst hu;rfl
 ·unfold maxLen;omega
 ·exact hl
 ·simp;omega
 ·have hb':Below base w0 w':=(hb.alloc hbase _).grown hgrow (by simp;omega) (fun k h=>(World.ownsRow.lt hown k h).1)
  refine h v' w' (by unfold qR;simpa using hown') hb' ?_ (fun j t p=>zFQ hown _ hgrow j t p);have:=hgrow.size;simp at this;omega
end
end
namespace Body
open Go.RowKit
open Kind (Rd)
structure Yc (w:World) (k:Nat) (v:Value) (s:Rd) (n:Int):Prop extends zBy w k v s where
 c4:w.cell? ⟨k,4,none⟩=some (.int .i64 n)
 f4:w.frozen? ⟨k,4,none⟩=false
theorem Yc.save {w w':World} {k j:Nat} {v:Value} {s:Rd} {n:Int} (h:Yc w k v s n) (hb:zF j w w') (hj:k≠j):Yc w' k v s n :=
 ⟨h.tozBy.save hb hj,hb.cell hj h.c4,hb.frozen (World.block_lt_of_cell? w _ h.c4) hj h.f4⟩
theorem Yc.count {w:World} {k:Nat} {v:Value} {s:Rd} {n:Int} (h:Yc w k v s n) (m:Int):Yc (w.setCell ⟨k,4,none⟩ (.int .i64 m)) k v s m:=by
 refine⟨⟨?_,?_,?_,?_,?_,?_,?_,?_⟩,?_,?_⟩<;>simp[go_sem,h.c0,h.c1,h.c2,h.c3,h.c4,h.f0,h.f1,h.f2,h.f3,h.f4]
end Body
/-
  BODY: the document's own reader's next,number,signed,is,by contract. (tools/gen_bodyrefn.py)
-/
namespace Body
open Go.RowKit Leb
open Kind (Rd)
end Body
namespace Body
open Go.RowKit Instr
open Kind (Rd)
end Body
/-
  BODY: the reader's labels,by contract: new memory that holds them.
-/
namespace Body
open Go.RowKit Instr
open Kind (Rd)
theorem zHs:(Tryz.prog.info? 36).map (fun i=>(i.zero,i.size,i.bytes))=some (some (.int .u32 0),1,4):=by kernel_rfl
theorem zBy.belowB {B:Nat} {w w':World} {k:Nat} {v:Value} {s:Rd} (h:zBy w k v s) (hb:Below B w w') (hk:k<B):zBy w' k v s :=
 ⟨(hb.cell hk).trans h.c0,(hb.cell hk).trans h.c1,(hb.cell hk).trans h.c2,(hb.cell hk).trans h.c3,(hb.frozen hk).trans h.f0,(hb.frozen hk).trans h.f1,(hb.frozen hk).trans h.f2,(hb.frozen hk).trans h.f3⟩
theorem zC1 {k:Nat} {a b c:World} (h:zF k a b) (g:Below a.heap.size b c):zF k a c :=
 ⟨g.os.trans h.os,g.tape.trans h.tape,g.output.trans h.output,Nat.le_trans h.size g.size,fun j hj hk=>(g.block j hj).trans (h.block j hj hk)⟩
structure Bx (g:Nat) (x:Ix) (w:World):Prop where
 at_:At x g w
 f0:w.frozen? ⟨g,0,none⟩=false
 f1:w.frozen? ⟨g,1,none⟩=false
 f2:w.frozen? ⟨g,2,none⟩=false
 f3:w.frozen? ⟨g,3,none⟩=false
 f4:w.frozen? ⟨g,4,none⟩=false
 f5:w.frozen? ⟨g,5,none⟩=false
 f6:w.frozen? ⟨g,6,none⟩=false
 f7:w.frozen? ⟨g,7,none⟩=false
theorem Bx.save {g k:Nat} {x:Ix} {w w':World} (h:Bx g x w) (hs:zF k w w') (hk:g≠k):Bx g x w':=by
 have hl:g<w.heap.size:=World.block_lt_of_cell? w _ h.at_.c0;exact⟨h.at_.save hs hk,hs.frozen hl hk h.f0,hs.frozen hl hk h.f1,hs.frozen hl hk h.f2,hs.frozen hl hk h.f3,hs.frozen hl hk h.f4,hs.frozen hl hk h.f5,hs.frozen hl hk h.f6,hs.frozen hl hk h.f7⟩
theorem zHR (x:Ix) (w:World):Bx w.heap.size x (w.alloc (.cells x.vals 92)):=by
 refine⟨At.made x w,?_,?_,?_,?_,?_,?_,?_,?_⟩<;>go_simp
theorem Bx.alloc {g:Nat} {x:Ix} {w:World} (h:Bx g x w) (o:Obj):Bx g x (w.alloc o):=by
 have hb:Below w.heap.size w (w.alloc o):=(Below.refl _ _).alloc (Nat.le_refl _) o;have hl:g<w.heap.size:=World.block_lt_of_cell? w _ h.at_.c0;exact⟨h.at_.below hb,(hb.frozen (p:=⟨g,0,none⟩) hl).trans h.f0,(hb.frozen (p:=⟨g,1,none⟩) hl).trans h.f1,(hb.frozen (p:=⟨g,2,none⟩) hl).trans h.f2,(hb.frozen (p:=⟨g,3,none⟩) hl).trans h.f3,(hb.frozen (p:=⟨g,4,none⟩) hl).trans h.f4,(hb.frozen (p:=⟨g,5,none⟩) hl).trans h.f5,(hb.frozen (p:=⟨g,6,none⟩) hl).trans h.f6,(hb.frozen (p:=⟨g,7,none⟩) hl).trans h.f7⟩
def zH9:Ix:=zGB 0 0 0 0 0 []
theorem Bx.setT {g:Nat} {x:Ix} {w:World} (h:Bx g x w) (l:List Int) (ta:Option Addr) (tc:Nat):Bx g ⟨x.op,x.res,x.a,x.b,x.n,l,ta,tc,x.la,x.ln,x.lc,x.ea,x.en,x.ec⟩ (w.setCell ⟨g,5,none⟩ (.slice ta l.length tc)):=by
 obtain⟨⟨c0,c1,c2,c3,c4,c5,c6,c7⟩,f0,f1,f2,f3,f4,f5,f6,f7⟩:=h;refine⟨⟨?_,?_,?_,?_,?_,?_,?_,?_⟩,?_,?_,?_,?_,?_,?_,?_,?_⟩<;>simp[go_sem, *]
structure Og where
 x:Ix
 fl:Il
 t:Il
 v:Value
 oth:Bool
def Og.cells (o:Og):List Value:=o.x.vals.toList++[o.v,.bool o.oth]
def Z4 (v:Value):List Nat:=match v.ownBlock with
 | some g=>[g]
 | none=>[]
def Og.inner (o:Og):List Nat:=o.t.foot++(zV o.x.ln o.x.la++o.fl.foot)
def Og.foot (o:Og):List Nat:=Z4 o.v++o.inner
def Og.fr (o:Og):Fr:=⟨zGB o.x.op o.x.res 0 0 0 [],o.fl.bare,o.t.bare,o.oth⟩
structure zEw (base:Nat) (w:World) (o:Og):Prop where
 kids:o.t.kids w
 own:zD w.heap.size w o.x.la o.x.ln o.fl
 tags:o.x.tags=[]
 zero:o.x.a=0∧o.x.b=0∧o.x.n=0
 ok:o.x.ok
 en:o.x.ea=none∧o.x.en=0∧o.x.ec=0
 first:o.oth=false→o.x.la=none∧o.x.ln=0∧o.x.lc=0
 low:∀q∈o.inner,base≤q
 few:o.t.len≤4000000
 soft:∀q∈o.inner,Zn w q
structure uN (base:Nat) (w:World) (o:Og):Prop where
 half:zEw base w o
 row:w.ownsRow base 92 8 o.v o.t.len o.t.cells
theorem zEw.touch {base:Nat} {S:Nat→Prop} {w w':World} {o:Og} (h:zEw base w o) (ht:Touch S w w') (hk:∀q∈o.inner,¬S q):zEw base w' o:=by
 obtain⟨h1,h2,h3,h4,h5,h6,h7,h8,h9,h10⟩:=h;have hs:∀q∈o.inner,Zn w' q:=fun q hq=>(h10 q hq).touch ht (hk q hq)
 unfold Og.inner at hk;exact⟨kY ht h1 (fun q hq=>hk q (List.mem_append_left _ hq)),zD.more ht.size (h2.touch ht (fun q hq=>hk q (List.mem_append_right _ hq))),h3,h4,h5,h6,h7,h8,h9,hs⟩
theorem uN.touch {base:Nat} {S:Nat→Prop} {w w':World} {o:Og} (h:uN base w o) (ht:Touch S w w') (hk:∀q∈o.foot,¬S q):uN base w' o :=
 ⟨h.half.touch ht (fun q hq=>hk q (List.mem_append_right _ hq)),Ye h.row ht (fun g hg=>hk g (List.mem_append_left _ (by simp[Z4,hg])))⟩
theorem uN.low {base:Nat} {w:World} {o:Og} (h:uN base w o):∀q∈o.foot,base≤q:=by
 intro q hq
 rcases List.mem_append.1 hq with hq|hq
 ·unfold Z4 at hq
  split at hq
  ·rename_i g hg
   simp at hq;subst hq;exact (World.ownsRow.lt h.row q hg).1
  ·simp at hq
 ·exact h.half.low q hq
theorem uN.soft {base:Nat} {w:World} {o:Og} (h:uN base w o):∀q∈o.foot,Zn w q:=by
 intro q hq
 rcases List.mem_append.1 hq with hq|hq
 ·unfold Z4 at hq
  split at hq
  ·rename_i g hg
   simp at hq;subst hq;exact zGu h.row hg
  ·simp at hq
 ·exact h.half.soft q hq
theorem zEw.lt {base:Nat} {w:World} {o:Og} (h:zEw base w o):∀q∈o.inner,q<w.heap.size:=by
 intro q hq
 rcases List.mem_append.1 hq with hq|hq
 ·exact JW h.kids q hq
 ·exact qo h.own q hq
theorem uN.lt {base:Nat} {w:World} {o:Og} (h:uN base w o):∀q∈o.foot,q<w.heap.size:=by
 intro q hq
 rcases List.mem_append.1 hq with hq|hq
 ·unfold Z4 at hq
  split at hq
  ·rename_i g hg
   simp at hq;subst hq;exact (World.ownsRow.lt h.row q hg).2
  ·simp at hq
 ·exact h.half.lt q hq
def zIC:Value:=.agg #[.int .i64 0,.int .i64 0,.int .u32 0,.int .u32 0,.int .i32 0,.slice none 0 0,.slice none 0 0,.slice none 0 0]
theorem zJQ:(Tryz.prog.info? 92).map (fun i=>(i.zero,i.size,i.bytes))=some (some zIC,8,104):=by kernel_rfl
section
variable {ops:Array Oper} {o:Oper} {act:Act} {K:Act→World→Prop} {Q:Exit→Act→World→Prop} {E:Prop}
end
end Body
/-
  BODY: closeTop,by contract.
-/
namespace Body
open Go.RowKit Instr
open Kind (Rd)
def zJl (gs p T:Nat) (gv:Value) (y:Ix) (w:World):Prop:=w.cell? ⟨gs,p,none⟩=some gv∧At y T w
theorem zJl.touch {gs p T:Nat} {gv:Value} {y:Ix} {S:Nat→Prop} {w w':World} (h:zJl gs p T gv y w) (ht:Touch S w w') (h1:¬S gs) (h2:¬S T):w'.cell? ⟨gs,p,none⟩=some gv∧w'.cell? ⟨T,0,none⟩=some (.int .i64 y.op)∧w'.cell? ⟨T,1,none⟩=some (.int .i64 y.res) ∧
  w'.cell? ⟨T,2,none⟩=some (.int .u32 y.a)∧w'.cell? ⟨T,3,none⟩=some (.int .u32 y.b)∧w'.cell? ⟨T,4,none⟩=some (.int .i32 y.n)∧w'.cell? ⟨T,5,none⟩=some (.slice y.ta y.tags.length y.tc)∧w'.cell? ⟨T,6,none⟩=some (.slice y.la y.ln y.lc)∧w'.cell? ⟨T,7,none⟩=some (.slice y.ea y.en y.ec):=by
 obtain⟨h0,⟨c0,c1,c2,c3,c4,c5,c6,c7⟩⟩:=h;exact⟨ht.cell h1 h0,ht.cell h2 c0,ht.cell h2 c1,ht.cell h2 c2,ht.cell h2 c3,ht.cell h2 c4,ht.cell h2 c5,ht.cell h2 c6,ht.cell h2 c7⟩
end Body
/-
  BODY: closeTop,by contract,on the stack of open lists.
-/
namespace Body
open Go.RowKit Instr
open Kind (Rd)
theorem zEF {v:Value} {q:Nat} (h:v.ownBlock=some q):q∈Z4 v:=by simp[Z4,h]
theorem zHG {w:World} {B:Nat} {ta:Option Addr} {tc:Nat} {tags:List Int} (h:qR 36 .u32 B w (.slice ta tags.length tc) tags):zk w.heap.size w ta tags∧(∀q∈zV tags.length ta,B≤q)∧(zV tags.length ta).Nodup:=by
 refine⟨?_,?_,?_⟩
 ·rcases (qR.nums h).at_ with h0|⟨b,off,rfl,hc⟩
  ·exact .inl h0
  ·by_cases h0:tags=[]
   ·exact .inl h0
   ·exact .inr ⟨b,off,rfl,World.block_lt_of_cell? w _ (hc 0 (List.length_pos_iff.2 h0)),hc⟩
 ·intro q hq
  rcases h.2 with ⟨h0,_⟩|⟨g,cap,cur,hv,hg,_⟩
  ·simp only[Value.slice.injEq] at h0
   simp[h0.1,zV] at hq
  ·simp only[Value.slice.injEq] at hv
   obtain⟨rfl,_,_⟩:=hv;unfold zV at hq
   split at hq
   ·simp at hq
   ·simp at hq;omega
 ·unfold zV
  split
  ·exact List.nodup_nil
  ·split<;>simp
structure JB (B:Nat) (w:World) (a:Option Addr) (n:Nat) (t:Il):Prop where
 lst:zD w.heap.size w a n t
 nodup:(zV n a++t.foot).Nodup
 low:∀q∈zV n a++t.foot,B≤q
 soft:∀q∈zV n a++t.foot,Zn w q
theorem JB.nil (B:Nat) (w:World):JB B w none 0 .nil:=⟨⟨rfl,.inl rfl⟩,by simp[zV,Il.foot],fun q hq=>by simp[zV,Il.foot] at hq,fun q hq=>by simp[zV,Il.foot] at hq⟩
theorem JB.touch {B:Nat} {S:Nat→Prop} {w w':World} {a:Option Addr} {n:Nat} {t:Il} (h:JB B w a n t) (ht:Touch S w w') (hs:∀q∈zV n a++t.foot,¬S q):JB B w' a n t:=⟨zD.more ht.size (h.lst.touch ht hs),h.nodup,h.low,fun q hq=>(h.soft q hq).touch ht (hs q hq)⟩
theorem JB.mono {B B':Nat} {w:World} {a:Option Addr} {n:Nat} {t:Il} (h:JB B w a n t) (hb:B'≤B):JB B' w a n t:=⟨h.lst,h.nodup,fun q hq=>Nat.le_trans hb (h.low q hq),h.soft⟩
theorem Yc.belowB {B:Nat} {w w':World} {k:Nat} {v:Value} {s:Rd} {n:Int} (h:Yc w k v s n) (hb:Below B w w') (hk:k<B):Yc w' k v s n :=
 ⟨h.tozBy.belowB hb hk,(hb.cell hk).trans h.c4,(hb.frozen hk).trans h.f4⟩
theorem Bx.belowB {B:Nat} {w w':World} {g:Nat} {x:Ix} (h:Bx g x w) (hb:Below B w w') (hg:g<B):Bx g x w' :=
 ⟨⟨(hb.cell hg).trans h.at_.c0,(hb.cell hg).trans h.at_.c1,(hb.cell hg).trans h.at_.c2,(hb.cell hg).trans h.at_.c3,(hb.cell hg).trans h.at_.c4,(hb.cell hg).trans h.at_.c5,(hb.cell hg).trans h.at_.c6,(hb.cell hg).trans h.at_.c7⟩,
   (hb.frozen hg).trans h.f0,(hb.frozen hg).trans h.f1,(hb.frozen hg).trans h.f2,(hb.frozen hg).trans h.f3,(hb.frozen hg).trans h.f4,(hb.frozen hg).trans h.f5,(hb.frozen hg).trans h.f6,(hb.frozen hg).trans h.f7⟩
structure Mid (w:World) (k:Nat) (v:Value) (n:Int) (s:Rd) (x:Ix) (W:World):Prop where
 r:Yc W k v s n
 sv:zF k w W
 res:Bx w.heap.size zH9 W
 box:Bx (w.heap.size+1) x W
 lt:k<w.heap.size
section
variable {w W W':World} {k:Nat} {v:Value} {n:Int} {s s':Rd} {x:Ix}
theorem Mid.call {n':Int} (M:Mid w k v n s x W) (h:Yc W' k v s' n') (hs:zF k W W'):Mid w k v n' s' x W':=⟨h,M.sv.trans hs,M.res.save hs (by have:=M.lt;omega),M.box.save hs (by have:=M.lt;omega),M.lt⟩
end
def fin (w:World) (g:Nat) (x:Ix):World :=
 (((((((w.setCell ⟨g,0,none⟩ (.int .i64 x.op)).setCell ⟨g,1,none⟩ (.int .i64 x.res)).setCell ⟨g,2,none⟩ (.int .u32 x.a)).setCell ⟨g,3,none⟩ (.int .u32 x.b)).setCell ⟨g,4,none⟩ (.int .i32 x.n)).setCell ⟨g,5,none⟩ (.slice x.ta x.tags.length x.tc)).setCell ⟨g,6,none⟩ (.slice x.la x.ln x.lc)).setCell ⟨g,7,none⟩ (.slice x.ea x.en x.ec)
end Body
/-
  BODY: the document's own reading of an instruction with labels,by contract.
-/
namespace Body
open Go.RowKit Instr
open Kind (Rd)
theorem Mid.more {w W W':World} {k:Nat} {v:Value} {n:Int} {s:Rd} {x:Ix} (M:Mid w k v n s x W) (hB:Below (w.heap.size+2) W W'):Mid w k v n s x W' :=
 ⟨M.r.belowB hB (by have:=M.lt;omega),zC1 M.sv (hB.mono (by omega)),M.res.belowB hB (by omega),M.box.belowB hB (by omega),M.lt⟩
end Body
/-
  BODY: the document's own reading of lists: what a list,and an instruction with lists,give;the list that is read so far (plain,and in memory).
-/
namespace Body
open Go.RowKit Instr
open Kind (Rd)
structure LOk (w:World) (out:Value) (t:Il) (W:World):Prop where
 row:W.ownsRow w.heap.size 92 8 out t.len t.cells
 kids:t.kids W
 low:∀q∈t.foot,w.heap.size≤q
 apart:∀q∈t.foot,out.ownBlock≠some q
theorem LOk.start (w W:World):LOk w (.slice none 0 0) .nil W:=⟨World.ownsRow_nil _ _ _ _,trivial,by simp[Il.foot],by simp[Il.foot]⟩
theorem LOk.touch {S:Nat→Prop} {w W W':World} {out:Value} {t:Il} (h:LOk w out t W) (ht:Touch S W W') (hs:∀q,w.heap.size≤q→¬S q):LOk w out t W' :=
 ⟨Ye h.row ht (fun g hg=>hs g (World.ownsRow.lt h.row g hg).1),kY ht h.kids (fun q hq=>hs q (h.low q hq)),h.low,h.apart⟩
theorem LOk.save {k:Nat} {w W W':World} {out:Value} {t:Il} (h:LOk w out t W) (hs:zF k W W') (hk:k<w.heap.size):LOk w out t W' :=
 h.touch (.of_save hs) (fun q hq e=>by omega)
theorem LOk.value {w W:World} {out:Value} {t:Il} (h:LOk w out t W):∃a c,out=.slice a t.len c∧zD W.heap.size W a t.len t∧∀q∈zV t.len a++t.foot,w.heap.size≤q:=by
 obtain⟨a,c,e1,e2,e3⟩:=zCo h.row h.kids;refine⟨a,c,e1,e2,fun q hq=>?_⟩
 rcases List.mem_append.1 hq with hq|hq
 ·rw[e3] at hq
  split at hq
  ·simp at hq
  ·split at hq
   ·rename_i g hg
    simp at hq;subst hq;exact (World.ownsRow.lt h.row q hg).1
   ·simp at hq
 ·exact h.low q hq
theorem LOk.snoc {w W W2 W3:World} {out:Value} {t:Il} {y:Ix} {l f:Il} {g cap:Nat} {o:Obj} (h:LOk w out t W) (h2:LOk w out t W2) (hk:(Il.cons y l f .nil).kids W2) (hlo:∀q∈(Il.cons y l f .nil).foot,W.heap.size≤q) (hw:w.heap.size≤W.heap.size)
  (hown:W3.ownsRow w.heap.size 92 8 (.slice (some ⟨g,0,none⟩) (t.len+1) cap) (t.len+1) (t.cells++y.vals.toList)) (hg:(W2.alloc o).grownBy W3 out.ownBlock) (hat:out.ownBlock=some g∨g=(W2.alloc o).heap.size) :
  LOk w (.slice (some ⟨g,0,none⟩) (t.len+1) cap) (t.app (.cons y l f .nil)) W3:=by
 have ht:Touch (fun j=>out.ownBlock=some j) W2 W3:=(Touch.of_below (zC (Below.refl _ _) o)).trans (Touch.of_grown hg)
 have hne:∀q∈(Il.cons y l f .nil).foot,out.ownBlock≠some q:=fun q hq e=>by
  have h1:=hlo q hq;have h3:=(World.ownsRow.lt h.row q e).2;omega
 have hlt:∀q∈t.foot,q<W2.heap.size:=JW h2.kids;have hlt2:∀q∈(Il.cons y l f .nil).foot,q<W2.heap.size:=JW hk;have hsz:(W2.alloc o).heap.size=W2.heap.size+1:=by simp
 refine⟨?_,zCu _ _ (kY ht h2.kids h2.apart) (kY ht hk hne),?_,?_⟩
 ·rw[zBS,zA3]
  simp only[Il.len,Il.cells,List.append_nil,Nat.zero_add];exact hown
 ·intro q hq
  rw[Jz] at hq
  rcases List.mem_append.1 hq with hq|hq
  ·exact h2.low q hq
  ·exact Nat.le_trans hw (hlo q hq)
 ·intro q hq e
  simp only[Value.ownBlock,Option.some.injEq] at e;subst e;rw[Jz] at hq
  rcases hat with hat|hat
  ·rcases List.mem_append.1 hq with hq|hq
   ·exact h2.apart g hq hat
   ·exact hne g hq hat
  ·rcases List.mem_append.1 hq with hq|hq
   ·have:=hlt g hq;omega
   ·have:=hlt2 g hq;omega
section
variable {ops:Array Oper} {rest:List Oper} {o:Oper} {act:Act} {Q:Exit→Act→World→Prop}
theorem zDv (hgd:o.guard=none) (s x:Operand) (ho:o.op=.call { callee:=.builtin .append,args:=#[s,x],argTypes:=#[22,22] })
  {base n:Nat} {wr:World} {v:Value} {xs:List Value} (y:Ix) (hs:act.eval s=v) (hown:wr.ownsRow base 92 8 v n xs) (hbase:base≤wr.heap.size)
  (hx:act.eval x=.slice (some ⟨wr.heap.size,0,none⟩) 1 1) (hn:n≤1000000)
  (h:∀g cap w',w'.ownsRow base 92 8 (.slice (some ⟨g,0,none⟩) (n+1) cap) (n+1) (xs++y.vals.toList)→(wr.alloc (.cells y.vals 92)).grownBy w' v.ownBlock→(v.ownBlock=some g∨g=(wr.alloc (.cells y.vals 92)).heap.size)→wpList Tryz.prog ops Q rest (act.put o.dst (.slice (some ⟨g,0,none⟩) (n+1) cap)) w') :
  wpList Tryz.prog ops Q (o::rest) act (wr.alloc (.cells y.vals 92)):=by
 obtain⟨i0,hi,hz0,hz1,hz2⟩:=info_parts zJQ
 refine wpList_append_lies _ hgd s x 22 ho base 92 i0 zIC 8 104 Tryz.underlying22 hi hz0 hz1 hz2 rfl (by decide) v n xs hs (World.ownsRow.alloc hown _) ⟨wr.heap.size,0,none⟩ 1 1 y.vals.toList hx rfl
  (World.news_of_block (heap_alloc_new wr _)) ?_ (by omega) ?_ ?_ ?_ _ rfl (fun g cap w' h1 h2 h3 _=>h g cap w' h1 h2 h3)
 ·intro u hu
  simp only[Ix.vals,List.mem_cons,List.not_mem_nil,or_false] at hu
  rcases hu with rfl|rfl|rfl|rfl|rfl|rfl|rfl|rfl<;>rfl
 ·unfold maxLen;omega
 ·omega
 ·simp;omega
end
end Body
/-
  BODY: the document's own reading of an instruction that has lists,by contract. (tools/gen_bodyrefb.py)
-/
namespace Body
open Go.RowKit Instr
open Kind (Rd)
theorem Bx.setL {g:Nat} {x:Ix} {w:World} (h:Bx g x w) (a:Option Addr) (n c:Nat):Bx g ⟨x.op,x.res,x.a,x.b,x.n,x.tags,x.ta,x.tc,a,n,c,x.ea,x.en,x.ec⟩ (w.setCell ⟨g,6,none⟩ (.slice a n c)):=by
 obtain⟨⟨c0,c1,c2,c3,c4,c5,c6,c7⟩,f0,f1,f2,f3,f4,f5,f6,f7⟩:=h;refine⟨⟨?_,?_,?_,?_,?_,?_,?_,?_⟩,?_,?_,?_,?_,?_,?_,?_,?_⟩<;>simp[go_sem, *]
theorem Bx.setE {g:Nat} {x:Ix} {w:World} (h:Bx g x w) (a:Option Addr) (n c:Nat):Bx g ⟨x.op,x.res,x.a,x.b,x.n,x.tags,x.ta,x.tc,x.la,x.ln,x.lc,a,n,c⟩ (w.setCell ⟨g,7,none⟩ (.slice a n c)):=by
 obtain⟨⟨c0,c1,c2,c3,c4,c5,c6,c7⟩,f0,f1,f2,f3,f4,f5,f6,f7⟩:=h;refine⟨⟨?_,?_,?_,?_,?_,?_,?_,?_⟩,?_,?_,?_,?_,?_,?_,?_,?_⟩<;>simp[go_sem, *]
structure Blk (w:World) (k:Nat) (v:Value) (n:Int) (s:Rd) (x:Ix) (W:World):Prop where
 r:Yc W k v s n
 sv:zF k w W
 box:Bx w.heap.size x W
 res:Bx (w.heap.size+1) zH9 W
 lt:k<w.heap.size
section
variable {w W W':World} {k:Nat} {v:Value} {n:Int} {s s':Rd} {x:Ix}
theorem Blk.call {n':Int} (M:Blk w k v n s x W) (h:Yc W' k v s' n') (hs:zF k W W'):Blk w k v n' s' x W':=⟨h,M.sv.trans hs,M.box.save hs (by have:=M.lt;omega),M.res.save hs (by have:=M.lt;omega),M.lt⟩
theorem Blk.size (M:Blk w k v n s x W):w.heap.size+2≤W.heap.size:=by
 have:=World.block_lt_of_cell? W _ M.res.at_.c0;simp only at this;omega
end
end Body
/-
  BODY: the document's own one and list,by contract. (tools/gen_bodyrefl.py)
-/
namespace Body
open Go.RowKit Instr
open Kind (Rd)
theorem Mid.size {w W:World} {k:Nat} {v:Value} {n:Int} {s:Rd} {x:Ix} (M:Mid w k v n s x W):w.heap.size+2≤W.heap.size:=by
 have:=World.block_lt_of_cell? W _ M.box.at_.c0;simp only at this;omega
end Body
/-
  BODY: the document's own list,by contract. (tools/gen_bodyrefm.py)
-/
namespace Body
open Go.RowKit Instr
open Kind (Rd)
theorem below_grown {w W W':World} {out:Value} {n:Nat} {xs:List Value} {o:Obj} (h:W.ownsRow w.heap.size 92 8 out n xs) (hw:w.heap.size≤W.heap.size) (hg:(W.alloc o).grownBy W' out.ownBlock):Below w.heap.size W W' :=
 ((Below.refl w.heap.size W).alloc hw o).grown hg (by simp;omega) (fun j hj=>(World.ownsRow.lt h j hj).1)
end Body
/-
  BODY: the document's own Get,by contract.
-/
namespace Body
open Go.RowKit Instr
open Kind (Rd)
structure Duq (T:Nat) (x y:Value) (w:World):Prop where
 c0:w.cell? ⟨T,0,none⟩=some x
 c1:w.cell? ⟨T,1,none⟩=some y
 f0:w.frozen? ⟨T,0,none⟩=false
 f1:w.frozen? ⟨T,1,none⟩=false
theorem Duq.save {k T:Nat} {x y:Value} {w w':World} (h:Duq T x y w) (hs:zF k w w') (hk:T≠k):Duq T x y w' :=
 have hl:=World.block_lt_of_cell? w _ h.c0
 ⟨hs.cell hk h.c0,hs.cell hk h.c1,hs.frozen hl hk h.f0,hs.frozen hl hk h.f1⟩
theorem zFs (w:World) (o:Obj):Below w.heap.size w (w.alloc o):=(Below.refl _ _).alloc (Nat.le_refl _) o
end Body
namespace Instr
open Go.RowKit
def Il.weight:Il→Nat
 | .nil=>0
 | .cons x l e r=>1+x.tags.length+l.weight+e.weight+r.weight
def zm (x:Ix) (most:Int):Int:=min (x.tags.length:Int) most
def Il.go:Il→Int→Int→Int
 | .nil,n,_=>n
 | .cons x l e r,n,most =>
  if n≤most then
   r.go (if (if n+1+zm x most≤most then n+1+zm x most+l.go 0 (most-(n+1+zm x most)) else n+1+zm x most)≤most
     then (if n+1+zm x most≤most then n+1+zm x most+l.go 0 (most-(n+1+zm x most)) else n+1+zm x most)+e.go 0 (most-(if n+1+zm x most≤most then n+1+zm x most+l.go 0 (most-(n+1+zm x most)) else n+1+zm x most))
     else (if n+1+zm x most≤most then n+1+zm x most+l.go 0 (most-(n+1+zm x most)) else n+1+zm x most)) most
  else n
def uv (n m:Int) (most:Int):Int:=if n≤most then n+m else n
theorem Ym {n m most:Int} (h:n≤most):uv n m most=n+m:=if_pos h
theorem vp {n m most:Int} (h:¬n≤most):uv n m most=n:=if_neg h
theorem YE (x:Ix) (l e r:Il) (n most:Int) (h:n≤most):(Il.cons x l e r).go n most =
  r.go (uv (uv (n+1+zm x most) (l.go 0 (most-(n+1+zm x most))) most) (e.go 0 (most-uv (n+1+zm x most) (l.go 0 (most-(n+1+zm x most))) most)) most) most:=by
 rw[Il.go,if_pos h];rfl
theorem zEU (t:Il) (n most:Int) (h:most<n):t.go n most=n:=by
 cases t with
 | nil=>rfl
 | cons x l e r=>rw[Il.go,if_neg (by omega)]
theorem um (x:Ix) (most:Int) (h:0≤most):0≤zm x most∧zm x most≤most∧zm x most≤x.tags.length:=by unfold zm;omega
theorem js:∀(t:Il) (n most:Int),0≤n→0≤most→n≤2*most+1→n≤t.go n most∧t.go n most≤2*most+1∧(t.go n most≤most→n+t.weight≤t.go n most)
 | .nil,n,most,h0,h1,h2=>by simp[Il.go,Il.weight,h2]
 | .cons x l e r,n,most,h0,h1,h2=>by
  by_cases h:n≤most
  ·rw[YE x l e r n most h]
   have hT:=um x most h1;obtain⟨T,hTT⟩:∃T,zm x most=T:=⟨_,rfl⟩;have hx:T=most∨T=x.tags.length:=by rw[←hTT];unfold zm;omega
   rw[hTT] at hT ⊢
   have A:∀(N2:Int),uv (n+1+T) (l.go 0 (most-(n+1+T))) most=N2→n+1+T≤N2∧N2≤2*most+1∧(N2≤most→n+1+T+l.weight≤N2∧n+1+T≤most):=by
    intro N2 h;subst h;unfold uv
    split
    ·have:=js l 0 (most-(n+1+T)) (by omega) (by omega) (by omega)
     refine⟨by omega,by omega,fun hh=>⟨?_,by omega⟩⟩;have:=this.2.2 (by omega);omega
    ·exact⟨by omega,by omega,fun hh=>by omega⟩
   obtain⟨N2,h2'⟩:∃N2,uv (n+1+T) (l.go 0 (most-(n+1+T))) most=N2:=⟨_,rfl⟩;have a:=A N2 h2';rw[h2']
   have B:∀(N3:Int),uv N2 (e.go 0 (most-N2)) most=N3→N2≤N3∧N3≤2*most+1∧(N3≤most→N2+e.weight≤N3∧N2≤most):=by
    intro N3 h;subst h;unfold uv
    split
    ·have:=js e 0 (most-N2) (by omega) (by omega) (by omega)
     refine⟨by omega,by omega,fun hh=>⟨?_,by omega⟩⟩;have:=this.2.2 (by omega);omega
    ·exact⟨by omega,by omega,fun hh=>by omega⟩
   obtain⟨N3,h3'⟩:∃N3,uv N2 (e.go 0 (most-N2)) most=N3:=⟨_,rfl⟩;have b:=B N3 h3';rw[h3'];have c:=js r N3 most (by omega) h1 (by omega);refine⟨by omega,c.2.1,fun hh=>?_⟩;have c3:=c.2.2 hh;have b3:=b.2.2 (by omega);have a3:=a.2.2 (by omega);simp only[Il.weight];omega
  ·rw[zEU _ _ _ (by omega)]
   exact⟨by omega,by omega,fun hh=>by omega⟩
theorem kG:∀t:Il,t.count≤t.weight
 | .nil=>Nat.le_refl _
 | .cons x l e r=>by have:=kG l;have:=kG e;have:=kG r;simp only[Il.count,Il.weight];omega
theorem ua:∀(m:Nat) (t:Il) (a:Option Addr) (len c:Nat) (most:Int) (w:World),t.count≤m→zD w.heap.size w a len t→len≤140737488351232→0≤most→most≤5000 →
  Calls Tryz.prog 12 #[.slice a len c,.int .i64 most] w fun e w'=>e=.returned (.int .i64 (t.go 0 most))∧w=w':=by
 intro m
 induction m with
 | zero =>
  intro t a len c most w hm hL hlen hm0 hm1
  cases t with
  | cons x l e r=>simp only[Il.count] at hm;omega
  | nil =>
   have h0:len=0:=hL.1.symm;subst h0;clear hm hL
   go_enter Tryz.func12,Tryz.ntmps12
   go_wp2
   go_loopw [5,6] (fun sn si wr=>si=.int .i64 0∧sn=.int .i64 0∧wr=w) (fun _ _ _=>0)
   case atStart=>exact⟨rfl,rfl,rfl⟩
   case round =>
    obtain⟨rfl,rfl,rfl⟩:=hrel;go_wp2;go_ret;exact⟨rfl,rfl⟩
 | succ m ih =>
  intro t a len c most w hm hL hlen hm0 hm1;obtain⟨hL1,hL2⟩:=hL;have HM:=hid hm;have HL1:=hid hL1;have HG:Hid (t.go 0 most=t.go 0 most):=hid rfl;clear hm hL1
  rcases hL2 with rfl|⟨b,off,rfl,hi⟩
  ·have h0:len=0:=HL1.out.symm
   subst h0;clear ih
   go_enter Tryz.func12,Tryz.ntmps12
   go_wp2
   go_loopw [5,6] (fun sn si wr=>si=.int .i64 0∧sn=.int .i64 0∧wr=w) (fun _ _ _=>0)
   case atStart=>exact⟨rfl,rfl,rfl⟩
   case round =>
    obtain⟨rfl,rfl,rfl⟩:=hrel;go_wp2;go_ret;exact⟨rfl,rfl⟩
  ·go_enter Tryz.func12,Tryz.ntmps12
   go_wp2
   go_loopw [5,6] (fun sn si wr=>∃(k:Nat) (n:Int) (rest:Il),si=.int .i64 k∧sn=.int .i64 n∧k≤len∧0≤n∧n≤2*most+1∧Hid (k+rest.len=len∧rest.go n most=t.go 0 most∧rest.count≤t.count)∧zg w.heap.size w b (off+k*8) rest∧wr=w)
    (fun _ si _=>len-(intOf si).toNat)
   case atStart=>exact⟨0,0,t,rfl,rfl,Nat.zero_le _,by omega,by omega,⟨by have:=HL1.out;omega,rfl,Nat.le_refl _⟩,by simpa using hi,rfl⟩
   case round =>
    obtain⟨k,n,rest,rfl,rfl,hk,hn0,hn1,HR,hir,rfl⟩:=hrel
    cases rest with
    | nil =>
     obtain⟨r1,r2,_⟩:=HR.out;have hkl:k=len:=by simpa[Il.len] using r1
     subst hkl;have R2:Hid (n=t.go 0 most):=by show _=_;rw[←r2];rfl
     clear r2;go_wp2;go_ret;exact⟨zH R2.out,rfl⟩
    | cons x tl te r =>
     obtain⟨hbn,hx,⟨c0,c1,c2,c3,c4,c5,c6,c7⟩,ht,hLl,hLe,hir'⟩:=hir;have hlt:k<len:=by have:=HR.out.1;simp only[Il.len] at this;omega
     by_cases hnm:n≤most
     ·have hcnt:tl.count+te.count+1≤m+1:=by have h1:=HR.out.2.2;have h2:=HM.out;simp only[Il.count] at h1;omega
      have htn:=hx.tn;have hLn:=hx.ln;have hEn:=hx.en;have hTb:=um x most hm0
      rcases (Int.lt_or_le most (x.tags.length:Int)).symm with hle|hle
      ·have hT:min (x.tags.length:Int) most=(x.tags.length:Int):=by omega
       have HT:Hid (zm x most=(x.tags.length:Int)):=hid (show zm x most=_ from hT);rw[HT.out] at hTb;obtain⟨tb0,tb1,_⟩:=hTb
       by_cases c1:n+1+(x.tags.length:Int)≤most
       ·have ih1:=ih tl x.la x.ln x.lc (most-(n+1+(x.tags.length:Int))) wr (by omega) hLl hLn (by omega) (by omega)
        have b1:=js tl 0 (most-(n+1+(x.tags.length:Int))) (by omega) (by omega) (by omega);obtain⟨g1,hg1⟩:∃g1,tl.go 0 (most-(n+1+(x.tags.length:Int)))=g1:=⟨_,rfl⟩;rw[hg1] at ih1 b1;obtain⟨b10,b11,_⟩:=b1;have G1:=hid hg1;have I1:=hid ih1;clear hg1 ih1
        by_cases c2:n+1+(x.tags.length:Int)+g1≤most
        ·have ih2:=ih te x.ea x.en x.ec (most-(n+1+(x.tags.length:Int)+g1)) wr (by omega) hLe hEn (by omega) (by omega)
         have b2:=js te 0 (most-(n+1+(x.tags.length:Int)+g1)) (by omega) (by omega) (by omega);obtain⟨g2,hg2⟩:∃g2,te.go 0 (most-(n+1+(x.tags.length:Int)+g1))=g2:=⟨_,rfl⟩;rw[hg2] at ih2 b2;obtain⟨b20,b21,_⟩:=b2;have G2:=hid hg2;have I2:=hid ih2;clear hg2 ih2
         go_wp2_with fail
         refine I1.out.mono ?_;clear I1;rintro e1 w1 ⟨rfl,rfl⟩
         go_wp2_with fail
         refine I2.out.mono ?_;clear I2;rintro e1 w1 ⟨rfl,rfl⟩;go_wp2
         go_roundw
         case rel =>
          refine⟨k+1,n+1+(x.tags.length:Int)+g1+g2,r,by simp,by first|rfl|simp,by omega,by omega,by omega,⟨by have:=HR.out.1;simp only[Il.len] at this;omega,?_,by have:=HR.out.2.2;simp only[Il.count] at this;omega⟩,by rw[show off+(k+1)*8=off+k*8+8 by omega];exact hir',by first|rfl|trivial⟩;rw[←HR.out.2.1,YE x tl te r n most hnm];rw[HT.out,G1.out,Ym c1,G2.out,Ym c2]
         case measure=>simp[intOf];omega
        ·have c2':most<n+1+(x.tags.length:Int)+g1:=by omega
         clear ih
         go_wp2_with fail
         refine I1.out.mono ?_;clear I1;rintro e1 w1 ⟨rfl,rfl⟩;go_wp2
         go_roundw
         case rel =>
          refine⟨k+1,n+1+(x.tags.length:Int)+g1,r,by simp,by first|rfl|simp,by omega,by omega,by omega,⟨by have:=HR.out.1;simp only[Il.len] at this;omega,?_,by have:=HR.out.2.2;simp only[Il.count] at this;omega⟩,by rw[show off+(k+1)*8=off+k*8+8 by omega];exact hir',by first|rfl|trivial⟩;rw[←HR.out.2.1,YE x tl te r n most hnm];rw[HT.out,G1.out,Ym c1,vp (n:=n+1+(x.tags.length:Int)+g1) (by omega)]
         case measure=>simp[intOf];omega
       ·have c1':most<n+1+(x.tags.length:Int):=by omega
        clear ih;go_wp2
        go_roundw
        case rel =>
         refine⟨k+1,n+1+(x.tags.length:Int),r,by simp,by first|rfl|simp,by omega,by omega,by omega,⟨by have:=HR.out.1;simp only[Il.len] at this;omega,?_,by have:=HR.out.2.2;simp only[Il.count] at this;omega⟩,by rw[show off+(k+1)*8=off+k*8+8 by omega];exact hir',by first|rfl|trivial⟩;rw[←HR.out.2.1,YE x tl te r n most hnm];rw[HT.out,vp (n:=n+1+(x.tags.length:Int)) (by omega),vp (n:=n+1+(x.tags.length:Int)) (by omega)]
        case measure=>simp[intOf];omega
      ·have hT:min (x.tags.length:Int) most=most:=by omega
       have HT:Hid (zm x most=most):=hid (show zm x most=_ from hT);rw[HT.out] at hTb;obtain⟨tb0,tb1,_⟩:=hTb;have c1:¬n+1+most≤most:=by omega
       have c1':most<n+1+most:=by omega
       clear ih;go_wp2
       go_roundw
       case rel =>
        refine⟨k+1,n+1+most,r,by simp,by first|rfl|simp,by omega,by omega,by omega,⟨by have:=HR.out.1;simp only[Il.len] at this;omega,?_,by have:=HR.out.2.2;simp only[Il.count] at this;omega⟩,by rw[show off+(k+1)*8=off+k*8+8 by omega];exact hir',by first|rfl|trivial⟩;rw[←HR.out.2.1,YE x tl te r n most hnm];rw[HT.out,vp (n:=n+1+most) (by omega),vp (n:=n+1+most) (by omega)]
       case measure=>simp[intOf];omega
     ·have R2:Hid (n=t.go 0 most):=by show _=_;rw[←HR.out.2.1,zEU _ _ _ (by omega)]
      have hnm':most<n:=by omega
      go_wp2;go_ret;exact⟨zH R2.out,rfl⟩
end Instr
namespace Body
open Go.RowKit Instr
theorem jy {B:Nat} {a w:World} (h:Below B a w) (n:Nat):Below B a (w.drewN n):=⟨h.os,h.tape,h.output,h.size,h.block⟩
def zH5 (x:Ix) (b off:Nat) (w:World):Prop :=
 w.cell? ⟨b,off,none⟩=some (.int .i64 x.op)∧w.cell? ⟨b,off+1,none⟩=some (.int .i64 x.res)∧w.cell? ⟨b,off+2,none⟩=some (.int .u32 x.a)∧w.cell? ⟨b,off+3,none⟩=some (.int .u32 x.b) ∧
  w.cell? ⟨b,off+4,none⟩=some (.int .i32 x.n)∧w.cell? ⟨b,off+5,none⟩=some (.slice x.ta x.tags.length x.tc)∧w.cell? ⟨b,off+6,none⟩=some (.slice x.la x.ln x.lc)∧w.cell? ⟨b,off+7,none⟩=some (.slice x.ea x.en x.ec)
theorem yw (w:World) (x y:Ix):At x w.heap.size (((w.alloc (.cells x.vals 92)).alloc (.cells y.vals 92)).drew)∧At y (w.heap.size+1) (((w.alloc (.cells x.vals 92)).alloc (.cells y.vals 92)).drew) ∧
  Below w.heap.size w (((w.alloc (.cells x.vals 92)).alloc (.cells y.vals 92)).drew):=by
 have hb:Below w.heap.size w (((w.alloc (.cells x.vals 92)).alloc (.cells y.vals 92)).drew) :=
  jy ((((Below.refl w.heap.size w).alloc (Nat.le_refl _) _)).alloc (by simp) _) 1
 have h1:At x w.heap.size ((w.alloc (.cells x.vals 92)).alloc (.cells y.vals 92)):=(At.made x w).below ((Below.refl _ _).alloc (Nat.le_refl _) _);have h2:At y (w.alloc (.cells x.vals 92)).heap.size ((w.alloc (.cells x.vals 92)).alloc (.cells y.vals 92)):=At.made y _;rw[World.size_alloc] at h2;exact⟨⟨h1.c0,h1.c1,h1.c2,h1.c3,h1.c4,h1.c5,h1.c6,h1.c7⟩,⟨h2.c0,h2.c1,h2.c2,h2.c3,h2.c4,h2.c5,h2.c6,h2.c7⟩,hb⟩
theorem jP {op:Int}:((strOfNums (zc op)).toList.isEmpty=true)↔zc op=[]:=by
 rw[ByteArray.toList_eq,strOfNums_data];simp
theorem jL (op:Int):qV op=decide (zn op=1):=by
 unfold qV zn
 (repeat' split)<;>simp_all<;>omega
theorem jR (op:Int):qZ op=decide (zn op=2∨zn op=3):=by
 unfold qZ zn
 (repeat' split)<;>simp_all<;>omega
theorem yf (op:Int):zS op=decide (zn op=5):=by
 unfold zS zn
 (repeat' split)<;>simp_all<;>omega
theorem qS {op:Int}:op=14↔zn op=4:=by
 unfold zn
 (repeat' split)<;>simp_all<;>omega
theorem jh {op:Int}:op=65↔zn op=7:=by
 unfold zn
 (repeat' split)<;>simp_all<;>omega
theorem zDt (op res a b n:Int) (tl ln en:Nat) (ta la ea:Option Addr) (tc lc ec:Nat) (w:World) (h:zc op=[]) :
  Calls Tryz.prog 261 #[.agg #[.int .i64 op,.int .i64 res,.int .u32 a,.int .u32 b,.int .i32 n,.slice ta tl tc,.slice la ln lc,.slice ea en ec]] w fun e w'=>e=.returned (.bool false)∧Below w.heap.size w w':=by
 have FA:=hid (fun W=>zi op W);have FN:=hid (fun W=>yQ op W);have hs:strOfNums (zc op)=⟨#[]⟩:=by rw[h];rfl
 rw[hs] at FN;obtain⟨al,hal⟩:∃al,zf op=al:=⟨_,rfl⟩;obtain⟨st,hst⟩:∃st,zS op=st:=⟨_,rfl⟩;rw[hal,hst] at FA;have M:=hid ((fun o=>(Below.refl w.heap.size w).alloc (Nat.le_refl _) o) (.cells #[.int .i64 op,.int .i64 res,.int .u32 a,.int .u32 b,.int .i32 n,.slice ta tl tc,.slice la ln lc,.slice ea en ec] 92));clear h hs hal hst
 go_enter Tryz.func261,Tryz.ntmps261
 go_wp2_with fail
 refine (FA.out _).mono ?_;rintro e w1 ⟨rfl,rfl⟩
 go_wp2_with fail
 refine (FN.out _).mono ?_;rintro e w1 ⟨rfl,hb1⟩;have HB:=hid (M.out.trans (hb1.mono M.out.size));clear hb1;go_wp2;go_ret;exact⟨rfl,HB.out⟩
end Body
namespace Utf
open Go.RowKit
theorem Jc:(Tryz.prog.info? 3).map (fun i=>(i.zero,i.size,i.bytes))=some (some (.int .i64 0),1,8):=by kernel_rfl
def vY (zs:List Int):Int×Int:=if (scan zs).2=zs.length then (0,0) else (4,(scan zs).2)
def runesL (zs:List Int):List Int:=if (scan zs).2=zs.length then (scan zs).1 else []
def zF8 (w:World) (zs:List Int) (e:Ending) (w':World):Prop :=
 ∃v,e=.returned (.tuple #[v,.agg #[.int .i64 (vY zs).1,.int .i64 (vY zs).2]])∧qR 3 .i64 w.heap.size w' v (runesL zs)∧Below w.heap.size w w'
theorem JE (e:TypeId) (k:IntKind) (base:Nat) (w:World):qR e k base w (.slice none 0 0) []:=World.ownsRow_nil _ _ _ _
end Utf
end Go.Proofs.YtdljneclfgneoaaGreatDoor
