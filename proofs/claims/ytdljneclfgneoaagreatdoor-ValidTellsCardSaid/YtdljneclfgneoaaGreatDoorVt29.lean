import Derived.Test.YtdljneclfgneoaaGreatDoorVt28
set_option linter.unusedVariables false
set_option linter.ambiguousOpen false
set_option maxRecDepth 100000
set_option maxHeartbeats 8000000
namespace Go.Proofs.YtdljneclfgneoaaGreatDoor
namespace Instr
end Instr
namespace Mod
end Mod
namespace Val
open Go.RowKit Go.Shelf Instr Mod
structure SX (m:Md) (w wr:World):Prop where
 bx:zB wr w.heap.size m.v
 rs:Bx4 wr (w.heap.size+1) ⟨0,0,0,0⟩
 bl:Below w.heap.size w wr
theorem SX.on {m:Md} {w wr w2:World} (h:SX m w wr) (hb:Below wr.heap.size wr w2):SX m w w2:=⟨h.bx.keep hb,h.rs.on hb,zM h.bl hb⟩
theorem SX.dr {m:Md} {w wr:World} (h:SX m w wr):SX m w wr.drew:=⟨h.bx,h.rs,⟨h.bl.os,h.bl.tape,h.bl.output,h.bl.size,h.bl.block⟩⟩
theorem SX.drN {m:Md} {w wr:World} (h:SX m w wr) (n:Nat):SX m w (wr.drewN n):=⟨h.bx,h.rs,⟨h.bl.os,h.bl.tape,h.bl.output,h.bl.size,h.bl.block⟩⟩
theorem SX.start (m:Md) (w:World):SX m w ((w.alloc (.cells m.v 40)).alloc (.cells #[.int .i64 0,.int .i64 0,.int .i64 0,.int .i64 0] 120)):=by
 refine⟨(zB.made w m.v _).keep (zG _ _),?_,zC (zG w _) _⟩;have:=heap_alloc_new (w.alloc (.cells m.v 40)) (.cells #[.int .i64 0,.int .i64 0,.int .i64 0,.int .i64 0] 120);rw[World.size_alloc] at this;exact this
theorem SX.tell {m:Md} {w wr:World} (h:SX m w wr) (x y z t:Int):Bx4 ((((wr.setCell ⟨w.heap.size+1,0,none⟩ (.int .i64 x)).setCell ⟨w.heap.size+1,1,none⟩ (.int .i64 y)).setCell ⟨w.heap.size+1,2,none⟩ (.int .i64 z)).setCell ⟨w.heap.size+1,3,none⟩ (.int .i64 t)) (w.heap.size+1) ⟨x,y,z,t⟩ ∧
  Below w.heap.size w ((((wr.setCell ⟨w.heap.size+1,0,none⟩ (.int .i64 x)).setCell ⟨w.heap.size+1,1,none⟩ (.int .i64 y)).setCell ⟨w.heap.size+1,2,none⟩ (.int .i64 z)).setCell ⟨w.heap.size+1,3,none⟩ (.int .i64 t)) :=
 ⟨h.rs.set x y z t,(((h.bl.setCell (p:=⟨w.heap.size+1,0,none⟩) (by simp) _).setCell (p:=⟨w.heap.size+1,1,none⟩) (by simp) _).setCell (p:=⟨w.heap.size+1,2,none⟩) (by simp) _).setCell (p:=⟨w.heap.size+1,3,none⟩) (by simp) _⟩
theorem qs {m:Md} {j k n:Nat} (h:k<n):zL m j k (n-k)=if (zz m j k).1=0 then zL m j (k+1) (n-(k+1)) else some ⟨(zz m j k).1,zHA j,k,(zz m j k).2⟩:=by
 have e:n-k=(n-(k+1))+1:=by omega
 rw[e,zL]
theorem je (e s i a:Int) (w:World):Calls Tryz.prog 198 #[.int .i64 e,.int .i64 s,.int .i64 i,.int .i64 a] w fun en w'=>en=.returned (.agg #[.int .i64 e,.int .i64 s,.int .i64 i,.int .i64 a])∧Below w.heap.size w w':=by
 have hb:=zG w (.cells #[.int .i64 e,.int .i64 s,.int .i64 i,.int .i64 a] 120);have hr:=heap_alloc_new w (.cells #[.int .i64 e,.int .i64 s,.int .i64 i,.int .i64 a] 120);have HB:=hid hb;have HR:=hid (show Bx4 (w.alloc (.cells #[.int .i64 e,.int .i64 s,.int .i64 i,.int .i64 a] 120)) w.heap.size ⟨e,s,i,a⟩ from hr);clear hb hr
 go_enter Tryz.func198,Tryz.ntmps198
 go_wp2;exact bodyPost_ret (zU Tryz.results198 _ _ w.heap.size rfl HR.out) rfl ⟨rfl,HB.out⟩
theorem zBF (m:Md) (n:Int) (w:World) (hn:0≤n):Calls Tryz.prog 95 #[.agg m.v,.int .i64 n] w fun e w'=>e=.returned (.bool (decide (n<(m.ty.length:Int))))∧Below w.heap.size w w':=by
 have HB:=hid (zG w (.cells m.v 40));have hx:=zB.made w m.v 40;unfold Md.v at hx HB ⊢;have c0:=hx 0 _ rfl;clear hx
 generalize m.ty.length=N at *
 by_cases h:n<(N:Int)
 ·rw[decide_eq_true h]
  go_enter Tryz.func95,Tryz.ntmps95
  go_wp2;go_ret;exact⟨rfl,HB.out⟩
 ·rw[decide_eq_false h]
  go_enter Tryz.func95,Tryz.ntmps95
  go_wp2;go_ret;exact⟨rfl,HB.out⟩
theorem zHB (m:Md) (w:World) (hm:zN w.heap.size w m) (hf:m.few) (hF:ky m):Calls Tryz.prog 98 #[.agg m.v] w fun e w'=>e=.returned (.agg ((zZ m 0 3).getD ⟨0,0,0,0⟩).v)∧Below w.heap.size w w':=by
 have HM:=hid hm;have HF:=hid hf;have HFI:=hid hF;obtain⟨W0,hW0⟩:∃W0,W0=((w.alloc (.cells m.v 40)).alloc (.cells #[.int .i64 0,.int .i64 0,.int .i64 0,.int .i64 0] 120)):=⟨_,rfl⟩;have HX:Hid (SX m w W0):=hid (by rw[hW0];exact SX.start m w);have HW:=hid hW0;obtain⟨RV,hRV⟩:∃r,(zZ m 0 3).getD ⟨0,0,0,0⟩=r:=⟨_,rfl⟩;rw[hRV];have HSEC:=hid hRV.symm;have hfim:=hf.fit.im;have hffu:=hf.fit.fu;have hfgl:=hf.fit.gl;have hfda:=hf.fit.da;clear hm hf hF hW0 hRV;unfold Md.v at HW;have hxx:=HX.out.bx;unfold Md.v at hxx ⊢;obtain⟨n0,n1,n2,n3,n4,n5,n6,n7,n8,n9,n10⟩:=zB.mod hxx;clear hxx
 go_enter Tryz.func98,Tryz.ntmps98
 go_upto_region 1 with fail
 rw[←HW.out];clear HW;go_wp2
 go_loopw [3] (fun vi wr=>∃k:Nat,vi=.int .i64 k∧k≤m.im.length∧Hid (SX m w wr)∧Hid (zL m 0 0 m.im.length=zL m 0 k (m.im.length-k))) (fun vi _=>m.im.length-(intOf vi).toNat)
 case atStart=>exact⟨0,rfl,Nat.zero_le _,HX,rfl⟩
 case round =>
  clear HX n0 n1 n2 n3 n4 n5 n6 n7 n8 n9 n10;obtain⟨k,rfl,hk,HX,HS⟩:=hrel;have hxx:=HX.out.bx;unfold Md.v at hxx;obtain⟨n0,n1,n2,n3,n4,n5,n6,n7,n8,n9,n10⟩:=zB.mod hxx;clear hxx
  by_cases hlt:k<m.im.length
  ·have hki:(k:Int)<(m.im.length:Int):=by omega
   have hfl:=HF.out.fit.im;obtain⟨b,off,ha,hbn,hc⟩:=Rows.get (HM.out.below HX.out.bl).im hlt;have hat:Jj m k=m.im[k]:=by unfold Jj;simp[hlt]
   have c2:wr.cell? ⟨b,off+k*3+2,none⟩=some (.int .i64 (Jj m k).ty):=by rw[hat];exact hc 2 (by omega) _ rfl
   have hty:0≤(Jj m k).ty:=by rw[hat];exact HFI.out.imt _ (List.getElem_mem hlt)
   have CC:=hid (zBF m (Jj m k).ty wr.drew hty);unfold Md.v at CC;rw[ha] at n1 CC;have HSK:=hid (qs (m:=m) (j:=0) hlt);have HSE:=hid (show (zz m 0 k).1=qI m (Jj m k).ty∧(zz m 0 k).2=0 from ⟨rfl,rfl⟩);unfold qI at HSE
   generalize (Jj m k).ty=ty at *
   have HX1:=hid HX.out.dr;clear hc hat hbn ha hty hlt hk
   by_cases ht:ty<(m.ty.length:Int)
   ·rw[decide_eq_true ht] at CC
    have HSN:=hid (show zL m 0 0 m.im.length=zL m 0 (k+1) (m.im.length-(k+1)) by rw[HS.out,HSK.out,if_pos (by rw[HSE.out.1,if_neg (by omega)])]);clear ht HSE HSK HS
    go_upto_region 4 with fail
    go_still_tail 7,(by kernel_rfl)
    change wpList _ _ _ _ _ wr.drew
    go_wp2_with fail
    refine CC.out.mono ?_;rintro e w1 ⟨rfl,hb1⟩;have HX2:=hid (HX1.out.on hb1);clear CC HX HX1 hb1 c2 n0 n1 n2 n3 n4 n5 n6 n7 n8 n9 n10;go_wp2
    go_roundw
    case rel=>exact⟨k+1,by go_num,by omega,HX2,HSN⟩
    case measure=>simp[intOf];omega
   ·rw[decide_eq_false ht] at CC
    have HSN:=hid (show zL m 0 0 m.im.length=some ⟨6,2,k,0⟩ by rw[HS.out,HSK.out,if_neg (by rw[HSE.out.1,if_pos (by omega)];decide),HSE.out.1,HSE.out.2,if_pos (by omega)];rfl);have HRV:=hid (show RV=⟨6,2,k,0⟩ by rw[HSEC.out,yH (show zL m 0 0 (yV m 0)=some ⟨6,2,k,0⟩ from HSN.out)];rfl);clear ht HSE HSK HS
    go_upto_region 4 with fail
    go_still_tail 7,(by kernel_rfl)
    change wpList _ _ _ _ _ wr.drew
    go_wp2_with fail
    refine CC.out.mono ?_;rintro e w1 ⟨rfl,hb1⟩;have HX2:=hid (HX1.out.on hb1);clear CC HX HX1 hb1 c2 n0 n1 n2 n3 n4 n5 n6 n7 n8 n9 n10
    go_wp2_with fail
    refine (je 6 2 k 0 w1).mono ?_;rintro e w2 ⟨rfl,hb2⟩;have HX3:=hid (HX2.out.on hb2);clear HX2 hb2;obtain⟨r0,r1,r2,r3,s0,s1,s2,s3⟩:=HX3.out.rs.c;go_wp2;obtain⟨q1,q2⟩:=HX3.out.tell 6 2 k 0;exact bodyPost_ret (zU Tryz.results98 _ _ (w.heap.size+1) rfl q1) rfl ⟨by rw[HRV.out],q2⟩
  ·have hkn:k=m.im.length:=by omega
   subst hkn;have HSN:=hid (show zL m 0 0 m.im.length=none by rw[HS.out,Nat.sub_self];rfl);have HSEC:=hid (show RV=(zZ m 1 2).getD ⟨0,0,0,0⟩ by rw[HSEC.out,yU (show zL m 0 0 (yV m 0)=none from HSN.out)]);clear HS HSN hk hlt;go_wp2
   go_loopw [4] (fun vi wr=>∃k:Nat,vi=.int .i64 k∧k≤m.fu.length∧Hid (SX m w wr)∧Hid (zL m 1 0 m.fu.length=zL m 1 k (m.fu.length-k))) (fun vi _=>m.fu.length-(intOf vi).toNat)
   case atStart=>exact⟨0,rfl,Nat.zero_le _,HX,rfl⟩
   case round =>
    clear HX n0 n1 n2 n3 n4 n5 n6 n7 n8 n9 n10;obtain⟨k,rfl,hk,HX,HS⟩:=hrel;have hxx:=HX.out.bx;unfold Md.v at hxx;obtain⟨n0,n1,n2,n3,n4,n5,n6,n7,n8,n9,n10⟩:=zB.mod hxx;clear hxx
    by_cases hlt:k<m.fu.length
    ·have hki:(k:Int)<(m.fu.length:Int):=by omega
     have hfl:=HF.out.fit.fu;obtain⟨b,off,ha,hbn,hc⟩:=Rows.get (HM.out.below HX.out.bl).fu hlt;have hat:yL m k=m.fu[k]:=by unfold yL;simp[hlt]
     have c2:wr.cell? ⟨b,off+k*3,none⟩=some (.int .i64 (yL m k).ty):=by rw[hat];exact hc 0 (by omega) _ rfl
     have hty:0≤(yL m k).ty:=by rw[hat];exact HFI.out.ty _ (List.getElem_mem hlt)
     have CC:=hid (zBF m (yL m k).ty wr.drew hty);unfold Md.v at CC;rw[ha] at n2 CC;have HSK:=hid (qs (m:=m) (j:=1) hlt);have HSE:=hid (show (zz m 1 k).1=qI m (yL m k).ty∧(zz m 1 k).2=0 from ⟨rfl,rfl⟩);unfold qI at HSE
     generalize (yL m k).ty=ty at *
     have HX1:=hid HX.out.dr;clear hc hat hbn ha hty hlt hk
     by_cases ht:ty<(m.ty.length:Int)
     ·rw[decide_eq_true ht] at CC
      have HSN:=hid (show zL m 1 0 m.fu.length=zL m 1 (k+1) (m.fu.length-(k+1)) by rw[HS.out,HSK.out,if_pos (by rw[HSE.out.1,if_neg (by omega)])]);clear ht HSE HSK HS
      go_upto_region 9 with fail
      go_still_tail 7,(by kernel_rfl)
      change wpList _ _ _ _ _ wr.drew
      go_wp2_with fail
      refine CC.out.mono ?_;rintro e w1 ⟨rfl,hb1⟩;have HX2:=hid (HX1.out.on hb1);clear CC HX HX1 hb1 c2 n0 n1 n2 n3 n4 n5 n6 n7 n8 n9 n10;go_wp2
      go_roundw
      case rel=>exact⟨k+1,by go_num,by omega,HX2,HSN⟩
      case measure=>simp[intOf];omega
     ·rw[decide_eq_false ht] at CC
      have HSN:=hid (show zL m 1 0 m.fu.length=some ⟨6,3,k,0⟩ by rw[HS.out,HSK.out,if_neg (by rw[HSE.out.1,if_pos (by omega)];decide),HSE.out.1,HSE.out.2,if_pos (by omega)];rfl);have HRV:=hid (show RV=⟨6,3,k,0⟩ by rw[HSEC.out,yH (show zL m 1 0 (yV m 1)=some ⟨6,3,k,0⟩ from HSN.out)];rfl);clear ht HSE HSK HS
      go_upto_region 9 with fail
      go_still_tail 7,(by kernel_rfl)
      change wpList _ _ _ _ _ wr.drew
      go_wp2_with fail
      refine CC.out.mono ?_;rintro e w1 ⟨rfl,hb1⟩;have HX2:=hid (HX1.out.on hb1);clear CC HX HX1 hb1 c2 n0 n1 n2 n3 n4 n5 n6 n7 n8 n9 n10
      go_wp2_with fail
      refine (je 6 3 k 0 w1).mono ?_;rintro e w2 ⟨rfl,hb2⟩;have HX3:=hid (HX2.out.on hb2);clear HX2 hb2;obtain⟨r0,r1,r2,r3,s0,s1,s2,s3⟩:=HX3.out.rs.c;go_wp2;obtain⟨q1,q2⟩:=HX3.out.tell 6 3 k 0;exact bodyPost_ret (zU Tryz.results98 _ _ (w.heap.size+1) rfl q1) rfl ⟨by rw[HRV.out],q2⟩
    ·have hkn:k=m.fu.length:=by omega
     subst hkn;have HSN:=hid (show zL m 1 0 m.fu.length=none by rw[HS.out,Nat.sub_self];rfl);have HSEC:=hid (show RV=(zZ m 2 1).getD ⟨0,0,0,0⟩ by rw[HSEC.out,yU (show zL m 1 0 (yV m 1)=none from HSN.out)]);clear HS HSN hk hlt;go_wp2
     go_loopw [5] (fun vi wr=>∃k:Nat,vi=.int .i64 k∧k≤m.gl.length∧Hid (SX m w wr)∧Hid (zL m 2 0 m.gl.length=zL m 2 k (m.gl.length-k))) (fun vi _=>m.gl.length-(intOf vi).toNat)
     case atStart=>exact⟨0,rfl,Nat.zero_le _,HX,rfl⟩
     case round =>
      clear HX n0 n1 n2 n3 n4 n5 n6 n7 n8 n9 n10;obtain⟨k,rfl,hk,HX,HS⟩:=hrel;have hxx:=HX.out.bx;unfold Md.v at hxx;obtain⟨n0,n1,n2,n3,n4,n5,n6,n7,n8,n9,n10⟩:=zB.mod hxx;clear hxx
      by_cases hlt:k<m.gl.length
      ·have hki:(k:Int)<(m.gl.length:Int):=by omega
       have hfl:=HF.out.fit.gl;obtain⟨b,off,ha,hbn,hc⟩:=Rows.get (HM.out.below HX.out.bl).gl hlt;have hat:uA m k=m.gl[k]:=by unfold uA;simp[hlt]
       have c2:wr.cell? ⟨b,off+k*2+1,none⟩=some (uA m k).l.val:=by rw[hat];exact hc 1 (by omega) _ rfl
       have hcs:(uA m k).l∈m.codes:=by rw[hat];unfold Md.codes;exact List.mem_append_right _ (List.mem_append_left _ (List.mem_map.2 ⟨_,List.getElem_mem hlt,rfl⟩))
       have hls:=HM.out.ls _ hcs;rw[ha] at n5;have CC:=hid (Zv (uA m k).l.t (uA m k).l.a (uA m k).l.t.len (uA m k).l.c wr ((hls.below HX.out.bl).more HX.out.bl.size) (HF.out.fit.ls _ hcs) (by have:=HF.out.cs _ hcs;omega));have HSK:=hid (qs (m:=m) (j:=2) hlt);have HSE:=hid (show (zz m 2 k).1=(zy (uA m k).l.t).2∧(zz m 2 k).2=0 from ⟨rfl,rfl⟩)
       generalize (uA m k).l=L at *
       obtain⟨la,lc,lt⟩:=L;dsimp only[Lst.val] at c2 CC HSE;obtain⟨⟨cv,ce⟩,hcv⟩:∃q,zy lt=q:=⟨_,rfl⟩;rw[hcv] at CC HSE;dsimp only at CC HSE
       generalize lt.len=N at *
       clear hc hat hbn ha hcs hls hcv hlt hk
       by_cases hz:ce=0
       ·subst hz
        have HSN:=hid (show zL m 2 0 m.gl.length=zL m 2 (k+1) (m.gl.length-(k+1)) by rw[HS.out,HSK.out,if_pos HSE.out.1]);clear HSE HSK HS
        go_wp2_with fail
        refine CC.out.mono ?_;rintro e w1 ⟨rfl,hb1⟩;have HX2:=hid (HX.out.on hb1);clear CC HX hb1 c2 n0 n1 n2 n3 n4 n5 n6 n7 n8 n9 n10;go_wp2
        go_roundw
        case rel=>exact⟨k+1,by go_num,by omega,HX2,HSN⟩
        case measure=>simp[intOf];omega
       ·have HSN:=hid (show zL m 2 0 m.gl.length=some ⟨ce,6,k,0⟩ by rw[HS.out,HSK.out,if_neg (by rw[HSE.out.1];exact hz),HSE.out.1,HSE.out.2];rfl)
        have HRV:=hid (show RV=⟨ce,6,k,0⟩ by rw[HSEC.out,yH (show zL m 2 0 (yV m 2)=some ⟨ce,6,k,0⟩ from HSN.out)];rfl);have hne:(ce != 0)=true:=by simpa using hz
        clear HSE HSK HS hz
        go_wp2_with fail
        refine CC.out.mono ?_;rintro e w1 ⟨rfl,hb1⟩;have HX2:=hid (HX.out.on hb1);clear CC HX hb1 c2 n0 n1 n2 n3 n4 n5 n6 n7 n8 n9 n10
        go_wp2_with fail
        refine (je ce 6 k 0 w1).mono ?_;rintro e w2 ⟨rfl,hb2⟩;have HX3:=hid (HX2.out.on hb2);clear HX2 hb2;obtain⟨r0,r1,r2,r3,s0,s1,s2,s3⟩:=HX3.out.rs.c;go_wp2;obtain⟨q1,q2⟩:=HX3.out.tell ce 6 k 0;exact bodyPost_ret (zU Tryz.results98 _ _ (w.heap.size+1) rfl q1) rfl ⟨by rw[HRV.out],q2⟩
      ·have hkn:k=m.gl.length:=by omega
       subst hkn;have HSN:=hid (show zL m 2 0 m.gl.length=none by rw[HS.out,Nat.sub_self];rfl);have HRV:=hid (show RV=⟨0,0,0,0⟩ by rw[HSEC.out,yU (show zL m 2 0 (yV m 2)=none from HSN.out)];rfl);clear HS HSN hk hlt;obtain⟨r0,r1,r2,r3,s0,s1,s2,s3⟩:=HX.out.rs.c;go_wp2;obtain⟨q1,q2⟩:=HX.out.tell 0 0 0 0;exact bodyPost_ret (zU Tryz.results98 _ _ (w.heap.size+1) rfl q1) rfl ⟨by rw[HRV.out],q2⟩
theorem zIQ (m:Md) (w:World) (hm:zN w.heap.size w m) (hf:m.few) (hF:ky m) (hnn:∀l∈m.codes,kr l.t) (hty:∀k,k<m.fu.length→(yL m k).ty<(m.ty.length:Int)):Calls Tryz.prog 101 #[.agg m.v] w fun e w'=>e=.returned (.agg ((zZ m 6 2).getD ⟨0,0,0,0⟩).v)∧Below w.heap.size w w':=by
 have HM:=hid hm;have HF:=hid hf;have HFI:=hid hF;have HNN:=hid hnn;have HTY:=hid hty;obtain⟨W0,hW0⟩:∃W0,W0=((w.alloc (.cells m.v 40)).alloc (.cells #[.int .i64 0,.int .i64 0,.int .i64 0,.int .i64 0] 120)):=⟨_,rfl⟩;have HX:Hid (SX m w W0):=hid (by rw[hW0];exact SX.start m w);have HW:=hid hW0;obtain⟨RV,hRV⟩:∃r,(zZ m 6 2).getD ⟨0,0,0,0⟩=r:=⟨_,rfl⟩;rw[hRV];have HSEC:=hid hRV.symm;have hfim:=hf.fit.im;have hffu:=hf.fit.fu;have hfgl:=hf.fit.gl;have hfda:=hf.fit.da;clear hm hf hF hW0 hRV;unfold Md.v at HW;have hxx:=HX.out.bx;unfold Md.v at hxx ⊢;obtain⟨n0,n1,n2,n3,n4,n5,n6,n7,n8,n9,n10⟩:=zB.mod hxx;clear hxx
 go_enter Tryz.func101,Tryz.ntmps101
 go_upto_region 1 with fail
 rw[←HW.out];clear HW;go_wp2
 go_loopw [3] (fun vi wr=>∃k:Nat,vi=.int .i64 k∧k≤m.fu.length∧Hid (SX m w wr)∧Hid (zL m 6 0 m.fu.length=zL m 6 k (m.fu.length-k))) (fun vi _=>m.fu.length-(intOf vi).toNat)
 case atStart=>exact⟨0,rfl,Nat.zero_le _,HX,rfl⟩
 case round =>
  clear HX n0 n1 n2 n3 n4 n5 n6 n7 n8 n9 n10;obtain⟨k,rfl,hk,HX,HS⟩:=hrel;have hxx:=HX.out.bx;unfold Md.v at hxx;obtain⟨n0,n1,n2,n3,n4,n5,n6,n7,n8,n9,n10⟩:=zB.mod hxx;clear hxx
  by_cases hlt:k<m.fu.length
  ·have hki:(k:Int)<(m.fu.length:Int):=by omega
   have hfl:=HF.out.fit.fu;have CC:=hid (zA5 m wr k (HM.out.on HX.out.bl) HF.out.fit HFI.out hlt (HTY.out k hlt));have hbp:=zEO HFI.out HNN.out hlt (HTY.out k hlt);have HSK:=hid (qs (m:=m) (j:=6) hlt);have HSE:=hid (show (zz m 6 k).1=(Md.bodyJ m k).1∧(zz m 6 k).2=(Md.bodyJ m k).2 from ⟨congrArg Prod.fst hbp,congrArg Prod.snd hbp⟩);clear hbp;obtain⟨⟨ce,cv⟩,hcv⟩:∃q,Md.bodyJ m k=q:=⟨_,rfl⟩;rw[hcv] at CC HSE;dsimp only at CC HSE;unfold Md.v at CC;clear hcv hlt hk
   by_cases hz:ce=0
   ·subst hz
    have HSN:=hid (show zL m 6 0 m.fu.length=zL m 6 (k+1) (m.fu.length-(k+1)) by rw[HS.out,HSK.out,if_pos HSE.out.1]);clear HSE HSK HS
    go_wp2_with fail
    refine CC.out.mono ?_;rintro e w1 ⟨rfl,hb1⟩;have HX2:=hid (HX.out.on hb1);clear CC HX hb1  n0 n1 n2 n3 n4 n5 n6 n7 n8 n9 n10;go_wp2
    go_roundw
    case rel=>exact⟨k+1,by go_num,by omega,HX2,HSN⟩
    case measure=>simp[intOf];omega
   ·have HSN:=hid (show zL m 6 0 m.fu.length=some ⟨ce,10,k,cv⟩ by rw[HS.out,HSK.out,if_neg (by rw[HSE.out.1];exact hz),HSE.out.1,HSE.out.2];rfl)
    have HRV:=hid (show RV=⟨ce,10,k,cv⟩ by rw[HSEC.out,yH (show zL m 6 0 (yV m 6)=some ⟨ce,10,k,cv⟩ from HSN.out)];rfl);have hne:(ce != 0)=true:=by simpa using hz
    clear HSE HSK HS hz
    go_wp2_with fail
    refine CC.out.mono ?_;rintro e w1 ⟨rfl,hb1⟩;have HX2:=hid (HX.out.on hb1);clear CC HX hb1  n0 n1 n2 n3 n4 n5 n6 n7 n8 n9 n10
    go_wp2_with fail
    refine (je ce 10 k cv w1).mono ?_;rintro e w2 ⟨rfl,hb2⟩;have HX3:=hid (HX2.out.on hb2);clear HX2 hb2;obtain⟨r0,r1,r2,r3,s0,s1,s2,s3⟩:=HX3.out.rs.c;go_wp2;obtain⟨q1,q2⟩:=HX3.out.tell ce 10 k cv;exact bodyPost_ret (zU Tryz.results101 _ _ (w.heap.size+1) rfl q1) rfl ⟨by rw[HRV.out],q2⟩
  ·have hkn:k=m.fu.length:=by omega
   subst hkn;have HSN:=hid (show zL m 6 0 m.fu.length=none by rw[HS.out,Nat.sub_self];rfl);have HSEC:=hid (show RV=(zZ m 7 1).getD ⟨0,0,0,0⟩ by rw[HSEC.out,yU (show zL m 6 0 (yV m 6)=none from HSN.out)]);clear HS HSN hk hlt;go_wp2
   go_loopw [6] (fun vi wr=>∃k:Nat,vi=.int .i64 k∧k≤m.da.length∧Hid (SX m w wr)∧Hid (zL m 7 0 m.da.length=zL m 7 k (m.da.length-k))) (fun vi _=>m.da.length-(intOf vi).toNat)
   case atStart=>exact⟨0,rfl,Nat.zero_le _,HX,rfl⟩
   case round =>
    clear HX n0 n1 n2 n3 n4 n5 n6 n7 n8 n9 n10;obtain⟨k,rfl,hk,HX,HS⟩:=hrel;have hxx:=HX.out.bx;unfold Md.v at hxx;obtain⟨n0,n1,n2,n3,n4,n5,n6,n7,n8,n9,n10⟩:=zB.mod hxx;clear hxx
    by_cases hlt:k<m.da.length
    ·by_cases hme:m.me.length=0
     ·have HSK:=hid (qs (m:=m) (j:=7) hlt)
      have HSE:=hid (show (zz m 7 k).1=6∧(zz m 7 k).2=0 from ⟨by show qj m (k7 m k).l.t=_;unfold qj;rw[if_pos hme],rfl⟩);have HSN:=hid (show zL m 7 0 m.da.length=some ⟨6,11,k,0⟩ by rw[HS.out,HSK.out,if_neg (by rw[HSE.out.1];decide),HSE.out.1,HSE.out.2];rfl);have HRV:=hid (show RV=⟨6,11,k,0⟩ by rw[HSEC.out,yH (show zL m 7 0 (yV m 7)=some ⟨6,11,k,0⟩ from HSN.out)];rfl);have hki:(k:Int)<(m.da.length:Int):=by omega
      rw[hme] at n4;clear HSE HSK HS hme hlt hk
      go_wp2_with fail
      refine (je 6 11 k 0 wr).mono ?_;rintro e w2 ⟨rfl,hb2⟩;have HX3:=hid (HX.out.on hb2);clear HX hb2 n0 n1 n2 n3 n4 n5 n6 n7 n8 n9 n10;obtain⟨r0,r1,r2,r3,s0,s1,s2,s3⟩:=HX3.out.rs.c;go_wp2;obtain⟨q1,q2⟩:=HX3.out.tell 6 11 k 0;exact bodyPost_ret (zU Tryz.results101 _ _ (w.heap.size+1) rfl q1) rfl ⟨by rw[HRV.out],q2⟩
     ·have hmi:((m.me.length:Int)==0)=false:=by rw[beq_eq_false_iff_ne];omega
      have hki:(k:Int)<(m.da.length:Int):=by omega
      have hfl:=HF.out.fit.da;obtain⟨b,off,ha,hbn,hc⟩:=Rows.get (HM.out.below HX.out.bl).da hlt;have hat:k7 m k=m.da[k]:=by unfold k7;simp[hlt]
      have c2:wr.cell? ⟨b,off+k*2,none⟩=some (k7 m k).l.val:=by rw[hat];exact hc 0 (by omega) _ rfl
      have hcs:(k7 m k).l∈m.codes:=by rw[hat];unfold Md.codes;exact List.mem_append_right _ (List.mem_append_right _ (List.mem_append_right _ (List.mem_map.2 ⟨_,List.getElem_mem hlt,rfl⟩)))
      have hls:=HM.out.ls _ hcs;rw[ha] at n10;have CC:=hid (Zv (k7 m k).l.t (k7 m k).l.a (k7 m k).l.t.len (k7 m k).l.c wr ((hls.below HX.out.bl).more HX.out.bl.size) (HF.out.fit.ls _ hcs) (by have:=HF.out.cs _ hcs;omega));have HSK:=hid (qs (m:=m) (j:=7) hlt);have HSE:=hid (show (zz m 7 k).1=(zy (k7 m k).l.t).2∧(zz m 7 k).2=0 from ⟨by show qj m (k7 m k).l.t=_;unfold qj;rw[if_neg hme],rfl⟩)
      generalize (k7 m k).l=L at *
      obtain⟨la,lc,lt⟩:=L;dsimp only[Lst.val] at c2 CC HSE;obtain⟨⟨cv,ce⟩,hcv⟩:∃q,zy lt=q:=⟨_,rfl⟩;rw[hcv] at CC HSE;dsimp only at CC HSE
      generalize lt.len=N at *
      clear hc hat hbn ha hcs hls hcv hlt hk
      by_cases hz:ce=0
      ·subst hz
       have HSN:=hid (show zL m 7 0 m.da.length=zL m 7 (k+1) (m.da.length-(k+1)) by rw[HS.out,HSK.out,if_pos HSE.out.1]);clear HSE HSK HS
       go_wp2_with fail
       refine CC.out.mono ?_;rintro e w1 ⟨rfl,hb1⟩;have HX2:=hid (HX.out.on hb1);clear CC HX hb1 c2 n0 n1 n2 n3 n4 n5 n6 n7 n8 n9 n10;go_wp2
       go_roundw
       case rel=>exact⟨k+1,by go_num,by omega,HX2,HSN⟩
       case measure=>simp[intOf];omega
      ·have HSN:=hid (show zL m 7 0 m.da.length=some ⟨ce,11,k,0⟩ by rw[HS.out,HSK.out,if_neg (by rw[HSE.out.1];exact hz),HSE.out.1,HSE.out.2];rfl)
       have HRV:=hid (show RV=⟨ce,11,k,0⟩ by rw[HSEC.out,yH (show zL m 7 0 (yV m 7)=some ⟨ce,11,k,0⟩ from HSN.out)];rfl);have hne:(ce != 0)=true:=by simpa using hz
       clear HSE HSK HS hz
       go_wp2_with fail
       refine CC.out.mono ?_;rintro e w1 ⟨rfl,hb1⟩;have HX2:=hid (HX.out.on hb1);clear CC HX hb1 c2 n0 n1 n2 n3 n4 n5 n6 n7 n8 n9 n10
       go_wp2_with fail
       refine (je ce 11 k 0 w1).mono ?_;rintro e w2 ⟨rfl,hb2⟩;have HX3:=hid (HX2.out.on hb2);clear HX2 hb2;obtain⟨r0,r1,r2,r3,s0,s1,s2,s3⟩:=HX3.out.rs.c;go_wp2;obtain⟨q1,q2⟩:=HX3.out.tell ce 11 k 0;exact bodyPost_ret (zU Tryz.results101 _ _ (w.heap.size+1) rfl q1) rfl ⟨by rw[HRV.out],q2⟩
    ·have hkn:k=m.da.length:=by omega
     subst hkn;have HSN:=hid (show zL m 7 0 m.da.length=none by rw[HS.out,Nat.sub_self];rfl);have HRV:=hid (show RV=⟨0,0,0,0⟩ by rw[HSEC.out,yU (show zL m 7 0 (yV m 7)=none from HSN.out)];rfl);clear HS HSN hk hlt;obtain⟨r0,r1,r2,r3,s0,s1,s2,s3⟩:=HX.out.rs.c;go_wp2;obtain⟨q1,q2⟩:=HX.out.tell 0 0 0 0;exact bodyPost_ret (zU Tryz.results101 _ _ (w.heap.size+1) rfl q1) rfl ⟨by rw[HRV.out],q2⟩
theorem zEQ (m:Md) (w:World) (h1:m.im.length≤16384) (h2:m.fu.length≤16384):Calls Tryz.prog 200 #[.agg m.v] w fun e w'=>e=.returned (.int .i64 ((m.im.length:Int)+(m.fu.length:Int)))∧Below w.heap.size w w':=by
 have HB:=hid (zG w (.cells m.v 40));have hx:=zB.made w m.v 40;unfold Md.v at hx HB ⊢;have c1:=hx 1 _ rfl;have c2:=hx 2 _ rfl;clear hx
 generalize m.im.length=N at *
 generalize m.fu.length=M at *
 go_enter Tryz.func200,Tryz.ntmps200
 go_wp2;go_ret;exact⟨rfl,HB.out⟩
theorem zAs {w w1 w2:World} {p0 p1 p2 p3 p4 p5 p6 p7 p8 p9 p10:Addr} {v0 v1 v2 v3 v4 v5 v6 v7 v8 v9 v10:Value} (h:Below w.heap.size w w1∧w1.cell? p0=some v0∧w1.cell? p1=some v1∧w1.cell? p2=some v2∧w1.cell? p3=some v3∧w1.cell? p4=some v4∧w1.cell? p5=some v5∧w1.cell? p6=some v6∧w1.cell? p7=some v7∧w1.cell? p8=some v8∧w1.cell? p9=some v9∧w1.cell? p10=some v10) (hb:Below w1.heap.size w1 w2) :
  Below w.heap.size w w2∧w2.cell? p0=some v0∧w2.cell? p1=some v1∧w2.cell? p2=some v2∧w2.cell? p3=some v3∧w2.cell? p4=some v4∧w2.cell? p5=some v5∧w2.cell? p6=some v6∧w2.cell? p7=some v7∧w2.cell? p8=some v8∧w2.cell? p9=some v9∧w2.cell? p10=some v10 :=
 ⟨zM h.1 hb,kP hb h.2.1,kP hb h.2.2.1,kP hb h.2.2.2.1,kP hb h.2.2.2.2.1,kP hb h.2.2.2.2.2.1,kP hb h.2.2.2.2.2.2.1,kP hb h.2.2.2.2.2.2.2.1,kP hb h.2.2.2.2.2.2.2.2.1,kP hb h.2.2.2.2.2.2.2.2.2.1,kP hb h.2.2.2.2.2.2.2.2.2.2.1,kP hb h.2.2.2.2.2.2.2.2.2.2.2⟩
theorem zHf (m:Md) (x:Ex) (w:World) (hf:m.fits) (h1:m.im.length≤16384) (h2:m.fu.length≤16384) (hk:0≤x.k∧x.k≤3) (hi:0≤x.i∧x.i<4294967296) :
  Calls Tryz.prog 199 #[.agg m.v,.agg #[.string x.na,.int .i64 x.k,.int .u32 x.i]] w fun e w'=>e=.returned (.bool (decide (x.i<countP m x.k)))∧Below w.heap.size w w':=by
 obtain⟨na,k,i⟩:=x;dsimp only at hk hi ⊢;obtain⟨W0,hW0⟩:∃W0,W0=(w.alloc (.cells m.v 40)).alloc (.cells #[.string na,.int .i64 k,.int .u32 i] 45):=⟨_,rfl⟩;have hb0:Below w.heap.size w W0:=by rw[hW0];exact zC (zG w _) _
 have hx0:zB W0 w.heap.size m.v:=by rw[hW0];exact (zB.made w m.v _).keep (zG _ _)
 have hx1:zB W0 (w.heap.size+1) #[.string na,.int .i64 k,.int .u32 i]:=by
  rw[hW0];have:=zB.made (w.alloc (.cells m.v 40)) #[.string na,.int .i64 k,.int .u32 i] 45;rw[World.size_alloc] at this;exact this
 have HW:=hid hW0;have HB:=hid hb0;have HX1:=hid hx1;have CF:=hid (fun (W':World)=>zEQ m W' h1 h2)
 have hC:countP m k=if k=0 then (m.im.length:Int)+(m.fu.length:Int) else if k=1 then (m.tb.length:Int) else if k=2 then (m.me.length:Int) else (m.gl.length:Int):=by
  obtain⟨k0,k1⟩:=hk;have hh:k=0∨k=1∨k=2∨k=3:=by omega
  rcases hh with rfl|rfl|rfl|rfl<;>rfl
 rw[hC];unfold Md.v at hx0 HW CF ⊢;obtain⟨n0,n1,n2,n3,n4,n5,n6,n7,n8,n9,n10⟩:=zB.mod hx0;have htb:=hf.tb;have hme:=hf.me;have hgl:=hf.gl;have hS0:Below W0.heap.size W0 W0.drew∧W0.drew.cell? ⟨w.heap.size,0,none⟩=some (.slice m.ty'.a m.ty.length m.ty'.c)∧W0.drew.cell? ⟨w.heap.size,1,none⟩=some (.slice m.im'.a m.im.length m.im'.c)∧W0.drew.cell? ⟨w.heap.size,2,none⟩=some (.slice m.fu'.a m.fu.length m.fu'.c)∧W0.drew.cell? ⟨w.heap.size,3,none⟩=some (.slice m.tb'.a m.tb.length m.tb'.c)∧W0.drew.cell? ⟨w.heap.size,4,none⟩=some (.slice m.me'.a m.me.length m.me'.c)∧W0.drew.cell? ⟨w.heap.size,5,none⟩=some (.slice m.gl'.a m.gl.length m.gl'.c)∧W0.drew.cell? ⟨w.heap.size,6,none⟩=some (.slice m.ex'.a m.ex.length m.ex'.c)∧W0.drew.cell? ⟨w.heap.size,7,none⟩=some (.bool m.st)∧W0.drew.cell? ⟨w.heap.size,8,none⟩=some (.int .u32 m.sn)∧W0.drew.cell? ⟨w.heap.size,9,none⟩=some (.slice m.el'.a m.el.length m.el'.c)∧W0.drew.cell? ⟨w.heap.size,10,none⟩=some (.slice m.da'.a m.da.length m.da'.c):=⟨(Below.refl _ _).drew,n0,n1,n2,n3,n4,n5,n6,n7,n8,n9,n10⟩;clear hf hC hb0 hx0 hx1 hW0 n0 n1 n2 n3 n4 n5 n6 n7 n8 n9 n10
 have hS:∀w1,Below W0.drew.heap.size W0.drew w1→Below w.heap.size w w1∧zB w1 (w.heap.size+1) #[.string na,.int .i64 k,.int .u32 i]:=fun w1 hb=>by
  have hb':Below W0.heap.size W0 w1:=⟨hb.os,hb.tape,hb.output,hb.size,hb.block⟩;exact⟨zM HB.out hb',HX1.out.keep hb'⟩
 have HS:=hid hS;clear hS
 go_enter Tryz.func199,Tryz.ntmps199
 go_upto_region 1 with fail
 rw[←HW.out];clear HW
 (go_region_held3 (fun w'=>Below W0.heap.size W0 w'∧w'.cell? ⟨w.heap.size,0,none⟩=some (.slice m.ty'.a m.ty.length m.ty'.c)∧w'.cell? ⟨w.heap.size,1,none⟩=some (.slice m.im'.a m.im.length m.im'.c)∧w'.cell? ⟨w.heap.size,2,none⟩=some (.slice m.fu'.a m.fu.length m.fu'.c)∧w'.cell? ⟨w.heap.size,3,none⟩=some (.slice m.tb'.a m.tb.length m.tb'.c)∧w'.cell? ⟨w.heap.size,4,none⟩=some (.slice m.me'.a m.me.length m.me'.c)∧w'.cell? ⟨w.heap.size,5,none⟩=some (.slice m.gl'.a m.gl.length m.gl'.c)∧w'.cell? ⟨w.heap.size,6,none⟩=some (.slice m.ex'.a m.ex.length m.ex'.c)∧w'.cell? ⟨w.heap.size,7,none⟩=some (.bool m.st)∧w'.cell? ⟨w.heap.size,8,none⟩=some (.int .u32 m.sn)∧w'.cell? ⟨w.heap.size,9,none⟩=some (.slice m.el'.a m.el.length m.el'.c)∧w'.cell? ⟨w.heap.size,10,none⟩=some (.slice m.da'.a m.da.length m.da'.c))
   (first|assumption|exact zAs (by assumption) (by assumption)|exact zAs (by assumption) (zG _ _))
   (first|(go_at_call 200;(with_reducible refine (CF.out _).mono ?_);rintro e7 w7 ⟨rfl,hb7⟩)))
 obtain⟨hbw,hxx⟩:=HS.out w7 hb7;obtain⟨W8,hW8⟩:∃W8,W8=w7.alloc (.cells #[.int .i64 ((m.im.length:Int)+(m.fu.length:Int)),.int .i64 (m.tb.length:Int),.int .i64 (m.me.length:Int),.int .i64 (m.gl.length:Int)] 2):=⟨_,rfl⟩;have hxl:zB W8 w7.heap.size #[.int .i64 ((m.im.length:Int)+(m.fu.length:Int)),.int .i64 (m.tb.length:Int),.int .i64 (m.me.length:Int),.int .i64 (m.gl.length:Int)]:=by rw[hW8];exact zB.made w7 _ _
 have hb8:Below w7.heap.size w7 W8:=by rw[hW8];exact zG _ _
 have hx8:=hxx.keep hb8;have HBB:=hid (zM hbw hb8);have l0:=hxl 0 _ rfl;have l1:=hxl 1 _ rfl;have l2:=hxl 2 _ rfl;have l3:=hxl 3 _ rfl;have x1:=hx8 1 _ rfl;have x2:=hx8 2 _ rfl;rw[←hW8];clear hbw hxx hxl hb8 hx8 hW8 hb7 HS CF hS0 HX1 HB;obtain⟨k0,k1⟩:=hk;have hh:k=0∨k=1∨k=2∨k=3:=by omega
 generalize w7.heap.size=g7 at *
 clear k0 k1
 rcases hh with rfl|rfl|rfl|rfl
 all_goals
  go_upto_region 2 with fail
  go_quiet (fail)
  go_wp2;go_ret;refine⟨?_,by have:=HBB.out;exact⟨this.os,this.tape,this.output,this.size,this.block⟩⟩
  first|rfl|simp
theorem zE5 (m:Md) (w:World) (hm:zN w.heap.size w m) (hf:m.few) (hF:ky m) (hrg:Rg m):Calls Tryz.prog 99 #[.agg m.v] w fun e w'=>e=.returned (.agg ((zZ m 3 2).getD ⟨0,0,0,0⟩).v)∧Below w.heap.size w w':=by
 have HM:=hid hm;have HF:=hid hf;have HFI:=hid hF;have HRG:=hid hrg;obtain⟨W0,hW0⟩:∃W0,W0=((w.alloc (.cells m.v 40)).alloc (.cells #[.int .i64 0,.int .i64 0,.int .i64 0,.int .i64 0] 120)):=⟨_,rfl⟩;have HX:Hid (SX m w W0):=hid (by rw[hW0];exact SX.start m w);have HW:=hid hW0;obtain⟨RV,hRV⟩:∃r,(zZ m 3 2).getD ⟨0,0,0,0⟩=r:=⟨_,rfl⟩;rw[hRV];have HSEC:=hid hRV.symm;have hfex:=hf.fit.ex;have hfel:=hf.fit.el;have hftb:=hf.fit.tb;clear hm hf hF hrg hW0 hRV;unfold Md.v at HW;have hxx:=HX.out.bx;unfold Md.v at hxx ⊢;obtain⟨n0,n1,n2,n3,n4,n5,n6,n7,n8,n9,n10⟩:=zB.mod hxx;clear hxx
 go_enter Tryz.func99,Tryz.ntmps99
 go_upto_region 1 with fail
 rw[←HW.out];clear HW;go_wp2
 go_loopw [3] (fun vi wr=>∃k:Nat,vi=.int .i64 k∧k≤m.ex.length∧Hid (SX m w wr)∧Hid (zL m 3 0 m.ex.length=zL m 3 k (m.ex.length-k))) (fun vi _=>m.ex.length-(intOf vi).toNat)
 case atStart=>exact⟨0,rfl,Nat.zero_le _,HX,rfl⟩
 case round =>
  clear HX n0 n1 n2 n3 n4 n5 n6 n7 n8 n9 n10;obtain⟨k,rfl,hk,HX,HS⟩:=hrel;have hxx:=HX.out.bx;unfold Md.v at hxx;obtain⟨n0,n1,n2,n3,n4,n5,n6,n7,n8,n9,n10⟩:=zB.mod hxx;clear hxx
  by_cases hlt:k<m.ex.length
  ·have hki:(k:Int)<(m.ex.length:Int):=by omega
   obtain⟨b,off,ha,hbn,hc⟩:=Rows.get (HM.out.below HX.out.bl).ex hlt;have hat:zAO m k=m.ex[k]:=by unfold zAO;simp[hlt]
   have hmem:=List.getElem_mem hlt;have c0:wr.cell? ⟨b,off+k*3,none⟩=some (.string (m.ex[k]).na):=hc 0 (by omega) _ rfl;have c1:wr.cell? ⟨b,off+k*3+1,none⟩=some (.int .i64 (m.ex[k]).k):=hc 1 (by omega) _ rfl;have c2:wr.cell? ⟨b,off+k*3+2,none⟩=some (.int .u32 (m.ex[k]).i):=hc 2 (by omega) _ rfl;have CC:=hid (zHf m m.ex[k] wr.drew HF.out.fit HFI.out.im HFI.out.fu (HFI.out.kinds _ hmem) (HRG.out.ei _ hmem));have HSK:=hid (qs (m:=m) (j:=3) hlt);have HSE:=hid (show (zz m 3 k).1=jV m k∧(zz m 3 k).2=0 from ⟨rfl,rfl⟩);unfold jV at HSE;rw[hat] at HSE;unfold Md.v at CC;rw[ha] at n6 CC;obtain⟨x,hx⟩:∃x,m.ex[k]=x:=⟨_,rfl⟩;have HXK:=hid (fun (h:k<m.ex.length)=>(show m.ex[k]=x from hx));rw[hx] at c0 c1 c2 CC HSE;obtain⟨na,xk,xi⟩:=x;dsimp only at c0 c1 c2 CC HSE;have HX1:=hid HX.out.dr;have HLT:=hid hlt;have HHA:=hid ha;clear hc hat hbn hmem ha hlt hk hx
   by_cases ht:xi<countP m xk
   ·rw[decide_eq_true ht] at CC
    rw[if_pos ht] at HSE;clear ht
    go_upto_region 4 with fail
    go_still_tail 6,(by kernel_rfl)
    change wpList _ _ _ _ _ wr.drew
    go_wp2_with fail
    refine CC.out.mono ?_;rintro e w1 ⟨rfl,hb1⟩;have HX2:=hid (HX1.out.on hb1);clear CC HX HX1 hb1 c0 c1 c2 n0 n1 n2 n3 n4 n5 n6 n7 n8 n9 n10;go_wp2
    go_loopw [4] (fun vi wr=>∃q:Nat,vi=.int .i64 q∧q≤k∧Hid (SX m w wr)∧Hid (∀e∈m.ex.take q,e.na≠na)) (fun vi _=>k-(intOf vi).toNat)
    case atStart=>exact⟨0,rfl,Nat.zero_le _,HX2,hid (by simp)⟩
    case round =>
     clear HX2;obtain⟨q,rfl,hq,HX,HQ⟩:=hrel;have hxx:=HX.out.bx;unfold Md.v at hxx;obtain⟨n0,n1,n2,n3,n4,n5,n6,n7,n8,n9,n10⟩:=zB.mod hxx;clear hxx
     by_cases hlt:q<k
     ·have hlt':q<m.ex.length:=by have:=HLT.out;omega
      obtain⟨b',off',ha,hbn,hc⟩:=Rows.get (HM.out.below HX.out.bl).ex hlt';obtain⟨b2,off2,ha2,hbn2,hc2⟩:=Rows.get (HM.out.below HX.out.bl).ex HLT.out;have c0:wr.cell? ⟨b',off'+q*3,none⟩=some (.string (m.ex[q]).na):=hc 0 (by omega) _ rfl;have d0:wr.cell? ⟨b2,off2+k*3,none⟩=some (.string (m.ex[k]'HLT.out).na):=hc2 0 (by omega) _ rfl;rw[HXK.out HLT.out] at d0;rw[ha2] at ha;simp only[Option.some.injEq,Addr.mk.injEq,and_true] at ha;obtain⟨rfl,rfl⟩:=ha;rw[ha2] at n6;have hqi:(q:Int)<(k:Int):=by omega
      have hqe:(q:Int)<(m.ex.length:Int):=by omega
      have hke:(k:Int)<(m.ex.length:Int):=by have:=HLT.out;omega
      have HMEX:=hid (show ∃e∈m.ex.take k,e.na=(m.ex[q]).na from ⟨m.ex[q],List.mem_take_iff_getElem.2 ⟨q,by omega,rfl⟩,rfl⟩)
      have HTK:=hid (show ∀e∈m.ex.take (q+1),e∈m.ex.take q∨e.na=(m.ex[q]).na from fun e he=>by
        rw[List.take_succ_eq_append_getElem hlt'] at he
        rcases List.mem_append.1 he with he|he
        · exact .inl he
        · exact .inr (by rw[List.mem_singleton.1 he]))
      obtain⟨nq,hnq⟩:∃z,(m.ex[q]).na=z:=⟨_,rfl⟩;rw[hnq] at c0 HMEX HTK;dsimp only at d0;clear hc hc2 hbn hbn2 ha2 hlt hlt' hq hnq
      by_cases hn:nq=na
      ·subst hn
       have HSN:=hid (show zL m 3 0 m.ex.length=some ⟨7,7,k,0⟩ by
         have h7:(zz m 3 k).1=7:=by rw[HSE.out.1,if_pos (by obtain⟨e,he,h2⟩:=HMEX.out;exact List.any_eq_true.2 ⟨e,he,by simpa using h2⟩)]
         rw[HS.out,HSK.out,if_neg (by rw[h7];decide),h7,HSE.out.2];rfl)
       have HRV:=hid (show RV=⟨7,7,k,0⟩ by rw[HSEC.out,yH (show zL m 3 0 (yV m 3)=some ⟨7,7,k,0⟩ from HSN.out)];rfl);have HXd:=hid (fun n=>HX.out.drN n)
       go_upto_region 9 with fail
       go_quiet (fail)
       clear c0 d0 n0 n1 n2 n3 n4 n5 n6 n7 n8 n9 n10
       go_wp2_with fail
       refine (je 7 7 k 0 _).mono ?_;rintro e w2 ⟨rfl,hb2⟩;have HX3:=hid ((HXd.out _).on hb2);clear hb2 HXd HX;obtain⟨r0,r1,r2,r3,s0,s1,s2,s3⟩:=HX3.out.rs.c;go_wp2;obtain⟨q1,q2⟩:=HX3.out.tell 7 7 k 0;exact bodyPost_ret (zU Tryz.results99 _ _ (w.heap.size+1) rfl q1) rfl ⟨by rw[HRV.out],q2⟩
      ·have HQ1:=hid (show ∀e∈m.ex.take (q+1),e.na≠na by
         intro e he
         rcases HTK.out e he with he|he
         · exact HQ.out e he
         · rw[he];exact hn)
       have hs:=zGm hn;have HXd:=hid (fun n=>HX.out.drN n);clear hn
       go_upto_region 9 with fail
       go_quiet (fail)
       clear c0 d0 n0 n1 n2 n3 n4 n5 n6 n7 n8 n9 n10;go_wp2
       go_roundw
       case rel=>exact⟨q+1,by go_num,by omega,hid (HXd.out _),HQ1⟩
       case measure=>simp[intOf];omega
     ·have hqk:q=k:=by omega
      subst hqk
      have HSN:=hid (show zL m 3 0 m.ex.length=zL m 3 (q+1) (m.ex.length-(q+1)) by
        have h0:(zz m 3 q).1=0:=by rw[HSE.out.1,if_neg (by intro h;obtain⟨e,he,h2⟩:=List.any_eq_true.1 h;exact HQ.out e he (by simpa using h2))]
        rw[HS.out,HSK.out,if_pos h0])
      have hqe:q<m.ex.length:=HLT.out;clear hlt hq HQ HSE HSK HS n0 n1 n2 n3 n4 n5 n6 n7 n8 n9 n10;go_wp2
      go_roundw
      case rel=>exact⟨q+1,by go_num,by omega,HX,HSN⟩
      case measure=>simp[intOf];omega
   ·rw[decide_eq_false ht] at CC
    rw[if_neg ht] at HSE;have HSN:=hid (show zL m 3 0 m.ex.length=some ⟨6,7,k,0⟩ by rw[HS.out,HSK.out,if_neg (by rw[HSE.out.1];decide),HSE.out.1,HSE.out.2];rfl);have HRV:=hid (show RV=⟨6,7,k,0⟩ by rw[HSEC.out,yH (show zL m 3 0 (yV m 3)=some ⟨6,7,k,0⟩ from HSN.out)];rfl);clear ht HSE HSK HS
    go_upto_region 4 with fail
    go_still_tail 6,(by kernel_rfl)
    change wpList _ _ _ _ _ wr.drew
    go_wp2_with fail
    refine CC.out.mono ?_;rintro e w1 ⟨rfl,hb1⟩;have HX2:=hid (HX1.out.on hb1);clear CC HX HX1 hb1 c0 c1 c2 n0 n1 n2 n3 n4 n5 n6 n7 n8 n9 n10
    go_wp2_with fail
    refine (je 6 7 k 0 w1).mono ?_;rintro e w2 ⟨rfl,hb2⟩;have HX3:=hid (HX2.out.on hb2);clear hb2;obtain⟨r0,r1,r2,r3,s0,s1,s2,s3⟩:=HX3.out.rs.c;go_wp2;obtain⟨q1,q2⟩:=HX3.out.tell 6 7 k 0;exact bodyPost_ret (zU Tryz.results99 _ _ (w.heap.size+1) rfl q1) rfl ⟨by rw[HRV.out],q2⟩
  ·have hkn:k=m.ex.length:=by omega
   subst hkn;have HSN:=hid (show zL m 3 0 m.ex.length=none by rw[HS.out,Nat.sub_self];rfl);have HSEC:=hid (show RV=(zZ m 4 1).getD ⟨0,0,0,0⟩ by rw[HSEC.out,yU (show zL m 3 0 (yV m 3)=none from HSN.out)]);clear HS HSN hk hlt;have HS1:=hid (zAw m 4)
   by_cases hst:m.st=true
   ·have HS2:=hid (show zL m 4 0 (yV m 4)=if jd m=0 then none else some ⟨jd m,8,0,0⟩ by show zL m 4 0 (if m.st then 1 else 0)=_;rw[if_pos hst];rfl)
    have HST:=hid (show jd m=if (m.typeOf m.sn.toNat).2=false then 6 else if (m.typeOf m.sn.toNat).1.1=0∧(m.typeOf m.sn.toNat).1.2=0 then 0 else 213 from rfl);obtain⟨N,hN⟩:∃N:Nat,m.sn=(N:Int):=⟨m.sn.toNat,by have:=HRG.out.sn;omega⟩;have CT:=hid (vS m N wr (HM.out.on HX.out.bl) HF.out.fit (by have:=HRG.out.sn;omega));unfold Md.v at CT;rw[hst] at n7 CT;rw[hN] at n8 CT HST;rw[Int.toNat_natCast] at HST;obtain⟨⟨⟨p,r⟩,is⟩,hty⟩:∃q,m.typeOf N=q:=⟨_,rfl⟩;rw[hty] at CT HST;dsimp only at CT HST;clear hty hst hN
    go_wp2_with fail
    refine CT.out.mono ?_;rintro e w1 ⟨rfl,hb1⟩;have HX2:=hid (HX.out.on hb1);clear CT hb1 HX n0 n1 n2 n3 n4 n5 n6 n7 n8 n9 n10;have hbt:=zG w1 (.cells #[.int .i64 p,.int .i64 r] 26);have HX3:=hid (HX2.out.on hbt);have hxt:=zB.made w1 #[.int .i64 p,.int .i64 r] 26;have t0:=hxt 0 _ rfl;have t1:=hxt 1 _ rfl;obtain⟨W9,hW9⟩:∃W9,W9=w1.alloc (.cells #[.int .i64 p,.int .i64 r] 26):=⟨_,rfl⟩;rw[←hW9] at HX3 t0 t1;have HW9:=hid hW9;clear hbt hxt HX2 hW9
    cases is with
    | false =>
     have HRV:=hid (show RV=⟨6,8,0,0⟩ by rw[HSEC.out,HS1.out,HS2.out,HST.out];rfl)
     go_upto_region 14 with fail
     rw[←HW9.out];clear HW9
     go_wp2_with fail
     refine (je 6 8 0 0 W9).mono ?_;rintro e w2 ⟨rfl,hb2⟩;have HX3:=hid (HX3.out.on hb2);clear hb2;obtain⟨r0,r1,r2,r3,s0,s1,s2,s3⟩:=HX3.out.rs.c;go_wp2;obtain⟨q1,q2⟩:=HX3.out.tell 6 8 0 0;exact bodyPost_ret (zU Tryz.results99 _ _ (w.heap.size+1) rfl q1) rfl ⟨by rw[HRV.out],q2⟩
    | true =>
     rw[if_neg (by simp)] at HST
     go_upto_region 14 with fail
     rw[←HW9.out];clear HW9
     by_cases hp:p=0
     ·by_cases hr:r=0
      ·rw[if_pos ⟨hp,hr⟩] at HST
       have HRV:=hid (show RV=⟨0,0,0,0⟩ by rw[HSEC.out,HS1.out,HS2.out,HST.out];rfl);subst hp hr;obtain⟨r0,r1,r2,r3,s0,s1,s2,s3⟩:=HX3.out.rs.c;go_wp2;obtain⟨q1,q2⟩:=HX3.out.tell 0 0 0 0;exact bodyPost_ret (zU Tryz.results99 _ _ (w.heap.size+1) rfl q1) rfl ⟨by rw[HRV.out],q2⟩
      ·rw[if_neg (fun h=>hr h.2)] at HST
       have HRV:=hid (show RV=⟨213,8,0,0⟩ by rw[HSEC.out,HS1.out,HS2.out,HST.out];rfl);have hrr:(r != 0)=true:=by simpa using hr
       clear hr;subst hp
       go_wp2_with fail
       refine (je 213 8 0 0 W9).mono ?_;rintro e w2 ⟨rfl,hb2⟩;have HX3:=hid (HX3.out.on hb2);clear hb2;obtain⟨r0,r1,r2,r3,s0,s1,s2,s3⟩:=HX3.out.rs.c;go_wp2;obtain⟨q1,q2⟩:=HX3.out.tell 213 8 0 0;exact bodyPost_ret (zU Tryz.results99 _ _ (w.heap.size+1) rfl q1) rfl ⟨by rw[HRV.out],q2⟩
     ·rw[if_neg (fun h=>hp h.1)] at HST
      have HRV:=hid (show RV=⟨213,8,0,0⟩ by rw[HSEC.out,HS1.out,HS2.out,HST.out];rfl);have hpp:(p != 0)=true:=by simpa using hp
      clear hp
      go_wp2_with fail
      refine (je 213 8 0 0 W9).mono ?_;rintro e w2 ⟨rfl,hb2⟩;have HX3:=hid (HX3.out.on hb2);clear hb2;obtain⟨r0,r1,r2,r3,s0,s1,s2,s3⟩:=HX3.out.rs.c;go_wp2;obtain⟨q1,q2⟩:=HX3.out.tell 213 8 0 0;exact bodyPost_ret (zU Tryz.results99 _ _ (w.heap.size+1) rfl q1) rfl ⟨by rw[HRV.out],q2⟩
   ·have hst':m.st=false:=by simpa using hst
    have HS2:=hid (show zL m 4 0 (yV m 4)=none by show zL m 4 0 (if m.st then 1 else 0)=_;rw[if_neg hst];rfl);have HRV:=hid (show RV=⟨0,0,0,0⟩ by rw[HSEC.out,HS1.out,HS2.out];rfl);rw[hst'] at n7;clear hst hst';obtain⟨r0,r1,r2,r3,s0,s1,s2,s3⟩:=HX.out.rs.c;go_wp2;obtain⟨q1,q2⟩:=HX.out.tell 0 0 0 0;exact bodyPost_ret (zU Tryz.results99 _ _ (w.heap.size+1) rfl q1) rfl ⟨by rw[HRV.out],q2⟩
theorem zG5 (m:Md) (w:World) (hm:zN w.heap.size w m) (hf:m.few) (hF:ky m) (hrg:Rg m):Calls Tryz.prog 100 #[.agg m.v] w fun e w'=>e=.returned (.agg ((zZ m 5 1).getD ⟨0,0,0,0⟩).v)∧Below w.heap.size w w':=by
 have HM:=hid hm;have HF:=hid hf;have HFI:=hid hF;have HRG:=hid hrg;obtain⟨W0,hW0⟩:∃W0,W0=((w.alloc (.cells m.v 40)).alloc (.cells #[.int .i64 0,.int .i64 0,.int .i64 0,.int .i64 0] 120)):=⟨_,rfl⟩;have HX:Hid (SX m w W0):=hid (by rw[hW0];exact SX.start m w);have HW:=hid hW0;obtain⟨RV,hRV⟩:∃r,(zZ m 5 1).getD ⟨0,0,0,0⟩=r:=⟨_,rfl⟩;rw[hRV];have HSEC:=hid hRV.symm;have hfex:=hf.fit.ex;have hfel:=hf.fit.el;have hftb:=hf.fit.tb;clear hm hf hF hrg hW0 hRV;unfold Md.v at HW;have hxx:=HX.out.bx;unfold Md.v at hxx ⊢;obtain⟨n0,n1,n2,n3,n4,n5,n6,n7,n8,n9,n10⟩:=zB.mod hxx;clear hxx
 go_enter Tryz.func100,Tryz.ntmps100
 go_upto_region 1 with fail
 rw[←HW.out];clear HW;go_wp2
 go_loopw [3] (fun vi wr=>∃k:Nat,vi=.int .i64 k∧k≤m.el.length∧Hid (SX m w wr)∧Hid (zL m 5 0 m.el.length=zL m 5 k (m.el.length-k))) (fun vi _=>m.el.length-(intOf vi).toNat)
 case atStart=>exact⟨0,rfl,Nat.zero_le _,HX,rfl⟩
 case round =>
  clear HX n0 n1 n2 n3 n4 n5 n6 n7 n8 n9 n10;obtain⟨k,rfl,hk,HX,HS⟩:=hrel;have hxx:=HX.out.bx;unfold Md.v at hxx;obtain⟨n0,n1,n2,n3,n4,n5,n6,n7,n8,n9,n10⟩:=zB.mod hxx;clear hxx
  by_cases hlt:k<m.el.length
  ·have hki:(k:Int)<(m.el.length:Int):=by omega
   have hat:Yn m k=m.el[k]:=by unfold Yn;simp[hlt]
   have hmem:=List.getElem_mem hlt;have HSK:=hid (qs (m:=m) (j:=5) hlt);have HSE:=hid (show (zz m 5 k).1=kE m (Yn m k)∧(zz m 5 k).2=0 from ⟨rfl,rfl⟩);unfold kE at HSE;rw[hat] at HSE
   by_cases htb:m.tb.length=0
   ·have HS6:=hid (show (zz m 5 k).1=6 by rw[HSE.out.1,if_pos htb])
    have HSN:=hid (show zL m 5 0 m.el.length=some ⟨6,9,k,0⟩ by rw[HS.out,HSK.out,if_neg (by rw[HS6.out];decide),HS6.out,HSE.out.2];rfl);have HRV:=hid (show RV=⟨6,9,k,0⟩ by rw[HSEC.out,yH (show zL m 5 0 (yV m 5)=some ⟨6,9,k,0⟩ from HSN.out)];rfl);rw[htb] at n3;clear HS6 HSE HSK HS htb hlt hk hat hmem hftb
    go_wp2_with fail
    refine (je 6 9 k 0 wr).mono ?_;rintro e w2 ⟨rfl,hb2⟩;have HX3:=hid (HX.out.on hb2);clear hb2;obtain⟨r0,r1,r2,r3,s0,s1,s2,s3⟩:=HX3.out.rs.c;go_wp2;obtain⟨q1,q2⟩:=HX3.out.tell 6 9 k 0;exact bodyPost_ret (zU Tryz.results100 _ _ (w.heap.size+1) rfl q1) rfl ⟨by rw[HRV.out],q2⟩
   ·have htn:((m.tb.length:Int)==0)=false:=by rw[beq_eq_false_iff_ne];omega
    rw[if_neg htb] at HSE;obtain⟨b,off,ha,hbn,hc⟩:=Rows.get (HM.out.below HX.out.bl).el hlt;have hcs:m.el[k].l∈m.codes:=by unfold Md.codes;exact List.mem_append_right _ (List.mem_append_right _ (List.mem_append_left _ (List.mem_map.2 ⟨_,hmem,rfl⟩)))
    have hls:=HM.out.ls _ hcs;have c0:wr.cell? ⟨b,off+k*2,none⟩=some (m.el[k]).l.val:=hc 0 (by omega) _ rfl;have CC:=hid (Zv m.el[k].l.t m.el[k].l.a m.el[k].l.t.len m.el[k].l.c wr ((hls.below HX.out.bl).more HX.out.bl.size) (HF.out.fit.ls _ hcs) (by have:=HF.out.cs _ hcs;omega))
    have HFS:=hid (fun (W':World) (hX:SX m w W')=>(show (∃b off,m.el'.a=some ⟨b,off,none⟩∧W'.cell? ⟨b,off+k*2+1,none⟩=some (.slice m.el[k].fa m.el[k].fs.length m.el[k].fc))∧zk w.heap.size W' m.el[k].fa m.el[k].fs from by
      obtain⟨b,off,ha,hbn,hc⟩:=Rows.get (HM.out.below hX.bl).el hlt;exact⟨⟨b,off,ha,hc 1 (by omega) _ rfl⟩,(HM.out.fs _ hmem).below hX.bl⟩))
    have HFR:=hid (HRG.out.ef _ hmem);have HFL:=hid (HF.out.fit.fs _ hmem);rw[ha] at n9;obtain⟨⟨⟨la,lc,lt⟩,fa,fc,fs⟩,hx⟩:∃x,m.el[k]=x:=⟨_,rfl⟩;rw[hx] at c0 CC HSE HFS HFR HFL;dsimp only[Lst.val] at c0 CC HSE HFS HFR HFL;obtain⟨⟨cv,ce⟩,hcv⟩:∃q,zy lt=q:=⟨_,rfl⟩;rw[hcv] at CC HSE;dsimp only at CC HSE
    generalize lt.len=N at *
    clear hc hat hbn hmem ha hlt hk hx hcs hls hcv htb
    by_cases hz:ce=0
    ·subst hz
     rw[if_neg (by simp)] at HSE
     go_wp2_with fail
     refine CC.out.mono ?_;rintro e w1 ⟨rfl,hb1⟩;have HX2:=hid (HX.out.on hb1);clear CC HX hb1 c0 n0 n1 n2 n3 n4 n5 n6 n7 n8 n9 n10;have HCP:=hid (show countP m 0=(m.im.length:Int)+(m.fu.length:Int) from rfl);have HFU:=hid (fun (W':World)=>zEQ m W' HFI.out.im HFI.out.fu);unfold Md.v at HFU;go_wp2
     go_loopw [6] (fun vi wr=>∃q:Nat,vi=.int .i64 q∧q≤fs.length∧Hid (SX m w wr)∧Hid (∀z∈fs.take q,z<countP m 0)) (fun vi _=>fs.length-(intOf vi).toNat)
     case atStart=>exact⟨0,rfl,Nat.zero_le _,HX2,hid (by simp)⟩
     case round =>
      clear HX2;obtain⟨q,rfl,hq,HX,HQ⟩:=hrel;have hxx:=HX.out.bx;unfold Md.v at hxx;obtain⟨n0,n1,n2,n3,n4,n5,n6,n7,n8,n9,n10⟩:=zB.mod hxx;clear hxx;obtain⟨⟨b,off,ha,c1⟩,htg⟩:=HFS.out wr HX.out;rw[ha] at n9;have hfln:=HFL.out
      by_cases hlt:q<fs.length
      ·have hqi:(q:Int)<(fs.length:Int):=by omega
       obtain⟨b',off',hfa,hbn,hcell⟩:=htg.resolve_left (by intro e;rw[e] at hlt;simp at hlt);have cv0:=hcell q hlt;have HTK:=hid (show fs.take (q+1)=fs.take q++[fs.getD q 0] by rw[List.take_succ_eq_append_getElem hlt];simp[hlt]);have HZM:=hid (show fs.getD q 0∈fs by simp[hlt]);have hzr:=HFR.out _ HZM.out;have HAA:=hid ha;rw[hfa] at c1;obtain⟨z,hzz⟩:∃z,fs.getD q 0=z:=⟨_,rfl⟩;rw[hzz] at cv0 HTK HZM hzr;obtain⟨Z,rfl⟩:∃Z:Nat,z=(Z:Int):=⟨z.toNat,by omega⟩;have HX1:=hid HX.out.dr;have hz1:Z≤4294967295:=by omega
       have hwz:IntKind.i64.wrap (Z:Int)=(Z:Int):=by rw[IntKind.wrap_i64];omega
       have him:=hid HFI.out.im;have hfu:=hid HFI.out.fu;have HFUA:=hid (fun W'=>HFU.out W');rw[ha] at HFUA;clear htg hcell hbn hfa hzz ha hlt hq hzr
       by_cases hge:m.im.length+m.fu.length≤Z
       ·have hg2:(m.im.length:Int)+(m.fu.length:Int)≤(Z:Int):=by omega
        have hd1:decide (m.im.length+m.fu.length≤Z)=true:=decide_eq_true hge;have hd2:decide ((m.im.length:Int)+(m.fu.length:Int)≤(Z:Int))=true:=decide_eq_true hg2;have HS6:=hid (show (zz m 5 k).1=6 by rw[HSE.out.1,if_pos (List.any_eq_true.2 ⟨(Z:Int),HZM.out,by rw[HCP.out];simp;omega⟩)]);have HSN:=hid (show zL m 5 0 m.el.length=some ⟨6,9,k,0⟩ by rw[HS.out,HSK.out,if_neg (by rw[HS6.out];decide),HS6.out,HSE.out.2];rfl);have HRV:=hid (show RV=⟨6,9,k,0⟩ by rw[HSEC.out,yH (show zL m 5 0 (yV m 5)=some ⟨6,9,k,0⟩ from HSN.out)];rfl);have hS0:Below wr.heap.size wr wr.drew∧wr.drew.cell? ⟨w.heap.size,0,none⟩=some (.slice m.ty'.a m.ty.length m.ty'.c)∧wr.drew.cell? ⟨w.heap.size,1,none⟩=some (.slice m.im'.a m.im.length m.im'.c)∧wr.drew.cell? ⟨w.heap.size,2,none⟩=some (.slice m.fu'.a m.fu.length m.fu'.c)∧wr.drew.cell? ⟨w.heap.size,3,none⟩=some (.slice m.tb'.a m.tb.length m.tb'.c)∧wr.drew.cell? ⟨w.heap.size,4,none⟩=some (.slice m.me'.a m.me.length m.me'.c)∧wr.drew.cell? ⟨w.heap.size,5,none⟩=some (.slice m.gl'.a m.gl.length m.gl'.c)∧wr.drew.cell? ⟨w.heap.size,6,none⟩=some (.slice m.ex'.a m.ex.length m.ex'.c)∧wr.drew.cell? ⟨w.heap.size,7,none⟩=some (.bool m.st)∧wr.drew.cell? ⟨w.heap.size,8,none⟩=some (.int .u32 m.sn)∧wr.drew.cell? ⟨w.heap.size,9,none⟩=some (.slice (some ⟨b,off,none⟩) m.el.length m.el'.c)∧wr.drew.cell? ⟨w.heap.size,10,none⟩=some (.slice m.da'.a m.da.length m.da'.c)∧wr.drew.cell? ⟨b,off+k*2+1,none⟩=some (.slice (some ⟨b',off',none⟩) fs.length fc)∧wr.drew.cell? ⟨b',off'+q,none⟩=some (.int .u32 (Z:Int)):=⟨(Below.refl _ _).drew,n0,n1,n2,n3,n4,n5,n6,n7,n8,n9,n10,c1,cv0⟩
        go_upto_region 12 with fail
        (go_region_held3 (fun w'=>Below wr.heap.size wr w'∧w'.cell? ⟨w.heap.size,0,none⟩=some (.slice m.ty'.a m.ty.length m.ty'.c)∧w'.cell? ⟨w.heap.size,1,none⟩=some (.slice m.im'.a m.im.length m.im'.c)∧w'.cell? ⟨w.heap.size,2,none⟩=some (.slice m.fu'.a m.fu.length m.fu'.c)∧w'.cell? ⟨w.heap.size,3,none⟩=some (.slice m.tb'.a m.tb.length m.tb'.c)∧w'.cell? ⟨w.heap.size,4,none⟩=some (.slice m.me'.a m.me.length m.me'.c)∧w'.cell? ⟨w.heap.size,5,none⟩=some (.slice m.gl'.a m.gl.length m.gl'.c)∧w'.cell? ⟨w.heap.size,6,none⟩=some (.slice m.ex'.a m.ex.length m.ex'.c)∧w'.cell? ⟨w.heap.size,7,none⟩=some (.bool m.st)∧w'.cell? ⟨w.heap.size,8,none⟩=some (.int .u32 m.sn)∧w'.cell? ⟨w.heap.size,9,none⟩=some (.slice (some ⟨b,off,none⟩) m.el.length m.el'.c)∧w'.cell? ⟨w.heap.size,10,none⟩=some (.slice m.da'.a m.da.length m.da'.c)∧w'.cell? ⟨b,off+k*2+1,none⟩=some (.slice (some ⟨b',off',none⟩) fs.length fc)∧w'.cell? ⟨b',off'+q,none⟩=some (.int .u32 (Z:Int)))
          (first|assumption|exact qy (by assumption) (by assumption))
          (first|(go_at_call 200;(with_reducible refine (HFUA.out _).mono ?_);rintro e7 w1 ⟨rfl,hb1⟩)))
        clear hS0;have HX4:=hid (HX1.out.on hb1);clear hb1 HX1 HX c1 cv0 HFUA n0 n1 n2 n3 n4 n5 n6 n7 n8 n9 n10
        go_wp2_with fail
        refine (je 6 9 k 0 w1).mono ?_;rintro e w2 ⟨rfl,hb2⟩;have HX3:=hid (HX4.out.on hb2);clear hb2;obtain⟨r0,r1,r2,r3,s0,s1,s2,s3⟩:=HX3.out.rs.c;go_wp2;obtain⟨q1,q2⟩:=HX3.out.tell 6 9 k 0;exact bodyPost_ret (zU Tryz.results100 _ _ (w.heap.size+1) rfl q1) rfl ⟨by rw[HRV.out],q2⟩
       ·have hg2:¬((m.im.length:Int)+(m.fu.length:Int)≤(Z:Int)):=by omega
        have hd1:decide (m.im.length+m.fu.length≤Z)=false:=decide_eq_false hge;have hd2:decide ((m.im.length:Int)+(m.fu.length:Int)≤(Z:Int))=false:=decide_eq_false hg2
        have HQ1:=hid (show ∀z∈fs.take (q+1),z<countP m 0 by
          intro z hz;rw[HTK.out] at hz
          rcases List.mem_append.1 hz with hz|hz
          · exact HQ.out z hz
          · rw[List.mem_singleton.1 hz,HCP.out];omega)
        have hS0:Below wr.heap.size wr wr.drew∧wr.drew.cell? ⟨w.heap.size,0,none⟩=some (.slice m.ty'.a m.ty.length m.ty'.c)∧wr.drew.cell? ⟨w.heap.size,1,none⟩=some (.slice m.im'.a m.im.length m.im'.c)∧wr.drew.cell? ⟨w.heap.size,2,none⟩=some (.slice m.fu'.a m.fu.length m.fu'.c)∧wr.drew.cell? ⟨w.heap.size,3,none⟩=some (.slice m.tb'.a m.tb.length m.tb'.c)∧wr.drew.cell? ⟨w.heap.size,4,none⟩=some (.slice m.me'.a m.me.length m.me'.c)∧wr.drew.cell? ⟨w.heap.size,5,none⟩=some (.slice m.gl'.a m.gl.length m.gl'.c)∧wr.drew.cell? ⟨w.heap.size,6,none⟩=some (.slice m.ex'.a m.ex.length m.ex'.c)∧wr.drew.cell? ⟨w.heap.size,7,none⟩=some (.bool m.st)∧wr.drew.cell? ⟨w.heap.size,8,none⟩=some (.int .u32 m.sn)∧wr.drew.cell? ⟨w.heap.size,9,none⟩=some (.slice (some ⟨b,off,none⟩) m.el.length m.el'.c)∧wr.drew.cell? ⟨w.heap.size,10,none⟩=some (.slice m.da'.a m.da.length m.da'.c)∧wr.drew.cell? ⟨b,off+k*2+1,none⟩=some (.slice (some ⟨b',off',none⟩) fs.length fc)∧wr.drew.cell? ⟨b',off'+q,none⟩=some (.int .u32 (Z:Int)):=⟨(Below.refl _ _).drew,n0,n1,n2,n3,n4,n5,n6,n7,n8,n9,n10,c1,cv0⟩
        go_upto_region 12 with fail
        (go_region_held3 (fun w'=>Below wr.heap.size wr w'∧w'.cell? ⟨w.heap.size,0,none⟩=some (.slice m.ty'.a m.ty.length m.ty'.c)∧w'.cell? ⟨w.heap.size,1,none⟩=some (.slice m.im'.a m.im.length m.im'.c)∧w'.cell? ⟨w.heap.size,2,none⟩=some (.slice m.fu'.a m.fu.length m.fu'.c)∧w'.cell? ⟨w.heap.size,3,none⟩=some (.slice m.tb'.a m.tb.length m.tb'.c)∧w'.cell? ⟨w.heap.size,4,none⟩=some (.slice m.me'.a m.me.length m.me'.c)∧w'.cell? ⟨w.heap.size,5,none⟩=some (.slice m.gl'.a m.gl.length m.gl'.c)∧w'.cell? ⟨w.heap.size,6,none⟩=some (.slice m.ex'.a m.ex.length m.ex'.c)∧w'.cell? ⟨w.heap.size,7,none⟩=some (.bool m.st)∧w'.cell? ⟨w.heap.size,8,none⟩=some (.int .u32 m.sn)∧w'.cell? ⟨w.heap.size,9,none⟩=some (.slice (some ⟨b,off,none⟩) m.el.length m.el'.c)∧w'.cell? ⟨w.heap.size,10,none⟩=some (.slice m.da'.a m.da.length m.da'.c)∧w'.cell? ⟨b,off+k*2+1,none⟩=some (.slice (some ⟨b',off',none⟩) fs.length fc)∧w'.cell? ⟨b',off'+q,none⟩=some (.int .u32 (Z:Int)))
          (first|assumption|exact qy (by assumption) (by assumption))
          (first|(go_at_call 200;(with_reducible refine (HFUA.out _).mono ?_);rintro e7 w1 ⟨rfl,hb1⟩)))
        clear hS0;have HX4:=hid (HX1.out.on hb1);clear hb1 HX1 HX c1 cv0 HFUA n0 n1 n2 n3 n4 n5 n6 n7 n8 n9 n10;go_wp2
        go_roundw
        case rel=>exact⟨q+1,by go_num,by omega,HX4,HQ1⟩
        case measure=>simp[intOf];omega
      ·have hqk:q=fs.length:=by omega
       have HSN:=hid (show zL m 5 0 m.el.length=zL m 5 (k+1) (m.el.length-(k+1)) by
         have h0:(zz m 5 k).1=0:=by
           rw[HSE.out.1,if_neg (by
             intro h;obtain⟨z,hz,h2⟩:=List.any_eq_true.1 h;have:=HQ.out z (by rw[hqk,List.take_length];exact hz);simp at h2;omega)]
         rw[HS.out,HSK.out,if_pos h0])
       have hqi:¬((q:Int)<(fs.length:Int)):=by omega
       clear hlt hq HQ HSE HSK HS htg hqk;go_wp2
       go_roundw
       case rel=>exact⟨k+1,by go_num,by omega,HX,HSN⟩
       case measure=>simp[intOf];omega
    ·rw[if_pos hz] at HSE
     have HSN:=hid (show zL m 5 0 m.el.length=some ⟨ce,9,k,0⟩ by rw[HS.out,HSK.out,if_neg (by rw[HSE.out.1];exact hz),HSE.out.1,HSE.out.2];rfl);have HRV:=hid (show RV=⟨ce,9,k,0⟩ by rw[HSEC.out,yH (show zL m 5 0 (yV m 5)=some ⟨ce,9,k,0⟩ from HSN.out)];rfl);have hne:(ce != 0)=true:=by simpa using hz
     clear hz HSE HSK HS
     go_wp2_with fail
     refine CC.out.mono ?_;rintro e w1 ⟨rfl,hb1⟩;have HX2:=hid (HX.out.on hb1);clear CC HX hb1 c0 n0 n1 n2 n3 n4 n5 n6 n7 n8 n9 n10
     go_wp2_with fail
     refine (je ce 9 k 0 w1).mono ?_;rintro e w2 ⟨rfl,hb2⟩;have HX3:=hid (HX2.out.on hb2);clear hb2;obtain⟨r0,r1,r2,r3,s0,s1,s2,s3⟩:=HX3.out.rs.c;go_wp2;obtain⟨q1,q2⟩:=HX3.out.tell ce 9 k 0;exact bodyPost_ret (zU Tryz.results100 _ _ (w.heap.size+1) rfl q1) rfl ⟨by rw[HRV.out],q2⟩
  ·have hkn:k=m.el.length:=by omega
   have HSN:=hid (show zL m 5 0 m.el.length=none by rw[HS.out,hkn,Nat.sub_self];rfl);have HRV:=hid (show RV=⟨0,0,0,0⟩ by rw[HSEC.out,yU (show zL m 5 0 (yV m 5)=none from HSN.out)];rfl);have hki:¬((k:Int)<(m.el.length:Int)):=by omega
   clear HS HSN hk hlt hkn;obtain⟨r0,r1,r2,r3,s0,s1,s2,s3⟩:=HX.out.rs.c;go_wp2;obtain⟨q1,q2⟩:=HX.out.tell 0 0 0 0;exact bodyPost_ret (zU Tryz.results100 _ _ (w.heap.size+1) rfl q1) rfl ⟨by rw[HRV.out],q2⟩
theorem zCq {m:Md} {j:Nat}:∀(n k:Nat) {r:Wr},zL m j k n=some r→r.e≠0
 | 0,k,r,h=>by simp[zL] at h
 | n+1,k,r,h=>by
  unfold zL at h
  by_cases hz:(zz m j k).1=0
  ·rw[if_pos hz] at h;exact zCq n (k+1) h
  ·rw[if_neg hz] at h;cases h;exact hz
theorem ZF {m:Md}:∀(c j:Nat) {r:Wr},zZ m j c=some r→r.e≠0
 | 0,j,r,h=>by simp[zZ] at h
 | c+1,j,r,h=>by
  cases hs:zL m j 0 (yV m j) with
  | some q=>rw[yH hs] at h;cases h;exact zCq _ _ hs
  | none=>rw[yU hs] at h;exact ZF c (j+1) h
def W4 (W:World) (g:Nat) (r:Wr):World:=(((W.setCell ⟨g,0,none⟩ (.int .i64 r.e)).setCell ⟨g,1,none⟩ (.int .i64 r.s)).setCell ⟨g,2,none⟩ (.int .i64 r.i)).setCell ⟨g,3,none⟩ (.int .i64 r.a)
theorem SX.w4 {m:Md} {w wr:World} (h:SX m w wr) {g:Nat} (hg:w.heap.size+1<g) (r:Wr):SX m w (W4 wr g r):=by
 have hs:zF g wr (W4 wr g r):=(((zF.setCell (p:=⟨g,0,none⟩) (zF.refl g wr) (.inl rfl) _).setCell (p:=⟨g,1,none⟩) (.inl rfl) _).setCell (p:=⟨g,2,none⟩) (.inl rfl) _).setCell (p:=⟨g,3,none⟩) (.inl rfl) _;refine⟨fun j x hj=>hs.cell (by show w.heap.size≠g;omega) (h.bx j x hj),(hs.block _ h.rs.lt (by omega)).trans h.rs,h.bl.trans (hs.below h.bl.size (by omega))⟩
theorem zC5 {W:World} {g:Nat} {q:Wr} (h:Bx4 W g q) (r:Wr):Bx4 (W4 W g r) g r:=h.set r.e r.s r.i r.a
theorem zHL (m:Md) (w:World) (hm:zN w.heap.size w m) (hf:m.few) (hrg:Rg m) (hna:∀s∈m.names,s.size≤1000000) (hnn:∀l∈m.codes,kr l.t) :
  Calls Tryz.prog 50 #[.agg m.v] w fun e w'=>e=.returned (.agg (qK m).v)∧Below w.heap.size w w':=by
 obtain⟨W0,hW0⟩:∃W0,W0=((w.alloc (.cells m.v 40)).alloc (.cells #[.int .i64 0,.int .i64 0,.int .i64 0,.int .i64 0] 120)):=⟨_,rfl⟩;have HX:Hid (SX m w W0):=hid (by rw[hW0];exact SX.start m w);have HW:=hid hW0;have CK:=hid (fun (W:World) (hX:SX m w W)=>zAA m W (hm.on hX.bl) hf hna);have CH:=hid (fun (W:World) (hX:SX m w W) (hF:ky m)=>zHB m W (hm.on hX.bl) hf hF);have CE:=hid (fun (W:World) (hX:SX m w W) (hF:ky m)=>zE5 m W (hm.on hX.bl) hf hF hrg);have CL:=hid (fun (W:World) (hX:SX m w W) (hF:ky m)=>zG5 m W (hm.on hX.bl) hf hF hrg);have CR:=hid (fun (W:World) (hX:SX m w W) (hF:ky m) (h:zZ m 0 3=none)=>zIQ m W (hm.on hX.bl) hf hF hnn (zGH h));have HFI:=hid (fun h=>YS (m:=m) h);have HP:=hid (show qK m=if m.check=0 then (zZ m 0 8).getD ⟨0,0,0,0⟩ else ⟨m.check,0,0,0⟩ from rfl);have HS1:=hid (kT m 5 3 0);have HS2:=hid (kT m 3 2 3);have HS3:=hid (kT m 2 1 5);obtain⟨RV,hRV⟩:∃r,qK m=r:=⟨_,rfl⟩;rw[hRV] at HP ⊢;have hxx:=HX.out.bx;clear hm hf hrg hna hnn hW0 hRV;unfold Md.v at HW hxx CK CH CE CL CR ⊢;obtain⟨n0,n1,n2,n3,n4,n5,n6,n7,n8,n9,n10⟩:=zB.mod hxx;clear hxx;have C1:=hid (CK.out W0 HX.out);obtain⟨ck,hck⟩:∃c,m.check=c:=⟨_,rfl⟩;rw[hck] at C1 HFI HP;clear hck CK
 go_enter Tryz.func50,Tryz.ntmps50
 go_upto_region 1 with fail
 rw[←HW.out];clear HW
 go_wp2_with fail
 refine C1.out.mono ?_;rintro e w1 ⟨rfl,hb1⟩;have HX1:=hid (HX.out.on hb1);clear C1 hb1 HX n0 n1 n2 n3 n4 n5 n6 n7 n8 n9 n10
 by_cases hc:ck=0
 ·have HF:=hid (HFI.out hc)
  subst hc;rw[if_pos rfl] at HP;have C2:=hid (CH.out w1 HX1.out HF.out);have hxx:=HX1.out.bx;unfold Md.v at hxx;obtain⟨n0,n1,n2,n3,n4,n5,n6,n7,n8,n9,n10⟩:=zB.mod hxx;clear hxx
  go_wp2_with fail
  refine C2.out.mono ?_;rintro e w2 ⟨rfl,hb2⟩;have HX2:=hid (HX1.out.on hb2);clear C2 hb2 HX1 n0 n1 n2 n3 n4 n5 n6 n7 n8 n9 n10;obtain⟨o1,ho1⟩:∃o,zZ m 0 3=o:=⟨_,rfl⟩;have hne1:=fun r=>ZF (m:=m) 3 0 (r:=r)
  rw[ho1] at HS1 hne1 ⊢;have HO1:=hid ho1;clear ho1;obtain⟨R1,hR1⟩:∃R,o1.getD ⟨0,0,0,0⟩=R:=⟨_,rfl⟩;rw[hR1];have hbx:Bx4 (w2.alloc (.cells R1.v 120)) w2.heap.size R1:=heap_alloc_new w2 _;have HX3:=hid (HX2.out.on (zG w2 (.cells R1.v 120)));have HGS:=hid (show w.heap.size+1<w2.heap.size from HX2.out.rs.lt);obtain⟨g4,hg4⟩:∃g,w2.heap.size=g:=⟨_,rfl⟩;rw[hg4] at hbx HGS;obtain⟨W3,hW3⟩:∃W,W=w2.alloc (.cells R1.v 120):=⟨_,rfl⟩;rw[←hW3] at hbx HX3;unfold Wr.v at hW3 ⊢;have HW3:=hid hW3;have HG4:=hid hg4;have HB3:=hid hbx;obtain⟨ee,es,ei,ea⟩:=R1;dsimp only at HW3 ⊢;clear hW3 hg4 hbx HX2
  go_upto_region 5 with fail
  rw[←HW3.out,HG4.out];clear HW3 HG4
  cases o1 with
  | some q =>
   have hq:q=⟨ee,es,ei,ea⟩:=hR1
   have hef:(ee==0)=false:=by
    have:=hne1 q rfl;rw[hq] at this;simpa using this
   have HRV:=hid (show RV=⟨ee,es,ei,ea⟩ by rw[←hq];rw[HP.out,show zZ m 0 8=_ from HS1.out];rfl);clear hq hR1 hne1;obtain⟨e0,e1,e2,e3,-⟩:=HB3.out.c;obtain⟨r0,r1,r2,r3,s0,s1,s2,s3⟩:=HX3.out.rs.c;go_wp2;obtain⟨q1,q2⟩:=HX3.out.tell ee es ei ea;exact bodyPost_ret (zU Tryz.results50 _ _ (w.heap.size+1) rfl q1) rfl ⟨by rw[HRV.out],q2⟩
  | none =>
   have hq:(⟨0,0,0,0⟩:Wr)=⟨ee,es,ei,ea⟩:=hR1;simp only[Wr.mk.injEq] at hq;obtain⟨rfl,rfl,rfl,rfl⟩:=hq;clear hR1 hne1;have C2:=hid (CE.out W3 HX3.out HF.out);have hxx:=HX3.out.bx;unfold Md.v at hxx;obtain⟨n0,n1,n2,n3,n4,n5,n6,n7,n8,n9,n10⟩:=zB.mod hxx;clear hxx;obtain⟨e0,-⟩:=HB3.out.c
   go_wp2_with fail
   refine C2.out.mono ?_;rintro e w2 ⟨rfl,hb2⟩;have HX4:=hid (HX3.out.on hb2);have HB4:=hid (HB3.out.on hb2);clear C2 hb2 HX3 HB3 e0 n0 n1 n2 n3 n4 n5 n6 n7 n8 n9 n10;obtain⟨o2,ho2⟩:∃o,zZ m 3 2=o:=⟨_,rfl⟩;have hne2:=fun r=>ZF (m:=m) 2 3 (r:=r)
   rw[ho2] at HS2 hne2 ⊢;have HO2:=hid ho2;clear ho2;obtain⟨R,hR2⟩:∃R,o2.getD ⟨0,0,0,0⟩=R:=⟨_,rfl⟩;rw[hR2];obtain⟨e0,e1,e2,e3,f0,f1,f2,f3⟩:=HB4.out.c;obtain⟨ee1,es1,ei1,ea1⟩:=R;unfold Wr.v;dsimp only at e0 e1 e2 e3 ⊢
   go_upto_region 7 with fail
   obtain⟨W3,hW3⟩:∃W,W=W4 w2 g4 ⟨ee1,es1,ei1,ea1⟩:=⟨_,rfl⟩;rw[show ((((w2.setCell ⟨g4,0,none⟩ (.int .i64 ee1)).setCell ⟨g4,1,none⟩ (.int .i64 es1)).setCell ⟨g4,2,none⟩ (.int .i64 ei1)).setCell ⟨g4,3,none⟩ (.int .i64 ea1))=W3 from hW3.symm];have HX3:=hid (HX4.out.w4 HGS.out ⟨ee1,es1,ei1,ea1⟩);have HB3:=hid (zC5 HB4.out ⟨ee1,es1,ei1,ea1⟩);rw[←hW3] at HX3 HB3;clear HX4 HB4 e0 e1 e2 e3 f0 f1 f2 f3 hW3
   cases o2 with
   | some q =>
    have hq:q=⟨ee1,es1,ei1,ea1⟩:=hR2
    have hef:(ee1==0)=false:=by
     have:=hne2 q rfl;rw[hq] at this;simpa using this
    have HRV:=hid (show RV=⟨ee1,es1,ei1,ea1⟩ by rw[←hq];rw[HP.out,show zZ m 0 8=_ from HS1.out];(try dsimp only);rw[show zZ m (0+3) 5=_ from HS2.out];rfl);clear hq hR2 hne2;obtain⟨e0,e1,e2,e3,-⟩:=HB3.out.c;obtain⟨r0,r1,r2,r3,s0,s1,s2,s3⟩:=HX3.out.rs.c;go_wp2;obtain⟨q1,q2⟩:=HX3.out.tell ee1 es1 ei1 ea1;exact bodyPost_ret (zU Tryz.results50 _ _ (w.heap.size+1) rfl q1) rfl ⟨by rw[HRV.out],q2⟩
   | none =>
    have hq:(⟨0,0,0,0⟩:Wr)=⟨ee1,es1,ei1,ea1⟩:=hR2;simp only[Wr.mk.injEq] at hq;obtain⟨rfl,rfl,rfl,rfl⟩:=hq;clear hR2 hne2;have C2:=hid (CL.out W3 HX3.out HF.out);have hxx:=HX3.out.bx;unfold Md.v at hxx;obtain⟨n0,n1,n2,n3,n4,n5,n6,n7,n8,n9,n10⟩:=zB.mod hxx;clear hxx;obtain⟨e0,-⟩:=HB3.out.c
    go_wp2_with fail
    refine C2.out.mono ?_;rintro e w2 ⟨rfl,hb2⟩;have HX4:=hid (HX3.out.on hb2);have HB4:=hid (HB3.out.on hb2);clear C2 hb2 HX3 HB3 e0 n0 n1 n2 n3 n4 n5 n6 n7 n8 n9 n10;obtain⟨o3,ho3⟩:∃o,zZ m 5 1=o:=⟨_,rfl⟩;have hne3:=fun r=>ZF (m:=m) 1 5 (r:=r)
    rw[ho3] at HS3 hne3 ⊢;have HO3:=hid ho3;clear ho3;obtain⟨R,hR3⟩:∃R,o3.getD ⟨0,0,0,0⟩=R:=⟨_,rfl⟩;rw[hR3];obtain⟨e0,e1,e2,e3,f0,f1,f2,f3⟩:=HB4.out.c;obtain⟨ee2,es2,ei2,ea2⟩:=R;unfold Wr.v;dsimp only at e0 e1 e2 e3 ⊢
    go_upto_region 9 with fail
    obtain⟨W3,hW3⟩:∃W,W=W4 w2 g4 ⟨ee2,es2,ei2,ea2⟩:=⟨_,rfl⟩;rw[show ((((w2.setCell ⟨g4,0,none⟩ (.int .i64 ee2)).setCell ⟨g4,1,none⟩ (.int .i64 es2)).setCell ⟨g4,2,none⟩ (.int .i64 ei2)).setCell ⟨g4,3,none⟩ (.int .i64 ea2))=W3 from hW3.symm];have HX3:=hid (HX4.out.w4 HGS.out ⟨ee2,es2,ei2,ea2⟩);have HB3:=hid (zC5 HB4.out ⟨ee2,es2,ei2,ea2⟩);rw[←hW3] at HX3 HB3;clear HX4 HB4 e0 e1 e2 e3 f0 f1 f2 f3 hW3
    cases o3 with
    | some q =>
     have hq:q=⟨ee2,es2,ei2,ea2⟩:=hR3
     have hef:(ee2==0)=false:=by
      have:=hne3 q rfl;rw[hq] at this;simpa using this
     have HRV:=hid (show RV=⟨ee2,es2,ei2,ea2⟩ by rw[←hq];rw[HP.out,show zZ m 0 8=_ from HS1.out];(try dsimp only);rw[show zZ m (0+3) 5=_ from HS2.out];(try dsimp only);rw[show zZ m (3+2) 3=_ from HS3.out];rfl);clear hq hR3 hne3;obtain⟨e0,e1,e2,e3,-⟩:=HB3.out.c;obtain⟨r0,r1,r2,r3,s0,s1,s2,s3⟩:=HX3.out.rs.c;go_wp2;obtain⟨q1,q2⟩:=HX3.out.tell ee2 es2 ei2 ea2;exact bodyPost_ret (zU Tryz.results50 _ _ (w.heap.size+1) rfl q1) rfl ⟨by rw[HRV.out],q2⟩
    | none =>
     have hq:(⟨0,0,0,0⟩:Wr)=⟨ee2,es2,ei2,ea2⟩:=hR3;simp only[Wr.mk.injEq] at hq;obtain⟨rfl,rfl,rfl,rfl⟩:=hq;clear hR3 hne3;have C2:=hid (CR.out W3 HX3.out HF.out HO1.out);have hxx:=HX3.out.bx;unfold Md.v at hxx;obtain⟨n0,n1,n2,n3,n4,n5,n6,n7,n8,n9,n10⟩:=zB.mod hxx;clear hxx;obtain⟨e0,-⟩:=HB3.out.c
     go_wp2_with fail
     refine C2.out.mono ?_;rintro e w2 ⟨rfl,hb2⟩;have HX4:=hid (HX3.out.on hb2);have HB4:=hid (HB3.out.on hb2);clear C2 hb2 HX3 HB3 e0 n0 n1 n2 n3 n4 n5 n6 n7 n8 n9 n10;obtain⟨o4,ho4⟩:∃o,zZ m 6 2=o:=⟨_,rfl⟩;have hne4:=fun r=>ZF (m:=m) 2 6 (r:=r)
     rw[ho4] at hne4 ⊢;have HO4:=hid ho4;clear ho4;obtain⟨R,hR4⟩:∃R,o4.getD ⟨0,0,0,0⟩=R:=⟨_,rfl⟩;rw[hR4];obtain⟨e0,e1,e2,e3,f0,f1,f2,f3⟩:=HB4.out.c;obtain⟨ee3,es3,ei3,ea3⟩:=R;unfold Wr.v;dsimp only at e0 e1 e2 e3 ⊢
     go_upto_region 11 with fail
     obtain⟨W3,hW3⟩:∃W,W=W4 w2 g4 ⟨ee3,es3,ei3,ea3⟩:=⟨_,rfl⟩;rw[show ((((w2.setCell ⟨g4,0,none⟩ (.int .i64 ee3)).setCell ⟨g4,1,none⟩ (.int .i64 es3)).setCell ⟨g4,2,none⟩ (.int .i64 ei3)).setCell ⟨g4,3,none⟩ (.int .i64 ea3))=W3 from hW3.symm];have HX3:=hid (HX4.out.w4 HGS.out ⟨ee3,es3,ei3,ea3⟩);have HB3:=hid (zC5 HB4.out ⟨ee3,es3,ei3,ea3⟩);rw[←hW3] at HX3 HB3;clear HX4 HB4 e0 e1 e2 e3 f0 f1 f2 f3 hW3;have HRV:=hid (show RV=⟨ee3,es3,ei3,ea3⟩ by rw[HP.out,show zZ m 0 8=_ from HS1.out];(try dsimp only);rw[show zZ m (0+3) 5=_ from HS2.out];(try dsimp only);rw[show zZ m (3+2) 3=_ from HS3.out];(try dsimp only);rw[show zZ m (5+1) 2=_ from HO4.out];exact hR4)
     by_cases hz:ee3=0
     ·subst hz
      obtain⟨e0,e1,e2,e3,-⟩:=HB3.out.c;obtain⟨r0,r1,r2,r3,s0,s1,s2,s3⟩:=HX3.out.rs.c;go_wp2;obtain⟨q1,q2⟩:=HX3.out.tell 0 es3 ei3 ea3;exact bodyPost_ret (zU Tryz.results50 _ _ (w.heap.size+1) rfl q1) rfl ⟨by rw[HRV.out],q2⟩
     ·have hef:(ee3==0)=false:=by simpa using hz
      clear hz;obtain⟨e0,e1,e2,e3,-⟩:=HB3.out.c;obtain⟨r0,r1,r2,r3,s0,s1,s2,s3⟩:=HX3.out.rs.c;go_wp2;obtain⟨q1,q2⟩:=HX3.out.tell ee3 es3 ei3 ea3;exact bodyPost_ret (zU Tryz.results50 _ _ (w.heap.size+1) rfl q1) rfl ⟨by rw[HRV.out],q2⟩
 ·rw[if_neg hc] at HP
  have hne:(ck != 0)=true:=by simpa using hc
  have HRV:=hid HP.out;clear hc HP;obtain⟨r0,r1,r2,r3,s0,s1,s2,s3⟩:=HX1.out.rs.c;go_wp2;obtain⟨q1,q2⟩:=HX1.out.tell ck 0 0 0;exact bodyPost_ret (zU Tryz.results50 _ _ (w.heap.size+1) rfl q1) rfl ⟨by rw[HRV.out],q2⟩
theorem zJI (m:Md) (n:Int) (w:World) (hm:zN w.heap.size w m) (hf:m.few) (hna:∀s∈m.names,s.size≤1000000) :
  Calls Tryz.prog 48 #[.agg m.v,.int .i64 n] w fun e w'=>e=.returned (.tuple #[.int .i64 (Md.docBody m n).1,.int .i64 (Md.docBody m n).2])∧Below w.heap.size w w':=by
 obtain⟨W0,hW0⟩:∃W0,W0=w.alloc (.cells m.v 40):=⟨_,rfl⟩;have hb0:Below w.heap.size w W0:=by rw[hW0];exact zG _ _
 have hx0:zB W0 w.heap.size m.v:=by rw[hW0];exact zB.made w m.v _
 have HX:=hid hx0;have HB:=hid hb0;have HW:=hid hW0;have C1:=hid (zAA m W0 (hm.on hb0) hf hna);have HFI:=hid (fun h=>YS (m:=m) h);have HM:=hid hm;have HF:=hid hf;have HP:=hid (show Md.docBody m n=if m.check≠0 then (m.check,0) else if (n<0∨(m.fu.length:Int)≤n)∨(m.ty.length:Int)≤(yL m n.toNat).ty then (6,0) else Md.bodyJ m n.toNat from rfl);obtain⟨⟨RE,RA⟩,hR⟩:∃r,Md.docBody m n=r:=⟨_,rfl⟩;rw[hR] at HP ⊢;obtain⟨ck,hck⟩:∃c,m.check=c:=⟨_,rfl⟩;rw[hck] at C1 HFI HP;have hffu:=hf.fit.fu;have hxx:=hx0;clear hm hf hna hW0 hb0 hx0 hR hck;unfold Md.v at HW hxx C1 ⊢;obtain⟨n0,n1,n2,n3,n4,n5,n6,n7,n8,n9,n10⟩:=zB.mod hxx;clear hxx;dsimp only
 go_enter Tryz.func48,Tryz.ntmps48
 go_upto_region 1 with fail
 rw[←HW.out];clear HW
 go_wp2_with fail
 refine C1.out.mono ?_;rintro e w1 ⟨rfl,hb1⟩;have HX1:=hid (HX.out.keep hb1);have HB1:=hid (zM HB.out hb1);clear C1 hb1 HX HB n0 n1 n2 n3 n4 n5 n6 n7 n8 n9 n10
 by_cases hc:ck=0
 ·have HFN:=hid (HFI.out hc)
  subst hc;rw[if_neg (by simp)] at HP;have hxx:=HX1.out;unfold Md.v at hxx;obtain⟨n0,n1,n2,n3,n4,n5,n6,n7,n8,n9,n10⟩:=zB.mod hxx;clear hxx
  by_cases h0:n<0
  ·have HRV:=hid (show (RE,RA)=((6,0):Int×Int) by rw[HP.out,if_pos (.inl (.inl h0))])
   have e1:RE=6:=congrArg Prod.fst HRV.out;have e2:RA=0:=congrArg Prod.snd HRV.out;subst e1 e2;have hd:decide (n<0)=true:=decide_eq_true h0
   go_upto_region 4 with fail
   go_quiet (fail)
   go_wp2;go_ret2;exact⟨rfl,by have:=HB1.out;exact⟨this.os,this.tape,this.output,this.size,this.block⟩⟩
  ·by_cases h1:(m.fu.length:Int)≤n
   ·have HRV:=hid (show (RE,RA)=((6,0):Int×Int) by rw[HP.out,if_pos (.inl (.inr h1))])
    have e1:RE=6:=congrArg Prod.fst HRV.out;have e2:RA=0:=congrArg Prod.snd HRV.out;subst e1 e2;have hd:decide (n<0)=false:=decide_eq_false h0;have hd2:decide ((m.fu.length:Int)≤n)=true:=decide_eq_true h1
    go_upto_region 4 with fail
    go_quiet (fail)
    go_wp2;go_ret2;exact⟨rfl,by have:=HB1.out;exact⟨this.os,this.tape,this.output,this.size,this.block⟩⟩
   ·obtain⟨k,rfl⟩:∃k:Nat,n=(k:Int):=⟨n.toNat,by omega⟩
    have hk:k<m.fu.length:=by omega
    obtain⟨b,off,ha,hbn,hcc⟩:=Rows.get (HM.out.below HB1.out).fu hk;have hat:yL m k=m.fu[k]:=by unfold yL;simp[hk]
    have c0:w1.cell? ⟨b,off+k*3,none⟩=some (.int .i64 (yL m k).ty):=by rw[hat];exact hcc 0 (by omega) _ rfl
    have hty:0≤(yL m k).ty:=by rw[hat];exact HFN.out.ty _ (List.getElem_mem hk)
    have CT:=hid (fun (W:World)=>zBF m (yL m k).ty W hty);unfold Md.v at CT;rw[ha] at n2 CT;have hdn:decide ((k:Int)<0)=false:=decide_eq_false (by omega);have hdf:decide ((m.fu.length:Int)≤(k:Int))=false:=decide_eq_false (by omega);have hdf':decide (m.fu.length≤k)=false:=decide_eq_false (by omega);have hki:(k:Int)<(m.fu.length:Int):=by omega
    have HKL:=hid hk;have HHA:=hid ha;have HTE:=hid (show (yL m ((k:Int)).toNat).ty=(yL m k).ty by rw[Int.toNat_natCast]);obtain⟨ty,hte⟩:∃t,(yL m k).ty=t:=⟨_,rfl⟩;rw[hte] at c0 CT hty HTE;have hS0:Below w1.heap.size w1 w1.drew∧w1.drew.cell? ⟨w.heap.size,0,none⟩=some (.slice m.ty'.a m.ty.length m.ty'.c)∧w1.drew.cell? ⟨w.heap.size,1,none⟩=some (.slice m.im'.a m.im.length m.im'.c)∧w1.drew.cell? ⟨w.heap.size,2,none⟩=some (.slice (some ⟨b,off,none⟩) m.fu.length m.fu'.c)∧w1.drew.cell? ⟨w.heap.size,3,none⟩=some (.slice m.tb'.a m.tb.length m.tb'.c)∧w1.drew.cell? ⟨w.heap.size,4,none⟩=some (.slice m.me'.a m.me.length m.me'.c)∧w1.drew.cell? ⟨w.heap.size,5,none⟩=some (.slice m.gl'.a m.gl.length m.gl'.c)∧w1.drew.cell? ⟨w.heap.size,6,none⟩=some (.slice m.ex'.a m.ex.length m.ex'.c)∧w1.drew.cell? ⟨w.heap.size,7,none⟩=some (.bool m.st)∧w1.drew.cell? ⟨w.heap.size,8,none⟩=some (.int .u32 m.sn)∧w1.drew.cell? ⟨w.heap.size,9,none⟩=some (.slice m.el'.a m.el.length m.el'.c)∧w1.drew.cell? ⟨w.heap.size,10,none⟩=some (.slice m.da'.a m.da.length m.da'.c)∧w1.drew.cell? ⟨b,off+k*3,none⟩=some (.int .i64 ty):=⟨(Below.refl _ _).drew,n0,n1,n2,n3,n4,n5,n6,n7,n8,n9,n10,c0⟩;clear hcc hat hbn ha hk h0 h1 hte n0 n1 n2 n3 n4 n5 n6 n7 n8 n9 n10 c0
    by_cases ht:ty<(m.ty.length:Int)
    ·have hd3:decide (ty<(m.ty.length:Int))=true:=decide_eq_true ht
     rw[hd3] at CT;have HRV:=hid (show (RE,RA)=Md.bodyJ m k by rw[HP.out,if_neg (by rw[HTE.out];omega)];simp);have CBD:=hid (fun (W:World) (hb:Below w.heap.size w W)=>zA5 m W k ((HM.out.below hb).more hb.size) HF.out.fit HFN.out HKL.out (by have:=HTE.out;rw[Int.toNat_natCast] at this;rw[this];exact ht));rw[←HRV.out] at CBD;unfold Md.v at CBD;rw[HHA.out] at CBD;clear ht hd3
     go_upto_region 4 with fail
     (go_region_held3 (fun w'=>Below w1.heap.size w1 w'∧w'.cell? ⟨w.heap.size,0,none⟩=some (.slice m.ty'.a m.ty.length m.ty'.c)∧w'.cell? ⟨w.heap.size,1,none⟩=some (.slice m.im'.a m.im.length m.im'.c)∧w'.cell? ⟨w.heap.size,2,none⟩=some (.slice (some ⟨b,off,none⟩) m.fu.length m.fu'.c)∧w'.cell? ⟨w.heap.size,3,none⟩=some (.slice m.tb'.a m.tb.length m.tb'.c)∧w'.cell? ⟨w.heap.size,4,none⟩=some (.slice m.me'.a m.me.length m.me'.c)∧w'.cell? ⟨w.heap.size,5,none⟩=some (.slice m.gl'.a m.gl.length m.gl'.c)∧w'.cell? ⟨w.heap.size,6,none⟩=some (.slice m.ex'.a m.ex.length m.ex'.c)∧w'.cell? ⟨w.heap.size,7,none⟩=some (.bool m.st)∧w'.cell? ⟨w.heap.size,8,none⟩=some (.int .u32 m.sn)∧w'.cell? ⟨w.heap.size,9,none⟩=some (.slice m.el'.a m.el.length m.el'.c)∧w'.cell? ⟨w.heap.size,10,none⟩=some (.slice m.da'.a m.da.length m.da'.c)∧w'.cell? ⟨b,off+k*3,none⟩=some (.int .i64 ty))
       (first|assumption|exact ZP (by assumption) (by assumption))
       (first|(go_at_call 95;(with_reducible refine (CT.out _).mono ?_);rintro e7 w7 ⟨rfl,hb7⟩)))
     have HB7:=hid (zM HB1.out ⟨hb7.os,hb7.tape,hb7.output,hb7.size,hb7.block⟩);have HX7:=hid (HX1.out.keep (show Below w1.heap.size w1 w7 from ⟨hb7.os,hb7.tape,hb7.output,hb7.size,hb7.block⟩));clear hS0 hb7;have hxx:=HX7.out;unfold Md.v at hxx;rw[HHA.out] at hxx;obtain⟨n0,n1,n2,n3,n4,n5,n6,n7,n8,n9,n10⟩:=zB.mod hxx;clear hxx
     go_wp2_with fail
     refine (CBD.out w7 HB7.out).mono ?_;rintro e w8 ⟨rfl,hb8⟩;have HB8:=hid (zM HB7.out hb8);clear hb8 n0 n1 n2 n3 n4 n5 n6 n7 n8 n9 n10;go_wp2;go_ret2;exact⟨rfl,HB8.out⟩
    ·have hd3:decide (ty<(m.ty.length:Int))=false:=decide_eq_false ht
     rw[hd3] at CT;have HRV:=hid (show (RE,RA)=((6,0):Int×Int) by rw[HP.out,if_pos (.inr (by rw[HTE.out];omega))]);have e1:RE=6:=congrArg Prod.fst HRV.out;have e2:RA=0:=congrArg Prod.snd HRV.out;subst e1 e2;clear ht hd3
     go_upto_region 4 with fail
     (go_region_held3 (fun w'=>Below w1.heap.size w1 w'∧w'.cell? ⟨w.heap.size,0,none⟩=some (.slice m.ty'.a m.ty.length m.ty'.c)∧w'.cell? ⟨w.heap.size,1,none⟩=some (.slice m.im'.a m.im.length m.im'.c)∧w'.cell? ⟨w.heap.size,2,none⟩=some (.slice (some ⟨b,off,none⟩) m.fu.length m.fu'.c)∧w'.cell? ⟨w.heap.size,3,none⟩=some (.slice m.tb'.a m.tb.length m.tb'.c)∧w'.cell? ⟨w.heap.size,4,none⟩=some (.slice m.me'.a m.me.length m.me'.c)∧w'.cell? ⟨w.heap.size,5,none⟩=some (.slice m.gl'.a m.gl.length m.gl'.c)∧w'.cell? ⟨w.heap.size,6,none⟩=some (.slice m.ex'.a m.ex.length m.ex'.c)∧w'.cell? ⟨w.heap.size,7,none⟩=some (.bool m.st)∧w'.cell? ⟨w.heap.size,8,none⟩=some (.int .u32 m.sn)∧w'.cell? ⟨w.heap.size,9,none⟩=some (.slice m.el'.a m.el.length m.el'.c)∧w'.cell? ⟨w.heap.size,10,none⟩=some (.slice m.da'.a m.da.length m.da'.c)∧w'.cell? ⟨b,off+k*3,none⟩=some (.int .i64 ty))
       (first|assumption|exact ZP (by assumption) (by assumption))
       (first|(go_at_call 95;(with_reducible refine (CT.out _).mono ?_);rintro e7 w7 ⟨rfl,hb7⟩)))
     have HB7:=hid (zM HB1.out ⟨hb7.os,hb7.tape,hb7.output,hb7.size,hb7.block⟩);clear hS0 hb7;go_wp2;go_ret2;exact⟨rfl,HB7.out⟩
 ·rw[if_pos hc] at HP
  have e1:RE=ck:=congrArg Prod.fst HP.out;have e2:RA=0:=congrArg Prod.snd HP.out;subst e1 e2;have hne:(RE != 0)=true:=by simpa using hc
  clear hc HP;go_wp2;go_ret2;exact⟨rfl,HB1.out⟩
end Val
end Go.Proofs.YtdljneclfgneoaaGreatDoor
