import Derived.Test.YtdljneclfgneoaaGreatDoorVt19
import Derived.RegionTactic
import Derived.BigRegion
import Derived.Deep.QuietTactic
import Derived.BigQuiet
import Derived.Deep.RegionLaw
set_option linter.unusedVariables false
set_option linter.ambiguousOpen false
set_option maxRecDepth 100000
set_option maxHeartbeats 8000000
namespace Go.Proofs.YtdljneclfgneoaaGreatDoor
namespace Instr
end Instr
namespace Mod
open Go.RowKit Instr
structure Md.small (m:Md) (most:Nat):Prop where
 lens:m.ty.length+m.im.length+m.fu.length+m.tb.length+m.me.length+m.gl.length+m.ex.length+m.el.length+m.da.length≤most
 ls:∀l∈m.codes,l.t.weight≤most
 fs:∀e∈m.el,e.fs.length≤most
 bs:∀d∈m.da,d.bs.length≤most
 iS:∀i∈m.im,i.mo.size≤most∧i.na.size≤most
 eS:∀e∈m.ex,e.na.size≤most
def zEA (m:Md) (w:World) (e:Ending) (w':World):Prop:=∃b,e=.returned (.bool b)∧(b=false→m.small 5000)∧Below w.heap.size w w'
theorem zDo {m:Md} {w w':World} (h:Below w.heap.size w w'):zEA m w (.returned (.bool true)) w':=⟨true,rfl,fun h=>by simp at h,h⟩
theorem zFO {m:Md} {w w':World} {N:Int} (h:Below w.heap.size w w') (hs:N≤5000→m.small 5000):zEA m w (.returned (.bool (decide (5000<N)))) w':=⟨_,rfl,fun hh=>hs (by simpa using hh),h⟩
theorem uc {B:Nat} {w w':World} (h:Below B w w') (n:Nat):Below B w (w'.drewN n):=⟨h.os,h.tape,h.output,h.size,h.block⟩
theorem zFD (m:Md) (w:World) (hm:zN w.heap.size w m) (hf:m.fits) :
  Calls Tryz.prog 36 #[.agg m.v,.int .i64 5000] w (zEA m w):=by
 have hb0:=(Below.refl w.heap.size w).alloc (Nat.le_refl _) (.cells m.v 40);have HB:=hid hb0;have HM:=hid (hm.on hb0);have HX:=hid (zB.made w m.v 40);have HF:=hid hf;obtain⟨ty,im,fu,tb,me,gl,ex,st,sn,el,da,ty',im',fu',tb',me',gl',ex',el',da'⟩:=m;have b1:=hf.ty;have b2:=hf.im;have b3:=hf.fu;have b4:=hf.tb;have b5:=hf.me;have b6:=hf.gl;have b7:=hf.ex;have b8:=hf.el;have b9:=hf.da;dsimp only at b1 b2 b3 b4 b5 b6 b7 b8 b9;unfold Md.v at HB HM HX ⊢;dsimp only at HB HM HX ⊢;clear hm hf hb0
 by_cases h1:5000<ty.length+im.length+fu.length+tb.length+me.length+gl.length+ex.length+el.length+da.length
 ·have h1i:(5000:Int)<(ty.length:Int)+im.length+fu.length+tb.length+me.length+gl.length+ex.length+el.length+da.length:=by omega
  go_enter Tryz.func36,Tryz.ntmps36
  go_wp2;go_ret;exact zDo HB.out
 ·have h1i:¬(5000:Int)<(ty.length:Int)+im.length+fu.length+tb.length+me.length+gl.length+ex.length+el.length+da.length:=by omega
  have hsum:ty.length+im.length+fu.length+tb.length+me.length+gl.length+ex.length+el.length+da.length≤5000:=by omega
  have HSUM:=hid hsum;clear h1
  go_enter Tryz.func36,Tryz.ntmps36
  go_wp2;obtain⟨N0,hN0⟩:∃N0:Int,(ty.length:Int)+im.length+fu.length+tb.length+me.length+gl.length+ex.length+el.length+da.length=N0:=⟨_,rfl⟩;have l_ty:ty.length≤5000:=by omega
  have l_im:im.length≤5000:=by omega
  have l_fu:fu.length≤5000:=by omega
  have l_tb:tb.length≤5000:=by omega
  have l_me:me.length≤5000:=by omega
  have l_gl:gl.length≤5000:=by omega
  have l_ex:ex.length≤5000:=by omega
  have l_el:el.length≤5000:=by omega
  have l_da:da.length≤5000:=by omega
  have hN1:N0≤5000:=by omega
  have hN2:0≤N0:=by omega
  have HI:=hid (show (0<fu.length∨0<gl.length∨0<el.length∨0<da.length∨0<im.length∨0<ex.length)→1≤N0 by omega);rw[hN0];clear hN0 h1i hsum b1 b2 b3 b4 b5 b6 b7 b8 b9
  generalize w.alloc (.cells #[.slice ty'.a ty.length ty'.c,.slice im'.a im.length im'.c,.slice fu'.a fu.length fu'.c,.slice tb'.a tb.length tb'.c,.slice me'.a me.length me'.c,.slice gl'.a gl.length gl'.c,.slice ex'.a ex.length ex'.c,.bool st,.int .u32 sn,.slice el'.a el.length el'.c,.slice da'.a da.length da'.c] 40)=W0 at HB HM HX ⊢
  have Xfu:=hid (show W0.cell? ⟨w.heap.size,2,none⟩=some (.slice fu'.a fu.length fu'.c) from HX.out 2 _ rfl);have Rfu:=hid (show Rows W0.heap.size W0 fu'.a 3 (fu.map Fn.v) from HM.out.fu);obtain⟨nfu,hnfu⟩:∃n,fu.length=n:=⟨_,rfl⟩;have Lfu:=hid hnfu;rw[hnfu] at l_fu Xfu;clear hnfu;have Xgl:=hid (show W0.cell? ⟨w.heap.size,5,none⟩=some (.slice gl'.a gl.length gl'.c) from HX.out 5 _ rfl);have Rgl:=hid (show Rows W0.heap.size W0 gl'.a 2 (gl.map Gl.v) from HM.out.gl);obtain⟨ngl,hngl⟩:∃n,gl.length=n:=⟨_,rfl⟩;have Lgl:=hid hngl;rw[hngl] at l_gl Xgl;clear hngl;have Xel:=hid (show W0.cell? ⟨w.heap.size,9,none⟩=some (.slice el'.a el.length el'.c) from HX.out 9 _ rfl);have Rel:=hid (show Rows W0.heap.size W0 el'.a 2 (el.map El.v) from HM.out.el);obtain⟨nel,hnel⟩:∃n,el.length=n:=⟨_,rfl⟩;have Lel:=hid hnel;rw[hnel] at l_el Xel;clear hnel;have Xda:=hid (show W0.cell? ⟨w.heap.size,10,none⟩=some (.slice da'.a da.length da'.c) from HX.out 10 _ rfl);have Rda:=hid (show Rows W0.heap.size W0 da'.a 2 (da.map Da.v) from HM.out.da);obtain⟨nda,hnda⟩:∃n,da.length=n:=⟨_,rfl⟩;have Lda:=hid hnda;rw[hnda] at l_da Xda;clear hnda;have Xim:=hid (show W0.cell? ⟨w.heap.size,1,none⟩=some (.slice im'.a im.length im'.c) from HX.out 1 _ rfl);have Rim:=hid (show Rows W0.heap.size W0 im'.a 3 (im.map Imp.v) from HM.out.im);obtain⟨nim,hnim⟩:∃n,im.length=n:=⟨_,rfl⟩;have Lim:=hid hnim;rw[hnim] at l_im Xim;clear hnim;have Xex:=hid (show W0.cell? ⟨w.heap.size,6,none⟩=some (.slice ex'.a ex.length ex'.c) from HX.out 6 _ rfl);have Rex:=hid (show Rows W0.heap.size W0 ex'.a 3 (ex.map Ex.v) from HM.out.ex);obtain⟨nex,hnex⟩:∃n,ex.length=n:=⟨_,rfl⟩;have Lex:=hid hnex;rw[hnex] at l_ex Xex;clear hnex;clear HX
  go_loopw [5,6] (fun vn vi wr=>∃(k:Nat) (N:Int),vn=.int .i64 N∧vi=.int .i64 k∧k≤nfu∧N0≤N∧N≤5000+20002*(k:Int)∧Hid (N≤5000→(True)∧∀(j:Nat) (hj:j<fu.length),j<k→∃x,x=fu[j]∧x.l.t.weight≤5000)∧Hid (Below W0.heap.size W0 wr)) (fun _ vi _=>nfu-(intOf vi).toNat)
  case atStart=>exact⟨0,N0,rfl,rfl,Nat.zero_le _,by omega,by omega,fun _=>⟨trivial,fun j _ h=>absurd h (Nat.not_lt_zero _)⟩,Below.refl _ _⟩
  case round =>
   obtain⟨k,N,rfl,rfl,hk,hNa,hNb,HQ,HW⟩:=hrel;have hbx:=kP HW.out Xfu.out
   by_cases hlt:k<nfu
   ·have hkl:k<fu.length:=by rw[Lfu.out];exact hlt
    obtain⟨b,off,ha,hb,hc⟩:=Rows.get Rfu.out hkl;rw[ha] at hbx;have hx:fu[k]∈fu:=List.getElem_mem hkl;have hLs:=HM.out.ls fu[k].l (by unfold Md.codes;exact List.mem_append_left _ (List.mem_map.2 ⟨_,hx,rfl⟩));have hLl:=HF.out.ls fu[k].l (by unfold Md.codes;exact List.mem_append_left _ (List.mem_map.2 ⟨_,hx,rfl⟩));obtain⟨x,hxe⟩:∃x,fu[k]=x:=⟨_,rfl⟩;have HXE:=hid hxe;rw[hxe] at hc hLs hLl;have cc:∀j,j<3→∀v,x.v[j]?=some v→wr.cell? ⟨b,off+k*3+j,none⟩=some v:=fun j hj v hv=>(HW.out.cell (p:=⟨b,off+k*3+j,none⟩) hb).trans (hc j hj v hv)
    have c2:wr.cell? ⟨b,off+k*3+2,none⟩=some (.slice x.l.a x.l.t.len x.l.c):=cc 2 (by omega) _ rfl;have hki:(k:Int)<(nfu:Int):=by omega
    have hN1':1≤N0:=HI.out (by omega);have hgo:=js x.l.t 0 5000 (by omega) (by omega) (by omega);obtain⟨q,hq⟩:∃q,x.l.t.go 0 5000=q:=⟨_,rfl⟩;have C:=hid (ua x.l.t.count x.l.t x.l.a x.l.t.len x.l.c 5000 wr (Nat.le_refl _) ((hLs.below HW.out).more HW.out.size) hLl (by omega) (by omega));rw[hq] at C hgo;obtain⟨hg0,hg1,hg2⟩:=hgo;have HG:=hid hg2
    have HQ':=hid (show N+q≤5000→(True)∧∀(j:Nat) (hj:j<fu.length),j<k+1→∃x,x=fu[j]∧x.l.t.weight≤5000 from fun h=>⟨(HQ.out (by omega)).1,fun j hj hjk=>by
      by_cases e:j=k
      · subst e;exact⟨x,HXE.out.symm,by have:=HG.out (by omega);omega⟩
      · exact (HQ.out (by omega)).2 j hj (by omega)⟩)
    clear hx hxe hc cc hb ha hLs hLl hq hg2
    go_wp2_with fail
    refine C.out.mono ?_;rintro e w1 ⟨rfl,rfl⟩;go_wp2
    go_roundw
    case rel=>exact⟨k+1,_,rfl,by go_num,by omega,by omega,by omega,HQ',HW⟩
    case measure=>simp[intOf];omega
   ·obtain rfl:k=nfu:=by omega
    have HP:=hid (show N≤5000→(True)∧∀x∈fu,x.l.t.weight≤5000 from fun h=>⟨(HQ.out h).1,fun x hx=>by
      obtain⟨j,hj,rfl⟩:=List.mem_iff_getElem.1 hx;obtain⟨y,hy,hq⟩:=(HQ.out h).2 j hj (by rw[←Lfu.out];exact hj);subst hy;exact hq⟩)
    have hNN1:N0≤N:=by omega
    have hNN2:N≤100015000:=by omega
    have HBL:=HW;clear HQ hNa hNb HW hlt hk;obtain⟨NN,rfl⟩:∃NN,NN=N:=⟨_,rfl⟩;go_wp2;clear hbx
    go_loopw [5,7] (fun vn vi wr=>∃(k:Nat) (N:Int),vn=.int .i64 N∧vi=.int .i64 k∧k≤ngl∧N0≤N∧N≤100015000+20002*(k:Int)∧Hid (N≤5000→((True)∧∀x∈fu,x.l.t.weight≤5000)∧∀(j:Nat) (hj:j<gl.length),j<k→∃x,x=gl[j]∧x.l.t.weight≤5000)∧Hid (Below W0.heap.size W0 wr)) (fun _ vi _=>ngl-(intOf vi).toNat)
    case atStart=>exact⟨0,NN,rfl,rfl,Nat.zero_le _,by omega,by omega,fun h=>⟨HP.out h,fun j _ h=>absurd h (Nat.not_lt_zero _)⟩,HBL⟩
    case round =>
     clear HP HBL hNN1 hNN2;obtain⟨k,N,rfl,rfl,hk,hNa,hNb,HQ,HW⟩:=hrel;have hbx:=kP HW.out Xgl.out
     by_cases hlt:k<ngl
     ·have hkl:k<gl.length:=by rw[Lgl.out];exact hlt
      obtain⟨b,off,ha,hb,hc⟩:=Rows.get Rgl.out hkl;rw[ha] at hbx;have hx:gl[k]∈gl:=List.getElem_mem hkl;have hLs:=HM.out.ls gl[k].l (by unfold Md.codes;exact List.mem_append_right _ (List.mem_append_left _ (List.mem_map.2 ⟨_,hx,rfl⟩)));have hLl:=HF.out.ls gl[k].l (by unfold Md.codes;exact List.mem_append_right _ (List.mem_append_left _ (List.mem_map.2 ⟨_,hx,rfl⟩)));obtain⟨x,hxe⟩:∃x,gl[k]=x:=⟨_,rfl⟩;have HXE:=hid hxe;rw[hxe] at hc hLs hLl;have cc:∀j,j<2→∀v,x.v[j]?=some v→wr.cell? ⟨b,off+k*2+j,none⟩=some v:=fun j hj v hv=>(HW.out.cell (p:=⟨b,off+k*2+j,none⟩) hb).trans (hc j hj v hv)
      have c1:wr.cell? ⟨b,off+k*2+1,none⟩=some (.slice x.l.a x.l.t.len x.l.c):=cc 1 (by omega) _ rfl;have hki:(k:Int)<(ngl:Int):=by omega
      have hN1':1≤N0:=HI.out (by omega);have hgo:=js x.l.t 0 5000 (by omega) (by omega) (by omega);obtain⟨q,hq⟩:∃q,x.l.t.go 0 5000=q:=⟨_,rfl⟩;have C:=hid (ua x.l.t.count x.l.t x.l.a x.l.t.len x.l.c 5000 wr (Nat.le_refl _) ((hLs.below HW.out).more HW.out.size) hLl (by omega) (by omega));rw[hq] at C hgo;obtain⟨hg0,hg1,hg2⟩:=hgo;have HG:=hid hg2
      have HQ':=hid (show N+q≤5000→((True)∧∀x∈fu,x.l.t.weight≤5000)∧∀(j:Nat) (hj:j<gl.length),j<k+1→∃x,x=gl[j]∧x.l.t.weight≤5000 from fun h=>⟨(HQ.out (by omega)).1,fun j hj hjk=>by
        by_cases e:j=k
        · subst e;exact⟨x,HXE.out.symm,by have:=HG.out (by omega);omega⟩
        · exact (HQ.out (by omega)).2 j hj (by omega)⟩)
      clear hx hxe hc cc hb ha hLs hLl hq hg2
      go_wp2_with fail
      refine C.out.mono ?_;rintro e w1 ⟨rfl,rfl⟩;go_wp2
      go_roundw
      case rel=>exact⟨k+1,_,rfl,by go_num,by omega,by omega,by omega,HQ',HW⟩
      case measure=>simp[intOf];omega
     ·obtain rfl:k=ngl:=by omega
      have HP:=hid (show N≤5000→((True)∧∀x∈fu,x.l.t.weight≤5000)∧∀x∈gl,x.l.t.weight≤5000 from fun h=>⟨(HQ.out h).1,fun x hx=>by
        obtain⟨j,hj,rfl⟩:=List.mem_iff_getElem.1 hx;obtain⟨y,hy,hq⟩:=(HQ.out h).2 j hj (by rw[←Lgl.out];exact hj);subst hy;exact hq⟩)
      have hNN1:N0≤N:=by omega
      have hNN2:N≤200025000:=by omega
      have HBL:=HW;clear HQ hNa hNb HW hlt hk;obtain⟨NN,rfl⟩:∃NN,NN=N:=⟨_,rfl⟩;go_wp2;clear hbx
      go_loopw [5,8] (fun vn vi wr=>∃(k:Nat) (N:Int),vn=.int .i64 N∧vi=.int .i64 k∧k≤nel∧N0≤N∧N≤200025000+20002*(k:Int)∧Hid (N≤5000→(((True)∧∀x∈fu,x.l.t.weight≤5000)∧∀x∈gl,x.l.t.weight≤5000)∧∀(j:Nat) (hj:j<el.length),j<k→∃x,x=el[j]∧x.l.t.weight≤5000∧x.fs.length≤5000)∧Hid (Below W0.heap.size W0 wr)) (fun _ vi _=>nel-(intOf vi).toNat)
      case atStart=>exact⟨0,NN,rfl,rfl,Nat.zero_le _,by omega,by omega,fun h=>⟨HP.out h,fun j _ h=>absurd h (Nat.not_lt_zero _)⟩,HBL⟩
      case round =>
       clear HP HBL hNN1 hNN2;obtain⟨k,N,rfl,rfl,hk,hNa,hNb,HQ,HW⟩:=hrel;have hbx:=kP HW.out Xel.out
       by_cases hlt:k<nel
       ·have hkl:k<el.length:=by rw[Lel.out];exact hlt
        obtain⟨b,off,ha,hb,hc⟩:=Rows.get Rel.out hkl;rw[ha] at hbx;have hx:el[k]∈el:=List.getElem_mem hkl;have hLs:=HM.out.ls el[k].l (by unfold Md.codes;exact List.mem_append_right _ (List.mem_append_right _ (List.mem_append_left _ (List.mem_map.2 ⟨_,hx,rfl⟩))));have hLl:=HF.out.ls el[k].l (by unfold Md.codes;exact List.mem_append_right _ (List.mem_append_right _ (List.mem_append_left _ (List.mem_map.2 ⟨_,hx,rfl⟩))));have hS:=HF.out.fs _ hx;obtain⟨x,hxe⟩:∃x,el[k]=x:=⟨_,rfl⟩;have HXE:=hid hxe;rw[hxe] at hc hLs hLl hS;have cc:∀j,j<2→∀v,x.v[j]?=some v→wr.cell? ⟨b,off+k*2+j,none⟩=some v:=fun j hj v hv=>(HW.out.cell (p:=⟨b,off+k*2+j,none⟩) hb).trans (hc j hj v hv)
        have c0:wr.cell? ⟨b,off+k*2,none⟩=some (.slice x.l.a x.l.t.len x.l.c):=cc 0 (by omega) _ rfl;have c1:wr.cell? ⟨b,off+k*2+1,none⟩=some (.slice x.fa x.fs.length x.fc):=cc 1 (by omega) _ rfl;have hki:(k:Int)<(nel:Int):=by omega
        have hN1':1≤N0:=HI.out (by omega);have hgo:=js x.l.t 0 5000 (by omega) (by omega) (by omega);obtain⟨q,hq⟩:∃q,x.l.t.go 0 5000=q:=⟨_,rfl⟩;have C:=hid (show ∀a,Calls Tryz.prog 12 #[.slice x.l.a x.l.t.len x.l.c,.int .i64 5000] (wr.drewN a) fun e w'=>e=.returned (.int .i64 (x.l.t.go 0 5000))∧w'=wr.drewN a from fun a=>(ua x.l.t.count x.l.t x.l.a x.l.t.len x.l.c 5000 _ (Nat.le_refl _) ((hLs.below (uc HW.out a)).more (uc HW.out a).size) hLl (by omega) (by omega)).mono fun e w' ⟨he,hw⟩=>⟨he,hw.symm⟩);rw[hq] at C hgo;obtain⟨hg0,hg1,hg2⟩:=hgo;have HG:=hid hg2
        by_cases hmn:(5000:Int)<(x.fs.length:Int)
        ·have hmz:min (x.fs.length:Int) 5000=5000:=by omega
         have e0:IntKind.i64.wrap (N+q)=N+q:=by rw[IntKind.wrap_i64];omega
         have e1:IntKind.i64.wrap (N+q+5000)=N+q+5000:=by rw[IntKind.wrap_i64];omega
         have HQ':=hid (show N+q+5000≤5000→(((True)∧∀x∈fu,x.l.t.weight≤5000)∧∀x∈gl,x.l.t.weight≤5000)∧∀(j:Nat) (hj:j<el.length),j<k+1→∃x,x=el[j]∧x.l.t.weight≤5000∧x.fs.length≤5000 from fun h=>⟨(HQ.out (by omega)).1,fun j hj hjk=>by
           by_cases e:j=k
           · subst e;exact⟨x,HXE.out.symm,by have:=HG.out (by omega);omega,by omega⟩
           · exact (HQ.out (by omega)).2 j hj (by omega)⟩)
         have hz1:=show N0≤N+q+5000 by omega
         have hz2:=show N+q+5000≤200025000+20002*((k+1:Nat):Int) by omega
         clear hx hxe hc cc hb ha hLs hLl hq hg2;go_wp2
         go_quiet ((go_at_call 12;exact Calls.quiet_of_same (C.out _)))
         go_wp2
         go_roundw
         case rel=>exact⟨k+1,_,rfl,by go_num,by omega,hz1,hz2,HQ',uc HW.out _⟩
         case measure=>simp[intOf];omega
        ·have hmz:min (x.fs.length:Int) 5000=(x.fs.length:Int):=by omega
         have e0:IntKind.i64.wrap (N+q)=N+q:=by rw[IntKind.wrap_i64];omega
         have e1:IntKind.i64.wrap (N+q+(x.fs.length:Int))=N+q+(x.fs.length:Int):=by rw[IntKind.wrap_i64];omega
         have HQ':=hid (show N+q+(x.fs.length:Int)≤5000→(((True)∧∀x∈fu,x.l.t.weight≤5000)∧∀x∈gl,x.l.t.weight≤5000)∧∀(j:Nat) (hj:j<el.length),j<k+1→∃x,x=el[j]∧x.l.t.weight≤5000∧x.fs.length≤5000 from fun h=>⟨(HQ.out (by omega)).1,fun j hj hjk=>by
           by_cases e:j=k
           · subst e;exact⟨x,HXE.out.symm,by have:=HG.out (by omega);omega,by omega⟩
           · exact (HQ.out (by omega)).2 j hj (by omega)⟩)
         have hz1:=show N0≤N+q+(x.fs.length:Int) by omega
         have hz2:=show N+q+(x.fs.length:Int)≤200025000+20002*((k+1:Nat):Int) by omega
         clear hx hxe hc cc hb ha hLs hLl hq hg2;go_wp2
         go_quiet ((go_at_call 12;exact Calls.quiet_of_same (C.out _)))
         go_wp2
         go_roundw
         case rel=>exact⟨k+1,_,rfl,by go_num,by omega,hz1,hz2,HQ',uc HW.out _⟩
         case measure=>simp[intOf];omega
       ·obtain rfl:k=nel:=by omega
        have HP:=hid (show N≤5000→(((True)∧∀x∈fu,x.l.t.weight≤5000)∧∀x∈gl,x.l.t.weight≤5000)∧∀x∈el,x.l.t.weight≤5000∧x.fs.length≤5000 from fun h=>⟨(HQ.out h).1,fun x hx=>by
          obtain⟨j,hj,rfl⟩:=List.mem_iff_getElem.1 hx;obtain⟨y,hy,hq⟩:=(HQ.out h).2 j hj (by rw[←Lel.out];exact hj);subst hy;exact hq⟩)
        have hNN1:N0≤N:=by omega
        have hNN2:N≤300035000:=by omega
        have HBL:=HW;clear HQ hNa hNb HW hlt hk;obtain⟨NN,rfl⟩:∃NN,NN=N:=⟨_,rfl⟩;go_wp2;clear hbx
        go_loopw [5,9] (fun vn vi wr=>∃(k:Nat) (N:Int),vn=.int .i64 N∧vi=.int .i64 k∧k≤nda∧N0≤N∧N≤300035000+20002*(k:Int)∧Hid (N≤5000→((((True)∧∀x∈fu,x.l.t.weight≤5000)∧∀x∈gl,x.l.t.weight≤5000)∧∀x∈el,x.l.t.weight≤5000∧x.fs.length≤5000)∧∀(j:Nat) (hj:j<da.length),j<k→∃x,x=da[j]∧x.l.t.weight≤5000∧x.bs.length≤5000)∧Hid (Below W0.heap.size W0 wr)) (fun _ vi _=>nda-(intOf vi).toNat)
        case atStart=>exact⟨0,NN,rfl,rfl,Nat.zero_le _,by omega,by omega,fun h=>⟨HP.out h,fun j _ h=>absurd h (Nat.not_lt_zero _)⟩,HBL⟩
        case round =>
         clear HP HBL hNN1 hNN2;obtain⟨k,N,rfl,rfl,hk,hNa,hNb,HQ,HW⟩:=hrel;have hbx:=kP HW.out Xda.out
         by_cases hlt:k<nda
         ·have hkl:k<da.length:=by rw[Lda.out];exact hlt
          obtain⟨b,off,ha,hb,hc⟩:=Rows.get Rda.out hkl;rw[ha] at hbx;have hx:da[k]∈da:=List.getElem_mem hkl;have hLs:=HM.out.ls da[k].l (by unfold Md.codes;exact List.mem_append_right _ (List.mem_append_right _ (List.mem_append_right _ (List.mem_map.2 ⟨_,hx,rfl⟩))));have hLl:=HF.out.ls da[k].l (by unfold Md.codes;exact List.mem_append_right _ (List.mem_append_right _ (List.mem_append_right _ (List.mem_map.2 ⟨_,hx,rfl⟩))));have hS:=HF.out.bs _ hx;obtain⟨x,hxe⟩:∃x,da[k]=x:=⟨_,rfl⟩;have HXE:=hid hxe;rw[hxe] at hc hLs hLl hS;have cc:∀j,j<2→∀v,x.v[j]?=some v→wr.cell? ⟨b,off+k*2+j,none⟩=some v:=fun j hj v hv=>(HW.out.cell (p:=⟨b,off+k*2+j,none⟩) hb).trans (hc j hj v hv)
          have c0:wr.cell? ⟨b,off+k*2,none⟩=some (.slice x.l.a x.l.t.len x.l.c):=cc 0 (by omega) _ rfl;have c1:wr.cell? ⟨b,off+k*2+1,none⟩=some (.slice x.ba x.bs.length x.bc):=cc 1 (by omega) _ rfl;have hki:(k:Int)<(nda:Int):=by omega
          have hN1':1≤N0:=HI.out (by omega);have hgo:=js x.l.t 0 5000 (by omega) (by omega) (by omega);obtain⟨q,hq⟩:∃q,x.l.t.go 0 5000=q:=⟨_,rfl⟩;have C:=hid (show ∀a,Calls Tryz.prog 12 #[.slice x.l.a x.l.t.len x.l.c,.int .i64 5000] (wr.drewN a) fun e w'=>e=.returned (.int .i64 (x.l.t.go 0 5000))∧w'=wr.drewN a from fun a=>(ua x.l.t.count x.l.t x.l.a x.l.t.len x.l.c 5000 _ (Nat.le_refl _) ((hLs.below (uc HW.out a)).more (uc HW.out a).size) hLl (by omega) (by omega)).mono fun e w' ⟨he,hw⟩=>⟨he,hw.symm⟩);rw[hq] at C hgo;obtain⟨hg0,hg1,hg2⟩:=hgo;have HG:=hid hg2
          by_cases hmn:(5000:Int)<(x.bs.length:Int)
          ·have hmz:min (x.bs.length:Int) 5000=5000:=by omega
           have e0:IntKind.i64.wrap (N+q)=N+q:=by rw[IntKind.wrap_i64];omega
           have e1:IntKind.i64.wrap (N+q+5000)=N+q+5000:=by rw[IntKind.wrap_i64];omega
           have HQ':=hid (show N+q+5000≤5000→((((True)∧∀x∈fu,x.l.t.weight≤5000)∧∀x∈gl,x.l.t.weight≤5000)∧∀x∈el,x.l.t.weight≤5000∧x.fs.length≤5000)∧∀(j:Nat) (hj:j<da.length),j<k+1→∃x,x=da[j]∧x.l.t.weight≤5000∧x.bs.length≤5000 from fun h=>⟨(HQ.out (by omega)).1,fun j hj hjk=>by
             by_cases e:j=k
             · subst e;exact⟨x,HXE.out.symm,by have:=HG.out (by omega);omega,by omega⟩
             · exact (HQ.out (by omega)).2 j hj (by omega)⟩)
           have hz1:=show N0≤N+q+5000 by omega
           have hz2:=show N+q+5000≤300035000+20002*((k+1:Nat):Int) by omega
           clear hx hxe hc cc hb ha hLs hLl hq hg2;go_wp2
           go_quiet ((go_at_call 12;exact Calls.quiet_of_same (C.out _)))
           go_wp2
           go_roundw
           case rel=>exact⟨k+1,_,rfl,by go_num,by omega,hz1,hz2,HQ',uc HW.out _⟩
           case measure=>simp[intOf];omega
          ·have hmz:min (x.bs.length:Int) 5000=(x.bs.length:Int):=by omega
           have e0:IntKind.i64.wrap (N+q)=N+q:=by rw[IntKind.wrap_i64];omega
           have e1:IntKind.i64.wrap (N+q+(x.bs.length:Int))=N+q+(x.bs.length:Int):=by rw[IntKind.wrap_i64];omega
           have HQ':=hid (show N+q+(x.bs.length:Int)≤5000→((((True)∧∀x∈fu,x.l.t.weight≤5000)∧∀x∈gl,x.l.t.weight≤5000)∧∀x∈el,x.l.t.weight≤5000∧x.fs.length≤5000)∧∀(j:Nat) (hj:j<da.length),j<k+1→∃x,x=da[j]∧x.l.t.weight≤5000∧x.bs.length≤5000 from fun h=>⟨(HQ.out (by omega)).1,fun j hj hjk=>by
             by_cases e:j=k
             · subst e;exact⟨x,HXE.out.symm,by have:=HG.out (by omega);omega,by omega⟩
             · exact (HQ.out (by omega)).2 j hj (by omega)⟩)
           have hz1:=show N0≤N+q+(x.bs.length:Int) by omega
           have hz2:=show N+q+(x.bs.length:Int)≤300035000+20002*((k+1:Nat):Int) by omega
           clear hx hxe hc cc hb ha hLs hLl hq hg2;go_wp2
           go_quiet ((go_at_call 12;exact Calls.quiet_of_same (C.out _)))
           go_wp2
           go_roundw
           case rel=>exact⟨k+1,_,rfl,by go_num,by omega,hz1,hz2,HQ',uc HW.out _⟩
           case measure=>simp[intOf];omega
         ·obtain rfl:k=nda:=by omega
          have HP:=hid (show N≤5000→((((True)∧∀x∈fu,x.l.t.weight≤5000)∧∀x∈gl,x.l.t.weight≤5000)∧∀x∈el,x.l.t.weight≤5000∧x.fs.length≤5000)∧∀x∈da,x.l.t.weight≤5000∧x.bs.length≤5000 from fun h=>⟨(HQ.out h).1,fun x hx=>by
            obtain⟨j,hj,rfl⟩:=List.mem_iff_getElem.1 hx;obtain⟨y,hy,hq⟩:=(HQ.out h).2 j hj (by rw[←Lda.out];exact hj);subst hy;exact hq⟩)
          have hNN1:N0≤N:=by omega
          have hNN2:N≤400045000:=by omega
          have HBL:=HW;clear HQ hNa hNb HW hlt hk;obtain⟨NN,rfl⟩:∃NN,NN=N:=⟨_,rfl⟩;go_wp2;clear hbx
          go_loopw [5,10] (fun vn vi wr=>∃(k:Nat) (N:Int),vn=.int .i64 N∧vi=.int .i64 k∧k≤nim∧N0≤N∧N≤400045000+20002*(k:Int)∧Hid (N≤5000→(((((True)∧∀x∈fu,x.l.t.weight≤5000)∧∀x∈gl,x.l.t.weight≤5000)∧∀x∈el,x.l.t.weight≤5000∧x.fs.length≤5000)∧∀x∈da,x.l.t.weight≤5000∧x.bs.length≤5000)∧∀(j:Nat) (hj:j<im.length),j<k→∃x,x=im[j]∧x.mo.size≤5000∧x.na.size≤5000)∧Hid (Below W0.heap.size W0 wr)) (fun _ vi _=>nim-(intOf vi).toNat)
          case atStart=>exact⟨0,NN,rfl,rfl,Nat.zero_le _,by omega,by omega,fun h=>⟨HP.out h,fun j _ h=>absurd h (Nat.not_lt_zero _)⟩,HBL⟩
          case round =>
           clear HP HBL hNN1 hNN2;obtain⟨k,N,rfl,rfl,hk,hNa,hNb,HQ,HW⟩:=hrel;have hbx:=kP HW.out Xim.out
           by_cases hlt:k<nim
           ·have hkl:k<im.length:=by rw[Lim.out];exact hlt
            obtain⟨b,off,ha,hb,hc⟩:=Rows.get Rim.out hkl;rw[ha] at hbx;have hx:im[k]∈im:=List.getElem_mem hkl;have hS:=HF.out.iS _ hx;obtain⟨x,hxe⟩:∃x,im[k]=x:=⟨_,rfl⟩;have HXE:=hid hxe;rw[hxe] at hc hS;have cc:∀j,j<3→∀v,x.v[j]?=some v→wr.cell? ⟨b,off+k*3+j,none⟩=some v:=fun j hj v hv=>(HW.out.cell (p:=⟨b,off+k*3+j,none⟩) hb).trans (hc j hj v hv)
            have c0:wr.cell? ⟨b,off+k*3,none⟩=some (.string x.mo):=cc 0 (by omega) _ rfl;have c1:wr.cell? ⟨b,off+k*3+1,none⟩=some (.string x.na):=cc 1 (by omega) _ rfl;have hki:(k:Int)<(nim:Int):=by omega
            have hN1':1≤N0:=HI.out (by omega)
            by_cases hm1:(5000:Int)<(x.mo.size:Int)
            ·by_cases hm2:(5000:Int)<(x.na.size:Int)
             ·have hmz:min (x.mo.size:Int) 5000=5000:=by omega
              have hmy:min (x.na.size:Int) 5000=5000:=by omega
              have e0:IntKind.i64.wrap (N+5000)=N+5000:=by rw[IntKind.wrap_i64];omega
              have e1:IntKind.i64.wrap (N+5000+5000)=N+5000+5000:=by rw[IntKind.wrap_i64];omega
              have HQ':=hid (show N+5000+5000≤5000→(((((True)∧∀x∈fu,x.l.t.weight≤5000)∧∀x∈gl,x.l.t.weight≤5000)∧∀x∈el,x.l.t.weight≤5000∧x.fs.length≤5000)∧∀x∈da,x.l.t.weight≤5000∧x.bs.length≤5000)∧∀(j:Nat) (hj:j<im.length),j<k+1→∃x,x=im[j]∧x.mo.size≤5000∧x.na.size≤5000 from fun h=>⟨(HQ.out (by omega)).1,fun j hj hjk=>by
                by_cases e:j=k
                · subst e;exact⟨x,HXE.out.symm,by omega,by omega⟩
                · exact (HQ.out (by omega)).2 j hj (by omega)⟩)
              have hz1:=show N0≤N+5000+5000 by omega
              have hz2:=show N+5000+5000≤400045000+20002*((k+1:Nat):Int) by omega
              clear hx hxe hc cc hb ha;go_wp2
              go_quiet (fail)
              go_wp2
              go_roundw
              case rel=>exact⟨k+1,_,rfl,by go_num,by omega,hz1,hz2,HQ',uc HW.out _⟩
              case measure=>simp[intOf];omega
             ·have hmz:min (x.mo.size:Int) 5000=5000:=by omega
              have hmy:min (x.na.size:Int) 5000=(x.na.size:Int):=by omega
              have e0:IntKind.i64.wrap (N+5000)=N+5000:=by rw[IntKind.wrap_i64];omega
              have e1:IntKind.i64.wrap (N+5000+(x.na.size:Int))=N+5000+(x.na.size:Int):=by rw[IntKind.wrap_i64];omega
              have HQ':=hid (show N+5000+(x.na.size:Int)≤5000→(((((True)∧∀x∈fu,x.l.t.weight≤5000)∧∀x∈gl,x.l.t.weight≤5000)∧∀x∈el,x.l.t.weight≤5000∧x.fs.length≤5000)∧∀x∈da,x.l.t.weight≤5000∧x.bs.length≤5000)∧∀(j:Nat) (hj:j<im.length),j<k+1→∃x,x=im[j]∧x.mo.size≤5000∧x.na.size≤5000 from fun h=>⟨(HQ.out (by omega)).1,fun j hj hjk=>by
                by_cases e:j=k
                · subst e;exact⟨x,HXE.out.symm,by omega,by omega⟩
                · exact (HQ.out (by omega)).2 j hj (by omega)⟩)
              have hz1:=show N0≤N+5000+(x.na.size:Int) by omega
              have hz2:=show N+5000+(x.na.size:Int)≤400045000+20002*((k+1:Nat):Int) by omega
              clear hx hxe hc cc hb ha;go_wp2
              go_quiet (fail)
              go_wp2
              go_roundw
              case rel=>exact⟨k+1,_,rfl,by go_num,by omega,hz1,hz2,HQ',uc HW.out _⟩
              case measure=>simp[intOf];omega
            ·by_cases hm2:(5000:Int)<(x.na.size:Int)
             ·have hmz:min (x.mo.size:Int) 5000=(x.mo.size:Int):=by omega
              have hmy:min (x.na.size:Int) 5000=5000:=by omega
              have e0:IntKind.i64.wrap (N+(x.mo.size:Int))=N+(x.mo.size:Int):=by rw[IntKind.wrap_i64];omega
              have e1:IntKind.i64.wrap (N+(x.mo.size:Int)+5000)=N+(x.mo.size:Int)+5000:=by rw[IntKind.wrap_i64];omega
              have HQ':=hid (show N+(x.mo.size:Int)+5000≤5000→(((((True)∧∀x∈fu,x.l.t.weight≤5000)∧∀x∈gl,x.l.t.weight≤5000)∧∀x∈el,x.l.t.weight≤5000∧x.fs.length≤5000)∧∀x∈da,x.l.t.weight≤5000∧x.bs.length≤5000)∧∀(j:Nat) (hj:j<im.length),j<k+1→∃x,x=im[j]∧x.mo.size≤5000∧x.na.size≤5000 from fun h=>⟨(HQ.out (by omega)).1,fun j hj hjk=>by
                by_cases e:j=k
                · subst e;exact⟨x,HXE.out.symm,by omega,by omega⟩
                · exact (HQ.out (by omega)).2 j hj (by omega)⟩)
              have hz1:=show N0≤N+(x.mo.size:Int)+5000 by omega
              have hz2:=show N+(x.mo.size:Int)+5000≤400045000+20002*((k+1:Nat):Int) by omega
              clear hx hxe hc cc hb ha;go_wp2
              go_quiet (fail)
              go_wp2
              go_roundw
              case rel=>exact⟨k+1,_,rfl,by go_num,by omega,hz1,hz2,HQ',uc HW.out _⟩
              case measure=>simp[intOf];omega
             ·have hmz:min (x.mo.size:Int) 5000=(x.mo.size:Int):=by omega
              have hmy:min (x.na.size:Int) 5000=(x.na.size:Int):=by omega
              have e0:IntKind.i64.wrap (N+(x.mo.size:Int))=N+(x.mo.size:Int):=by rw[IntKind.wrap_i64];omega
              have e1:IntKind.i64.wrap (N+(x.mo.size:Int)+(x.na.size:Int))=N+(x.mo.size:Int)+(x.na.size:Int):=by rw[IntKind.wrap_i64];omega
              have HQ':=hid (show N+(x.mo.size:Int)+(x.na.size:Int)≤5000→(((((True)∧∀x∈fu,x.l.t.weight≤5000)∧∀x∈gl,x.l.t.weight≤5000)∧∀x∈el,x.l.t.weight≤5000∧x.fs.length≤5000)∧∀x∈da,x.l.t.weight≤5000∧x.bs.length≤5000)∧∀(j:Nat) (hj:j<im.length),j<k+1→∃x,x=im[j]∧x.mo.size≤5000∧x.na.size≤5000 from fun h=>⟨(HQ.out (by omega)).1,fun j hj hjk=>by
                by_cases e:j=k
                · subst e;exact⟨x,HXE.out.symm,by omega,by omega⟩
                · exact (HQ.out (by omega)).2 j hj (by omega)⟩)
              have hz1:=show N0≤N+(x.mo.size:Int)+(x.na.size:Int) by omega
              have hz2:=show N+(x.mo.size:Int)+(x.na.size:Int)≤400045000+20002*((k+1:Nat):Int) by omega
              clear hx hxe hc cc hb ha;go_wp2
              go_quiet (fail)
              go_wp2
              go_roundw
              case rel=>exact⟨k+1,_,rfl,by go_num,by omega,hz1,hz2,HQ',uc HW.out _⟩
              case measure=>simp[intOf];omega
           ·obtain rfl:k=nim:=by omega
            have HP:=hid (show N≤5000→(((((True)∧∀x∈fu,x.l.t.weight≤5000)∧∀x∈gl,x.l.t.weight≤5000)∧∀x∈el,x.l.t.weight≤5000∧x.fs.length≤5000)∧∀x∈da,x.l.t.weight≤5000∧x.bs.length≤5000)∧∀x∈im,x.mo.size≤5000∧x.na.size≤5000 from fun h=>⟨(HQ.out h).1,fun x hx=>by
              obtain⟨j,hj,rfl⟩:=List.mem_iff_getElem.1 hx;obtain⟨y,hy,hq⟩:=(HQ.out h).2 j hj (by rw[←Lim.out];exact hj);subst hy;exact hq⟩)
            have hNN1:N0≤N:=by omega
            have hNN2:N≤500055000:=by omega
            have HBL:=HW;clear HQ hNa hNb HW hlt hk;obtain⟨NN,rfl⟩:∃NN,NN=N:=⟨_,rfl⟩;go_wp2;clear hbx
            go_loopw [5,11] (fun vn vi wr=>∃(k:Nat) (N:Int),vn=.int .i64 N∧vi=.int .i64 k∧k≤nex∧N0≤N∧N≤500055000+20002*(k:Int)∧Hid (N≤5000→((((((True)∧∀x∈fu,x.l.t.weight≤5000)∧∀x∈gl,x.l.t.weight≤5000)∧∀x∈el,x.l.t.weight≤5000∧x.fs.length≤5000)∧∀x∈da,x.l.t.weight≤5000∧x.bs.length≤5000)∧∀x∈im,x.mo.size≤5000∧x.na.size≤5000)∧∀(j:Nat) (hj:j<ex.length),j<k→∃x,x=ex[j]∧x.na.size≤5000)∧Hid (Below W0.heap.size W0 wr)) (fun _ vi _=>nex-(intOf vi).toNat)
            case atStart=>exact⟨0,NN,rfl,rfl,Nat.zero_le _,by omega,by omega,fun h=>⟨HP.out h,fun j _ h=>absurd h (Nat.not_lt_zero _)⟩,HBL⟩
            case round =>
             clear HP HBL hNN1 hNN2;obtain⟨k,N,rfl,rfl,hk,hNa,hNb,HQ,HW⟩:=hrel;have hbx:=kP HW.out Xex.out
             by_cases hlt:k<nex
             ·have hkl:k<ex.length:=by rw[Lex.out];exact hlt
              obtain⟨b,off,ha,hb,hc⟩:=Rows.get Rex.out hkl;rw[ha] at hbx;have hx:ex[k]∈ex:=List.getElem_mem hkl;have hS:=HF.out.eS _ hx;obtain⟨x,hxe⟩:∃x,ex[k]=x:=⟨_,rfl⟩;have HXE:=hid hxe;rw[hxe] at hc hS;have cc:∀j,j<3→∀v,x.v[j]?=some v→wr.cell? ⟨b,off+k*3+j,none⟩=some v:=fun j hj v hv=>(HW.out.cell (p:=⟨b,off+k*3+j,none⟩) hb).trans (hc j hj v hv)
              have c0:wr.cell? ⟨b,off+k*3,none⟩=some (.string x.na):=cc 0 (by omega) _ rfl;have hki:(k:Int)<(nex:Int):=by omega
              have hN1':1≤N0:=HI.out (by omega)
              by_cases hmn:(5000:Int)<(x.na.size:Int)
              ·have hmz:min (x.na.size:Int) 5000=5000:=by omega
               have HQ':=hid (show N+5000≤5000→((((((True)∧∀x∈fu,x.l.t.weight≤5000)∧∀x∈gl,x.l.t.weight≤5000)∧∀x∈el,x.l.t.weight≤5000∧x.fs.length≤5000)∧∀x∈da,x.l.t.weight≤5000∧x.bs.length≤5000)∧∀x∈im,x.mo.size≤5000∧x.na.size≤5000)∧∀(j:Nat) (hj:j<ex.length),j<k+1→∃x,x=ex[j]∧x.na.size≤5000 from fun h=>⟨(HQ.out (by omega)).1,fun j hj hjk=>by
                 by_cases e:j=k
                 · subst e;exact⟨x,HXE.out.symm,by omega⟩
                 · exact (HQ.out (by omega)).2 j hj (by omega)⟩)
               clear hx hxe hc cc hb ha;go_wp2
               go_roundw
               case rel=>exact⟨k+1,_,rfl,by go_num,by omega,by omega,by omega,HQ',HW⟩
               case measure=>simp[intOf];omega
              ·have hmz:min (x.na.size:Int) 5000=(x.na.size:Int):=by omega
               have HQ':=hid (show N+(x.na.size:Int)≤5000→((((((True)∧∀x∈fu,x.l.t.weight≤5000)∧∀x∈gl,x.l.t.weight≤5000)∧∀x∈el,x.l.t.weight≤5000∧x.fs.length≤5000)∧∀x∈da,x.l.t.weight≤5000∧x.bs.length≤5000)∧∀x∈im,x.mo.size≤5000∧x.na.size≤5000)∧∀(j:Nat) (hj:j<ex.length),j<k+1→∃x,x=ex[j]∧x.na.size≤5000 from fun h=>⟨(HQ.out (by omega)).1,fun j hj hjk=>by
                 by_cases e:j=k
                 · subst e;exact⟨x,HXE.out.symm,by omega⟩
                 · exact (HQ.out (by omega)).2 j hj (by omega)⟩)
               clear hx hxe hc cc hb ha;go_wp2
               go_roundw
               case rel=>exact⟨k+1,_,rfl,by go_num,by omega,by omega,by omega,HQ',HW⟩
               case measure=>simp[intOf];omega
             ·obtain rfl:k=nex:=by omega
              have HP:=hid (show N≤5000→((((((True)∧∀x∈fu,x.l.t.weight≤5000)∧∀x∈gl,x.l.t.weight≤5000)∧∀x∈el,x.l.t.weight≤5000∧x.fs.length≤5000)∧∀x∈da,x.l.t.weight≤5000∧x.bs.length≤5000)∧∀x∈im,x.mo.size≤5000∧x.na.size≤5000)∧∀x∈ex,x.na.size≤5000 from fun h=>⟨(HQ.out h).1,fun x hx=>by
                obtain⟨j,hj,rfl⟩:=List.mem_iff_getElem.1 hx;obtain⟨y,hy,hq⟩:=(HQ.out h).2 j hj (by rw[←Lex.out];exact hj);subst hy;exact hq⟩)
              have hNN1:N0≤N:=by omega
              have hNN2:N≤600065000:=by omega
              have HBL:=HW;clear HQ hNa hNb HW hlt hk
              have HZ:=hid (zFO (m:=(⟨ty,im,fu,tb,me,gl,ex,st,sn,el,da,ty',im',fu',tb',me',gl',ex',el',da'⟩:Md)) (N:=N) (HB.out.trans (HBL.out.mono HB.out.size)) (fun h=>by
                obtain⟨⟨⟨⟨⟨⟨_,z1⟩,z2⟩,z3⟩,z4⟩,z5⟩,z6⟩:=HP.out h;refine⟨HSUM.out,fun l hl=>?_,fun e he=>(z3 e he).2,fun d hd=>(z4 d hd).2,z5,z6⟩;unfold Md.codes at hl;simp only[List.mem_append,List.mem_map] at hl
                rcases hl with ⟨x,hx,rfl⟩|⟨x,hx,rfl⟩|⟨x,hx,rfl⟩|⟨x,hx,rfl⟩
                · exact z1 x hx
                · exact z2 x hx
                · exact (z3 x hx).1
                · exact (z4 x hx).1))
              go_wp2;go_ret;exact HZ.out
theorem vK (l:Lst) (e:Int) (w:World) (hl:zD w.heap.size w l.a l.t.len l.t) (h1:l.t.len≤140737488351232) (h2:l.t.count≤1000000) :
  Calls Tryz.prog 288 #[.slice l.a l.t.len l.c,.int .i64 e] w fun x w'=>x=.returned (.bool (zJ l.t==e))∧Below w.heap.size w w':=by
 have C:=hid (Body.YI l.t l.a l.t.len l.c w hl h1 (by omega));obtain⟨q,hq⟩:∃q,zJ l.t=q:=⟨_,rfl⟩;rw[hq] at C ⊢;clear hq hl
 go_enter Tryz.func288,Tryz.ntmps288
 go_wp2_with fail
 refine C.out.mono ?_;rintro e1 w1 ⟨rfl,hb⟩;clear C;go_wp2;go_ret;exact⟨rfl,hb⟩
def Md.has (m:Md) (e:Int):Bool:=(m.fu.any fun x=>zJ x.l.t==e)||((m.gl.any fun x=>zJ x.l.t==e)||((m.el.any fun x=>zJ x.l.t==e)||(m.da.any fun x=>zJ x.l.t==e)))
theorem Ze (m:Md) (e:Int) (w:World) (hm:zN w.heap.size w m) (hf:m.few) :
  Calls Tryz.prog 244 #[.agg m.v,.int .i64 e] w fun x w'=>x=.returned (.bool (m.has e))∧Below w.heap.size w w':=by
 have hb0:=(Below.refl w.heap.size w).alloc (Nat.le_refl _) (.cells m.v 40);have HB:=hid hb0;have HM:=hid (hm.on hb0);have HX:=hid (zB.made w m.v 40);have HF:=hid hf;unfold Md.v at HB HX HM ⊢;clear hm hf hb0
 go_enter Tryz.func244,Tryz.ntmps244
 go_wp2
 generalize w.alloc (.cells #[.slice m.ty'.a m.ty.length m.ty'.c,.slice m.im'.a m.im.length m.im'.c,.slice m.fu'.a m.fu.length m.fu'.c,.slice m.tb'.a m.tb.length m.tb'.c,.slice m.me'.a m.me.length m.me'.c,.slice m.gl'.a m.gl.length m.gl'.c,.slice m.ex'.a m.ex.length m.ex'.c,.bool m.st,.int .u32 m.sn,.slice m.el'.a m.el.length m.el'.c,.slice m.da'.a m.da.length m.da'.c] 40)=W0 at HB HM HX ⊢
 obtain⟨lf,hlf⟩:∃n,m.fu.length=n:=⟨_,rfl⟩;have Llf:=hid hlf;have blf:lf≤140737488351232:=by have:=HF.out.fit.fu;omega
 have zlf:lf≤1000000:=by have:=HF.out.lens;omega
 have Xfu:=hid (show W0.cell? ⟨w.heap.size,2,none⟩=some (.slice m.fu'.a lf m.fu'.c) by rw[←hlf];exact HX.out 2 _ rfl);have Rfu:=hid HM.out.fu;clear hlf;obtain⟨lg,hlg⟩:∃n,m.gl.length=n:=⟨_,rfl⟩;have Llg:=hid hlg;have blg:lg≤140737488351232:=by have:=HF.out.fit.gl;omega
 have zlg:lg≤1000000:=by have:=HF.out.lens;omega
 have Xgl:=hid (show W0.cell? ⟨w.heap.size,5,none⟩=some (.slice m.gl'.a lg m.gl'.c) by rw[←hlg];exact HX.out 5 _ rfl);have Rgl:=hid HM.out.gl;clear hlg;obtain⟨le,hle⟩:∃n,m.el.length=n:=⟨_,rfl⟩;have Lle:=hid hle;have ble:le≤140737488351232:=by have:=HF.out.fit.el;omega
 have zle:le≤1000000:=by have:=HF.out.lens;omega
 have Xel:=hid (show W0.cell? ⟨w.heap.size,9,none⟩=some (.slice m.el'.a le m.el'.c) by rw[←hle];exact HX.out 9 _ rfl);have Rel:=hid HM.out.el;clear hle;obtain⟨ld,hld⟩:∃n,m.da.length=n:=⟨_,rfl⟩;have Lld:=hid hld;have bld:ld≤140737488351232:=by have:=HF.out.fit.da;omega
 have zld:ld≤1000000:=by have:=HF.out.lens;omega
 have Xda:=hid (show W0.cell? ⟨w.heap.size,10,none⟩=some (.slice m.da'.a ld m.da'.c) by rw[←hld];exact HX.out 10 _ rfl);have Rda:=hid HM.out.da;clear hld;clear HX
 go_loopw [5] (fun vi wr=>∃k:Nat,vi=.int .i64 k∧k≤lf∧Hid (∀j (hj:j<m.fu.length),j<k→(zJ (m.fu[j]).l.t==e)=false)∧Hid (Below W0.heap.size W0 wr)) (fun vi _=>lf-(intOf vi).toNat)
 case atStart=>exact⟨0,rfl,Nat.zero_le _,fun j _ h=>absurd h (Nat.not_lt_zero _),Below.refl _ _⟩
 case round =>
  obtain⟨k,rfl,hk,HQ,HW⟩:=hrel;have hbx:=kP HW.out Xfu.out
  by_cases hlt:k<lf
  ·have hkl:k<m.fu.length:=by rw[Llf.out];exact hlt
   obtain⟨b,off,ha,hb,hc⟩:=Rows.get Rfu.out hkl;rw[ha] at hbx;have hx:m.fu[k]∈m.fu:=List.getElem_mem hkl;have hLs:=HM.out.ls m.fu[k].l (by unfold Md.codes;exact List.mem_append_left _ (List.mem_map.2 ⟨_,hx,rfl⟩));have hLl:=HF.out.fit.ls m.fu[k].l (by unfold Md.codes;exact List.mem_append_left _ (List.mem_map.2 ⟨_,hx,rfl⟩));have hLc:=HF.out.cs m.fu[k].l (by unfold Md.codes;exact List.mem_append_left _ (List.mem_map.2 ⟨_,hx,rfl⟩));obtain⟨x,hxe⟩:∃x,m.fu[k]=x:=⟨_,rfl⟩;have HXE:=hid hxe;rw[hxe] at hc hLs hLl hLc;have cc:∀j,j<3→∀v,x.v[j]?=some v→wr.cell? ⟨b,off+k*3+j,none⟩=some v:=fun j hj v hv=>(HW.out.cell (p:=⟨b,off+k*3+j,none⟩) hb).trans (hc j hj v hv)
   have c2:wr.cell? ⟨b,off+k*3+2,none⟩=some (.slice x.l.a x.l.t.len x.l.c):=cc 2 (by omega) _ rfl;have hki:(k:Int)<(lf:Int):=by omega
   have C:=hid (vK x.l e wr ((hLs.below HW.out).more HW.out.size) hLl hLc);obtain⟨q,hq⟩:∃q,(zJ x.l.t==e)=q:=⟨_,rfl⟩;rw[hq] at C;have HQK:=hid (show (zJ (m.fu[k]).l.t==e)=q by rw[HXE.out];exact hq);clear hx hxe hc cc hb ha hLs hLl hLc hq
   cases q with
   | true =>
    have HE:=hid (show m.has e=true by unfold Md.has;rw[any_some hkl HQK.out];simp)
    go_wp2_with fail
    refine C.out.mono ?_;rintro e1 w1 ⟨rfl,hb1⟩;have HW1:=hid (HW.out.trans (hb1.mono HW.out.size));clear C hb1;go_wp2;go_ret;exact⟨zA HE.out.symm,HB.out.trans (HW1.out.mono HB.out.size)⟩
   | false =>
    have HQ':=hid (yy (p:=fun x=>zJ x.l.t==e) hkl HQ.out HQK.out)
    go_wp2_with fail
    refine C.out.mono ?_;rintro e1 w1 ⟨rfl,hb1⟩;have HW1:=hid (HW.out.trans (hb1.mono HW.out.size));clear C hb1 hbx c2;go_wp2
    go_roundw
    case rel=>exact⟨k+1,by go_num,by omega,HQ',HW1⟩
    case measure=>simp[intOf];omega
  ·obtain rfl:lf=k:=by omega
   have HBL:=HW;have HAfu:=hid (any_none (p:=fun x=>zJ x.l.t==e) (l:=m.fu) (fun j hj=>HQ.out j hj (by rw[←Llf.out];exact hj)));clear HQ HW hlt hk;go_wp2;clear hbx
   go_loopw [6] (fun vi wr=>∃k:Nat,vi=.int .i64 k∧k≤lg∧Hid (∀j (hj:j<m.gl.length),j<k→(zJ (m.gl[j]).l.t==e)=false)∧Hid (Below W0.heap.size W0 wr)) (fun vi _=>lg-(intOf vi).toNat)
   case atStart=>exact⟨0,rfl,Nat.zero_le _,fun j _ h=>absurd h (Nat.not_lt_zero _),HBL⟩
   case round =>
    clear HBL;obtain⟨k,rfl,hk,HQ,HW⟩:=hrel;have hbx:=kP HW.out Xgl.out
    by_cases hlt:k<lg
    ·have hkl:k<m.gl.length:=by rw[Llg.out];exact hlt
     obtain⟨b,off,ha,hb,hc⟩:=Rows.get Rgl.out hkl;rw[ha] at hbx;have hx:m.gl[k]∈m.gl:=List.getElem_mem hkl;have hLs:=HM.out.ls m.gl[k].l (by unfold Md.codes;exact List.mem_append_right _ (List.mem_append_left _ (List.mem_map.2 ⟨_,hx,rfl⟩)));have hLl:=HF.out.fit.ls m.gl[k].l (by unfold Md.codes;exact List.mem_append_right _ (List.mem_append_left _ (List.mem_map.2 ⟨_,hx,rfl⟩)));have hLc:=HF.out.cs m.gl[k].l (by unfold Md.codes;exact List.mem_append_right _ (List.mem_append_left _ (List.mem_map.2 ⟨_,hx,rfl⟩)));obtain⟨x,hxe⟩:∃x,m.gl[k]=x:=⟨_,rfl⟩;have HXE:=hid hxe;rw[hxe] at hc hLs hLl hLc;have cc:∀j,j<2→∀v,x.v[j]?=some v→wr.cell? ⟨b,off+k*2+j,none⟩=some v:=fun j hj v hv=>(HW.out.cell (p:=⟨b,off+k*2+j,none⟩) hb).trans (hc j hj v hv)
     have c1:wr.cell? ⟨b,off+k*2+1,none⟩=some (.slice x.l.a x.l.t.len x.l.c):=cc 1 (by omega) _ rfl;have hki:(k:Int)<(lg:Int):=by omega
     have C:=hid (vK x.l e wr ((hLs.below HW.out).more HW.out.size) hLl hLc);obtain⟨q,hq⟩:∃q,(zJ x.l.t==e)=q:=⟨_,rfl⟩;rw[hq] at C;have HQK:=hid (show (zJ (m.gl[k]).l.t==e)=q by rw[HXE.out];exact hq);clear hx hxe hc cc hb ha hLs hLl hLc hq
     cases q with
     | true =>
      have HE:=hid (show m.has e=true by unfold Md.has;rw[any_some hkl HQK.out];simp)
      go_wp2_with fail
      refine C.out.mono ?_;rintro e1 w1 ⟨rfl,hb1⟩;have HW1:=hid (HW.out.trans (hb1.mono HW.out.size));clear C hb1;go_wp2;go_ret;exact⟨zA HE.out.symm,HB.out.trans (HW1.out.mono HB.out.size)⟩
     | false =>
      have HQ':=hid (yy (p:=fun x=>zJ x.l.t==e) hkl HQ.out HQK.out)
      go_wp2_with fail
      refine C.out.mono ?_;rintro e1 w1 ⟨rfl,hb1⟩;have HW1:=hid (HW.out.trans (hb1.mono HW.out.size));clear C hb1 hbx c1;go_wp2
      go_roundw
      case rel=>exact⟨k+1,by go_num,by omega,HQ',HW1⟩
      case measure=>simp[intOf];omega
    ·obtain rfl:lg=k:=by omega
     have HBL:=HW;have HAgl:=hid (any_none (p:=fun x=>zJ x.l.t==e) (l:=m.gl) (fun j hj=>HQ.out j hj (by rw[←Llg.out];exact hj)));clear HQ HW hlt hk;go_wp2;clear hbx
     go_loopw [7] (fun vi wr=>∃k:Nat,vi=.int .i64 k∧k≤le∧Hid (∀j (hj:j<m.el.length),j<k→(zJ (m.el[j]).l.t==e)=false)∧Hid (Below W0.heap.size W0 wr)) (fun vi _=>le-(intOf vi).toNat)
     case atStart=>exact⟨0,rfl,Nat.zero_le _,fun j _ h=>absurd h (Nat.not_lt_zero _),HBL⟩
     case round =>
      clear HBL;obtain⟨k,rfl,hk,HQ,HW⟩:=hrel;have hbx:=kP HW.out Xel.out
      by_cases hlt:k<le
      ·have hkl:k<m.el.length:=by rw[Lle.out];exact hlt
       obtain⟨b,off,ha,hb,hc⟩:=Rows.get Rel.out hkl;rw[ha] at hbx;have hx:m.el[k]∈m.el:=List.getElem_mem hkl;have hLs:=HM.out.ls m.el[k].l (by unfold Md.codes;exact List.mem_append_right _ (List.mem_append_right _ (List.mem_append_left _ (List.mem_map.2 ⟨_,hx,rfl⟩))));have hLl:=HF.out.fit.ls m.el[k].l (by unfold Md.codes;exact List.mem_append_right _ (List.mem_append_right _ (List.mem_append_left _ (List.mem_map.2 ⟨_,hx,rfl⟩))));have hLc:=HF.out.cs m.el[k].l (by unfold Md.codes;exact List.mem_append_right _ (List.mem_append_right _ (List.mem_append_left _ (List.mem_map.2 ⟨_,hx,rfl⟩))));obtain⟨x,hxe⟩:∃x,m.el[k]=x:=⟨_,rfl⟩;have HXE:=hid hxe;rw[hxe] at hc hLs hLl hLc;have cc:∀j,j<2→∀v,x.v[j]?=some v→wr.cell? ⟨b,off+k*2+j,none⟩=some v:=fun j hj v hv=>(HW.out.cell (p:=⟨b,off+k*2+j,none⟩) hb).trans (hc j hj v hv)
       have c0:wr.cell? ⟨b,off+k*2,none⟩=some (.slice x.l.a x.l.t.len x.l.c):=cc 0 (by omega) _ rfl;have hki:(k:Int)<(le:Int):=by omega
       have C:=hid (vK x.l e wr ((hLs.below HW.out).more HW.out.size) hLl hLc);obtain⟨q,hq⟩:∃q,(zJ x.l.t==e)=q:=⟨_,rfl⟩;rw[hq] at C;have HQK:=hid (show (zJ (m.el[k]).l.t==e)=q by rw[HXE.out];exact hq);clear hx hxe hc cc hb ha hLs hLl hLc hq
       cases q with
       | true =>
        have HE:=hid (show m.has e=true by unfold Md.has;rw[any_some hkl HQK.out];simp)
        go_wp2_with fail
        refine C.out.mono ?_;rintro e1 w1 ⟨rfl,hb1⟩;have HW1:=hid (HW.out.trans (hb1.mono HW.out.size));clear C hb1;go_wp2;go_ret;exact⟨zA HE.out.symm,HB.out.trans (HW1.out.mono HB.out.size)⟩
       | false =>
        have HQ':=hid (yy (p:=fun x=>zJ x.l.t==e) hkl HQ.out HQK.out)
        go_wp2_with fail
        refine C.out.mono ?_;rintro e1 w1 ⟨rfl,hb1⟩;have HW1:=hid (HW.out.trans (hb1.mono HW.out.size));clear C hb1 hbx c0;go_wp2
        go_roundw
        case rel=>exact⟨k+1,by go_num,by omega,HQ',HW1⟩
        case measure=>simp[intOf];omega
      ·obtain rfl:le=k:=by omega
       have HBL:=HW;have HAel:=hid (any_none (p:=fun x=>zJ x.l.t==e) (l:=m.el) (fun j hj=>HQ.out j hj (by rw[←Lle.out];exact hj)));clear HQ HW hlt hk;go_wp2;clear hbx
       go_loopw [8] (fun vi wr=>∃k:Nat,vi=.int .i64 k∧k≤ld∧Hid (∀j (hj:j<m.da.length),j<k→(zJ (m.da[j]).l.t==e)=false)∧Hid (Below W0.heap.size W0 wr)) (fun vi _=>ld-(intOf vi).toNat)
       case atStart=>exact⟨0,rfl,Nat.zero_le _,fun j _ h=>absurd h (Nat.not_lt_zero _),HBL⟩
       case round =>
        clear HBL;obtain⟨k,rfl,hk,HQ,HW⟩:=hrel;have hbx:=kP HW.out Xda.out
        by_cases hlt:k<ld
        ·have hkl:k<m.da.length:=by rw[Lld.out];exact hlt
         obtain⟨b,off,ha,hb,hc⟩:=Rows.get Rda.out hkl;rw[ha] at hbx;have hx:m.da[k]∈m.da:=List.getElem_mem hkl;have hLs:=HM.out.ls m.da[k].l (by unfold Md.codes;exact List.mem_append_right _ (List.mem_append_right _ (List.mem_append_right _ (List.mem_map.2 ⟨_,hx,rfl⟩))));have hLl:=HF.out.fit.ls m.da[k].l (by unfold Md.codes;exact List.mem_append_right _ (List.mem_append_right _ (List.mem_append_right _ (List.mem_map.2 ⟨_,hx,rfl⟩))));have hLc:=HF.out.cs m.da[k].l (by unfold Md.codes;exact List.mem_append_right _ (List.mem_append_right _ (List.mem_append_right _ (List.mem_map.2 ⟨_,hx,rfl⟩))));obtain⟨x,hxe⟩:∃x,m.da[k]=x:=⟨_,rfl⟩;have HXE:=hid hxe;rw[hxe] at hc hLs hLl hLc;have cc:∀j,j<2→∀v,x.v[j]?=some v→wr.cell? ⟨b,off+k*2+j,none⟩=some v:=fun j hj v hv=>(HW.out.cell (p:=⟨b,off+k*2+j,none⟩) hb).trans (hc j hj v hv)
         have c0:wr.cell? ⟨b,off+k*2,none⟩=some (.slice x.l.a x.l.t.len x.l.c):=cc 0 (by omega) _ rfl;have hki:(k:Int)<(ld:Int):=by omega
         have C:=hid (vK x.l e wr ((hLs.below HW.out).more HW.out.size) hLl hLc);obtain⟨q,hq⟩:∃q,(zJ x.l.t==e)=q:=⟨_,rfl⟩;rw[hq] at C;have HQK:=hid (show (zJ (m.da[k]).l.t==e)=q by rw[HXE.out];exact hq);clear hx hxe hc cc hb ha hLs hLl hLc hq
         cases q with
         | true =>
          have HE:=hid (show m.has e=true by unfold Md.has;rw[any_some hkl HQK.out];simp)
          go_wp2_with fail
          refine C.out.mono ?_;rintro e1 w1 ⟨rfl,hb1⟩;have HW1:=hid (HW.out.trans (hb1.mono HW.out.size));clear C hb1;go_wp2;go_ret;exact⟨zA HE.out.symm,HB.out.trans (HW1.out.mono HB.out.size)⟩
         | false =>
          have HQ':=hid (yy (p:=fun x=>zJ x.l.t==e) hkl HQ.out HQK.out)
          go_wp2_with fail
          refine C.out.mono ?_;rintro e1 w1 ⟨rfl,hb1⟩;have HW1:=hid (HW.out.trans (hb1.mono HW.out.size));clear C hb1 hbx c0;go_wp2
          go_roundw
          case rel=>exact⟨k+1,by go_num,by omega,HQ',HW1⟩
          case measure=>simp[intOf];omega
        ·obtain rfl:ld=k:=by omega
         have HBL:=HW;have HAda:=hid (any_none (p:=fun x=>zJ x.l.t==e) (l:=m.da) (fun j hj=>HQ.out j hj (by rw[←Lld.out];exact hj)));clear HQ HW hlt hk;have HE:=hid (show m.has e=false by unfold Md.has;rw[HAfu.out,HAgl.out,HAel.out,HAda.out];rfl);go_wp2;go_ret;exact⟨zA HE.out.symm,HB.out.trans (HBL.out.mono HB.out.size)⟩
def Md.many (m:Md):Bool:=m.crowded||m.has 141
def Md.lens7 (m:Md):List Nat:=[m.ty.length,m.im.length,m.fu.length,m.gl.length,m.ex.length,m.el.length,m.da.length]
def uh (e:El):Bool:=decide (16384<e.fs.length)
theorem zF5 {m:Md} (h:1<m.tb.length∨1<m.me.length):m.many=true:=by
 unfold Md.many Md.crowded;simp only[Bool.or_eq_true,decide_eq_true_eq];rcases h with h|h<;>simp[h]
theorem zHJ {m:Md} {k:Nat} (hk:k<m.el.length) (h:uh m.el[k]=true):m.many=true:=by
 have:(m.el.any fun e=>decide (16384<e.fs.length))=true:=any_some (p:=uh) hk h;unfold Md.many Md.crowded;rw[this];simp
theorem zGz {m:Md} {k:Nat} (hk:k<7) (h:16384<m.lens7.getD k 0):m.many=true:=by
 unfold Md.many Md.crowded;unfold Md.lens7 at h
 match k,hk with
 | 0,_=>simp only[List.getD_cons_zero] at h;simp[h]
 | 1,_=>simp only[List.getD_cons_zero,List.getD_cons_succ] at h;simp[h]
 | 2,_=>simp only[List.getD_cons_zero,List.getD_cons_succ] at h;simp[h]
 | 3,_=>simp only[List.getD_cons_zero,List.getD_cons_succ] at h;simp[h]
 | 4,_=>simp only[List.getD_cons_zero,List.getD_cons_succ] at h;simp[h]
 | 5,_=>simp only[List.getD_cons_zero,List.getD_cons_succ] at h;simp[h]
 | 6,_=>simp only[List.getD_cons_zero,List.getD_cons_succ] at h;simp[h]
theorem zEc {m:Md} (h1:¬1<m.tb.length) (h2:¬1<m.me.length) (h3:∀k,k<7→¬16384<m.lens7.getD k 0) (h4:∀j (hj:j<m.el.length),j<16385→uh m.el[j]=false):m.many=m.has 141:=by
 have a0:=h3 0 (by omega);have a1:=h3 1 (by omega);have a2:=h3 2 (by omega);have a3:=h3 3 (by omega);have a4:=h3 4 (by omega);have a5:=h3 5 (by omega);have a6:=h3 6 (by omega);unfold Md.lens7 at a0 a1 a2 a3 a4 a5 a6;simp only[List.getD_cons_zero,List.getD_cons_succ] at a0 a1 a2 a3 a4 a5 a6;have:(m.el.any fun e=>decide (16384<e.fs.length))=false:=any_none (p:=uh) (fun j hj=>h4 j hj (by omega));unfold Md.many Md.crowded;rw[this];simp[a0,a1,a2,a3,a4,a5,a6,h1,h2]
theorem zH8 (w:World) (a b c d e f g:Int) (t:TypeId) {k:Nat} (hk:k<7):(w.alloc (.cells #[.int .i64 a,.int .i64 b,.int .i64 c,.int .i64 d,.int .i64 e,.int .i64 f,.int .i64 g] t)).cell? ⟨w.heap.size,k,none⟩=some (.int .i64 ([a,b,c,d,e,f,g].getD k 0)):=by
 match k,hk with
 | 0,_=>simp[go_sem]
 | 1,_=>simp[go_sem]
 | 2,_=>simp[go_sem]
 | 3,_=>simp[go_sem]
 | 4,_=>simp[go_sem]
 | 5,_=>simp[go_sem]
 | 6,_=>simp[go_sem]
theorem zIG (a b c d e f g:Nat) (k:Nat):[(a:Int),b,c,d,e,f,g].getD k 0=(([a,b,c,d,e,f,g].getD k 0:Nat):Int):=by
 match k with
 | 0=>rfl
 | 1=>rfl
 | 2=>rfl
 | 3=>rfl
 | 4=>rfl
 | 5=>rfl
 | 6=>rfl
 | k+7=>simp
theorem zCO (m:Md) (w:World) (hm:zN w.heap.size w m) (hf:m.few) :
  Calls Tryz.prog 178 #[.agg m.v] w fun x w'=>x=.returned (.bool m.many)∧Below w.heap.size w w':=by
 have hb0:=(Below.refl w.heap.size w).alloc (Nat.le_refl _) (.cells m.v 40);have HB:=hid hb0;have HM:=hid (hm.on hb0);have X0:=(zB.made w m.v 40);have HX:=hid X0;have HF:=hid hf;have HLF:=hid (show ∀e∈m.el,e.fs.length≤140737488351232 from hf.fit.fs);have hle:m.el.length≤1000000:=hf.lens.2.2.2.2.2.2.2.1;have b0:=hf.fit.ty;have b1:=hf.fit.im;have b2:=hf.fit.fu;have b3:=hf.fit.tb;have b4:=hf.fit.me;have b5:=hf.fit.gl;have b6:=hf.fit.ex;have b10:=hf.fit.da;have HT2:=hid (fun h=>zF5 (m:=m) h);have HTL:=hid (fun k (hk:k<7) h=>zGz (m:=m) hk h);have HRR:=hid (fun h1 h2 h3 h4=>zEc (m:=m) h1 h2 h3 h4);have H7:Hid (m.lens7=[m.ty.length,m.im.length,m.fu.length,m.gl.length,m.ex.length,m.el.length,m.da.length]):=rfl;unfold Md.v at HB HX HM X0 ⊢;clear hm hf hb0;obtain⟨x0,x1,x2,x3,x4,x5,x6,x7,x8,x9,x10⟩:=Mod.jr X0;clear X0
 go_enter Tryz.func178,Tryz.ntmps178
 by_cases g1:1<m.tb.length
 ·have HE:=hid (HT2.out (.inl g1))
  have g1i:(1:Int)<(m.tb.length:Int):=by omega
  clear HT2 HTL HRR HX HM;go_wp2;go_ret;exact⟨zA HE.out.symm,HB.out⟩
 ·have g1i:¬(1:Int)<(m.tb.length:Int):=by omega
  by_cases g2:1<m.me.length
  ·have HE:=hid (HT2.out (.inr g2))
   have g2i:(1:Int)<(m.me.length:Int):=by omega
   clear HT2 HTL HRR HX HM;go_wp2;go_ret;exact⟨zA HE.out.symm,HB.out⟩
  ·have g2i:¬(1:Int)<(m.me.length:Int):=by omega
   have HR1:=hid (HRR.out g1 g2);clear HT2 HRR g1 g2;have C:=hid (fun (W:World) (h:zN W.heap.size W m)=>Ze m 141 W h HF.out);unfold Md.v at C;go_wp2
   generalize w.alloc (.cells #[.slice m.ty'.a m.ty.length m.ty'.c,.slice m.im'.a m.im.length m.im'.c,.slice m.fu'.a m.fu.length m.fu'.c,.slice m.tb'.a m.tb.length m.tb'.c,.slice m.me'.a m.me.length m.me'.c,.slice m.gl'.a m.gl.length m.gl'.c,.slice m.ex'.a m.ex.length m.ex'.c,.bool m.st,.int .u32 m.sn,.slice m.el'.a m.el.length m.el'.c,.slice m.da'.a m.da.length m.da'.c] 40)=W0 at *
   obtain⟨le,hle0⟩:∃n,m.el.length=n:=⟨_,rfl⟩;have Lle:=hid hle0;rw[hle0] at x9 hle H7 C;have RE:=hid HM.out.el;clear hle0
   go_loopw [3] (fun vi wr=>∃k:Nat,vi=.int .i64 k∧k≤le∧k≤16385∧wr=W0∧Hid (∀j (hj:j<m.el.length),j<k→uh m.el[j]=false)) (fun vi _=>le-(intOf vi).toNat)
   case atStart=>exact⟨0,rfl,Nat.zero_le _,Nat.zero_le _,rfl,jw _ _⟩
   case round =>
    obtain⟨k,rfl,hk,hk2,rfl,HQ⟩:=hrel
    by_cases hlt:k<le∧k<16385
    ·obtain⟨l1,l2⟩:=hlt
     have hkl:k<m.el.length:=by rw[Lle.out];exact l1
     obtain⟨b,off,ha,hb,hc⟩:=Rows.get RE.out hkl;rw[ha] at x9;have HT:=hid (fun (h:uh m.el[k]=true)=>zHJ hkl h);have HO:=hid (fun (h:uh m.el[k]=false)=>yy hkl HQ.out h);have hsz:=HLF.out m.el[k] (List.getElem_mem hkl);have HWT:Hid (uh m.el[k]=decide (16384<m.el[k].fs.length)):=rfl;obtain⟨x,hx⟩:∃x,m.el[k]=x:=⟨_,rfl⟩;rw[hx] at hc HT hsz HWT;have HO1:Hid (uh x=false→∀j (hj:j<m.el.length),j<k+1→uh m.el[j]=false):=by rw[←hx];exact HO
     have c1:=hc 1 (by omega) (.slice x.fa x.fs.length x.fc) rfl;obtain⟨q,hq⟩:∃q,x.fs.length=q:=⟨_,rfl⟩;rw[hq] at c1 HWT hsz;have hki:(k:Int)<(le:Int):=by omega
     have hki2:(k:Int)≤16384:=by omega
     clear hc hx hq hb ha hkl HO HQ
     by_cases g:16384<q
     ·have HE:=hid (HT.out (by rw[HWT.out];simp[g]))
      have gi:(16384:Int)<(q:Int):=by omega
      clear HT HO1 HWT;go_wp2;go_ret;exact⟨zA HE.out.symm,HB.out⟩
     ·have HE:=hid (HO1.out (by rw[HWT.out];simp[g]))
      have gi:¬(16384:Int)<(q:Int):=by omega
      clear HT HO1 HWT;go_wp2
      go_roundw
      case rel=>exact⟨k+1,by go_num,by omega,by omega,trivial,HE⟩
      case measure=>simp[intOf];omega
    ·have HQ9:=hid (show ∀j (hj:j<m.el.length),j<16385→uh m.el[j]=false from fun j hj hj2=>HQ.out j hj (by have:=Lle.out;omega))
     clear HQ
     by_cases l1:k<le
     ·have l2:k=16385:=by omega
      subst l2;have l1i:(16385:Int)<(le:Int):=by omega
      go_wp2;have hbA:=(Below.refl wr.heap.size wr).alloc (Nat.le_refl _) (.cells #[.int .i64 m.ty.length,.int .i64 m.im.length,.int .i64 m.fu.length,.int .i64 m.gl.length,.int .i64 m.ex.length,.int .i64 le,.int .i64 m.da.length] 3);have HC7:=hid (show ∀j,j<7→(wr.alloc (.cells #[.int .i64 m.ty.length,.int .i64 m.im.length,.int .i64 m.fu.length,.int .i64 m.gl.length,.int .i64 m.ex.length,.int .i64 le,.int .i64 m.da.length] 3)).cell? ⟨wr.heap.size,j,none⟩=some (.int .i64 ((m.lens7.getD j 0:Nat):Int)) from fun j hj=>by rw[zH8 wr _ _ _ _ _ _ _ _ hj,zIG,H7.out]);have HB7:=hid (HB.out.trans (hbA.mono HB.out.size));have C7:=hid (C.out _ (HM.out.on hbA));have y0:=kP hbA x0;have y1:=kP hbA x1;have y2:=kP hbA x2;have y3:=kP hbA x3;have y4:=kP hbA x4;have y5:=kP hbA x5;have y6:=kP hbA x6;have y7:=kP hbA x7;have y8:=kP hbA x8;have y9:=kP hbA x9;have y10:=kP hbA x10;clear C HM HX hbA HB RE x0 x1 x2 x3 x4 x5 x6 x7 x8 x9 x10
      generalize wr.alloc (.cells #[.int .i64 m.ty.length,.int .i64 m.im.length,.int .i64 m.fu.length,.int .i64 m.gl.length,.int .i64 m.ex.length,.int .i64 le,.int .i64 m.da.length] 3)=W1 at *
      go_loopw [5] (fun vi w9=>∃i:Nat,vi=.int .i64 i∧i≤7∧w9=W1∧Hid (∀j,j<i→¬16384<m.lens7.getD j 0)) (fun vi _=>7-(intOf vi).toNat)
      case atStart=>exact⟨0,rfl,Nat.zero_le _,rfl,fun j h=>absurd h (Nat.not_lt_zero _)⟩
      case round =>
       obtain⟨i,rfl,hi,rfl,HI⟩:=hrel
       by_cases hi7:i<7
       ·have c:=HC7.out i hi7
        have HT:=hid (HTL.out i hi7)
        have HO:=hid (show ¬16384<m.lens7.getD i 0→∀j,j<i+1→¬16384<m.lens7.getD j 0 from fun h j hj=>by
          by_cases e:j=i
          · rw[e];exact h
          · exact HI.out j (by omega))
        obtain⟨q,hq⟩:∃q,m.lens7.getD i 0=q:=⟨_,rfl⟩;rw[hq] at c HT HO;have hii:(i:Int)<7:=by omega
        clear hq HI
        by_cases g:16384<q
        ·have HE:=hid (HT.out g)
         have gi:(16384:Int)<(q:Int):=by omega
         clear HT HO;go_wp2;go_ret;exact⟨zA HE.out.symm,HB7.out⟩
        ·have HE:=hid (HO.out g)
         have gi:¬(16384:Int)<(q:Int):=by omega
         clear HT HO;go_wp2
         go_roundw
         case rel=>exact⟨i+1,by go_num,by omega,trivial,HE⟩
         case measure=>simp[intOf];omega
       ·obtain rfl:i=7:=by omega
        have HE:=hid (HR1.out HI.out HQ9.out);clear HI HR1 HTL
        go_wp2_with fail
        refine C7.out.mono ?_;rintro e1 w1 ⟨rfl,hb1⟩;have HZ:=hid (HB7.out.trans (hb1.mono HB7.out.size));clear C7 hb1;go_wp2;go_ret;exact⟨zA HE.out.symm,HZ.out⟩
     ·obtain rfl:le=k:=by omega
      go_wp2;have hbA:=(Below.refl wr.heap.size wr).alloc (Nat.le_refl _) (.cells #[.int .i64 m.ty.length,.int .i64 m.im.length,.int .i64 m.fu.length,.int .i64 m.gl.length,.int .i64 m.ex.length,.int .i64 le,.int .i64 m.da.length] 3);have HC7:=hid (show ∀j,j<7→(wr.alloc (.cells #[.int .i64 m.ty.length,.int .i64 m.im.length,.int .i64 m.fu.length,.int .i64 m.gl.length,.int .i64 m.ex.length,.int .i64 le,.int .i64 m.da.length] 3)).cell? ⟨wr.heap.size,j,none⟩=some (.int .i64 ((m.lens7.getD j 0:Nat):Int)) from fun j hj=>by rw[zH8 wr _ _ _ _ _ _ _ _ hj,zIG,H7.out]);have HB7:=hid (HB.out.trans (hbA.mono HB.out.size));have C7:=hid (C.out _ (HM.out.on hbA));have y0:=kP hbA x0;have y1:=kP hbA x1;have y2:=kP hbA x2;have y3:=kP hbA x3;have y4:=kP hbA x4;have y5:=kP hbA x5;have y6:=kP hbA x6;have y7:=kP hbA x7;have y8:=kP hbA x8;have y9:=kP hbA x9;have y10:=kP hbA x10;clear C HM HX hbA HB RE x0 x1 x2 x3 x4 x5 x6 x7 x8 x9 x10
      generalize wr.alloc (.cells #[.int .i64 m.ty.length,.int .i64 m.im.length,.int .i64 m.fu.length,.int .i64 m.gl.length,.int .i64 m.ex.length,.int .i64 le,.int .i64 m.da.length] 3)=W1 at *
      go_loopw [5] (fun vi w9=>∃i:Nat,vi=.int .i64 i∧i≤7∧w9=W1∧Hid (∀j,j<i→¬16384<m.lens7.getD j 0)) (fun vi _=>7-(intOf vi).toNat)
      case atStart=>exact⟨0,rfl,Nat.zero_le _,rfl,fun j h=>absurd h (Nat.not_lt_zero _)⟩
      case round =>
       obtain⟨i,rfl,hi,rfl,HI⟩:=hrel
       by_cases hi7:i<7
       ·have c:=HC7.out i hi7
        have HT:=hid (HTL.out i hi7)
        have HO:=hid (show ¬16384<m.lens7.getD i 0→∀j,j<i+1→¬16384<m.lens7.getD j 0 from fun h j hj=>by
          by_cases e:j=i
          · rw[e];exact h
          · exact HI.out j (by omega))
        obtain⟨q,hq⟩:∃q,m.lens7.getD i 0=q:=⟨_,rfl⟩;rw[hq] at c HT HO;have hii:(i:Int)<7:=by omega
        clear hq HI
        by_cases g:16384<q
        ·have HE:=hid (HT.out g)
         have gi:(16384:Int)<(q:Int):=by omega
         clear HT HO;go_wp2;go_ret;exact⟨zA HE.out.symm,HB7.out⟩
        ·have HE:=hid (HO.out g)
         have gi:¬(16384:Int)<(q:Int):=by omega
         clear HT HO;go_wp2
         go_roundw
         case rel=>exact⟨i+1,by go_num,by omega,trivial,HE⟩
         case measure=>simp[intOf];omega
       ·obtain rfl:i=7:=by omega
        have HE:=hid (HR1.out HI.out HQ9.out);clear HI HR1 HTL
        go_wp2_with fail
        refine C7.out.mono ?_;rintro e1 w1 ⟨rfl,hb1⟩;have HZ:=hid (HB7.out.trans (hb1.mono HB7.out.size));clear C7 hb1;go_wp2;go_ret;exact⟨zA HE.out.symm,HZ.out⟩
def ug (s:ByteArray):List Value:=[.string s]
def Zm (l:List Imp):List ByteArray:=l.flatMap fun i=>[i.mo,i.na]
def Md.names (m:Md):List ByteArray:=Zm m.im++m.ex.map (·.na)
theorem zFX {l:List Imp} {k:Nat} (hk:k<l.length):(Zm (l.take (k+1))).map ug=(Zm (l.take k)).map ug++[[.string l[k].mo],[.string l[k].na]]:=by
 unfold Zm;rw[List.take_succ_eq_append_getElem hk,List.flatMap_append,List.map_append];rfl
theorem zGP {l:List Ex} {k:Nat} (hk:k<l.length) (xs:List (List Value)):xs++((l.take (k+1)).map (·.na)).map ug=(xs++((l.take k).map (·.na)).map ug)++[[.string l[k].na]]:=by
 rw[List.take_succ_eq_append_getElem hk,List.map_append,List.map_append,←List.append_assoc];rfl
theorem Ju (l:List Imp):(Zm l).length=2*l.length:=by
 unfold Zm
 induction l with
 | nil=>rfl
 | cons a l ih=>rw[List.flatMap_cons,List.length_append,ih,List.length_cons];simp;omega
theorem zEL:(Tryz.prog.info? 9).map (fun i=>(i.zero,i.size,i.bytes))=some (some (.string ⟨#[]⟩),1,16):=by kernel_rfl
theorem YH (m:Md) (w:World) (hm:zN w.heap.size w m) (hf:m.few) :
  Calls Tryz.prog 245 #[.agg m.v] w fun e w'=>∃a c,e=.returned (.slice a m.names.length c)∧Rows w'.heap.size w' a 1 (m.names.map ug)∧Below w.heap.size w w':=by
 have hb0:=(Below.refl w.heap.size w).alloc (Nat.le_refl _) (.cells m.v 40);have HB:=hid hb0;have HM:=hid (hm.on hb0);have HX:=hid (zB.made w m.v 40);have HF:=hid hf;unfold Md.v at HB HX HM ⊢;clear hm hf hb0
 go_enter Tryz.func245,Tryz.ntmps245
 go_wp2
 generalize w.alloc (.cells #[.slice m.ty'.a m.ty.length m.ty'.c,.slice m.im'.a m.im.length m.im'.c,.slice m.fu'.a m.fu.length m.fu'.c,.slice m.tb'.a m.tb.length m.tb'.c,.slice m.me'.a m.me.length m.me'.c,.slice m.gl'.a m.gl.length m.gl'.c,.slice m.ex'.a m.ex.length m.ex'.c,.bool m.st,.int .u32 m.sn,.slice m.el'.a m.el.length m.el'.c,.slice m.da'.a m.da.length m.da'.c] 40)=W0 at HB HM HX ⊢
 obtain⟨li,hli⟩:∃n,m.im.length=n:=⟨_,rfl⟩;obtain⟨lx,hlx⟩:∃n,m.ex.length=n:=⟨_,rfl⟩;have Lli:=hid hli;have Llx:=hid hlx;have bli:li≤1000000:=by have:=HF.out.lens;omega
 have blx:lx≤1000000:=by have:=HF.out.lens;omega
 have Xim:=hid (show W0.cell? ⟨w.heap.size,1,none⟩=some (.slice m.im'.a li m.im'.c) by rw[←hli];exact HX.out 1 _ rfl);have Xex:=hid (show W0.cell? ⟨w.heap.size,6,none⟩=some (.slice m.ex'.a lx m.ex'.c) by rw[←hlx];exact HX.out 6 _ rfl);have Rim:=hid HM.out.im;have Rex:=hid HM.out.ex;clear hli hlx HX HM HF
 go_loopw [3,4] (fun vo vi wr=>∃k:Nat,vi=.int .i64 k∧k≤li∧Hid (zR 9 1 W0.heap.size wr vo ((Zm (m.im.take k)).map ug))∧Hid (Below W0.heap.size W0 wr)) (fun _ vi _=>li-(intOf vi).toNat)
 case atStart=>exact⟨0,rfl,Nat.zero_le _,zR.start _ _ _ _,Below.refl _ _⟩
 case round =>
  obtain⟨k,rfl,hk,HO,HW⟩:=hrel;have hbx:=kP HW.out Xim.out
  by_cases hlt:k<li
  ·have hkl:k<m.im.length:=by rw[Lli.out];exact hlt
   obtain⟨b,off,ha,hb,hc⟩:=Rows.get Rim.out hkl;rw[ha] at hbx;have HS:=hid (zFX hkl);have HLN:=hid (show ((Zm (m.im.take k)).map ug).length≤4000000 by rw[List.length_map,Ju,List.length_take];omega);obtain⟨x,hxe⟩:∃x,m.im[k]=x:=⟨_,rfl⟩;rw[hxe] at hc HS;have cc:∀j,j<3→∀v,x.v[j]?=some v→wr.cell? ⟨b,off+k*3+j,none⟩=some v:=fun j hj v hv=>(HW.out.cell (p:=⟨b,off+k*3+j,none⟩) hb).trans (hc j hj v hv)
   have c0:wr.cell? ⟨b,off+k*3,none⟩=some (.string x.mo):=cc 0 (by omega) _ rfl;have c1:wr.cell? ⟨b,off+k*3+1,none⟩=some (.string x.na):=cc 1 (by omega) _ rfl;have hki:(k:Int)<(li:Int):=by omega
   obtain⟨xs,hxs⟩:∃xs,(Zm (m.im.take k)).map ug=xs:=⟨_,rfl⟩;obtain⟨ys,hys⟩:∃ys,(Zm (m.im.take (k+1))).map ug=ys:=⟨_,rfl⟩;rw[hxs] at HO HLN HS;rw[hys] at HS;have HYS:=hid hys;obtain⟨s0,hs0⟩:∃s,x.mo=s:=⟨_,rfl⟩;obtain⟨s1,hs1⟩:∃s,x.na=s:=⟨_,rfl⟩;rw[hs0] at c0 HS;rw[hs1] at c1 HS;clear hc cc hb ha hkl hxe hxs hys hs0 hs1 hk;go_wp2;have HD:=hid ((Below.refl wr.heap.size wr).drew);have HO2:=hid (HO.out.below HD.out);have HW2:=hid (HW.out.trans (HD.out.mono HW.out.size))
   go_region_law
    (first
      | (refine Yi zEL rfl (by omega) (by omega) Tryz.underlying309 rfl (.tmp 13) (.tmp 26) rfl [[.string s0],[.string s1]] rfl (HO2.out.below ((Below.refl _ _).alloc (Nat.le_refl _) _)) (zC HW2.out _) (by have:=HW.out.size;simp;omega)
           ⟨wr.drew.heap.size,0,none⟩ 2 2 rfl rfl (by simp) (World.news_of_block (heap_alloc_new wr.drew _)) (by simp[Value.oneCell']) (by have:=HLN.out;omega) ?_
         intro v' w' hown hbl hsz hgr))
   all_goals
    have hown1:=hid hown;have hbl1:=hid hbl;clear hown hbl hgr hsz HO2 HW2 HD hbx c0 c1 HO HW;go_wp2
    go_roundw
    case rel=>exact⟨k+1,by go_num,by omega,hid (by rw[HYS.out,HS.out];exact hown1.out),hbl1⟩
    case measure=>simp[intOf];omega
  ·obtain rfl:k=li:=by omega
   have HO1:=hid (show zR 9 1 W0.heap.size wr u3 ((Zm m.im).map ug) by have:=HO.out;rwa [List.take_of_length_le (by rw[Lli.out];exact Nat.le_refl _)] at this);have HW1:=HW;obtain⟨xs0,hxs0⟩:∃xs,(Zm m.im).map ug=xs:=⟨_,rfl⟩;have hxl0:xs0.length≤4000000:=by rw[←hxs0,List.length_map,Ju,Lli.out];omega
   have HX0:=hid hxs0;rw[hxs0] at HO1;clear HO HW hk hxs0;go_wp2
   go_loopw [3,5] (fun vo vi wr=>∃j:Nat,vi=.int .i64 j∧j≤lx∧Hid (zR 9 1 W0.heap.size wr vo (xs0++((m.ex.take j).map (·.na)).map ug))∧Hid (Below W0.heap.size W0 wr)) (fun _ vi _=>lx-(intOf vi).toNat)
   case atStart=>exact⟨0,rfl,Nat.zero_le _,hid (by simpa using HO1.out),HW1⟩
   case round =>
    clear HO1 HW1;obtain⟨j,rfl,hj,HO,HW⟩:=hrel;have hbx:=kP HW.out Xex.out
    by_cases hlt:j<lx
    ·have hkl:j<m.ex.length:=by rw[Llx.out];exact hlt
     obtain⟨b,off,ha,hb,hc⟩:=Rows.get Rex.out hkl;rw[ha] at hbx;have HS:=hid (zGP hkl xs0);have HLN:=hid (show (xs0++((m.ex.take j).map (·.na)).map ug).length≤6000000 by rw[List.length_append,List.length_map,List.length_map,List.length_take];omega);obtain⟨x,hxe⟩:∃x,m.ex[j]=x:=⟨_,rfl⟩;rw[hxe] at hc HS;have c0:∀W,Below wr.heap.size wr W→W.cell? ⟨b,off+j*3,none⟩=some (.string x.na):=fun W hW=>kP hW ((HW.out.cell (p:=⟨b,off+j*3+0,none⟩) hb).trans (hc 0 (by omega) (.string x.na) rfl))
     have c0:=c0 wr (Below.refl _ _);have hki:(j:Int)<(lx:Int):=by omega
     obtain⟨xs,hxs⟩:∃xs,xs0++((m.ex.take j).map (·.na)).map ug=xs:=⟨_,rfl⟩;obtain⟨ys,hys⟩:∃ys,xs0++((m.ex.take (j+1)).map (·.na)).map ug=ys:=⟨_,rfl⟩;rw[hxs] at HO HLN HS;rw[hys] at HS;have HYS:=hid hys;obtain⟨s0,hs0⟩:∃s,x.na=s:=⟨_,rfl⟩;rw[hs0] at c0 HS;clear hc hb ha hkl hxe hxs hys hs0 hj
     go_wp2_with first
      | (refine jI zEL rfl (by omega) (by omega) Tryz.underlying309 rfl (.tmp 35) (.tmp 42) rfl [[.string s0]] rfl (HO.out.below ((Below.refl _ _).alloc (Nat.le_refl _) _)) (zC HW.out _) (by have:=HW.out.size;simp;omega)
           ⟨wr.heap.size,0,none⟩ 1 1 rfl rfl (by simp) (World.news_of_block (heap_alloc_new wr _)) (by simp[Value.oneCell']) (by have:=HLN.out;omega) ?_
         intro v' w' hown hbl hsz hgr)
     have hown1:=hid hown;have hbl1:=hid hbl;clear hown hbl hgr hsz hbx c0 HO HW;go_wp2
     go_roundw
     case rel=>exact⟨j+1,by go_num,by omega,hid (by rw[HYS.out,HS.out];exact hown1.out),hbl1⟩
     case measure=>simp[intOf];omega
    ·obtain rfl:j=lx:=by omega
     have HO1:=hid (show zR 9 1 W0.heap.size wr u3 (m.names.map ug) by have:=HO.out;rw[List.take_of_length_le (by rw[Llx.out];exact Nat.le_refl _),←HX0.out] at this;unfold Md.names;rw[List.map_append];exact this);have hHO:=HO1.out.rows;rw[List.length_map] at hHO;obtain⟨a,c,rfl,hr,_⟩:=hHO;have HR:=hid hr;clear HO HO1 hr;go_wp2;go_ret;exact⟨a,c,rfl,HR.out,HB.out.trans (HW.out.mono HB.out.size)⟩
def Md.long (m:Md):Bool:=m.names.any qa||m.heavy
theorem zGa {m:Md} {k:Nat} (hk:k<m.da.length) (h:1048576<qq (m.da.take k)+m.da[k].bs.length):m.long=true:=by
 unfold Md.long Md.heavy;have:=Ya hk;have h2:=zAj m.da (k+1);simp only[Bool.or_eq_true,decide_eq_true_eq];omega
theorem zA0 {m:Md} (h:m.few):m.names.length≤3000000:=by
 unfold Md.names;have:=h.lens;rw[List.length_append,Ju,List.length_map];omega
theorem zDm {m:Md} (h:m.fits):∀s∈m.names,s.size≤140737488351232:=by
 intro s hs;unfold Md.names Zm at hs
 rcases List.mem_append.1 hs with hs|hs
 ·obtain⟨i,hi,hs⟩:=List.mem_flatMap.1 hs
  have:=h.iS i hi;simp only[List.mem_cons,List.not_mem_nil,or_false] at hs
  rcases hs with rfl|rfl
  ·exact this.1
  ·exact this.2
 ·obtain⟨e,he,rfl⟩:=List.mem_map.1 hs
  exact h.eS e he
theorem zGh {w:World} {a:Option Addr} {l:List ByteArray} {n:Nat} (h:Rows n w a 1 (l.map ug)) {k:Nat} (hk:k<l.length):∃b off,a=some ⟨b,off,none⟩∧b<n∧w.cell? ⟨b,off+k,none⟩=some (.string l[k]):=by
 obtain⟨b,off,ha,hb,hc⟩:=Rows.get h hk;refine⟨b,off,ha,hb,?_⟩;have:=hc 0 (by omega) _ rfl
 rwa [Nat.mul_one,Nat.add_zero] at this
theorem zCh (m:Md) (w:World) (hm:zN w.heap.size w m) (hf:m.few) :
  Calls Tryz.prog 179 #[.agg m.v] w fun x w'=>x=.returned (.bool m.long)∧Below w.heap.size w w':=by
 have hb0:=(Below.refl w.heap.size w).alloc (Nat.le_refl _) (.cells m.v 40);have HB:=hid hb0;have HM:=hid (hm.on hb0);have HX:=hid (zB.made w m.v 40);have HF:=hid hf;have C:=hid (YH m _ (hm.on hb0) hf);have HLF:=hid (zA0 hf);have HLS:=hid (zDm hf.fit);have HLD:=hid (show ∀d∈m.da,d.bs.length≤140737488351232 from hf.fit.bs);have HL:Hid (m.long=(m.names.any qa||decide (1048576<qq m.da))):=rfl;have hld:m.da.length≤1000000:=hf.lens.2.2.2.2.2.2.2.2;have X0:=(zB.made w m.v 40);unfold Md.v at HB HX HM X0 C ⊢;clear hm hf hb0;obtain⟨x0,x1,x2,x3,x4,x5,x6,x7,x8,x9,x10⟩:=Mod.jr X0;clear X0
 go_enter Tryz.func179,Tryz.ntmps179
 go_wp2_with fail
 refine C.out.mono ?_;rintro e w1 ⟨a,c,rfl,hr,hb1⟩;have HX1:=hid (HX.out.keep hb1);have HB1:=hid (HB.out.trans (hb1.mono HB.out.size));have HM1:=hid (HM.out.on hb1);have RN:=hid hr;clear C hr hb1 HX HB HM x0 x1 x2 x3 x4 x5 x6 x7 x8 x9 x10;obtain⟨ln,hln⟩:∃n,m.names.length=n:=⟨_,rfl⟩;obtain⟨ld,hldd⟩:∃n,m.da.length=n:=⟨_,rfl⟩;have Lln:=hid hln;have Lld:=hid hldd;have bln:ln≤3000000:=by have:=HLF.out;omega
 rw[hldd] at hld;have k10:w1.cell? ⟨w.heap.size,10,none⟩=some (.slice m.da'.a ld m.da'.c):=by rw[←hldd];exact HX1.out 10 _ rfl
 have RD:=hid HM1.out.da;rw[hln];clear HX1 HM1 HLF hln hldd HF;go_wp2
 go_loopw [4] (fun vi wr=>∃k:Nat,vi=.int .i64 k∧k≤ln∧wr=w1∧Hid (∀j (hj:j<m.names.length),j<k→qa m.names[j]=false)) (fun vi _=>ln-(intOf vi).toNat)
 case atStart=>exact⟨0,rfl,Nat.zero_le _,rfl,jw _ _⟩
 case round =>
  obtain⟨k,rfl,hk,rfl,HQ⟩:=hrel
  by_cases hlt:k<ln
  ·have hkl:k<m.names.length:=by rw[Lln.out];exact hlt
   obtain⟨b,off,rfl,hb,hc⟩:=zGh RN.out hkl;have HT:=hid (fun (h:qa m.names[k]=true)=>show m.long=true by rw[HL.out,any_some hkl h];rfl);have HO:=hid (fun (h:qa m.names[k]=false)=>yy hkl HQ.out h);have hsz:=HLS.out m.names[k] (List.getElem_mem hkl);have HWT:Hid (qa m.names[k]=decide (1000<m.names[k].size)):=rfl;obtain⟨s,hs⟩:∃s,m.names[k]=s:=⟨_,rfl⟩;rw[hs] at hc hsz HWT HT;have HO1:Hid (qa s=false→∀j (hj:j<m.names.length),j<k+1→qa m.names[j]=false):=by rw[←hs];exact HO
   have hki:(k:Int)<(ln:Int):=by omega
   clear hs hb hkl HO HQ
   by_cases g:1000<s.size
   ·have HE:=hid (HT.out (by rw[HWT.out];simp[g]))
    have gi:(1000:Int)<(s.size:Int):=by omega
    clear HT HO1 HWT;go_wp2;go_ret;exact⟨zA HE.out.symm,HB1.out⟩
   ·have HE:=hid (HO1.out (by rw[HWT.out];simp[g]))
    have gi:¬(1000:Int)<(s.size:Int):=by omega
    clear HT HO1 HWT;go_wp2
    go_roundw
    case rel=>exact⟨k+1,by go_num,by omega,trivial,HE⟩
    case measure=>simp[intOf];omega
  ·obtain rfl:k=ln:=by omega
   have HN:=hid (any_none (p:=qa) (l:=m.names) (fun j hj=>HQ.out j hj (by rw[←Lln.out];exact hj)));clear HQ;go_wp2
   go_loopw [5,6] (fun vn vi w9=>∃i N:Nat,vn=.int .i64 N∧vi=.int .i64 i∧i≤ld∧N≤1048576∧w9=wr∧Hid (N=qq (m.da.take i))) (fun _ vi _=>ld-(intOf vi).toNat)
   case atStart=>exact⟨0,0,rfl,rfl,Nat.zero_le _,Nat.zero_le _,rfl,rfl⟩
   case round =>
    obtain⟨i,N,rfl,rfl,hi,hN,rfl,HQ⟩:=hrel
    by_cases hltd:i<ld
    ·have hkl:i<m.da.length:=by rw[Lld.out];exact hltd
     obtain⟨b,off,ha,hb,hc⟩:=Rows.get RD.out hkl;rw[ha] at k10;have HT:=hid (fun h=>zGa (m:=m) hkl h);have HS:=hid (Ya hkl);have hsz:=HLD.out m.da[i] (List.getElem_mem hkl);obtain⟨x,hx⟩:∃x,m.da[i]=x:=⟨_,rfl⟩;rw[hx] at hc HT HS hsz;have c1:=hc 1 (by omega) (.slice x.ba x.bs.length x.bc) rfl;obtain⟨q,hq⟩:∃q,x.bs.length=q:=⟨_,rfl⟩;rw[hq] at c1 HT HS hsz;have hki:(i:Int)<(ld:Int):=by omega
     clear hc hx hq hb ha hkl hlt
     by_cases g:1048576<N+q
     ·have HE:=hid (HT.out (by rw[←HQ.out];exact g))
      have gi:(1048576:Int)-(N:Int)<(q:Int):=by omega
      clear HT HS HQ;go_wp2;go_ret;exact⟨zA HE.out.symm,HB1.out⟩
     ·have HE:=hid (show N+q=qq (m.da.take (i+1)) by rw[HS.out,←HQ.out])
      have gi:¬(1048576:Int)-(N:Int)<(q:Int):=by omega
      clear HT HS HQ;go_wp2
      go_roundw
      case rel=>exact⟨i+1,N+q,by go_num,by go_num,by omega,by omega,trivial,HE⟩
      case measure=>simp[intOf];omega
    ·obtain rfl:i=ld:=by omega
     have HE:=hid (show m.long=false by
       rw[HL.out,HN.out];have:=HQ.out;rw[List.take_of_length_le (by rw[Lld.out];exact Nat.le_refl _)] at this;have:¬1048576<qq m.da:=by omega
       simp[this])
     clear HQ;go_wp2;go_ret;exact⟨zA HE.out.symm,HB1.out⟩
end Mod
end Go.Proofs.YtdljneclfgneoaaGreatDoor
