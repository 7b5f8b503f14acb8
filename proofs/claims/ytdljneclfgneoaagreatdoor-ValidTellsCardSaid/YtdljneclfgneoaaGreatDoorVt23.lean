import Derived.Test.YtdljneclfgneoaaGreatDoorVt22
import Derived.RegionTactic
import Derived.Deep.RegionHeld3
import Derived.Deep.Cut
set_option linter.unusedVariables false
set_option linter.ambiguousOpen false
set_option maxRecDepth 100000
set_option maxHeartbeats 8000000
namespace Go.Proofs.YtdljneclfgneoaaGreatDoor
namespace Instr
end Instr
namespace Mod
open Go.RowKit Instr
open List renaming getElem_toArray → qA, getElem_cons_succ → qB, getElem_cons_zero → qC, setIfInBounds_toArray → qD, set_cons_zero → qE, set_cons_succ → qF
set_option linter.unusedSimpArgs false
theorem kM {α:Type} {f:α→List Value} {sz:Nat} (h:∀x,(f x).length=sz) (l:List α):∀r∈l.map f,r.length=sz:=by
 intro r hr;obtain⟨x,_,rfl⟩:=List.mem_map.1 hr;exact h x
theorem kL {α:Type} {f:α→List Value} (h:∀x,∀u∈f x,u.oneCell'=true) (l:List α):∀r∈l.map f,∀u∈r,u.oneCell'=true:=by
 intro r hr;obtain⟨x,_,rfl⟩:=List.mem_map.1 hr;exact h x
theorem zH0:∀x,∀u∈tyV x,u.oneCell'=true:=by intro x u hu;simp only[tyV,List.mem_cons,List.not_mem_nil,or_false] at hu;rcases hu with rfl|rfl<;>rfl
theorem zJM:∀x:Imp,∀u∈x.v,u.oneCell'=true:=by intro x u hu;simp only[Imp.v,List.mem_cons,List.not_mem_nil,or_false] at hu;rcases hu with rfl|rfl|rfl<;>rfl
theorem zGJ:∀x:Li,∀u∈x.v,u.oneCell'=true:=by intro x u hu;simp only[Li.v,List.mem_cons,List.not_mem_nil,or_false] at hu;rcases hu with rfl|rfl|rfl<;>rfl
theorem zIN:∀x:Ex,∀u∈x.v,u.oneCell'=true:=by intro x u hu;simp only[Ex.v,List.mem_cons,List.not_mem_nil,or_false] at hu;rcases hu with rfl|rfl|rfl<;>rfl
theorem zJO:∀x:Fn,∀u∈x.v,u.oneCell'=true:=by intro x u hu;simp only[Fn.v,Lst.val,List.mem_cons,List.not_mem_nil,or_false] at hu;rcases hu with rfl|rfl|rfl<;>rfl
theorem zJA:∀x:Gl,∀u∈x.v,u.oneCell'=true:=by intro x u hu;simp only[Gl.v,Lst.val,List.mem_cons,List.not_mem_nil,or_false] at hu;rcases hu with rfl|rfl<;>rfl
theorem zGn:∀x:El,∀u∈x.v,u.oneCell'=true:=by intro x u hu;simp only[El.v,Lst.val,List.mem_cons,List.not_mem_nil,or_false] at hu;rcases hu with rfl|rfl<;>rfl
theorem zGq:∀x:Da,∀u∈x.v,u.oneCell'=true:=by intro x u hu;simp only[Da.v,Lst.val,List.mem_cons,List.not_mem_nil,or_false] at hu;rcases hu with rfl|rfl<;>rfl
def zD9 (m:Md) (w:World) (e:Ending) (w':World):Prop:=∃b:Md,e=.returned (.agg b.v)∧zN w'.heap.size w' b∧b.bare=m.bare∧Below w.heap.size w w'
theorem zBO (m:Md) (w:World) (hm:zN w.heap.size w m) (hs:m.small 5000):Calls Tryz.prog 38 #[.agg m.v] w (zD9 m w):=by
 have P0:=hid (Cp.start w m.v);have HM:=hid hm;have HL:=hid hs.lens;have HW:=hid hs.ls;have HFS:=hid hs.fs;have HBS:=hid hs.bs;have HEND:=hid (fun W e1 e2 e3 e4 e5 e6 e7 e8 e9 b1 b2 b3 b4 b5 b6 b7 b8 b9 v1 v2 v3 v4 v5 v6 v7 v8 v9 fus gls els das h1 h2 h3 h4 h5 h6 h7 h8 h9 q3 q6 q8 q9=>zHi (m:=m) (W:=W) (e1:=e1) (e2:=e2) (e3:=e3) (e4:=e4) (e5:=e5) (e6:=e6) (e7:=e7) (e8:=e8) (e9:=e9) (b1:=b1) (b2:=b2) (b3:=b3) (b4:=b4) (b5:=b5) (b6:=b6) (b7:=b7) (b8:=b8) (b9:=b9) (v1:=v1) (v2:=v2) (v3:=v3) (v4:=v4) (v5:=v5) (v6:=v6) (v7:=v7) (v8:=v8) (v9:=v9) (fus:=fus) (gls:=gls) (els:=els) (das:=das) h1 h2 h3 h4 h5 h6 h7 h8 h9 q3 q6 q8 q9);clear hm hs;unfold Md.v qN at P0;unfold Md.v;obtain⟨n_ty,hn_ty⟩:∃n,m.ty.length=n:=⟨_,rfl⟩;have N_ty:=hid hn_ty;rw[hn_ty] at P0 ⊢;obtain⟨ty',s_ty⟩:∃s,m.ty'=s:=⟨_,rfl⟩;have HM_ty:=hid HM.out.ty;rw[s_ty] at P0 HM_ty ⊢;clear hn_ty s_ty;obtain⟨n_im,hn_im⟩:∃n,m.im.length=n:=⟨_,rfl⟩;have N_im:=hid hn_im;rw[hn_im] at P0 ⊢;obtain⟨im',s_im⟩:∃s,m.im'=s:=⟨_,rfl⟩;have HM_im:=hid HM.out.im;rw[s_im] at P0 HM_im ⊢;clear hn_im s_im;obtain⟨n_fu,hn_fu⟩:∃n,m.fu.length=n:=⟨_,rfl⟩;have N_fu:=hid hn_fu;rw[hn_fu] at P0 ⊢;obtain⟨fu',s_fu⟩:∃s,m.fu'=s:=⟨_,rfl⟩;have HM_fu:=hid HM.out.fu;rw[s_fu] at P0 HM_fu ⊢;clear hn_fu s_fu;obtain⟨n_tb,hn_tb⟩:∃n,m.tb.length=n:=⟨_,rfl⟩;have N_tb:=hid hn_tb;rw[hn_tb] at P0 ⊢;obtain⟨tb',s_tb⟩:∃s,m.tb'=s:=⟨_,rfl⟩;have HM_tb:=hid HM.out.tb;rw[s_tb] at P0 HM_tb ⊢;clear hn_tb s_tb;obtain⟨n_me,hn_me⟩:∃n,m.me.length=n:=⟨_,rfl⟩;have N_me:=hid hn_me;rw[hn_me] at P0 ⊢;obtain⟨me',s_me⟩:∃s,m.me'=s:=⟨_,rfl⟩;have HM_me:=hid HM.out.me;rw[s_me] at P0 HM_me ⊢;clear hn_me s_me;obtain⟨n_gl,hn_gl⟩:∃n,m.gl.length=n:=⟨_,rfl⟩;have N_gl:=hid hn_gl;rw[hn_gl] at P0 ⊢;obtain⟨gl',s_gl⟩:∃s,m.gl'=s:=⟨_,rfl⟩;have HM_gl:=hid HM.out.gl;rw[s_gl] at P0 HM_gl ⊢;clear hn_gl s_gl;obtain⟨n_ex,hn_ex⟩:∃n,m.ex.length=n:=⟨_,rfl⟩;have N_ex:=hid hn_ex;rw[hn_ex] at P0 ⊢;obtain⟨ex',s_ex⟩:∃s,m.ex'=s:=⟨_,rfl⟩;have HM_ex:=hid HM.out.ex;rw[s_ex] at P0 HM_ex ⊢;clear hn_ex s_ex;obtain⟨st,hst⟩:∃b,m.st=b:=⟨_,rfl⟩;have Est:=hid hst;rw[hst] at P0 HEND ⊢;clear hst;obtain⟨sn,hsn⟩:∃b,m.sn=b:=⟨_,rfl⟩;have Esn:=hid hsn;rw[hsn] at P0 HEND ⊢;clear hsn;obtain⟨n_el,hn_el⟩:∃n,m.el.length=n:=⟨_,rfl⟩;have N_el:=hid hn_el;rw[hn_el] at P0 ⊢;obtain⟨el',s_el⟩:∃s,m.el'=s:=⟨_,rfl⟩;have HM_el:=hid HM.out.el;rw[s_el] at P0 HM_el ⊢;clear hn_el s_el;obtain⟨n_da,hn_da⟩:∃n,m.da.length=n:=⟨_,rfl⟩;have N_da:=hid hn_da;rw[hn_da] at P0 ⊢;obtain⟨da',s_da⟩:∃s,m.da'=s:=⟨_,rfl⟩;have HM_da:=hid HM.out.da;rw[s_da] at P0 HM_da ⊢;clear hn_da s_da;have HLS:=hid HM.out.ls;have HFA:=hid HM.out.fs;have HBA:=hid HM.out.bs;clear HM
 go_enter Tryz.func38,Tryz.ntmps38
 go_upto_region 2 with fail
 generalize ((w.alloc (.cells #[.slice ty'.a n_ty ty'.c,.slice im'.a n_im im'.c,.slice fu'.a n_fu fu'.c,.slice tb'.a n_tb tb'.c,.slice me'.a n_me me'.c,.slice gl'.a n_gl gl'.c,.slice ex'.a n_ex ex'.c,.bool st,.int .u32 sn,.slice el'.a n_el el'.c,.slice da'.a n_da da'.c] 40)).alloc (.cells #[.slice none 0 0,.slice none 0 0,.slice none 0 0,.slice none 0 0,.slice none 0 0,.slice none 0 0,.slice none 0 0,.bool false,.int .u32 0,.slice none 0 0,.slice none 0 0] 40)).alloc (.cells #[.slice ty'.a n_ty ty'.c,.slice im'.a n_im im'.c,.slice fu'.a n_fu fu'.c,.slice tb'.a n_tb tb'.c,.slice me'.a n_me me'.c,.slice gl'.a n_gl gl'.c,.slice ex'.a n_ex ex'.c,.bool st,.int .u32 sn,.slice el'.a n_el el'.c,.slice da'.a n_da da'.c] 40)=W0 at P0 ⊢
 rw[show w.heap.size+1+1=w.heap.size+2 from rfl];have xm:=kP ((Below.refl W0.heap.size W0).alloc (Nat.le_refl _) (.cells #[] 26)) (P0.out.mod 0 _ rfl);have hsz0:=hid P0.out.size
 go_wp2_with (first
   | (at_builtin;(refine jH zIk rfl (by omega) (by omega) Tryz.underlying30 rfl (.tmp 10) (.tmp 12) rfl rfl (zR.madeG 26 2 _ rfl) (by simp) _ _ _ rfl (m.ty.map tyV) (by rw[List.length_map];exact N_ty.out) ((HM_ty.out.below (zC P0.out.below _)).more (by have:=hsz0.out;simp;omega)) (kM (f:=tyV) (sz:=2) (fun _=>rfl) _) (kL zH0 _) (by have:=HL.out;rw[List.length_map];omega) ?_);intro v1 u1 ho hb hsz;obtain⟨a1,c1,rfl⟩:=ho.slc N_ty.out;refine Hid.out ?_))
 refine hid ?_;have BB:=hid ((Below.refl W0.heap.size W0).alloc (Nat.le_refl _) (.cells #[] 26) |>.trans (hb.mono (Nat.le_refl _)));have Q:=hid (P0.out.go BB.out);have Otyx:=hid (ho.mono hsz0.out);have ym:=Q.out.out 0 _ rfl;have fm:=Q.out.outf 0;clear xm hb ho hsz
 go_upto_region 3 with fail
 have P1:=hid (Q.out.set 0 (by simp) (.slice a1 n_ty c1));have SV:=hid ((zF.refl (w.heap.size+2) u1).setCell (p:=⟨w.heap.size+2,0,none⟩) (.inl rfl) (.slice a1 n_ty c1));have Oty:=hid (Otyx.out.save SV.out (by omega));simp only[List.setIfInBounds_toArray,List.set_cons_zero,List.set_cons_succ] at P1
 generalize u1.setCell ⟨w.heap.size+2,0,none⟩ (.slice a1 n_ty c1)=W1 at P1 Oty ⊢
 clear BB Q SV ym fm hsz0 P0 Otyx;have xm:=kP ((Below.refl W1.heap.size W1).alloc (Nat.le_refl _) (.cells #[] 124)) (P1.out.mod 1 _ rfl);have hsz0:=hid P1.out.size
 go_wp2_with (first
   | (at_builtin;(refine jH zIc rfl (by omega) (by omega) Tryz.underlying31 rfl (.tmp 15) (.tmp 17) rfl rfl (zR.madeG 124 3 _ rfl) (by simp) _ _ _ rfl (m.im.map Imp.v) (by rw[List.length_map];exact N_im.out) ((HM_im.out.below (zC P1.out.below _)).more (by have:=hsz0.out;simp;omega)) (kM (f:=Imp.v) (sz:=3) (fun _=>rfl) _) (kL zJM _) (by have:=HL.out;rw[List.length_map];omega) ?_);intro v2 u2 ho hb hsz;obtain⟨a2,c2,rfl⟩:=ho.slc N_im.out;refine Hid.out ?_))
 refine hid ?_;have BB:=hid ((Below.refl W1.heap.size W1).alloc (Nat.le_refl _) (.cells #[] 124) |>.trans (hb.mono (Nat.le_refl _)));have Q:=hid (P1.out.go BB.out);have Otyx:=hid (Oty.out.below BB.out);have Oimx:=hid (ho.mono hsz0.out);have ym:=Q.out.out 1 _ rfl;have fm:=Q.out.outf 1;clear xm hb ho hsz Oty
 go_upto_region 4 with fail
 have P2:=hid (Q.out.set 1 (by simp) (.slice a2 n_im c2));have SV:=hid ((zF.refl (w.heap.size+2) u2).setCell (p:=⟨w.heap.size+2,1,none⟩) (.inl rfl) (.slice a2 n_im c2));have Oty:=hid (Otyx.out.save SV.out (by omega));have Oim:=hid (Oimx.out.save SV.out (by omega));simp only[List.setIfInBounds_toArray,List.set_cons_zero,List.set_cons_succ] at P2
 generalize u2.setCell ⟨w.heap.size+2,1,none⟩ (.slice a2 n_im c2)=W2 at P2 Oty Oim ⊢
 clear BB Q SV ym fm hsz0 P1 Otyx Oimx;have xm:=kP ((Below.refl W2.heap.size W2).alloc (Nat.le_refl _) (.cells #[] 127)) (P2.out.mod 3 _ rfl);have hsz0:=hid P2.out.size
 go_wp2_with (first
   | (at_builtin;(refine jH zGc rfl (by omega) (by omega) Tryz.underlying33 rfl (.tmp 20) (.tmp 22) rfl rfl (zR.madeG 127 3 _ rfl) (by simp) _ _ _ rfl (m.tb.map Li.v) (by rw[List.length_map];exact N_tb.out) ((HM_tb.out.below (zC P2.out.below _)).more (by have:=hsz0.out;simp;omega)) (kM (f:=Li.v) (sz:=3) (fun _=>rfl) _) (kL zGJ _) (by have:=HL.out;rw[List.length_map];omega) ?_);intro v3 u3 ho hb hsz;obtain⟨a3,c3,rfl⟩:=ho.slc N_tb.out;refine Hid.out ?_))
 refine hid ?_;have BB:=hid ((Below.refl W2.heap.size W2).alloc (Nat.le_refl _) (.cells #[] 127) |>.trans (hb.mono (Nat.le_refl _)));have Q:=hid (P2.out.go BB.out);have Otyx:=hid (Oty.out.below BB.out);have Oimx:=hid (Oim.out.below BB.out);have Otbx:=hid (ho.mono hsz0.out);have ym:=Q.out.out 3 _ rfl;have fm:=Q.out.outf 3;clear xm hb ho hsz Oty Oim
 go_upto_region 5 with fail
 have P3:=hid (Q.out.set 3 (by simp) (.slice a3 n_tb c3));have SV:=hid ((zF.refl (w.heap.size+2) u3).setCell (p:=⟨w.heap.size+2,3,none⟩) (.inl rfl) (.slice a3 n_tb c3));have Oty:=hid (Otyx.out.save SV.out (by omega));have Oim:=hid (Oimx.out.save SV.out (by omega));have Otb:=hid (Otbx.out.save SV.out (by omega));simp only[List.setIfInBounds_toArray,List.set_cons_zero,List.set_cons_succ] at P3
 generalize u3.setCell ⟨w.heap.size+2,3,none⟩ (.slice a3 n_tb c3)=W3 at P3 Oty Oim Otb ⊢
 clear BB Q SV ym fm hsz0 P2 Otyx Oimx Otbx;have xm:=kP ((Below.refl W3.heap.size W3).alloc (Nat.le_refl _) (.cells #[] 127)) (P3.out.mod 4 _ rfl);have hsz0:=hid P3.out.size
 go_wp2_with (first
   | (at_builtin;(refine jH zGc rfl (by omega) (by omega) Tryz.underlying33 rfl (.tmp 25) (.tmp 27) rfl rfl (zR.madeG 127 3 _ rfl) (by simp) _ _ _ rfl (m.me.map Li.v) (by rw[List.length_map];exact N_me.out) ((HM_me.out.below (zC P3.out.below _)).more (by have:=hsz0.out;simp;omega)) (kM (f:=Li.v) (sz:=3) (fun _=>rfl) _) (kL zGJ _) (by have:=HL.out;rw[List.length_map];omega) ?_);intro v4 u4 ho hb hsz;obtain⟨a4,c4,rfl⟩:=ho.slc N_me.out;refine Hid.out ?_))
 refine hid ?_;have BB:=hid ((Below.refl W3.heap.size W3).alloc (Nat.le_refl _) (.cells #[] 127) |>.trans (hb.mono (Nat.le_refl _)));have Q:=hid (P3.out.go BB.out);have Otyx:=hid (Oty.out.below BB.out);have Oimx:=hid (Oim.out.below BB.out);have Otbx:=hid (Otb.out.below BB.out);have Omex:=hid (ho.mono hsz0.out);have ym:=Q.out.out 4 _ rfl;have fm:=Q.out.outf 4;clear xm hb ho hsz Oty Oim Otb
 go_upto_region 6 with fail
 have P4:=hid (Q.out.set 4 (by simp) (.slice a4 n_me c4));have SV:=hid ((zF.refl (w.heap.size+2) u4).setCell (p:=⟨w.heap.size+2,4,none⟩) (.inl rfl) (.slice a4 n_me c4));have Oty:=hid (Otyx.out.save SV.out (by omega));have Oim:=hid (Oimx.out.save SV.out (by omega));have Otb:=hid (Otbx.out.save SV.out (by omega));have Ome:=hid (Omex.out.save SV.out (by omega));simp only[List.setIfInBounds_toArray,List.set_cons_zero,List.set_cons_succ] at P4
 generalize u4.setCell ⟨w.heap.size+2,4,none⟩ (.slice a4 n_me c4)=W4 at P4 Oty Oim Otb Ome ⊢
 clear BB Q SV ym fm hsz0 P3 Otyx Oimx Otbx Omex;have xm:=kP ((Below.refl W4.heap.size W4).alloc (Nat.le_refl _) (.cells #[] 45)) (P4.out.mod 6 _ rfl);have hsz0:=hid P4.out.size
 go_wp2_with (first
   | (at_builtin;(refine jH zIu rfl (by omega) (by omega) Tryz.underlying35 rfl (.tmp 30) (.tmp 32) rfl rfl (zR.madeG 45 3 _ rfl) (by simp) _ _ _ rfl (m.ex.map Ex.v) (by rw[List.length_map];exact N_ex.out) ((HM_ex.out.below (zC P4.out.below _)).more (by have:=hsz0.out;simp;omega)) (kM (f:=Ex.v) (sz:=3) (fun _=>rfl) _) (kL zIN _) (by have:=HL.out;rw[List.length_map];omega) ?_);intro v5 u5 ho hb hsz;obtain⟨a5,c5,rfl⟩:=ho.slc N_ex.out;refine Hid.out ?_))
 refine hid ?_;have BB:=hid ((Below.refl W4.heap.size W4).alloc (Nat.le_refl _) (.cells #[] 45) |>.trans (hb.mono (Nat.le_refl _)));have Q:=hid (P4.out.go BB.out);have Otyx:=hid (Oty.out.below BB.out);have Oimx:=hid (Oim.out.below BB.out);have Otbx:=hid (Otb.out.below BB.out);have Omex:=hid (Ome.out.below BB.out);have Oexx:=hid (ho.mono hsz0.out);have ym:=Q.out.out 6 _ rfl;have fm:=Q.out.outf 6;clear xm hb ho hsz Oty Oim Otb Ome
 go_upto_region 7 with fail
 have P5:=hid (Q.out.set 6 (by simp) (.slice a5 n_ex c5));have SV:=hid ((zF.refl (w.heap.size+2) u5).setCell (p:=⟨w.heap.size+2,6,none⟩) (.inl rfl) (.slice a5 n_ex c5));have Oty:=hid (Otyx.out.save SV.out (by omega));have Oim:=hid (Oimx.out.save SV.out (by omega));have Otb:=hid (Otbx.out.save SV.out (by omega));have Ome:=hid (Omex.out.save SV.out (by omega));have Oex:=hid (Oexx.out.save SV.out (by omega));simp only[List.setIfInBounds_toArray,List.set_cons_zero,List.set_cons_succ] at P5
 generalize u5.setCell ⟨w.heap.size+2,6,none⟩ (.slice a5 n_ex c5)=W5 at P5 Oty Oim Otb Ome Oex ⊢
 clear BB Q SV ym fm hsz0 P4 Otyx Oimx Otbx Omex Oexx;have ym2:=P5.out.out 2 _ rfl;have fm2:=P5.out.outf 2;have ym5:=P5.out.out 5 _ rfl;have fm5:=P5.out.outf 5;have ym9:=P5.out.out 9 _ rfl;have fm9:=P5.out.outf 9;have ym10:=P5.out.out 10 _ rfl;have fm10:=P5.out.outf 10
 go_upto_region 11 with fail
 have P6:=hid ((((P5.out.set 2 (by simp) (.slice none 0 0)).set 5 (by simp) (.slice none 0 0)).set 9 (by simp) (.slice none 0 0)).set 10 (by simp) (.slice none 0 0));have SV:=hid (((((zF.refl (w.heap.size+2) W5).setCell (p:=⟨w.heap.size+2,2,none⟩) (.inl rfl) (.slice none 0 0)).setCell (p:=⟨w.heap.size+2,5,none⟩) (.inl rfl) (.slice none 0 0)).setCell (p:=⟨w.heap.size+2,9,none⟩) (.inl rfl) (.slice none 0 0)).setCell (p:=⟨w.heap.size+2,10,none⟩) (.inl rfl) (.slice none 0 0));have Rty:=hid (Oty.out.save SV.out (by omega));have Rim:=hid (Oim.out.save SV.out (by omega));have Rtb:=hid (Otb.out.save SV.out (by omega));have Rme:=hid (Ome.out.save SV.out (by omega));have Rex:=hid (Oex.out.save SV.out (by omega));simp only[List.setIfInBounds_toArray,List.set_cons_zero,List.set_cons_succ] at P6
 generalize (((W5.setCell ⟨w.heap.size+2,2,none⟩ (.slice none 0 0)).setCell ⟨w.heap.size+2,5,none⟩ (.slice none 0 0)).setCell ⟨w.heap.size+2,9,none⟩ (.slice none 0 0)).setCell ⟨w.heap.size+2,10,none⟩ (.slice none 0 0)=V0 at P6 Rty Rim Rtb Rme Rex ⊢
 have FV:=hid (zHH.mk Rty.out Rim.out Rtb.out Rme.out Rex.out);clear SV P5 ym2 fm2 ym5 fm5 ym9 fm9 ym10 fm10 Oty Rty Oim Rim Otb Rtb Ome Rme Oex Rex;go_wp2
 go_loopw [4,5] (fun vi v5 wr=>∃(k:Nat) (v:Value) (us:List Mod.Fn),vi=.int .i64 k∧us.length=k∧k≤n_fu∧Hid (Cp w #[.slice ty'.a n_ty ty'.c,.slice im'.a n_im im'.c,.slice fu'.a n_fu fu'.c,.slice tb'.a n_tb tb'.c,.slice me'.a n_me me'.c,.slice gl'.a n_gl gl'.c,.slice ex'.a n_ex ex'.c,.bool st,.int .u32 sn,.slice el'.a n_el el'.c,.slice da'.a n_da da'.c] #[.slice a1 n_ty c1,.slice a2 n_im c2,v,.slice a3 n_tb c3,.slice a4 n_me c4,.slice none 0 0,.slice a5 n_ex c5,.bool st,.int .u32 sn,.slice none 0 0,.slice none 0 0] wr)∧Hid (Got 43 3 V0.heap.size Fn.v zCp wr v us)∧Hid (us.map Fn.bare=(m.fu.take k).map Fn.bare)∧Hid (zF (w.heap.size+2) V0 wr)) (fun vi _ _=>n_fu-(intOf vi).toNat)
 case atStart=>exact⟨0,.slice none 0 0,[],rfl,rfl,Nat.zero_le _,P6,Got.start _ _ _ _ _ _,rfl,zF.refl _ _⟩
 case round =>
  obtain⟨k,v,us,rfl,hul,hk,HP,HG,HE,HS⟩:=hrel;have xm:=HP.out.mod 2 _ rfl
  by_cases hlt:k<n_fu
  ·have hkl:k<m.fu.length:=by rw[N_fu.out];exact hlt
   have hki:(k:Int)<(n_fu:Int):=by omega
   have hn5:n_fu≤5000:=by have h1:=HL.out;have h2:=N_fu.out;omega
   obtain⟨b,off,ha,hb,hc⟩:=Rows.get HM_fu.out hkl;have hLi:=HLS.out (m.fu[k].l) (by unfold Md.codes;exact List.mem_append_left _ (List.mem_map.2 ⟨_,List.getElem_mem hkl,rfl⟩));have hWi:=HW.out (m.fu[k].l) (by unfold Md.codes;exact List.mem_append_left _ (List.mem_map.2 ⟨_,List.getElem_mem hkl,rfl⟩));have HSN:=hid (fun (x:Mod.Fn) (hx:Fn.bare x=Fn.bare m.fu[k])=>YU Fn.bare HE.out hkl hx);obtain⟨x,hxe⟩:∃x,m.fu[k]=x:=⟨_,rfl⟩;rw[hxe] at hc hLi hWi HSN;rw[ha] at xm;have cc:∀j,j<3→∀u,(Fn.v x)[j]?=some u→wr.cell? ⟨b,off+k*3+j,none⟩=some u:=fun j hj u hu=>(HP.out.below.cell (p:=⟨b,off+k*3+j,none⟩) hb).trans (hc j hj u hu)
   obtain⟨xt,xlo,xa,xc,xl⟩:=x;dsimp only at hLi hWi;obtain⟨xn,hxn⟩:∃n,xl.len=n:=⟨_,rfl⟩;have c0:wr.cell? ⟨b,off+k*3,none⟩=some (.int .i64 xt):=cc 0 (by omega) _ rfl;have c1:wr.cell? ⟨b,off+k*3+1,none⟩=some (.int .i64 xlo):=cc 1 (by omega) _ rfl;have c2:wr.cell? ⟨b,off+k*3+2,none⟩=some (.slice xa xl.len xc):=cc 2 (by omega) _ rfl;rw[hxn] at c2 hLi;have CO:=hid (fun (W:World) (hb:Below w.heap.size w W)=>Body.zB7 5000 xl xa xn xc W hWi (by omega) (hLi.on hb));have BW:=hid (zC HP.out.below (.cells #[.int .i64 xt,.int .i64 xlo,.slice xa xn xc] 43));have C:=hid (CO.out _ BW.out);have AB:=hid ((Below.refl wr.heap.size wr).alloc (Nat.le_refl _) (.cells #[.int .i64 xt,.int .i64 xlo,.slice xa xn xc] 43));have bxF:=zB.made wr #[.int .i64 xt,.int .i64 xlo,.slice xa xn xc] 43;have SOF:=hid (show Zn (wr.alloc (.cells #[.int .i64 xt,.int .i64 xlo,.slice xa xn xc] 43)) wr.heap.size from ⟨_,_,heap_alloc_new wr _⟩);have HBF:=hid bxF;have HXN:=hid hxn;clear hxn hc hb hLi hWi cc ha CO hxe bxF
   go_upto_region 15 with fail
   have f2:=HBF.out 2 _ rfl
   go_wp2_with fail
   refine C.out.mono ?_;rintro e8 w8 ⟨a8,c8,u8,rfl,hb8,hl8,hlow8,hbr8⟩;have hu8:=hl8.1;subst hu8;have BW8:=hid (zM AB.out hb8);have HP8:=hid (HP.out.go BW8.out);have SO8:=hid (SOF.out.touch (S:=fun _=>False) (.of_below hb8) (fun h=>h));have HB8:=hid (HBF.out.keep hb8);have f0:=HB8.out 0 _ rfl;have f1:=HB8.out 1 _ rfl;clear f2;have f2:=HB8.out 2 _ rfl;have ff:=SO8.out.frozen 2;have TW:=hid ((Touch.refl (fun j=>j=wr.heap.size) w8).setCell (p:=⟨wr.heap.size,2,none⟩) (.inl rfl) (.slice a8 u8.len c8));have BW9:=hid (BW8.out.setCell (p:=⟨wr.heap.size,2,none⟩) (Nat.le_refl _) (.slice a8 u8.len c8));have hlw:∀q∈zV u8.len a8++u8.foot,wr.heap.size+1≤q:=fun q hq=>by have:=hlow8 q hq;simpa using this
   have LIE:=hid (show (zCp ⟨xt,xlo,⟨a8,c8,u8⟩⟩).lies (w8.setCell ⟨wr.heap.size,2,none⟩ (.slice a8 u8.len c8)) from ⟨(hl8.touch TW.out (fun q hq e=>by have:=hlw q hq;omega)).more TW.out.size,.inl rfl,.inl rfl⟩);have LOW:=hid (show ∀q∈(zCp ⟨xt,xlo,⟨a8,c8,u8⟩⟩).foot,wr.heap.size≤q from fun q hq=>by have h:q∈(zV u8.len a8++u8.foot)++([]++[]):=hq;simp only[List.append_nil] at h;have:=hlw q h;omega);have HBR:=hid hbr8;clear hb8 hl8 hlow8 hlw hbr8 C xm TW SOF HBF BW AB;obtain⟨av,cv,rfl⟩:=HG.out.slc hul;have HV:=hid (fun g hg=>(World.ownsRow.lt HG.out.row.row g hg).2);have HG9:=hid (HG.out.below BW9.out);have HP9:=hid (HP.out.go BW9.out);have B3:=hid HS.out.size;have BASE:=hid (Nat.le_trans B3.out BW9.out.size);have PZ:=hid (P6.out.size);have HUL:=hid hul;have KL:=hid (show us.length≤1000000 by have h1:=HL.out;have h2:=N_fu.out;omega);have ym:=HP8.out.out 2 _ rfl;clear hul
   go_upto_region 16 with fail
   have ym9:=HP9.out.out 2 _ rfl;have Z0:(w8.setCell ⟨wr.heap.size,2,none⟩ (.slice a8 u8.len c8)).cell? ⟨wr.heap.size,0,none⟩=some (.int .i64 xt):=(World.cell?_setCell_other _ _ _ _ (by simp)).trans f0;have Z1:(w8.setCell ⟨wr.heap.size,2,none⟩ (.slice a8 u8.len c8)).cell? ⟨wr.heap.size,1,none⟩=some (.int .i64 xlo):=(World.cell?_setCell_other _ _ _ _ (by simp)).trans f1;have Z2:(w8.setCell ⟨wr.heap.size,2,none⟩ (.slice a8 u8.len c8)).cell? ⟨wr.heap.size,2,none⟩=some (.slice a8 u8.len c8):=World.cell?_setCell_same _ _ _ f2;clear f0 f1 f2 ff ym HP8 SO8 HB8 BW8
   generalize w8.setCell ⟨wr.heap.size,2,none⟩ (.slice a8 u8.len c8)=W9 at BW9 LIE HG9 HP9 BASE ym9 Z0 Z1 Z2 ⊢
   go_wp2_with (first
     | (at_builtin;(refine zB0 zJG rfl (by omega) (by omega) Tryz.underlying32 rfl (.tmp 58) (.tmp 60) rfl (base:=V0.heap.size) (n0:=wr.heap.size) (p:=zCp) (f:=Fn.v) ⟨xt,xlo,⟨a8,c8,u8⟩⟩ rfl HG9.out BASE.out W9.heap.size rfl rfl rfl (zJO _) KL.out LIE.out LOW.out B3.out HV.out ?_);intro g cap w10 hg10 hb10;rw[HUL.out] at hg10 ⊢;refine Hid.out ?_))
   refine hid ?_;have HP10:=hid (HP9.out.on (hb10.mono PZ.out));have ym10:=HP10.out.out 2 _ rfl;have fm10:=HP10.out.outf 2;have HS10:=hid (zF.zM (zF.zM HS.out (BW9.out.mono B3.out)) hb10);have HG10:=hid hg10;clear hg10 hb10 ym9 Z0 Z1 Z2 HP9 HG9 BW9 BASE KL LIE LOW HV;go_wp2
   go_roundw
   case rel=>exact⟨k+1,_,_,by go_num,by rw[List.length_append,HUL.out];rfl,by omega,HP10.out.set 2 (by simp) _,HG10.out.save (k:=w.heap.size+2) ((zF.refl (w.heap.size+2) w10).setCell (p:=⟨w.heap.size+2,2,none⟩) (.inl rfl) _) (by have:=PZ.out;omega),HSN.out ⟨xt,xlo,⟨a8,c8,u8⟩⟩ (by simp only[Fn.bare,Lst.bare,HBR.out]),HS10.out.setCell (p:=⟨w.heap.size+2,2,none⟩) (.inl rfl) _⟩
   case measure=>simp[intOf];omega
  ·obtain rfl:n_fu=k:=by omega
   have HQ_fu:=hid (show us.map Fn.bare=m.fu.map Fn.bare by have:=HE.out;rwa [List.take_of_length_le (by rw[N_fu.out];exact Nat.le_refl _)] at this);obtain⟨a_fu,c_fu,rfl⟩:=HG.out.slc hul;have FV0:=hid (FV.out.save HS.out (by omega));have Z_fu:=hid P6.out.size;have GG0_fu:=hid HG.out;have PP0:=hid HP.out;clear HP HG HE HS xm hlt hul hk P6 FV
   skip
   have P7:=PP0;have G0_fu:=GG0_fu;clear PP0 GG0_fu
   generalize wr=V1 at P7 FV0 G0_fu ⊢
   obtain⟨us_fu,hus_fu⟩:∃l,us=l:=⟨_,rfl⟩;rw[hus_fu] at HQ_fu G0_fu;clear hus_fu;have xq:=P7.out.mod 2 _ rfl;go_wp2;clear xq
   go_loopw [6] (fun vi wr=>∃(k:Nat) (v:Value) (us:List Gl),vi=.int .i64 k∧us.length=k∧k≤n_gl∧Hid (Cp w #[.slice ty'.a n_ty ty'.c,.slice im'.a n_im im'.c,.slice fu'.a n_fu fu'.c,.slice tb'.a n_tb tb'.c,.slice me'.a n_me me'.c,.slice gl'.a n_gl gl'.c,.slice ex'.a n_ex ex'.c,.bool st,.int .u32 sn,.slice el'.a n_el el'.c,.slice da'.a n_da da'.c] #[.slice a1 n_ty c1,.slice a2 n_im c2,.slice a_fu n_fu c_fu,.slice a3 n_tb c3,.slice a4 n_me c4,v,.slice a5 n_ex c5,.bool st,.int .u32 sn,.slice none 0 0,.slice none 0 0] wr)∧Hid (Got 129 2 V1.heap.size Gl.v zCK wr v us)∧Hid (us.map Gl.bare=(m.gl.take k).map Gl.bare)∧Hid (zF (w.heap.size+2) V1 wr)) (fun vi _=>n_gl-(intOf vi).toNat)
   case atStart=>exact⟨0,.slice none 0 0,[],rfl,rfl,Nat.zero_le _,P7,Got.start _ _ _ _ _ _,rfl,zF.refl _ _⟩
   case round =>
    obtain⟨k,v,us,rfl,hul,hk,HP,HG,HE,HS⟩:=hrel;have xm:=HP.out.mod 5 _ rfl
    by_cases hlt:k<n_gl
    ·have hkl:k<m.gl.length:=by rw[N_gl.out];exact hlt
     have hki:(k:Int)<(n_gl:Int):=by omega
     have hn5:n_gl≤5000:=by have h1:=HL.out;have h2:=N_gl.out;omega
     obtain⟨b,off,ha,hb,hc⟩:=Rows.get HM_gl.out hkl;have hLi:=HLS.out (m.gl[k].l) (by unfold Md.codes;exact List.mem_append_right _ (List.mem_append_left _ (List.mem_map.2 ⟨_,List.getElem_mem hkl,rfl⟩)));have hWi:=HW.out (m.gl[k].l) (by unfold Md.codes;exact List.mem_append_right _ (List.mem_append_left _ (List.mem_map.2 ⟨_,List.getElem_mem hkl,rfl⟩)));have HSN:=hid (fun (x:Gl) (hx:Gl.bare x=Gl.bare m.gl[k])=>YU Gl.bare HE.out hkl hx);obtain⟨x,hxe⟩:∃x,m.gl[k]=x:=⟨_,rfl⟩;rw[hxe] at hc hLi hWi HSN;rw[ha] at xm;have cc:∀j,j<2→∀u,(Gl.v x)[j]?=some u→wr.cell? ⟨b,off+k*2+j,none⟩=some u:=fun j hj u hu=>(HP.out.below.cell (p:=⟨b,off+k*2+j,none⟩) hb).trans (hc j hj u hu)
     obtain⟨mu,xa,xc,xl⟩:=x;have e0:w.cell? ⟨b,off+k*2,none⟩=some (.bool mu):=hc 0 (by omega) _ rfl;have e1:w.cell? ⟨b,off+k*2+1,none⟩=some (.slice xa xl.len xc):=hc 1 (by omega) _ rfl;dsimp only at hLi hWi;obtain⟨xn,hxn⟩:∃n,xl.len=n:=⟨_,rfl⟩;rw[hxn] at e1 hLi;have PZ:=hid (P7.out.size);have BR:=hid HP.out.below;have BV:=hid P7.out.below;have HXN:=hid hxn;obtain⟨av,cv,rfl⟩:=HG.out.slc hul;have B3:=hid HS.out.size;have HUL:=hid hul;have KL:=hid (show us.length≤1000000 by have h1:=HL.out;have h2:=N_gl.out;omega);have nb0:b≠w.heap.size+2:=by omega
     have nb1:w.heap.size≠w.heap.size+2:=by omega
     have xv:V1.cell? ⟨w.heap.size,5,none⟩=some (.slice gl'.a n_gl gl'.c):=P7.out.mod 5 _ rfl;rw[ha] at xv;have d0:V1.cell? ⟨b,off+k*2,none⟩=some (.bool mu):=(BV.out.cell (p:=⟨b,off+k*2,none⟩) hb).trans e0;have d1:V1.cell? ⟨b,off+k*2+1,none⟩=some (.slice xa xn xc):=(BV.out.cell (p:=⟨b,off+k*2+1,none⟩) hb).trans e1;have MK:=hid (fun (X:World) (h:zF (w.heap.size+2) V1 X)=>Jd (k:=w.heap.size+2) xv d0 d1 nb1 nb0 nb0 h);have CO:=hid (fun (X:World) (h:zF (w.heap.size+2) V1 X)=>zDE (xc:=xc) hLi hWi BV.out (by omega:w.heap.size≤w.heap.size+2) X h);have ym:=HP.out.out 5 _ rfl;have MS:=hid (fun (X:World) (h:Below V1.heap.size wr X)=>zBT (MK.out X (zF.zM HS.out h)) ((h.mono PZ.out).cell (p:=⟨w.heap.size+2,5,none⟩) (by simp)) ym);have hsv0:zF (w.heap.size+2) V1 wr.drew:=HS.out.drew;have BD:=hid ((Below.refl wr.heap.size wr).drew);have HV:=hid (fun g hg=>(World.ownsRow.lt HG.out.row.row g hg).2);have HS0:=MS.out wr.drew (BD.out.mono B3.out);clear hxn hc hb hLi hWi cc ha hxe hul e0 e1 d0 d1 xv nb0 nb1 ym;go_wp2;refine wp_region_noPanic ?_;refine zQ.begin (S:=(fun w'=>zF (w.heap.size+2) V1 w'∧w'.cell? ⟨w.heap.size,5,none⟩=some (.slice (some ⟨b,off,none⟩) n_gl gl'.c)∧w'.cell? ⟨b,off+k*2,none⟩=some (.bool mu)∧w'.cell? ⟨b,off+k*2+1,none⟩=some (.slice xa xn xc)∧w'.cell? ⟨w.heap.size+2,5,none⟩=some (.slice av k cv))) (L:=19) (by kernel_rfl) HS0 (fun hHeld=>?_);clear HS0;refine zQ.take (i:=0) (oi:=_) (oL:=_) (v:=?_) rfl (by kernel_rfl) (by kernel_rfl) (by kernel_rfl) rfl (by kernel_rfl) (fun _ _ _ h=>h) (Or.inl ⟨by kernel_rfl,?_⟩) hHeld ?_
     rotate_left
     ·intro w9 hSw;(try dsimp only at hSw);go_simp;(first|done|with_reducible rfl)
     try simp only[Act.put,qA,qB,qC,qD,qE,qF]
     refine zQ.take (i:=1) (oi:=_) (oL:=_) (v:=?_) rfl (by kernel_rfl) (by kernel_rfl) (by kernel_rfl) rfl (by kernel_rfl) (fun _ _ _ h=>h) (Or.inl ⟨by kernel_rfl,?_⟩) hHeld ?_
     rotate_left
     ·intro w9 hSw;(try dsimp only at hSw);go_simp;(first|done|with_reducible rfl)
     try simp only[Act.put,qA,qB,qC,qD,qE,qF]
     refine zQ.take (i:=2) (oi:=_) (oL:=_) (v:=?_) rfl (by kernel_rfl) (by kernel_rfl) (by kernel_rfl) rfl (by kernel_rfl) (fun _ _ _ h=>h) (Or.inl ⟨by kernel_rfl,?_⟩) hHeld ?_
     rotate_left
     ·intro w9 hSw;(try dsimp only at hSw);go_simp;(first|done|with_reducible rfl)
     try simp only[Act.put,qA,qB,qC,qD,qE,qF]
     refine zQ.take (i:=3) (oi:=_) (oL:=_) (v:=?_) rfl (by kernel_rfl) (by kernel_rfl) (by kernel_rfl) rfl (by kernel_rfl) (fun _ _ _ h=>h) (Or.inl ⟨by kernel_rfl,?_⟩) hHeld ?_
     rotate_left
     ·intro w9 hSw;(try dsimp only at hSw);go_simp;(first|done|with_reducible rfl)
     try simp only[Act.put,qA,qB,qC,qD,qE,qF]
     refine zQ.take (i:=4) (oi:=_) (oL:=_) (v:=?_) rfl (by kernel_rfl) (by kernel_rfl) (by kernel_rfl) rfl (by kernel_rfl) (fun _ _ _ h=>h) (Or.inl ⟨by kernel_rfl,?_⟩) hHeld ?_
     rotate_left
     ·intro w9 hSw;(try dsimp only at hSw);go_simp;(first|done|with_reducible rfl)
     try simp only[Act.put,qA,qB,qC,qD,qE,qF]
     refine zQ.take (i:=5) (oi:=_) (oL:=_) (v:=?_) rfl (by kernel_rfl) (by kernel_rfl) (by kernel_rfl) rfl (by kernel_rfl) (fun _ _ _ h=>h) (Or.inl ⟨by kernel_rfl,?_⟩) hHeld ?_
     rotate_left
     ·intro w9 hSw;(try dsimp only at hSw);go_simp;(first|done|with_reducible rfl)
     try simp only[Act.put,qA,qB,qC,qD,qE,qF]
     refine zQ.take (i:=6) (oi:=_) (oL:=_) (v:=?_) rfl (by kernel_rfl) (by kernel_rfl) (by kernel_rfl) rfl (by kernel_rfl) (fun _ _ _ h=>h) (Or.inl ⟨by kernel_rfl,?_⟩) hHeld ?_
     rotate_left
     ·intro w9 hSw;(try dsimp only at hSw);go_simp;(first|done|with_reducible rfl)
     try simp only[Act.put,qA,qB,qC,qD,qE,qF]
     refine zQ.take (i:=7) (oi:=_) (oL:=_) (v:=?_) rfl (by kernel_rfl) (by kernel_rfl) (by kernel_rfl) rfl (by kernel_rfl) (fun _ _ _ h=>h) (Or.inl ⟨by kernel_rfl,?_⟩) hHeld ?_
     rotate_left
     ·intro w9 hSw;(try dsimp only at hSw);go_simp;(first|done|with_reducible rfl)
     try simp only[Act.put,qA,qB,qC,qD,qE,qF]
     refine zQ.take (i:=8) (oi:=_) (oL:=_) (v:=?_) rfl (by kernel_rfl) (by kernel_rfl) (by kernel_rfl) rfl (by kernel_rfl) (fun _ _ _ h=>h) (Or.inl ⟨by kernel_rfl,?_⟩) hHeld ?_
     rotate_left
     ·intro w9 hSw;(try dsimp only at hSw);go_simp;(first|done|with_reducible rfl)
     try simp only[Act.put,qA,qB,qC,qD,qE,qF]
     refine zQ.take (i:=9) (oi:=_) (oL:=_) (v:=?_) rfl (by kernel_rfl) (by kernel_rfl) (by kernel_rfl) rfl (by kernel_rfl) (fun _ _ _ h=>h) (Or.inl ⟨by kernel_rfl,?_⟩) hHeld ?_
     rotate_left
     ·intro w9 hSw;(try dsimp only at hSw);go_simp;(first|done|with_reducible rfl)
     try simp only[Act.put,qA,qB,qC,qD,qE,qF]
     refine zQ.take (i:=10) (oi:=_) (oL:=_) (v:=?_) rfl (by kernel_rfl) (by kernel_rfl) (by kernel_rfl) rfl (by kernel_rfl) (fun _ _ _ h=>h) (Or.inl ⟨by kernel_rfl,?_⟩) hHeld ?_
     rotate_left
     ·intro w9 hSw;(try dsimp only at hSw);go_simp;(first|done|with_reducible rfl)
     try simp only[Act.put,qA,qB,qC,qD,qE,qF]
     refine zQ.take (i:=11) (oi:=_) (oL:=_) (v:=?_) rfl (by kernel_rfl) (by kernel_rfl) (by kernel_rfl) rfl (by kernel_rfl) (fun _ _ _ h=>h) (Or.inl ⟨by kernel_rfl,?_⟩) hHeld ?_
     rotate_left
     ·intro w9 hSw;(try dsimp only at hSw);go_simp;(first|done|with_reducible rfl)
     try simp only[Act.put,qA,qB,qC,qD,qE,qF]
     refine zQ.take (i:=12) (oi:=_) (oL:=_) (v:=?_) rfl (by kernel_rfl) (by kernel_rfl) (by kernel_rfl) rfl (by kernel_rfl) (fun _ _ _ h=>h) (Or.inl ⟨by kernel_rfl,?_⟩) hHeld ?_
     rotate_left
     ·intro w9 hSw;(try dsimp only at hSw);go_simp;(first|done|with_reducible rfl)
     try simp only[Act.put,qA,qB,qC,qD,qE,qF]
     refine zQ.take (i:=13) (oi:=_) (oL:=_) (v:=?_) rfl (by kernel_rfl) (by kernel_rfl) (by kernel_rfl) rfl (by kernel_rfl) (fun _ _ _ h=>h) (Or.inl ⟨by kernel_rfl,?_⟩) hHeld ?_
     rotate_left
     ·intro w9 hSw;(try dsimp only at hSw);go_simp;(first|done|with_reducible rfl)
     try simp only[Act.put,qA,qB,qC,qD,qE,qF]
     refine zQ.one (i:=14) (by kernel_rfl) (qJ.of (o:=_) rfl (fun K hK=>?_))
     go_simp
     go_at_call 76
     refine (CO.out _ hsv0).mono ?_;rintro e8 w8 ⟨a8,c8,u8,rfl,hb8,hl8,hlow8,hbr8⟩
     try (go_wp2_with fail)
     have B8:=hid (zM BD.out hb8);have B8V:=hid (B8.out.mono B3.out);have L8:=hid hl8;have HBR:=hid hbr8;have LOW8:=hid (show ∀q∈zV u8.len a8++u8.foot,wr.heap.size≤q from hlow8);clear hb8 hl8 hlow8 hbr8;refine hK.out _ _ (fun _=>MS.out _ (B8V.out)) (fun _=>?_);clear hK K hHeld;have hHeld:=MS.out w8 (B8V.out)
     try simp only[Act.put,qA,qB,qC,qD,qE,qF]
     refine zQ.take (i:=15) (oi:=_) (oL:=_) (v:=?_) rfl (by kernel_rfl) (by kernel_rfl) (by kernel_rfl) rfl (by kernel_rfl) (fun _ _ _ h=>h) (Or.inl ⟨by kernel_rfl,?_⟩) hHeld ?_
     rotate_left
     ·intro w9 hSw;(try dsimp only at hSw);go_simp;(first|done|with_reducible rfl)
     try simp only[Act.put,qA,qB,qC,qD,qE,qF]
     refine zQ.one (i:=16) (by kernel_rfl) (qJ.of (o:=_) rfl (fun K hK=>?_))
     go_simp
     refine hK.out _ _ (fun _=>MS.out _ ((B8.out.alloc (B8.out.size) _).mono B3.out)) (fun _=>?_);clear hK K hHeld;have hHeld:=MS.out (w8.alloc (.cells (Gl.v ⟨mu,⟨a8,c8,u8⟩⟩).toArray 129)) ((B8.out.alloc (B8.out.size) _).mono B3.out)
     try simp only[Act.put,qA,qB,qC,qD,qE,qF]
     refine zQ.one (i:=17) (by kernel_rfl) (qJ.of (o:=_) rfl (fun K hK=>?_));refine vk zJF rfl (by omega) (by omega) Tryz.underlying34 rfl (.tmp 71) (.tmp 86) rfl (base:=V1.heap.size) (n0:=wr.heap.size) (p:=zCK) (f:=Gl.v) ⟨mu,⟨a8,c8,u8⟩⟩ rfl (HG.out.below B8.out) (Nat.le_trans B3.out B8.out.size) w8.heap.size rfl rfl rfl (zJA _) KL.out (show (zCK ⟨mu,⟨a8,c8,u8⟩⟩).lies w8 from ⟨L8.out,.inl rfl,.inl rfl⟩) (zJD LOW8.out) B3.out HV.out ?_;intro g cap w10 hg10 hb10;rw[HUL.out] at hg10 ⊢;have B10:=hid (((B8.out.mono B3.out)).trans hb10);have HP10:=hid (HP.out.on (B10.out.mono PZ.out));have HG10:=hid hg10;clear hg10 hb10;refine hK.out _ _ (fun _=>MS.out _ (B10.out)) (fun _=>?_);clear hK K hHeld;have hHeld:=MS.out w10 (B10.out)
     try simp only[Act.put,qA,qB,qC,qD,qE,qF]
     refine zQ.take (i:=18) (oi:=_) (oL:=_) (v:=?_) rfl (by kernel_rfl) (by kernel_rfl) (by kernel_rfl) rfl (by kernel_rfl) (fun _ _ _ h=>h) (Or.inl ⟨by kernel_rfl,?_⟩) hHeld ?_
     rotate_left
     ·intro w9 hSw;(try dsimp only at hSw);go_simp;(first|done|with_reducible rfl)
     try simp only[Act.put,qA,qB,qC,qD,qE,qF]
     have ym10:=HP10.out.out 5 _ rfl;have fm10:=HP10.out.outf 5;refine zQ.one (i:=19) (by kernel_rfl) (qJ.of (o:=_) rfl (fun K hK=>?_))
     go_simp
     refine hK.out _ _ (fun h=>absurd rfl h) (fun _=>?_);clear hK K hHeld
     try simp only[Act.put,qA,qB,qC,qD,qE,qF]
     refine zQ.done (by kernel_rfl) ?_ _;refine NoPanic.normal ?_;clear ym10 fm10;have HS10:=hid (zF.zM HS.out B10.out);go_wp2
     go_roundw
     case rel=>exact⟨k+1,_,_,by go_num,by rw[List.length_append,HUL.out];rfl,by omega,HP10.out.set 5 (by simp) _,HG10.out.save (k:=w.heap.size+2) ((zF.refl (w.heap.size+2) w10).setCell (p:=⟨w.heap.size+2,5,none⟩) (.inl rfl) _) (by have:=PZ.out;omega),HSN.out ⟨mu,⟨a8,c8,u8⟩⟩ (by simp only[Gl.bare,Lst.bare,HBR.out]),HS10.out.setCell (p:=⟨w.heap.size+2,5,none⟩) (.inl rfl) _⟩
     case measure=>simp[intOf];omega
    ·obtain rfl:n_gl=k:=by omega
     have HQ_gl:=hid (show us.map Gl.bare=m.gl.map Gl.bare by have:=HE.out;rwa [List.take_of_length_le (by rw[N_gl.out];exact Nat.le_refl _)] at this);obtain⟨a_gl,c_gl,rfl⟩:=HG.out.slc hul;have FV1:=hid (FV0.out.save HS.out (by omega));have GG1_fu:=hid (G0_fu.out.save HS.out (by have:=Z_fu.out;omega));have Z_gl:=hid P7.out.size;have GG1_gl:=hid HG.out;have PP1:=hid HP.out;clear HP HG HE HS xm hlt hul hk P7 FV0 G0_fu
     skip
     have P8:=PP1;have G1_fu:=GG1_fu;have G1_gl:=GG1_gl;clear PP1 GG1_fu GG1_gl
     generalize wr=V2 at P8 FV1 G1_fu G1_gl ⊢
     obtain⟨us_gl,hus_gl⟩:∃l,us=l:=⟨_,rfl⟩;rw[hus_gl] at HQ_gl G1_gl;clear hus_gl;have xq:=P8.out.mod 5 _ rfl;go_wp2;clear xq
     go_loopw [7] (fun vi wr=>∃(k:Nat) (v:Value) (us:List El),vi=.int .i64 k∧us.length=k∧k≤n_el∧Hid (Cp w #[.slice ty'.a n_ty ty'.c,.slice im'.a n_im im'.c,.slice fu'.a n_fu fu'.c,.slice tb'.a n_tb tb'.c,.slice me'.a n_me me'.c,.slice gl'.a n_gl gl'.c,.slice ex'.a n_ex ex'.c,.bool st,.int .u32 sn,.slice el'.a n_el el'.c,.slice da'.a n_da da'.c] #[.slice a1 n_ty c1,.slice a2 n_im c2,.slice a_fu n_fu c_fu,.slice a3 n_tb c3,.slice a4 n_me c4,.slice a_gl n_gl c_gl,.slice a5 n_ex c5,.bool st,.int .u32 sn,v,.slice none 0 0] wr)∧Hid (Got 131 2 V2.heap.size El.v zAF wr v us)∧Hid (us.map El.bare=(m.el.take k).map El.bare)∧Hid (zF (w.heap.size+2) V2 wr)) (fun vi _=>n_el-(intOf vi).toNat)
     case atStart=>exact⟨0,.slice none 0 0,[],rfl,rfl,Nat.zero_le _,P8,Got.start _ _ _ _ _ _,rfl,zF.refl _ _⟩
     case round =>
      obtain⟨k,v,us,rfl,hul,hk,HP,HG,HE,HS⟩:=hrel;have xm:=HP.out.mod 9 _ rfl
      by_cases hlt:k<n_el
      ·have hkl:k<m.el.length:=by rw[N_el.out];exact hlt
       have hki:(k:Int)<(n_el:Int):=by omega
       have hn5:n_el≤5000:=by have h1:=HL.out;have h2:=N_el.out;omega
       obtain⟨b,off,ha,hb,hc⟩:=Rows.get HM_el.out hkl;have hLi:=HLS.out (m.el[k].l) (by unfold Md.codes;exact List.mem_append_right _ (List.mem_append_right _ (List.mem_append_left _ (List.mem_map.2 ⟨_,List.getElem_mem hkl,rfl⟩))));have hWi:=HW.out (m.el[k].l) (by unfold Md.codes;exact List.mem_append_right _ (List.mem_append_right _ (List.mem_append_left _ (List.mem_map.2 ⟨_,List.getElem_mem hkl,rfl⟩))));have hTi:=HFA.out _ (List.getElem_mem hkl);have hTl:=HFS.out _ (List.getElem_mem hkl);have HSN:=hid (fun (x:El) (hx:El.bare x=El.bare m.el[k])=>YU El.bare HE.out hkl hx);obtain⟨x,hxe⟩:∃x,m.el[k]=x:=⟨_,rfl⟩;rw[hxe] at hc hLi hWi HSN hTi hTl;rw[ha] at xm;have cc:∀j,j<2→∀u,(El.v x)[j]?=some u→wr.cell? ⟨b,off+k*2+j,none⟩=some u:=fun j hj u hu=>(HP.out.below.cell (p:=⟨b,off+k*2+j,none⟩) hb).trans (hc j hj u hu)
       obtain⟨⟨xa,xc,xl⟩,fa,fc,fs⟩:=x;have e0:w.cell? ⟨b,off+k*2,none⟩=some (.slice xa xl.len xc):=hc 0 (by omega) _ rfl;have e1:w.cell? ⟨b,off+k*2+1,none⟩=some (.slice fa fs.length fc):=hc 1 (by omega) _ rfl;dsimp only at hLi hWi hTi hTl;obtain⟨xn,hxn⟩:∃n,xl.len=n:=⟨_,rfl⟩;rw[hxn] at e0 hLi;obtain⟨fn,hfn⟩:∃n,fs.length=n:=⟨_,rfl⟩;rw[hfn] at e1;have FN:=hid hfn;have hfl:fn≤5000:=by omega
       have HT:=hid (zBQ hTi);clear hTi hTl;have PZ:=hid (P8.out.size);have BR:=hid HP.out.below;have BV:=hid P8.out.below;have HXN:=hid hxn;obtain⟨av,cv,rfl⟩:=HG.out.slc hul;have B3:=hid HS.out.size;have HUL:=hid hul;have KL:=hid (show us.length≤1000000 by have h1:=HL.out;have h2:=N_el.out;omega);have nb0:b≠w.heap.size+2:=by omega
       have nb1:w.heap.size≠w.heap.size+2:=by omega
       have xv:V2.cell? ⟨w.heap.size,9,none⟩=some (.slice el'.a n_el el'.c):=P8.out.mod 9 _ rfl;rw[ha] at xv;have d0:V2.cell? ⟨b,off+k*2,none⟩=some (.slice xa xn xc):=(BV.out.cell (p:=⟨b,off+k*2,none⟩) hb).trans e0;have d1:V2.cell? ⟨b,off+k*2+1,none⟩=some (.slice fa fn fc):=(BV.out.cell (p:=⟨b,off+k*2+1,none⟩) hb).trans e1;have MK:=hid (fun (X:World) (h:zF (w.heap.size+2) V2 X)=>Jd (k:=w.heap.size+2) xv d0 d1 nb1 nb0 nb0 h);have CO:=hid (fun (X:World) (h:zF (w.heap.size+2) V2 X)=>zDE (xc:=xc) hLi hWi BV.out (by omega:w.heap.size≤w.heap.size+2) X h);have ym:=HP.out.out 9 _ rfl;have MS:=hid (fun (X:World) (h:Below V2.heap.size wr X)=>zBT (MK.out X (zF.zM HS.out h)) ((h.mono PZ.out).cell (p:=⟨w.heap.size+2,9,none⟩) (by simp)) ym);have hsv0:zF (w.heap.size+2) V2 wr.drew:=HS.out.drew;have BD:=hid ((Below.refl wr.heap.size wr).drew);have HV:=hid (fun g hg=>(World.ownsRow.lt HG.out.row.row g hg).2);have HS0:=MS.out wr.drew (BD.out.mono B3.out);clear hxn hc hb hLi hWi cc ha hxe hul e0 e1 d0 d1 xv nb0 nb1 ym hfn;go_wp2;refine wp_region_noPanic ?_;refine zQ.begin (S:=(fun w'=>zF (w.heap.size+2) V2 w'∧w'.cell? ⟨w.heap.size,9,none⟩=some (.slice (some ⟨b,off,none⟩) n_el el'.c)∧w'.cell? ⟨b,off+k*2,none⟩=some (.slice xa xn xc)∧w'.cell? ⟨b,off+k*2+1,none⟩=some (.slice fa fn fc)∧w'.cell? ⟨w.heap.size+2,9,none⟩=some (.slice av k cv))) (L:=21) (by kernel_rfl) HS0 (fun hHeld=>?_);clear HS0;refine zQ.take (i:=0) (oi:=_) (oL:=_) (v:=?_) rfl (by kernel_rfl) (by kernel_rfl) (by kernel_rfl) rfl (by kernel_rfl) (fun _ _ _ h=>h) (Or.inl ⟨by kernel_rfl,?_⟩) hHeld ?_
       rotate_left
       ·intro w9 hSw;(try dsimp only at hSw);go_simp;(first|done|with_reducible rfl)
       try simp only[Act.put,qA,qB,qC,qD,qE,qF]
       refine zQ.take (i:=1) (oi:=_) (oL:=_) (v:=?_) rfl (by kernel_rfl) (by kernel_rfl) (by kernel_rfl) rfl (by kernel_rfl) (fun _ _ _ h=>h) (Or.inl ⟨by kernel_rfl,?_⟩) hHeld ?_
       rotate_left
       ·intro w9 hSw;(try dsimp only at hSw);go_simp;(first|done|with_reducible rfl)
       try simp only[Act.put,qA,qB,qC,qD,qE,qF]
       refine zQ.take (i:=2) (oi:=_) (oL:=_) (v:=?_) rfl (by kernel_rfl) (by kernel_rfl) (by kernel_rfl) rfl (by kernel_rfl) (fun _ _ _ h=>h) (Or.inl ⟨by kernel_rfl,?_⟩) hHeld ?_
       rotate_left
       ·intro w9 hSw;(try dsimp only at hSw);go_simp;(first|done|with_reducible rfl)
       try simp only[Act.put,qA,qB,qC,qD,qE,qF]
       refine zQ.take (i:=3) (oi:=_) (oL:=_) (v:=?_) rfl (by kernel_rfl) (by kernel_rfl) (by kernel_rfl) rfl (by kernel_rfl) (fun _ _ _ h=>h) (Or.inl ⟨by kernel_rfl,?_⟩) hHeld ?_
       rotate_left
       ·intro w9 hSw;(try dsimp only at hSw);go_simp;(first|done|with_reducible rfl)
       try simp only[Act.put,qA,qB,qC,qD,qE,qF]
       refine zQ.take (i:=4) (oi:=_) (oL:=_) (v:=?_) rfl (by kernel_rfl) (by kernel_rfl) (by kernel_rfl) rfl (by kernel_rfl) (fun _ _ _ h=>h) (Or.inl ⟨by kernel_rfl,?_⟩) hHeld ?_
       rotate_left
       ·intro w9 hSw;(try dsimp only at hSw);go_simp;(first|done|with_reducible rfl)
       try simp only[Act.put,qA,qB,qC,qD,qE,qF]
       refine zQ.take (i:=5) (oi:=_) (oL:=_) (v:=?_) rfl (by kernel_rfl) (by kernel_rfl) (by kernel_rfl) rfl (by kernel_rfl) (fun _ _ _ h=>h) (Or.inl ⟨by kernel_rfl,?_⟩) hHeld ?_
       rotate_left
       ·intro w9 hSw;(try dsimp only at hSw);go_simp;(first|done|with_reducible rfl)
       try simp only[Act.put,qA,qB,qC,qD,qE,qF]
       refine zQ.take (i:=6) (oi:=_) (oL:=_) (v:=?_) rfl (by kernel_rfl) (by kernel_rfl) (by kernel_rfl) rfl (by kernel_rfl) (fun _ _ _ h=>h) (Or.inl ⟨by kernel_rfl,?_⟩) hHeld ?_
       rotate_left
       ·intro w9 hSw;(try dsimp only at hSw);go_simp;(first|done|with_reducible rfl)
       try simp only[Act.put,qA,qB,qC,qD,qE,qF]
       refine zQ.take (i:=7) (oi:=_) (oL:=_) (v:=?_) rfl (by kernel_rfl) (by kernel_rfl) (by kernel_rfl) rfl (by kernel_rfl) (fun _ _ _ h=>h) (Or.inl ⟨by kernel_rfl,?_⟩) hHeld ?_
       rotate_left
       ·intro w9 hSw;(try dsimp only at hSw);go_simp;(first|done|with_reducible rfl)
       try simp only[Act.put,qA,qB,qC,qD,qE,qF]
       refine zQ.take (i:=10) (oi:=_) (oL:=_) (v:=?_) rfl (by kernel_rfl) (by kernel_rfl) (by kernel_rfl) rfl (by kernel_rfl) (fun _ _ _ h=>h) (Or.inl ⟨by kernel_rfl,?_⟩) hHeld ?_
       rotate_left
       ·intro w9 hSw;(try dsimp only at hSw);go_simp;(first|done|with_reducible rfl)
       try simp only[Act.put,qA,qB,qC,qD,qE,qF]
       refine zQ.take (i:=11) (oi:=_) (oL:=_) (v:=?_) rfl (by kernel_rfl) (by kernel_rfl) (by kernel_rfl) rfl (by kernel_rfl) (fun _ _ _ h=>h) (Or.inl ⟨by kernel_rfl,?_⟩) hHeld ?_
       rotate_left
       ·intro w9 hSw;(try dsimp only at hSw);go_simp;(first|done|with_reducible rfl)
       try simp only[Act.put,qA,qB,qC,qD,qE,qF]
       refine zQ.take (i:=12) (oi:=_) (oL:=_) (v:=?_) rfl (by kernel_rfl) (by kernel_rfl) (by kernel_rfl) rfl (by kernel_rfl) (fun _ _ _ h=>h) (Or.inl ⟨by kernel_rfl,?_⟩) hHeld ?_
       rotate_left
       ·intro w9 hSw;(try dsimp only at hSw);go_simp;(first|done|with_reducible rfl)
       try simp only[Act.put,qA,qB,qC,qD,qE,qF]
       refine zQ.take (i:=13) (oi:=_) (oL:=_) (v:=?_) rfl (by kernel_rfl) (by kernel_rfl) (by kernel_rfl) rfl (by kernel_rfl) (fun _ _ _ h=>h) (Or.inl ⟨by kernel_rfl,?_⟩) hHeld ?_
       rotate_left
       ·intro w9 hSw;(try dsimp only at hSw);go_simp;(first|done|with_reducible rfl)
       try simp only[Act.put,qA,qB,qC,qD,qE,qF]
       refine zQ.take (i:=14) (oi:=_) (oL:=_) (v:=?_) rfl (by kernel_rfl) (by kernel_rfl) (by kernel_rfl) rfl (by kernel_rfl) (fun _ _ _ h=>h) (Or.inl ⟨by kernel_rfl,?_⟩) hHeld ?_
       rotate_left
       ·intro w9 hSw;(try dsimp only at hSw);go_simp;(first|done|with_reducible rfl)
       try simp only[Act.put,qA,qB,qC,qD,qE,qF]
       refine zQ.take (i:=15) (oi:=_) (oL:=_) (v:=?_) rfl (by kernel_rfl) (by kernel_rfl) (by kernel_rfl) rfl (by kernel_rfl) (fun _ _ _ h=>h) (Or.inl ⟨by kernel_rfl,?_⟩) hHeld ?_
       rotate_left
       ·intro w9 hSw;(try dsimp only at hSw);go_simp;(first|done|with_reducible rfl)
       try simp only[Act.put,qA,qB,qC,qD,qE,qF]
       refine zQ.two (i:=8) (k:=9) (by kernel_rfl) (qJ.of (o:=_) rfl (fun K hK=>?_)) (qJ.of (o:=_) rfl (fun K hK=>?_))
       ·skip
        go_simp
        go_at_call 76
        refine (CO.out _ hsv0).mono ?_;rintro e8 w8 ⟨a8,c8,u8,rfl,hb8,hl8,hlow8,hbr8⟩
        try (go_wp2_with fail)
        have B8:=hid (zM BD.out hb8);have B8V:=hid (B8.out.mono B3.out);have L8:=hid hl8;have HBR:=hid hbr8;have LOW8:=hid (show ∀q∈zV u8.len a8++u8.foot,wr.heap.size≤q from hlow8);clear hb8 hl8 hlow8 hbr8;refine hK.out _ _ (fun _=>MS.out _ (B8V.out)) (fun _=>?_);clear hK K hHeld;have hHeld:=MS.out w8 (B8V.out)
        try simp only[Act.put,qA,qB,qC,qD,qE,qF]
        refine zQ.one (i:=9) (by kernel_rfl) (qJ.of (o:=_) rfl (fun K hK=>?_))
        go_simp
        refine hK.out _ _ (fun _=>MS.out _ ((B8.out.alloc (B8.out.size) _).mono B3.out)) (fun _=>?_);clear hK K hHeld;have hHeld:=MS.out (w8.alloc (.cells #[] 36)) ((B8.out.alloc (B8.out.size) _).mono B3.out)
        try simp only[Act.put,qA,qB,qC,qD,qE,qF]
        refine zQ.one (i:=16) (by kernel_rfl) (qJ.of (o:=_) rfl (fun K hK=>?_));refine ZS zEK rfl (by omega) (by omega) Tryz.underlying27 rfl (.tmp 105) (.tmp 111) rfl rfl (zR.made 36 1 w8) (by simp) fa fn fc rfl (fs.map zAZ) (by rw[List.length_map];exact FN.out) ((HT.out.below (BR.out.trans ((B8.out.alloc B8.out.size _).mono (Nat.le_trans (by omega) (Nat.le_trans PZ.out B3.out))))).more (by have h1:=BR.out.size;have h2:=B8.out.size;simp;omega)) (kM (f:=zAZ) (sz:=1) (fun _=>rfl) _) (kL zCr _) (by rw[List.length_map,FN.out];omega) ?_;intro v12 w12 ho12 ht12;obtain⟨a12,c12,rfl,hr12,hlow12⟩:=YF ho12;have T12:=hid (show Touch (fun j=>w8.heap.size≤j) w8 w12 from ((Touch.refl _ w8).alloc _).trans (ht12.mono (fun j hj=>by have e:w8.heap.size=j:=Option.some.inj hj;omega)));have B12:=hid (B8.out.trans (T12.out.below B8.out.size (fun j hj=>Nat.le_trans B8.out.size hj)));have L12:=hid (YB L8.out T12.out (fun q hq h=>by have:=qo L8.out q hq;omega));have LOWA:=hid LOW8.out;have LOWT:=hid (fun q hq=>Nat.le_trans B8.out.size (hlow12 q hq));have HR12:=hid (YZ hr12);clear hr12 hlow12 ho12 ht12;refine hK.out _ _ (fun _=>MS.out _ (B12.out.mono B3.out)) (fun _=>?_);clear hK K hHeld;have hHeld:=MS.out w12 (B12.out.mono B3.out)
        try simp only[Act.put,qA,qB,qC,qD,qE,qF]
        refine zQ.take (i:=17) (oi:=_) (oL:=_) (v:=?_) rfl (by kernel_rfl) (by kernel_rfl) (by kernel_rfl) rfl (by kernel_rfl) (fun _ _ _ h=>h) (Or.inl ⟨by kernel_rfl,?_⟩) hHeld ?_
        rotate_left
        ·intro w9 hSw;(try dsimp only at hSw);go_simp;(first|done|with_reducible rfl)
        try simp only[Act.put,qA,qB,qC,qD,qE,qF]
        refine zQ.one (i:=18) (by kernel_rfl) (qJ.of (o:=_) rfl (fun K hK=>?_))
        go_simp
        refine hK.out _ _ (fun _=>MS.out _ ((B12.out.alloc (B12.out.size) _).mono B3.out)) (fun _=>?_);clear hK K hHeld;have hHeld:=MS.out (w12.alloc (.cells (El.v ⟨⟨a8,c8,u8⟩,a12,c12,fs⟩).toArray 131)) ((B12.out.alloc (B12.out.size) _).mono B3.out)
        try simp only[Act.put,qA,qB,qC,qD,qE,qF]
        refine zQ.one (i:=19) (by kernel_rfl) (qJ.of (o:=_) rfl (fun K hK=>?_));refine vk zGb rfl (by omega) (by omega) Tryz.underlying37 rfl (.tmp 97) (.tmp 114) rfl (base:=V2.heap.size) (n0:=wr.heap.size) (p:=zAF) (f:=El.v) ⟨⟨a8,c8,u8⟩,a12,c12,fs⟩ rfl (HG.out.below B12.out) (Nat.le_trans B3.out B12.out.size) w12.heap.size rfl rfl rfl (zGn _) KL.out (show (zAF ⟨⟨a8,c8,u8⟩,a12,c12,fs⟩).lies w12 from ⟨L12.out,HR12.out,.inl rfl⟩) (zGE LOWA.out LOWT.out) B3.out HV.out ?_;intro g cap w10 hg10 hb10;rw[HUL.out] at hg10 ⊢;have B10:=hid (((B12.out.mono B3.out)).trans hb10);have HP10:=hid (HP.out.on (B10.out.mono PZ.out));have HG10:=hid hg10;clear hg10 hb10;refine hK.out _ _ (fun _=>MS.out _ (B10.out)) (fun _=>?_);clear hK K hHeld;have hHeld:=MS.out w10 (B10.out)
        try simp only[Act.put,qA,qB,qC,qD,qE,qF]
        refine zQ.take (i:=20) (oi:=_) (oL:=_) (v:=?_) rfl (by kernel_rfl) (by kernel_rfl) (by kernel_rfl) rfl (by kernel_rfl) (fun _ _ _ h=>h) (Or.inl ⟨by kernel_rfl,?_⟩) hHeld ?_
        rotate_left
        ·intro w9 hSw;(try dsimp only at hSw);go_simp;(first|done|with_reducible rfl)
        try simp only[Act.put,qA,qB,qC,qD,qE,qF]
        have ym10:=HP10.out.out 9 _ rfl;have fm10:=HP10.out.outf 9;refine zQ.one (i:=21) (by kernel_rfl) (qJ.of (o:=_) rfl (fun K hK=>?_))
        go_simp
        refine hK.out _ _ (fun h=>absurd rfl h) (fun _=>?_);clear hK K hHeld
        try simp only[Act.put,qA,qB,qC,qD,qE,qF]
        refine zQ.done (by kernel_rfl) ?_ _;refine NoPanic.normal ?_;clear ym10 fm10;have HS10:=hid (zF.zM HS.out B10.out);go_wp2
        go_roundw
        case rel=>exact⟨k+1,_,_,by go_num,by rw[List.length_append,HUL.out];rfl,by omega,HP10.out.set 9 (by simp) _,HG10.out.save (k:=w.heap.size+2) ((zF.refl (w.heap.size+2) w10).setCell (p:=⟨w.heap.size+2,9,none⟩) (.inl rfl) _) (by have:=PZ.out;omega),HSN.out ⟨⟨a8,c8,u8⟩,a12,c12,fs⟩ (by simp only[El.bare,Lst.bare,HBR.out]),HS10.out.setCell (p:=⟨w.heap.size+2,9,none⟩) (.inl rfl) _⟩
        case measure=>simp[intOf];omega
       ·skip
        go_simp
        refine hK.out _ _ (fun _=>MS.out _ ((BD.out.alloc (Nat.le_refl _) _).mono B3.out)) (fun _=>?_);clear hK K hHeld;have hHeld:=MS.out (wr.drew.alloc (.cells #[] 36)) ((BD.out.alloc (Nat.le_refl _) _).mono B3.out)
        try simp only[Act.put,qA,qB,qC,qD,qE,qF]
        refine zQ.one (i:=8) (by kernel_rfl) (qJ.of (o:=_) rfl (fun K hK=>?_))
        go_simp
        go_at_call 76
        refine (CO.out _ (zF.alloc hsv0 _)).mono ?_;rintro e8 w8 ⟨a8,c8,u8,rfl,hb8,hl8,hlow8,hbr8⟩
        try (go_wp2_with fail)
        have B8:=hid (zM (BD.out.alloc (Nat.le_refl _) (.cells #[] 36)) hb8);have B8V:=hid (B8.out.mono B3.out);have L8:=hid hl8;have HBR:=hid hbr8;have LOW8:=hid (show ∀q∈zV u8.len a8++u8.foot,wr.heap.size+1≤q from fun q hq=>by have:=hlow8 q hq;simpa using this);have OE:=hid ((zR.made 36 1 wr.drew).below (by simpa using hb8));clear hb8 hl8 hlow8 hbr8;refine hK.out _ _ (fun _=>MS.out _ (B8V.out)) (fun _=>?_);clear hK K hHeld;have hHeld:=MS.out w8 (B8V.out)
        try simp only[Act.put,qA,qB,qC,qD,qE,qF]
        refine zQ.one (i:=16) (by kernel_rfl) (qJ.of (o:=_) rfl (fun K hK=>?_));refine ZS zEK rfl (by omega) (by omega) Tryz.underlying27 rfl (.tmp 105) (.tmp 111) rfl rfl OE.out (by exact B8.out.size) fa fn fc rfl (fs.map zAZ) (by rw[List.length_map];exact FN.out) ((HT.out.below (BR.out.trans ((B8.out).mono (Nat.le_trans (by omega) (Nat.le_trans PZ.out B3.out))))).more (by have h1:=BR.out.size;have h2:=B8.out.size;omega)) (kM (f:=zAZ) (sz:=1) (fun _=>rfl) _) (kL zCr _) (by rw[List.length_map,FN.out];omega) ?_;intro v12 w12 ho12 ht12;obtain⟨a12,c12,rfl,hr12,hlow12⟩:=YF ho12;have T12:=hid (show Touch (fun j=>j=wr.heap.size) w8 w12 from ht12.mono (fun j hj=>by have e:wr.heap.size=j:=Option.some.inj hj;omega));have B12:=hid (B8.out.trans (T12.out.below B8.out.size (fun j hj=>by omega)));have L12:=hid (YB L8.out T12.out (fun q hq h=>by have:=LOW8.out q hq;omega));have LOWA:=hid (show ∀q∈zV u8.len a8++u8.foot,wr.heap.size≤q from fun q hq=>by have:=LOW8.out q hq;omega);have LOWT:=hid hlow12;have HR12:=hid (YZ hr12);clear hr12 hlow12 ho12 ht12;refine hK.out _ _ (fun _=>MS.out _ (B12.out.mono B3.out)) (fun _=>?_);clear hK K hHeld;have hHeld:=MS.out w12 (B12.out.mono B3.out)
        try simp only[Act.put,qA,qB,qC,qD,qE,qF]
        refine zQ.take (i:=17) (oi:=_) (oL:=_) (v:=?_) rfl (by kernel_rfl) (by kernel_rfl) (by kernel_rfl) rfl (by kernel_rfl) (fun _ _ _ h=>h) (Or.inl ⟨by kernel_rfl,?_⟩) hHeld ?_
        rotate_left
        ·intro w9 hSw;(try dsimp only at hSw);go_simp;(first|done|with_reducible rfl)
        try simp only[Act.put,qA,qB,qC,qD,qE,qF]
        refine zQ.one (i:=18) (by kernel_rfl) (qJ.of (o:=_) rfl (fun K hK=>?_))
        go_simp
        refine hK.out _ _ (fun _=>MS.out _ ((B12.out.alloc (B12.out.size) _).mono B3.out)) (fun _=>?_);clear hK K hHeld;have hHeld:=MS.out (w12.alloc (.cells (El.v ⟨⟨a8,c8,u8⟩,a12,c12,fs⟩).toArray 131)) ((B12.out.alloc (B12.out.size) _).mono B3.out)
        try simp only[Act.put,qA,qB,qC,qD,qE,qF]
        refine zQ.one (i:=19) (by kernel_rfl) (qJ.of (o:=_) rfl (fun K hK=>?_));refine vk zGb rfl (by omega) (by omega) Tryz.underlying37 rfl (.tmp 97) (.tmp 114) rfl (base:=V2.heap.size) (n0:=wr.heap.size) (p:=zAF) (f:=El.v) ⟨⟨a8,c8,u8⟩,a12,c12,fs⟩ rfl (HG.out.below B12.out) (Nat.le_trans B3.out B12.out.size) w12.heap.size rfl rfl rfl (zGn _) KL.out (show (zAF ⟨⟨a8,c8,u8⟩,a12,c12,fs⟩).lies w12 from ⟨L12.out,HR12.out,.inl rfl⟩) (zGE LOWA.out LOWT.out) B3.out HV.out ?_;intro g cap w10 hg10 hb10;rw[HUL.out] at hg10 ⊢;have B10:=hid (((B12.out.mono B3.out)).trans hb10);have HP10:=hid (HP.out.on (B10.out.mono PZ.out));have HG10:=hid hg10;clear hg10 hb10;refine hK.out _ _ (fun _=>MS.out _ (B10.out)) (fun _=>?_);clear hK K hHeld;have hHeld:=MS.out w10 (B10.out)
        try simp only[Act.put,qA,qB,qC,qD,qE,qF]
        refine zQ.take (i:=20) (oi:=_) (oL:=_) (v:=?_) rfl (by kernel_rfl) (by kernel_rfl) (by kernel_rfl) rfl (by kernel_rfl) (fun _ _ _ h=>h) (Or.inl ⟨by kernel_rfl,?_⟩) hHeld ?_
        rotate_left
        ·intro w9 hSw;(try dsimp only at hSw);go_simp;(first|done|with_reducible rfl)
        try simp only[Act.put,qA,qB,qC,qD,qE,qF]
        have ym10:=HP10.out.out 9 _ rfl;have fm10:=HP10.out.outf 9;refine zQ.one (i:=21) (by kernel_rfl) (qJ.of (o:=_) rfl (fun K hK=>?_))
        go_simp
        refine hK.out _ _ (fun h=>absurd rfl h) (fun _=>?_);clear hK K hHeld
        try simp only[Act.put,qA,qB,qC,qD,qE,qF]
        refine zQ.done (by kernel_rfl) ?_ _;refine NoPanic.normal ?_;clear ym10 fm10;have HS10:=hid (zF.zM HS.out B10.out);go_wp2
        go_roundw
        case rel=>exact⟨k+1,_,_,by go_num,by rw[List.length_append,HUL.out];rfl,by omega,HP10.out.set 9 (by simp) _,HG10.out.save (k:=w.heap.size+2) ((zF.refl (w.heap.size+2) w10).setCell (p:=⟨w.heap.size+2,9,none⟩) (.inl rfl) _) (by have:=PZ.out;omega),HSN.out ⟨⟨a8,c8,u8⟩,a12,c12,fs⟩ (by simp only[El.bare,Lst.bare,HBR.out]),HS10.out.setCell (p:=⟨w.heap.size+2,9,none⟩) (.inl rfl) _⟩
        case measure=>simp[intOf];omega
      ·obtain rfl:n_el=k:=by omega
       have HQ_el:=hid (show us.map El.bare=m.el.map El.bare by have:=HE.out;rwa [List.take_of_length_le (by rw[N_el.out];exact Nat.le_refl _)] at this);obtain⟨a_el,c_el,rfl⟩:=HG.out.slc hul;have FV2:=hid (FV1.out.save HS.out (by omega));have GG2_fu:=hid (G1_fu.out.save HS.out (by have:=Z_fu.out;omega));have GG2_gl:=hid (G1_gl.out.save HS.out (by have:=Z_gl.out;omega));have Z_el:=hid P8.out.size;have GG2_el:=hid HG.out;have PP2:=hid HP.out;clear HP HG HE HS xm hlt hul hk P8 FV1 G1_fu G1_gl
       skip
       have P9:=PP2;have G2_fu:=GG2_fu;have G2_gl:=GG2_gl;have G2_el:=GG2_el;clear PP2 GG2_fu GG2_gl GG2_el
       generalize wr=V3 at P9 FV2 G2_fu G2_gl G2_el ⊢
       obtain⟨us_el,hus_el⟩:∃l,us=l:=⟨_,rfl⟩;rw[hus_el] at HQ_el G2_el;clear hus_el;have xq:=P9.out.mod 9 _ rfl;go_wp2;clear xq
       go_loopw [8] (fun vi wr=>∃(k:Nat) (v:Value) (us:List Da),vi=.int .i64 k∧us.length=k∧k≤n_da∧Hid (Cp w #[.slice ty'.a n_ty ty'.c,.slice im'.a n_im im'.c,.slice fu'.a n_fu fu'.c,.slice tb'.a n_tb tb'.c,.slice me'.a n_me me'.c,.slice gl'.a n_gl gl'.c,.slice ex'.a n_ex ex'.c,.bool st,.int .u32 sn,.slice el'.a n_el el'.c,.slice da'.a n_da da'.c] #[.slice a1 n_ty c1,.slice a2 n_im c2,.slice a_fu n_fu c_fu,.slice a3 n_tb c3,.slice a4 n_me c4,.slice a_gl n_gl c_gl,.slice a5 n_ex c5,.bool st,.int .u32 sn,.slice a_el n_el c_el,v] wr)∧Hid (Got 146 2 V3.heap.size Da.v Jh wr v us)∧Hid (us.map Da.bare=(m.da.take k).map Da.bare)∧Hid (zF (w.heap.size+2) V3 wr)) (fun vi _=>n_da-(intOf vi).toNat)
       case atStart=>exact⟨0,.slice none 0 0,[],rfl,rfl,Nat.zero_le _,P9,Got.start _ _ _ _ _ _,rfl,zF.refl _ _⟩
       case round =>
        obtain⟨k,v,us,rfl,hul,hk,HP,HG,HE,HS⟩:=hrel;have xm:=HP.out.mod 10 _ rfl
        by_cases hlt:k<n_da
        ·have hkl:k<m.da.length:=by rw[N_da.out];exact hlt
         have hki:(k:Int)<(n_da:Int):=by omega
         have hn5:n_da≤5000:=by have h1:=HL.out;have h2:=N_da.out;omega
         obtain⟨b,off,ha,hb,hc⟩:=Rows.get HM_da.out hkl;have hLi:=HLS.out (m.da[k].l) (by unfold Md.codes;exact List.mem_append_right _ (List.mem_append_right _ (List.mem_append_right _ (List.mem_map.2 ⟨_,List.getElem_mem hkl,rfl⟩))));have hWi:=HW.out (m.da[k].l) (by unfold Md.codes;exact List.mem_append_right _ (List.mem_append_right _ (List.mem_append_right _ (List.mem_map.2 ⟨_,List.getElem_mem hkl,rfl⟩))));have hTi:=HBA.out _ (List.getElem_mem hkl);have hTl:=HBS.out _ (List.getElem_mem hkl);have HSN:=hid (fun (x:Da) (hx:Da.bare x=Da.bare m.da[k])=>YU Da.bare HE.out hkl hx);obtain⟨x,hxe⟩:∃x,m.da[k]=x:=⟨_,rfl⟩;rw[hxe] at hc hLi hWi HSN hTi hTl;rw[ha] at xm;have cc:∀j,j<2→∀u,(Da.v x)[j]?=some u→wr.cell? ⟨b,off+k*2+j,none⟩=some u:=fun j hj u hu=>(HP.out.below.cell (p:=⟨b,off+k*2+j,none⟩) hb).trans (hc j hj u hu)
         obtain⟨⟨xa,xc,xl⟩,fa,fc,fs⟩:=x;have e0:w.cell? ⟨b,off+k*2,none⟩=some (.slice xa xl.len xc):=hc 0 (by omega) _ rfl;have e1:w.cell? ⟨b,off+k*2+1,none⟩=some (.slice fa fs.length fc):=hc 1 (by omega) _ rfl;dsimp only at hLi hWi hTi hTl;obtain⟨xn,hxn⟩:∃n,xl.len=n:=⟨_,rfl⟩;rw[hxn] at e0 hLi;obtain⟨fn,hfn⟩:∃n,fs.length=n:=⟨_,rfl⟩;rw[hfn] at e1;have FN:=hid hfn;have hfl:fn≤5000:=by omega
         have HT:=hid (zAY hTi);clear hTi hTl;have PZ:=hid (P9.out.size);have BR:=hid HP.out.below;have BV:=hid P9.out.below;have HXN:=hid hxn;obtain⟨av,cv,rfl⟩:=HG.out.slc hul;have B3:=hid HS.out.size;have HUL:=hid hul;have KL:=hid (show us.length≤1000000 by have h1:=HL.out;have h2:=N_da.out;omega);have nb0:b≠w.heap.size+2:=by omega
         have nb1:w.heap.size≠w.heap.size+2:=by omega
         have xv:V3.cell? ⟨w.heap.size,10,none⟩=some (.slice da'.a n_da da'.c):=P9.out.mod 10 _ rfl;rw[ha] at xv;have d0:V3.cell? ⟨b,off+k*2,none⟩=some (.slice xa xn xc):=(BV.out.cell (p:=⟨b,off+k*2,none⟩) hb).trans e0;have d1:V3.cell? ⟨b,off+k*2+1,none⟩=some (.slice fa fn fc):=(BV.out.cell (p:=⟨b,off+k*2+1,none⟩) hb).trans e1;have MK:=hid (fun (X:World) (h:zF (w.heap.size+2) V3 X)=>Jd (k:=w.heap.size+2) xv d0 d1 nb1 nb0 nb0 h);have CO:=hid (fun (X:World) (h:zF (w.heap.size+2) V3 X)=>zDE (xc:=xc) hLi hWi BV.out (by omega:w.heap.size≤w.heap.size+2) X h);have ym:=HP.out.out 10 _ rfl;have MS:=hid (fun (X:World) (h:Below V3.heap.size wr X)=>zBT (MK.out X (zF.zM HS.out h)) ((h.mono PZ.out).cell (p:=⟨w.heap.size+2,10,none⟩) (by simp)) ym);have hsv0:zF (w.heap.size+2) V3 wr.drew:=HS.out.drew;have BD:=hid ((Below.refl wr.heap.size wr).drew);have HV:=hid (fun g hg=>(World.ownsRow.lt HG.out.row.row g hg).2);have HS0:=MS.out wr.drew (BD.out.mono B3.out);clear hxn hc hb hLi hWi cc ha hxe hul e0 e1 d0 d1 xv nb0 nb1 ym hfn;go_wp2;refine wp_region_noPanic ?_;refine zQ.begin (S:=(fun w'=>zF (w.heap.size+2) V3 w'∧w'.cell? ⟨w.heap.size,10,none⟩=some (.slice (some ⟨b,off,none⟩) n_da da'.c)∧w'.cell? ⟨b,off+k*2,none⟩=some (.slice xa xn xc)∧w'.cell? ⟨b,off+k*2+1,none⟩=some (.slice fa fn fc)∧w'.cell? ⟨w.heap.size+2,10,none⟩=some (.slice av k cv))) (L:=21) (by kernel_rfl) HS0 (fun hHeld=>?_);clear HS0;refine zQ.take (i:=0) (oi:=_) (oL:=_) (v:=?_) rfl (by kernel_rfl) (by kernel_rfl) (by kernel_rfl) rfl (by kernel_rfl) (fun _ _ _ h=>h) (Or.inl ⟨by kernel_rfl,?_⟩) hHeld ?_
         rotate_left
         ·intro w9 hSw;(try dsimp only at hSw);go_simp;(first|done|with_reducible rfl)
         try simp only[Act.put,qA,qB,qC,qD,qE,qF]
         refine zQ.take (i:=1) (oi:=_) (oL:=_) (v:=?_) rfl (by kernel_rfl) (by kernel_rfl) (by kernel_rfl) rfl (by kernel_rfl) (fun _ _ _ h=>h) (Or.inl ⟨by kernel_rfl,?_⟩) hHeld ?_
         rotate_left
         ·intro w9 hSw;(try dsimp only at hSw);go_simp;(first|done|with_reducible rfl)
         try simp only[Act.put,qA,qB,qC,qD,qE,qF]
         refine zQ.take (i:=2) (oi:=_) (oL:=_) (v:=?_) rfl (by kernel_rfl) (by kernel_rfl) (by kernel_rfl) rfl (by kernel_rfl) (fun _ _ _ h=>h) (Or.inl ⟨by kernel_rfl,?_⟩) hHeld ?_
         rotate_left
         ·intro w9 hSw;(try dsimp only at hSw);go_simp;(first|done|with_reducible rfl)
         try simp only[Act.put,qA,qB,qC,qD,qE,qF]
         refine zQ.take (i:=3) (oi:=_) (oL:=_) (v:=?_) rfl (by kernel_rfl) (by kernel_rfl) (by kernel_rfl) rfl (by kernel_rfl) (fun _ _ _ h=>h) (Or.inl ⟨by kernel_rfl,?_⟩) hHeld ?_
         rotate_left
         ·intro w9 hSw;(try dsimp only at hSw);go_simp;(first|done|with_reducible rfl)
         try simp only[Act.put,qA,qB,qC,qD,qE,qF]
         refine zQ.take (i:=4) (oi:=_) (oL:=_) (v:=?_) rfl (by kernel_rfl) (by kernel_rfl) (by kernel_rfl) rfl (by kernel_rfl) (fun _ _ _ h=>h) (Or.inl ⟨by kernel_rfl,?_⟩) hHeld ?_
         rotate_left
         ·intro w9 hSw;(try dsimp only at hSw);go_simp;(first|done|with_reducible rfl)
         try simp only[Act.put,qA,qB,qC,qD,qE,qF]
         refine zQ.take (i:=5) (oi:=_) (oL:=_) (v:=?_) rfl (by kernel_rfl) (by kernel_rfl) (by kernel_rfl) rfl (by kernel_rfl) (fun _ _ _ h=>h) (Or.inl ⟨by kernel_rfl,?_⟩) hHeld ?_
         rotate_left
         ·intro w9 hSw;(try dsimp only at hSw);go_simp;(first|done|with_reducible rfl)
         try simp only[Act.put,qA,qB,qC,qD,qE,qF]
         refine zQ.take (i:=6) (oi:=_) (oL:=_) (v:=?_) rfl (by kernel_rfl) (by kernel_rfl) (by kernel_rfl) rfl (by kernel_rfl) (fun _ _ _ h=>h) (Or.inl ⟨by kernel_rfl,?_⟩) hHeld ?_
         rotate_left
         ·intro w9 hSw;(try dsimp only at hSw);go_simp;(first|done|with_reducible rfl)
         try simp only[Act.put,qA,qB,qC,qD,qE,qF]
         refine zQ.take (i:=7) (oi:=_) (oL:=_) (v:=?_) rfl (by kernel_rfl) (by kernel_rfl) (by kernel_rfl) rfl (by kernel_rfl) (fun _ _ _ h=>h) (Or.inl ⟨by kernel_rfl,?_⟩) hHeld ?_
         rotate_left
         ·intro w9 hSw;(try dsimp only at hSw);go_simp;(first|done|with_reducible rfl)
         try simp only[Act.put,qA,qB,qC,qD,qE,qF]
         refine zQ.take (i:=10) (oi:=_) (oL:=_) (v:=?_) rfl (by kernel_rfl) (by kernel_rfl) (by kernel_rfl) rfl (by kernel_rfl) (fun _ _ _ h=>h) (Or.inl ⟨by kernel_rfl,?_⟩) hHeld ?_
         rotate_left
         ·intro w9 hSw;(try dsimp only at hSw);go_simp;(first|done|with_reducible rfl)
         try simp only[Act.put,qA,qB,qC,qD,qE,qF]
         refine zQ.take (i:=11) (oi:=_) (oL:=_) (v:=?_) rfl (by kernel_rfl) (by kernel_rfl) (by kernel_rfl) rfl (by kernel_rfl) (fun _ _ _ h=>h) (Or.inl ⟨by kernel_rfl,?_⟩) hHeld ?_
         rotate_left
         ·intro w9 hSw;(try dsimp only at hSw);go_simp;(first|done|with_reducible rfl)
         try simp only[Act.put,qA,qB,qC,qD,qE,qF]
         refine zQ.take (i:=12) (oi:=_) (oL:=_) (v:=?_) rfl (by kernel_rfl) (by kernel_rfl) (by kernel_rfl) rfl (by kernel_rfl) (fun _ _ _ h=>h) (Or.inl ⟨by kernel_rfl,?_⟩) hHeld ?_
         rotate_left
         ·intro w9 hSw;(try dsimp only at hSw);go_simp;(first|done|with_reducible rfl)
         try simp only[Act.put,qA,qB,qC,qD,qE,qF]
         refine zQ.take (i:=13) (oi:=_) (oL:=_) (v:=?_) rfl (by kernel_rfl) (by kernel_rfl) (by kernel_rfl) rfl (by kernel_rfl) (fun _ _ _ h=>h) (Or.inl ⟨by kernel_rfl,?_⟩) hHeld ?_
         rotate_left
         ·intro w9 hSw;(try dsimp only at hSw);go_simp;(first|done|with_reducible rfl)
         try simp only[Act.put,qA,qB,qC,qD,qE,qF]
         refine zQ.take (i:=14) (oi:=_) (oL:=_) (v:=?_) rfl (by kernel_rfl) (by kernel_rfl) (by kernel_rfl) rfl (by kernel_rfl) (fun _ _ _ h=>h) (Or.inl ⟨by kernel_rfl,?_⟩) hHeld ?_
         rotate_left
         ·intro w9 hSw;(try dsimp only at hSw);go_simp;(first|done|with_reducible rfl)
         try simp only[Act.put,qA,qB,qC,qD,qE,qF]
         refine zQ.take (i:=15) (oi:=_) (oL:=_) (v:=?_) rfl (by kernel_rfl) (by kernel_rfl) (by kernel_rfl) rfl (by kernel_rfl) (fun _ _ _ h=>h) (Or.inl ⟨by kernel_rfl,?_⟩) hHeld ?_
         rotate_left
         ·intro w9 hSw;(try dsimp only at hSw);go_simp;(first|done|with_reducible rfl)
         try simp only[Act.put,qA,qB,qC,qD,qE,qF]
         refine zQ.two (i:=8) (k:=9) (by kernel_rfl) (qJ.of (o:=_) rfl (fun K hK=>?_)) (qJ.of (o:=_) rfl (fun K hK=>?_))
         ·skip
          go_simp
          go_at_call 76
          refine (CO.out _ hsv0).mono ?_;rintro e8 w8 ⟨a8,c8,u8,rfl,hb8,hl8,hlow8,hbr8⟩
          try (go_wp2_with fail)
          have B8:=hid (zM BD.out hb8);have B8V:=hid (B8.out.mono B3.out);have L8:=hid hl8;have HBR:=hid hbr8;have LOW8:=hid (show ∀q∈zV u8.len a8++u8.foot,wr.heap.size≤q from hlow8);clear hb8 hl8 hlow8 hbr8;refine hK.out _ _ (fun _=>MS.out _ (B8V.out)) (fun _=>?_);clear hK K hHeld;have hHeld:=MS.out w8 (B8V.out)
          try simp only[Act.put,qA,qB,qC,qD,qE,qF]
          refine zQ.one (i:=9) (by kernel_rfl) (qJ.of (o:=_) rfl (fun K hK=>?_))
          go_simp
          refine hK.out _ _ (fun _=>MS.out _ ((B8.out.alloc (B8.out.size) _).mono B3.out)) (fun _=>?_);clear hK K hHeld;have hHeld:=MS.out (w8.alloc (.cells #[] 5)) ((B8.out.alloc (B8.out.size) _).mono B3.out)
          try simp only[Act.put,qA,qB,qC,qD,qE,qF]
          refine zQ.one (i:=16) (by kernel_rfl) (qJ.of (o:=_) rfl (fun K hK=>?_));refine ZS zFz rfl (by omega) (by omega) Tryz.underlying28 rfl (.tmp 133) (.tmp 139) rfl rfl (zR.made 5 1 w8) (by simp) fa fn fc rfl (fs.map zAP) (by rw[List.length_map];exact FN.out) ((HT.out.below (BR.out.trans ((B8.out.alloc B8.out.size _).mono (Nat.le_trans (by omega) (Nat.le_trans PZ.out B3.out))))).more (by have h1:=BR.out.size;have h2:=B8.out.size;simp;omega)) (kM (f:=zAP) (sz:=1) (fun _=>rfl) _) (kL zCY _) (by rw[List.length_map,FN.out];omega) ?_;intro v12 w12 ho12 ht12;obtain⟨a12,c12,rfl,hr12,hlow12⟩:=YF ho12;have T12:=hid (show Touch (fun j=>w8.heap.size≤j) w8 w12 from ((Touch.refl _ w8).alloc _).trans (ht12.mono (fun j hj=>by have e:w8.heap.size=j:=Option.some.inj hj;omega)));have B12:=hid (B8.out.trans (T12.out.below B8.out.size (fun j hj=>Nat.le_trans B8.out.size hj)));have L12:=hid (YB L8.out T12.out (fun q hq h=>by have:=qo L8.out q hq;omega));have LOWA:=hid LOW8.out;have LOWT:=hid (fun q hq=>Nat.le_trans B8.out.size (hlow12 q hq));have HR12:=hid (Za hr12);clear hr12 hlow12 ho12 ht12;refine hK.out _ _ (fun _=>MS.out _ (B12.out.mono B3.out)) (fun _=>?_);clear hK K hHeld;have hHeld:=MS.out w12 (B12.out.mono B3.out)
          try simp only[Act.put,qA,qB,qC,qD,qE,qF]
          refine zQ.take (i:=17) (oi:=_) (oL:=_) (v:=?_) rfl (by kernel_rfl) (by kernel_rfl) (by kernel_rfl) rfl (by kernel_rfl) (fun _ _ _ h=>h) (Or.inl ⟨by kernel_rfl,?_⟩) hHeld ?_
          rotate_left
          ·intro w9 hSw;(try dsimp only at hSw);go_simp;(first|done|with_reducible rfl)
          try simp only[Act.put,qA,qB,qC,qD,qE,qF]
          refine zQ.one (i:=18) (by kernel_rfl) (qJ.of (o:=_) rfl (fun K hK=>?_))
          go_simp
          refine hK.out _ _ (fun _=>MS.out _ ((B12.out.alloc (B12.out.size) _).mono B3.out)) (fun _=>?_);clear hK K hHeld;have hHeld:=MS.out (w12.alloc (.cells (Da.v ⟨⟨a8,c8,u8⟩,a12,c12,fs⟩).toArray 146)) ((B12.out.alloc (B12.out.size) _).mono B3.out)
          try simp only[Act.put,qA,qB,qC,qD,qE,qF]
          refine zQ.one (i:=19) (by kernel_rfl) (qJ.of (o:=_) rfl (fun K hK=>?_));refine vk zF9 rfl (by omega) (by omega) Tryz.underlying38 rfl (.tmp 125) (.tmp 142) rfl (base:=V3.heap.size) (n0:=wr.heap.size) (p:=Jh) (f:=Da.v) ⟨⟨a8,c8,u8⟩,a12,c12,fs⟩ rfl (HG.out.below B12.out) (Nat.le_trans B3.out B12.out.size) w12.heap.size rfl rfl rfl (zGq _) KL.out (show (Jh ⟨⟨a8,c8,u8⟩,a12,c12,fs⟩).lies w12 from ⟨L12.out,.inl rfl,HR12.out⟩) (zGr LOWA.out LOWT.out) B3.out HV.out ?_;intro g cap w10 hg10 hb10;rw[HUL.out] at hg10 ⊢;have B10:=hid (((B12.out.mono B3.out)).trans hb10);have HP10:=hid (HP.out.on (B10.out.mono PZ.out));have HG10:=hid hg10;clear hg10 hb10;refine hK.out _ _ (fun _=>MS.out _ (B10.out)) (fun _=>?_);clear hK K hHeld;have hHeld:=MS.out w10 (B10.out)
          try simp only[Act.put,qA,qB,qC,qD,qE,qF]
          refine zQ.take (i:=20) (oi:=_) (oL:=_) (v:=?_) rfl (by kernel_rfl) (by kernel_rfl) (by kernel_rfl) rfl (by kernel_rfl) (fun _ _ _ h=>h) (Or.inl ⟨by kernel_rfl,?_⟩) hHeld ?_
          rotate_left
          ·intro w9 hSw;(try dsimp only at hSw);go_simp;(first|done|with_reducible rfl)
          try simp only[Act.put,qA,qB,qC,qD,qE,qF]
          have ym10:=HP10.out.out 10 _ rfl;have fm10:=HP10.out.outf 10;refine zQ.one (i:=21) (by kernel_rfl) (qJ.of (o:=_) rfl (fun K hK=>?_))
          go_simp
          refine hK.out _ _ (fun h=>absurd rfl h) (fun _=>?_);clear hK K hHeld
          try simp only[Act.put,qA,qB,qC,qD,qE,qF]
          refine zQ.done (by kernel_rfl) ?_ _;refine NoPanic.normal ?_;clear ym10 fm10;have HS10:=hid (zF.zM HS.out B10.out);go_wp2
          go_roundw
          case rel=>exact⟨k+1,_,_,by go_num,by rw[List.length_append,HUL.out];rfl,by omega,HP10.out.set 10 (by simp) _,HG10.out.save (k:=w.heap.size+2) ((zF.refl (w.heap.size+2) w10).setCell (p:=⟨w.heap.size+2,10,none⟩) (.inl rfl) _) (by have:=PZ.out;omega),HSN.out ⟨⟨a8,c8,u8⟩,a12,c12,fs⟩ (by simp only[Da.bare,Lst.bare,HBR.out]),HS10.out.setCell (p:=⟨w.heap.size+2,10,none⟩) (.inl rfl) _⟩
          case measure=>simp[intOf];omega
         ·skip
          go_simp
          refine hK.out _ _ (fun _=>MS.out _ ((BD.out.alloc (Nat.le_refl _) _).mono B3.out)) (fun _=>?_);clear hK K hHeld;have hHeld:=MS.out (wr.drew.alloc (.cells #[] 5)) ((BD.out.alloc (Nat.le_refl _) _).mono B3.out)
          try simp only[Act.put,qA,qB,qC,qD,qE,qF]
          refine zQ.one (i:=8) (by kernel_rfl) (qJ.of (o:=_) rfl (fun K hK=>?_))
          go_simp
          go_at_call 76
          refine (CO.out _ (zF.alloc hsv0 _)).mono ?_;rintro e8 w8 ⟨a8,c8,u8,rfl,hb8,hl8,hlow8,hbr8⟩
          try (go_wp2_with fail)
          have B8:=hid (zM (BD.out.alloc (Nat.le_refl _) (.cells #[] 5)) hb8);have B8V:=hid (B8.out.mono B3.out);have L8:=hid hl8;have HBR:=hid hbr8;have LOW8:=hid (show ∀q∈zV u8.len a8++u8.foot,wr.heap.size+1≤q from fun q hq=>by have:=hlow8 q hq;simpa using this);have OE:=hid ((zR.made 5 1 wr.drew).below (by simpa using hb8));clear hb8 hl8 hlow8 hbr8;refine hK.out _ _ (fun _=>MS.out _ (B8V.out)) (fun _=>?_);clear hK K hHeld;have hHeld:=MS.out w8 (B8V.out)
          try simp only[Act.put,qA,qB,qC,qD,qE,qF]
          refine zQ.one (i:=16) (by kernel_rfl) (qJ.of (o:=_) rfl (fun K hK=>?_));refine ZS zFz rfl (by omega) (by omega) Tryz.underlying28 rfl (.tmp 133) (.tmp 139) rfl rfl OE.out (by exact B8.out.size) fa fn fc rfl (fs.map zAP) (by rw[List.length_map];exact FN.out) ((HT.out.below (BR.out.trans ((B8.out).mono (Nat.le_trans (by omega) (Nat.le_trans PZ.out B3.out))))).more (by have h1:=BR.out.size;have h2:=B8.out.size;omega)) (kM (f:=zAP) (sz:=1) (fun _=>rfl) _) (kL zCY _) (by rw[List.length_map,FN.out];omega) ?_;intro v12 w12 ho12 ht12;obtain⟨a12,c12,rfl,hr12,hlow12⟩:=YF ho12;have T12:=hid (show Touch (fun j=>j=wr.heap.size) w8 w12 from ht12.mono (fun j hj=>by have e:wr.heap.size=j:=Option.some.inj hj;omega));have B12:=hid (B8.out.trans (T12.out.below B8.out.size (fun j hj=>by omega)));have L12:=hid (YB L8.out T12.out (fun q hq h=>by have:=LOW8.out q hq;omega));have LOWA:=hid (show ∀q∈zV u8.len a8++u8.foot,wr.heap.size≤q from fun q hq=>by have:=LOW8.out q hq;omega);have LOWT:=hid hlow12;have HR12:=hid (Za hr12);clear hr12 hlow12 ho12 ht12;refine hK.out _ _ (fun _=>MS.out _ (B12.out.mono B3.out)) (fun _=>?_);clear hK K hHeld;have hHeld:=MS.out w12 (B12.out.mono B3.out)
          try simp only[Act.put,qA,qB,qC,qD,qE,qF]
          refine zQ.take (i:=17) (oi:=_) (oL:=_) (v:=?_) rfl (by kernel_rfl) (by kernel_rfl) (by kernel_rfl) rfl (by kernel_rfl) (fun _ _ _ h=>h) (Or.inl ⟨by kernel_rfl,?_⟩) hHeld ?_
          rotate_left
          ·intro w9 hSw;(try dsimp only at hSw);go_simp;(first|done|with_reducible rfl)
          try simp only[Act.put,qA,qB,qC,qD,qE,qF]
          refine zQ.one (i:=18) (by kernel_rfl) (qJ.of (o:=_) rfl (fun K hK=>?_))
          go_simp
          refine hK.out _ _ (fun _=>MS.out _ ((B12.out.alloc (B12.out.size) _).mono B3.out)) (fun _=>?_);clear hK K hHeld;have hHeld:=MS.out (w12.alloc (.cells (Da.v ⟨⟨a8,c8,u8⟩,a12,c12,fs⟩).toArray 146)) ((B12.out.alloc (B12.out.size) _).mono B3.out)
          try simp only[Act.put,qA,qB,qC,qD,qE,qF]
          refine zQ.one (i:=19) (by kernel_rfl) (qJ.of (o:=_) rfl (fun K hK=>?_));refine vk zF9 rfl (by omega) (by omega) Tryz.underlying38 rfl (.tmp 125) (.tmp 142) rfl (base:=V3.heap.size) (n0:=wr.heap.size) (p:=Jh) (f:=Da.v) ⟨⟨a8,c8,u8⟩,a12,c12,fs⟩ rfl (HG.out.below B12.out) (Nat.le_trans B3.out B12.out.size) w12.heap.size rfl rfl rfl (zGq _) KL.out (show (Jh ⟨⟨a8,c8,u8⟩,a12,c12,fs⟩).lies w12 from ⟨L12.out,.inl rfl,HR12.out⟩) (zGr LOWA.out LOWT.out) B3.out HV.out ?_;intro g cap w10 hg10 hb10;rw[HUL.out] at hg10 ⊢;have B10:=hid (((B12.out.mono B3.out)).trans hb10);have HP10:=hid (HP.out.on (B10.out.mono PZ.out));have HG10:=hid hg10;clear hg10 hb10;refine hK.out _ _ (fun _=>MS.out _ (B10.out)) (fun _=>?_);clear hK K hHeld;have hHeld:=MS.out w10 (B10.out)
          try simp only[Act.put,qA,qB,qC,qD,qE,qF]
          refine zQ.take (i:=20) (oi:=_) (oL:=_) (v:=?_) rfl (by kernel_rfl) (by kernel_rfl) (by kernel_rfl) rfl (by kernel_rfl) (fun _ _ _ h=>h) (Or.inl ⟨by kernel_rfl,?_⟩) hHeld ?_
          rotate_left
          ·intro w9 hSw;(try dsimp only at hSw);go_simp;(first|done|with_reducible rfl)
          try simp only[Act.put,qA,qB,qC,qD,qE,qF]
          have ym10:=HP10.out.out 10 _ rfl;have fm10:=HP10.out.outf 10;refine zQ.one (i:=21) (by kernel_rfl) (qJ.of (o:=_) rfl (fun K hK=>?_))
          go_simp
          refine hK.out _ _ (fun h=>absurd rfl h) (fun _=>?_);clear hK K hHeld
          try simp only[Act.put,qA,qB,qC,qD,qE,qF]
          refine zQ.done (by kernel_rfl) ?_ _;refine NoPanic.normal ?_;clear ym10 fm10;have HS10:=hid (zF.zM HS.out B10.out);go_wp2
          go_roundw
          case rel=>exact⟨k+1,_,_,by go_num,by rw[List.length_append,HUL.out];rfl,by omega,HP10.out.set 10 (by simp) _,HG10.out.save (k:=w.heap.size+2) ((zF.refl (w.heap.size+2) w10).setCell (p:=⟨w.heap.size+2,10,none⟩) (.inl rfl) _) (by have:=PZ.out;omega),HSN.out ⟨⟨a8,c8,u8⟩,a12,c12,fs⟩ (by simp only[Da.bare,Lst.bare,HBR.out]),HS10.out.setCell (p:=⟨w.heap.size+2,10,none⟩) (.inl rfl) _⟩
          case measure=>simp[intOf];omega
        ·obtain rfl:n_da=k:=by omega
         have HQ_da:=hid (show us.map Da.bare=m.da.map Da.bare by have:=HE.out;rwa [List.take_of_length_le (by rw[N_da.out];exact Nat.le_refl _)] at this);obtain⟨a_da,c_da,rfl⟩:=HG.out.slc hul;have FV3:=hid (FV2.out.save HS.out (by omega));have GG3_fu:=hid (G2_fu.out.save HS.out (by have:=Z_fu.out;omega));have GG3_gl:=hid (G2_gl.out.save HS.out (by have:=Z_gl.out;omega));have GG3_el:=hid (G2_el.out.save HS.out (by have:=Z_el.out;omega));have Z_da:=hid P9.out.size;have GG3_da:=hid HG.out;have PP3:=hid HP.out;clear HP HG HE HS xm hlt hul hk P9 FV2 G2_fu G2_gl G2_el
         skip
         have P10:=PP3;have G3_fu:=GG3_fu;have G3_gl:=GG3_gl;have G3_el:=GG3_el;have G3_da:=GG3_da;clear PP3 GG3_fu GG3_gl GG3_el GG3_da
         generalize wr=V4 at P10 FV3 G3_fu G3_gl G3_el G3_da ⊢
         obtain⟨us_da,hus_da⟩:∃l,us=l:=⟨_,rfl⟩;rw[hus_da] at HQ_da G3_da;clear hus_da;have xq:=P10.out.mod 10 _ rfl;clear xq;have xq:=P10.out.mod 10 _ rfl;obtain⟨o0,o1,o2,o3,o4,o5,o6,o7,o8,o9,o10⟩:=Mod.jr P10.out.out;obtain⟨r0,r1,r2,r3,r4,r5,r6,r7,r8,r9,r10⟩:=Mod.jr P10.out.res;have q0:=P10.out.resf 0;have q1:=P10.out.resf 1;have q2:=P10.out.resf 2;have q3:=P10.out.resf 3;have q4:=P10.out.resf 4;have q5:=P10.out.resf 5;have q6:=P10.out.resf 6;have q7:=P10.out.resf 7;have q8:=P10.out.resf 8;have q9:=P10.out.resf 9;have q10:=P10.out.resf 10;go_wp2;clear xq o0 r0 q0 o1 r1 q1 o2 r2 q2 o3 r3 q3 o4 r4 q4 o5 r5 q5 o6 r6 q6 o7 r7 q7 o8 r8 q8 o9 r9 q9 o10 r10 q10;have TT:=hid ((((((((((((zF.refl (w.heap.size+1) V4).setCell (p:=⟨w.heap.size+1,0,none⟩) (.inl rfl) (.slice a1 n_ty c1)).setCell (p:=⟨w.heap.size+1,1,none⟩) (.inl rfl) (.slice a2 n_im c2)).setCell (p:=⟨w.heap.size+1,2,none⟩) (.inl rfl) (.slice a_fu n_fu c_fu)).setCell (p:=⟨w.heap.size+1,3,none⟩) (.inl rfl) (.slice a3 n_tb c3)).setCell (p:=⟨w.heap.size+1,4,none⟩) (.inl rfl) (.slice a4 n_me c4)).setCell (p:=⟨w.heap.size+1,5,none⟩) (.inl rfl) (.slice a_gl n_gl c_gl)).setCell (p:=⟨w.heap.size+1,6,none⟩) (.inl rfl) (.slice a5 n_ex c5)).setCell (p:=⟨w.heap.size+1,7,none⟩) (.inl rfl) (.bool st)).setCell (p:=⟨w.heap.size+1,8,none⟩) (.inl rfl) (.int .u32 sn)).setCell (p:=⟨w.heap.size+1,9,none⟩) (.inl rfl) (.slice a_el n_el c_el)).setCell (p:=⟨w.heap.size+1,10,none⟩) (.inl rfl) (.slice a_da n_da c_da));have BX:=hid (zDQ P10.out.res (.slice a1 n_ty c1) (.slice a2 n_im c2) (.slice a_fu n_fu c_fu) (.slice a3 n_tb c3) (.slice a4 n_me c4) (.slice a_gl n_gl c_gl) (.slice a5 n_ex c5) (.bool st) (.int .u32 sn) (.slice a_el n_el c_el) (.slice a_da n_da c_da));have S3:=hid (FV3.out.save TT.out (by omega));have E_fu:=hid (G3_fu.out.save TT.out (by have:=Z_fu.out;omega));have E_gl:=hid (G3_gl.out.save TT.out (by have:=Z_gl.out;omega));have E_el:=hid (G3_el.out.save TT.out (by have:=Z_el.out;omega));have E_da:=hid (G3_da.out.save TT.out (by have:=Z_da.out;omega));have BE:=hid (P10.out.below.trans (TT.out.below P10.out.below.size (by omega)));obtain⟨m2,hv2,hm2,hb2⟩:=HEND.out _ _ _ _ _ _ _ _ _ _ _ _ _ _ _ _ _ _ _ _ _ _ _ _ _ _ _ _ _ _ _ _ S3.out.ty S3.out.im E_fu.out S3.out.tb S3.out.me E_gl.out S3.out.ex E_el.out E_da.out HQ_fu.out HQ_gl.out HQ_el.out HQ_da.out;refine bodyPost_ret (v:=.agg m2.v) ?_ rfl ⟨m2,rfl,hm2,hb2,BE.out⟩;rw[hv2];obtain⟨z0,z1,z2,z3,z4,z5,z6,z7,z8,z9,z10⟩:=Mod.jr BX.out;simp[results,Tryz.results38,go_sem,z0,z1,z2,z3,z4,z5,z6,z7,z8,z9,z10]
end Mod
end Go.Proofs.YtdljneclfgneoaaGreatDoor
