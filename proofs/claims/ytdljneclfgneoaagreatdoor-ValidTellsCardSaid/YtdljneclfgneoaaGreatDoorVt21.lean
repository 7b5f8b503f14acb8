import Derived.Test.YtdljneclfgneoaaGreatDoorVt20
import Derived.BigGuard
set_option linter.unusedVariables false
set_option linter.ambiguousOpen false
set_option maxRecDepth 100000
set_option maxHeartbeats 8000000
namespace Go.Proofs.YtdljneclfgneoaaGreatDoor
namespace Instr
end Instr
namespace Body
end Body
namespace Mod
open Go.RowKit Instr
open Body (jy)
theorem zHO {a b:Md} (h1:a.ty=b.ty) (h2:a.im=b.im) (h3:a.fu.map Mod.Fn.bare=b.fu.map Mod.Fn.bare) (h4:a.st=b.st) (h5:a.sn=b.sn):is (Same a b)=is (jf a b):=by
 by_cases h:jf a b
 ·rw[ya h,ya (⟨h1,h2,h3,h.tb,h.me,h.gl,h.ex,h4,h5,h.el,h.da⟩:Same a b)]
 ·rw[zY h,zY (p:=Same a b) (fun g=>h ⟨g.tb,g.me,g.gl,g.ex,g.el,g.da⟩)]
theorem zBm (a b:Md) (w:World) (ha:zN w.heap.size w a) (hb:zN w.heap.size w b) (fa:a.fits) (fb:b.fits) (za:∀d∈a.da,∀z∈d.bs,0≤z∧z<256) (zb:∀d∈b.da,∀z∈d.bs,0≤z∧z<256) :
  Calls Tryz.prog 39 #[.agg a.v,.agg b.v] w fun e w'=>e=.returned (.bool (is (Same a b)))∧Below w.heap.size w w':=by
 have hb0:=(Below.refl w.heap.size w).alloc (Nat.le_refl _) (.cells a.v 40);have hb1:=zC hb0 (.cells b.v 40);have HB:=hid hb1;have HA0:=hid (ha.on hb1);have HB0:=hid (hb.on hb1);have HXA:=hid ((zB.made w a.v 40).keep ((Below.refl _ _).alloc (Nat.le_refl _) (.cells b.v 40)));have HXB:=hid (zB.made (w.alloc (.cells a.v 40)) b.v 40);rw[World.size_alloc] at HXB;have FA:=hid fa;have FB:=hid fb;have ZA:=hid za;have ZB:=hid zb;have FFty:=hid (fun (h:¬a.ty=b.ty)=>zY (p:=Same a b) (fun e=>h e.ty));have FFim:=hid (fun (h:¬a.im=b.im)=>zY (p:=Same a b) (fun e=>h e.im));have FFfu:=hid (fun (h:¬(a.fu.map Mod.Fn.bare)=(b.fu.map Mod.Fn.bare))=>zY (p:=Same a b) (fun e=>h e.fu));have FNty:=hid (fun (h:¬a.ty.length=b.ty.length)=>zY (p:=Same a b) (fun e=>h (by have:=congrArg List.length e.ty;simpa only [List.length_map] using this)));have FNim:=hid (fun (h:¬a.im.length=b.im.length)=>zY (p:=Same a b) (fun e=>h (by have:=congrArg List.length e.im;simpa only [List.length_map] using this)));have FNfu:=hid (fun (h:¬a.fu.length=b.fu.length)=>zY (p:=Same a b) (fun e=>h (by have:=congrArg List.length e.fu;simpa only [List.length_map] using this)));have FNtb:=hid (fun (h:¬a.tb.length=b.tb.length)=>zY (p:=Same a b) (fun e=>h (by have:=congrArg List.length e.tb;simpa only [List.length_map] using this)));have FNme:=hid (fun (h:¬a.me.length=b.me.length)=>zY (p:=Same a b) (fun e=>h (by have:=congrArg List.length e.me;simpa only [List.length_map] using this)));have FNgl:=hid (fun (h:¬a.gl.length=b.gl.length)=>zY (p:=Same a b) (fun e=>h (by have:=congrArg List.length e.gl;simpa only [List.length_map] using this)));have FNex:=hid (fun (h:¬a.ex.length=b.ex.length)=>zY (p:=Same a b) (fun e=>h (by have:=congrArg List.length e.ex;simpa only [List.length_map] using this)));have FNel:=hid (fun (h:¬a.el.length=b.el.length)=>zY (p:=Same a b) (fun e=>h (by have:=congrArg List.length e.el;simpa only [List.length_map] using this)));have FNda:=hid (fun (h:¬a.da.length=b.da.length)=>zY (p:=Same a b) (fun e=>h (by have:=congrArg List.length e.da;simpa only [List.length_map] using this)));have FNst:=hid (fun (h:¬a.st=b.st)=>zY (p:=Same a b) (fun e=>h e.st));have FNsn:=hid (fun (h:¬a.sn=b.sn)=>zY (p:=Same a b) (fun e=>h e.sn));have YY:=hid (fun h1 h2 h3 h4 h5=>zHO (a:=a) (b:=b) h1 h2 h3 h4 h5);obtain⟨r,hr⟩:∃r,is (Same a b)=r:=⟨_,rfl⟩;rw[hr];rw[hr] at YY FFty FFim FFfu FNty FNim FNfu FNtb FNme FNgl FNex FNst FNsn FNel FNda;obtain⟨nty,hnty⟩:∃n,a.ty.length=n:=⟨_,rfl⟩;have LAty:=hid hnty;obtain⟨nim,hnim⟩:∃n,a.im.length=n:=⟨_,rfl⟩;have LAim:=hid hnim;obtain⟨nfu,hnfu⟩:∃n,a.fu.length=n:=⟨_,rfl⟩;have LAfu:=hid hnfu;obtain⟨ntb,hntb⟩:∃n,a.tb.length=n:=⟨_,rfl⟩;have LAtb:=hid hntb;obtain⟨nme,hnme⟩:∃n,a.me.length=n:=⟨_,rfl⟩;have LAme:=hid hnme;obtain⟨ngl,hngl⟩:∃n,a.gl.length=n:=⟨_,rfl⟩;have LAgl:=hid hngl;obtain⟨nex,hnex⟩:∃n,a.ex.length=n:=⟨_,rfl⟩;have LAex:=hid hnex;obtain⟨nst,hnst⟩:∃n,a.st=n:=⟨_,rfl⟩;have LAst:=hid hnst;obtain⟨nsn,hnsn⟩:∃n,a.sn=n:=⟨_,rfl⟩
 have LAsn:=hid hnsn;obtain⟨nel,hnel⟩:∃n,a.el.length=n:=⟨_,rfl⟩;have LAel:=hid hnel;obtain⟨nda,hnda⟩:∃n,a.da.length=n:=⟨_,rfl⟩;have LAda:=hid hnda;have hva:a.v=#[.slice a.ty'.a nty a.ty'.c,.slice a.im'.a nim a.im'.c,.slice a.fu'.a nfu a.fu'.c,.slice a.tb'.a ntb a.tb'.c,.slice a.me'.a nme a.me'.c,.slice a.gl'.a ngl a.gl'.c,.slice a.ex'.a nex a.ex'.c,.bool nst,.int .u32 nsn,.slice a.el'.a nel a.el'.c,.slice a.da'.a nda a.da'.c]:=by unfold Md.v;rw[hnty,hnim,hnfu,hntb,hnme,hngl,hnex,hnst,hnsn,hnel,hnda]
 obtain⟨mty,hmty⟩:∃n,b.ty.length=n:=⟨_,rfl⟩;have LBty:=hid hmty;obtain⟨mim,hmim⟩:∃n,b.im.length=n:=⟨_,rfl⟩;have LBim:=hid hmim;obtain⟨mfu,hmfu⟩:∃n,b.fu.length=n:=⟨_,rfl⟩;have LBfu:=hid hmfu;obtain⟨mtb,hmtb⟩:∃n,b.tb.length=n:=⟨_,rfl⟩;have LBtb:=hid hmtb;obtain⟨mme,hmme⟩:∃n,b.me.length=n:=⟨_,rfl⟩;have LBme:=hid hmme;obtain⟨mgl,hmgl⟩:∃n,b.gl.length=n:=⟨_,rfl⟩;have LBgl:=hid hmgl;obtain⟨mex,hmex⟩:∃n,b.ex.length=n:=⟨_,rfl⟩;have LBex:=hid hmex;obtain⟨mst,hmst⟩:∃n,b.st=n:=⟨_,rfl⟩;have LBst:=hid hmst;obtain⟨msn,hmsn⟩:∃n,b.sn=n:=⟨_,rfl⟩;have LBsn:=hid hmsn;obtain⟨mel,hmel⟩:∃n,b.el.length=n:=⟨_,rfl⟩;have LBel:=hid hmel;obtain⟨mda,hmda⟩:∃n,b.da.length=n:=⟨_,rfl⟩;have LBda:=hid hmda;have hvb:b.v=#[.slice b.ty'.a mty b.ty'.c,.slice b.im'.a mim b.im'.c,.slice b.fu'.a mfu b.fu'.c,.slice b.tb'.a mtb b.tb'.c,.slice b.me'.a mme b.me'.c,.slice b.gl'.a mgl b.gl'.c,.slice b.ex'.a mex b.ex'.c,.bool mst,.int .u32 msn,.slice b.el'.a mel b.el'.c,.slice b.da'.a mda b.da'.c]:=by unfold Md.v;rw[hmty,hmim,hmfu,hmtb,hmme,hmgl,hmex,hmst,hmsn,hmel,hmda]
 have bnty:nty≤140737488351232:=by have:=FA.out.ty;omega
 have bnim:nim≤140737488351232:=by have:=FA.out.im;omega
 have bnfu:nfu≤140737488351232:=by have:=FA.out.fu;omega
 rw[hnty,hmty] at FNty;rw[hnim,hmim] at FNim;rw[hnfu,hmfu] at FNfu;rw[hntb,hmtb] at FNtb;rw[hnme,hmme] at FNme;rw[hngl,hmgl] at FNgl;rw[hnex,hmex] at FNex;rw[hnst,hmst] at FNst;rw[hnsn,hmsn] at FNsn;rw[hnel,hmel] at FNel;rw[hnda,hmda] at FNda;rw[hva,hvb] at HB HA0 HB0 HXA HXB ⊢;have VA:=hid hva;have VB:=hid hvb;clear hva hvb ha hb fa fb za zb hb0 hb1 hr hnty hmty hnim hmim hnfu hmfu hntb hmtb hnme hmme hngl hmgl hnex hmex hnst hmst hnsn hmsn hnel hmel hnda hmda
 by_cases gty:nty=mty
 rotate_left
 ·have HE:=hid (FNty.out gty)
  have hni:¬(nty:Int)=(mty:Int):=by omega
  have q1:((nty:Int)==(mty:Int))=false:=beq_eq_false_iff_ne.2 hni;have q2:((nty:Int) != (mty:Int))=true:=bne_iff_ne.2 hni;have x0:=HXA.out 0 _ rfl;have y0:=HXB.out 0 _ rfl;have x1:=HXA.out 1 _ rfl;have y1:=HXB.out 1 _ rfl;have x2:=HXA.out 2 _ rfl;have y2:=HXB.out 2 _ rfl;have x3:=HXA.out 3 _ rfl;have y3:=HXB.out 3 _ rfl;have x4:=HXA.out 4 _ rfl;have y4:=HXB.out 4 _ rfl;have x5:=HXA.out 5 _ rfl;have y5:=HXB.out 5 _ rfl;have x6:=HXA.out 6 _ rfl;have y6:=HXB.out 6 _ rfl;have x7:=HXA.out 7 _ rfl;have y7:=HXB.out 7 _ rfl;have x8:=HXA.out 8 _ rfl;have y8:=HXB.out 8 _ rfl;have x9:=HXA.out 9 _ rfl;have y9:=HXB.out 9 _ rfl;have x10:=HXA.out 10 _ rfl;have y10:=HXB.out 10 _ rfl;clear YY HA0 HB0 HXA HXB VA VB FFty FFim FFfu FNty FNim FNfu FNtb FNme FNgl FNex FNst FNsn FNel FNda LAty LBty LAim LBim LAfu LBfu LAtb LBtb LAme LBme LAgl LBgl LAex LBex LAst LBst LAsn LBsn LAel LBel LAda LBda
  go_enter Tryz.func39,Tryz.ntmps39
  simp only[List.append_eq,List.cons_append,List.nil_append];go_wp2;go_ret;exact⟨zA HE.out.symm,HB.out⟩
 subst gty
 by_cases gim:nim=mim
 rotate_left
 ·have HE:=hid (FNim.out gim)
  have hni:¬(nim:Int)=(mim:Int):=by omega
  have q1:((nim:Int)==(mim:Int))=false:=beq_eq_false_iff_ne.2 hni;have q2:((nim:Int) != (mim:Int))=true:=bne_iff_ne.2 hni;have x0:=HXA.out 0 _ rfl;have y0:=HXB.out 0 _ rfl;have x1:=HXA.out 1 _ rfl;have y1:=HXB.out 1 _ rfl;have x2:=HXA.out 2 _ rfl;have y2:=HXB.out 2 _ rfl;have x3:=HXA.out 3 _ rfl;have y3:=HXB.out 3 _ rfl;have x4:=HXA.out 4 _ rfl;have y4:=HXB.out 4 _ rfl;have x5:=HXA.out 5 _ rfl;have y5:=HXB.out 5 _ rfl;have x6:=HXA.out 6 _ rfl;have y6:=HXB.out 6 _ rfl;have x7:=HXA.out 7 _ rfl;have y7:=HXB.out 7 _ rfl;have x8:=HXA.out 8 _ rfl;have y8:=HXB.out 8 _ rfl;have x9:=HXA.out 9 _ rfl;have y9:=HXB.out 9 _ rfl;have x10:=HXA.out 10 _ rfl;have y10:=HXB.out 10 _ rfl;clear YY HA0 HB0 HXA HXB VA VB FFty FFim FFfu FNty FNim FNfu FNtb FNme FNgl FNex FNst FNsn FNel FNda LAty LBty LAim LBim LAfu LBfu LAtb LBtb LAme LBme LAgl LBgl LAex LBex LAst LBst LAsn LBsn LAel LBel LAda LBda
  go_enter Tryz.func39,Tryz.ntmps39
  simp only[List.append_eq,List.cons_append,List.nil_append];go_wp2;go_ret;exact⟨zA HE.out.symm,HB.out⟩
 subst gim
 by_cases gfu:nfu=mfu
 rotate_left
 ·have HE:=hid (FNfu.out gfu)
  have hni:¬(nfu:Int)=(mfu:Int):=by omega
  have q1:((nfu:Int)==(mfu:Int))=false:=beq_eq_false_iff_ne.2 hni;have q2:((nfu:Int) != (mfu:Int))=true:=bne_iff_ne.2 hni;have x0:=HXA.out 0 _ rfl;have y0:=HXB.out 0 _ rfl;have x1:=HXA.out 1 _ rfl;have y1:=HXB.out 1 _ rfl;have x2:=HXA.out 2 _ rfl;have y2:=HXB.out 2 _ rfl;have x3:=HXA.out 3 _ rfl;have y3:=HXB.out 3 _ rfl;have x4:=HXA.out 4 _ rfl;have y4:=HXB.out 4 _ rfl;have x5:=HXA.out 5 _ rfl;have y5:=HXB.out 5 _ rfl;have x6:=HXA.out 6 _ rfl;have y6:=HXB.out 6 _ rfl;have x7:=HXA.out 7 _ rfl;have y7:=HXB.out 7 _ rfl;have x8:=HXA.out 8 _ rfl;have y8:=HXB.out 8 _ rfl;have x9:=HXA.out 9 _ rfl;have y9:=HXB.out 9 _ rfl;have x10:=HXA.out 10 _ rfl;have y10:=HXB.out 10 _ rfl;clear YY HA0 HB0 HXA HXB VA VB FFty FFim FFfu FNty FNim FNfu FNtb FNme FNgl FNex FNst FNsn FNel FNda LAty LBty LAim LBim LAfu LBfu LAtb LBtb LAme LBme LAgl LBgl LAex LBex LAst LBst LAsn LBsn LAel LBel LAda LBda
  go_enter Tryz.func39,Tryz.ntmps39
  simp only[List.append_eq,List.cons_append,List.nil_append];go_wp2;go_ret;exact⟨zA HE.out.symm,HB.out⟩
 subst gfu
 by_cases gtb:ntb=mtb
 rotate_left
 ·have HE:=hid (FNtb.out gtb)
  have hni:¬(ntb:Int)=(mtb:Int):=by omega
  have q1:((ntb:Int)==(mtb:Int))=false:=beq_eq_false_iff_ne.2 hni;have q2:((ntb:Int) != (mtb:Int))=true:=bne_iff_ne.2 hni;have x0:=HXA.out 0 _ rfl;have y0:=HXB.out 0 _ rfl;have x1:=HXA.out 1 _ rfl;have y1:=HXB.out 1 _ rfl;have x2:=HXA.out 2 _ rfl;have y2:=HXB.out 2 _ rfl;have x3:=HXA.out 3 _ rfl;have y3:=HXB.out 3 _ rfl;have x4:=HXA.out 4 _ rfl;have y4:=HXB.out 4 _ rfl;have x5:=HXA.out 5 _ rfl;have y5:=HXB.out 5 _ rfl;have x6:=HXA.out 6 _ rfl;have y6:=HXB.out 6 _ rfl;have x7:=HXA.out 7 _ rfl;have y7:=HXB.out 7 _ rfl;have x8:=HXA.out 8 _ rfl;have y8:=HXB.out 8 _ rfl;have x9:=HXA.out 9 _ rfl;have y9:=HXB.out 9 _ rfl;have x10:=HXA.out 10 _ rfl;have y10:=HXB.out 10 _ rfl;clear YY HA0 HB0 HXA HXB VA VB FFty FFim FFfu FNty FNim FNfu FNtb FNme FNgl FNex FNst FNsn FNel FNda LAty LBty LAim LBim LAfu LBfu LAtb LBtb LAme LBme LAgl LBgl LAex LBex LAst LBst LAsn LBsn LAel LBel LAda LBda
  go_enter Tryz.func39,Tryz.ntmps39
  simp only[List.append_eq,List.cons_append,List.nil_append];go_wp2;go_ret;exact⟨zA HE.out.symm,HB.out⟩
 subst gtb
 by_cases gme:nme=mme
 rotate_left
 ·have HE:=hid (FNme.out gme)
  have hni:¬(nme:Int)=(mme:Int):=by omega
  have q1:((nme:Int)==(mme:Int))=false:=beq_eq_false_iff_ne.2 hni;have q2:((nme:Int) != (mme:Int))=true:=bne_iff_ne.2 hni;have x0:=HXA.out 0 _ rfl;have y0:=HXB.out 0 _ rfl;have x1:=HXA.out 1 _ rfl;have y1:=HXB.out 1 _ rfl;have x2:=HXA.out 2 _ rfl;have y2:=HXB.out 2 _ rfl;have x3:=HXA.out 3 _ rfl;have y3:=HXB.out 3 _ rfl;have x4:=HXA.out 4 _ rfl;have y4:=HXB.out 4 _ rfl;have x5:=HXA.out 5 _ rfl;have y5:=HXB.out 5 _ rfl;have x6:=HXA.out 6 _ rfl;have y6:=HXB.out 6 _ rfl;have x7:=HXA.out 7 _ rfl;have y7:=HXB.out 7 _ rfl;have x8:=HXA.out 8 _ rfl;have y8:=HXB.out 8 _ rfl;have x9:=HXA.out 9 _ rfl;have y9:=HXB.out 9 _ rfl;have x10:=HXA.out 10 _ rfl;have y10:=HXB.out 10 _ rfl;clear YY HA0 HB0 HXA HXB VA VB FFty FFim FFfu FNty FNim FNfu FNtb FNme FNgl FNex FNst FNsn FNel FNda LAty LBty LAim LBim LAfu LBfu LAtb LBtb LAme LBme LAgl LBgl LAex LBex LAst LBst LAsn LBsn LAel LBel LAda LBda
  go_enter Tryz.func39,Tryz.ntmps39
  simp only[List.append_eq,List.cons_append,List.nil_append];go_wp2;go_ret;exact⟨zA HE.out.symm,HB.out⟩
 subst gme
 by_cases ggl:ngl=mgl
 rotate_left
 ·have HE:=hid (FNgl.out ggl)
  have hni:¬(ngl:Int)=(mgl:Int):=by omega
  have q1:((ngl:Int)==(mgl:Int))=false:=beq_eq_false_iff_ne.2 hni;have q2:((ngl:Int) != (mgl:Int))=true:=bne_iff_ne.2 hni;have x0:=HXA.out 0 _ rfl;have y0:=HXB.out 0 _ rfl;have x1:=HXA.out 1 _ rfl;have y1:=HXB.out 1 _ rfl;have x2:=HXA.out 2 _ rfl;have y2:=HXB.out 2 _ rfl;have x3:=HXA.out 3 _ rfl;have y3:=HXB.out 3 _ rfl;have x4:=HXA.out 4 _ rfl;have y4:=HXB.out 4 _ rfl;have x5:=HXA.out 5 _ rfl;have y5:=HXB.out 5 _ rfl;have x6:=HXA.out 6 _ rfl;have y6:=HXB.out 6 _ rfl;have x7:=HXA.out 7 _ rfl;have y7:=HXB.out 7 _ rfl;have x8:=HXA.out 8 _ rfl;have y8:=HXB.out 8 _ rfl;have x9:=HXA.out 9 _ rfl;have y9:=HXB.out 9 _ rfl;have x10:=HXA.out 10 _ rfl;have y10:=HXB.out 10 _ rfl;clear YY HA0 HB0 HXA HXB VA VB FFty FFim FFfu FNty FNim FNfu FNtb FNme FNgl FNex FNst FNsn FNel FNda LAty LBty LAim LBim LAfu LBfu LAtb LBtb LAme LBme LAgl LBgl LAex LBex LAst LBst LAsn LBsn LAel LBel LAda LBda
  go_enter Tryz.func39,Tryz.ntmps39
  simp only[List.append_eq,List.cons_append,List.nil_append];go_wp2;go_ret;exact⟨zA HE.out.symm,HB.out⟩
 subst ggl
 by_cases gex:nex=mex
 rotate_left
 ·have HE:=hid (FNex.out gex)
  have hni:¬(nex:Int)=(mex:Int):=by omega
  have q1:((nex:Int)==(mex:Int))=false:=beq_eq_false_iff_ne.2 hni;have q2:((nex:Int) != (mex:Int))=true:=bne_iff_ne.2 hni;have x0:=HXA.out 0 _ rfl;have y0:=HXB.out 0 _ rfl;have x1:=HXA.out 1 _ rfl;have y1:=HXB.out 1 _ rfl;have x2:=HXA.out 2 _ rfl;have y2:=HXB.out 2 _ rfl;have x3:=HXA.out 3 _ rfl;have y3:=HXB.out 3 _ rfl;have x4:=HXA.out 4 _ rfl;have y4:=HXB.out 4 _ rfl;have x5:=HXA.out 5 _ rfl;have y5:=HXB.out 5 _ rfl;have x6:=HXA.out 6 _ rfl;have y6:=HXB.out 6 _ rfl;have x7:=HXA.out 7 _ rfl;have y7:=HXB.out 7 _ rfl;have x8:=HXA.out 8 _ rfl;have y8:=HXB.out 8 _ rfl;have x9:=HXA.out 9 _ rfl;have y9:=HXB.out 9 _ rfl;have x10:=HXA.out 10 _ rfl;have y10:=HXB.out 10 _ rfl;clear YY HA0 HB0 HXA HXB VA VB FFty FFim FFfu FNty FNim FNfu FNtb FNme FNgl FNex FNst FNsn FNel FNda LAty LBty LAim LBim LAfu LBfu LAtb LBtb LAme LBme LAgl LBgl LAex LBex LAst LBst LAsn LBsn LAel LBel LAda LBda
  go_enter Tryz.func39,Tryz.ntmps39
  simp only[List.append_eq,List.cons_append,List.nil_append];go_wp2;go_ret;exact⟨zA HE.out.symm,HB.out⟩
 subst gex
 by_cases gst:nst=mst
 rotate_left
 ·have HE:=hid (FNst.out gst)
  have q1:(nst==mst)=false:=beq_eq_false_iff_ne.2 gst;have q2:(nst != mst)=true:=bne_iff_ne.2 gst;have x0:=HXA.out 0 _ rfl;have y0:=HXB.out 0 _ rfl;have x1:=HXA.out 1 _ rfl;have y1:=HXB.out 1 _ rfl;have x2:=HXA.out 2 _ rfl;have y2:=HXB.out 2 _ rfl;have x3:=HXA.out 3 _ rfl;have y3:=HXB.out 3 _ rfl;have x4:=HXA.out 4 _ rfl;have y4:=HXB.out 4 _ rfl;have x5:=HXA.out 5 _ rfl;have y5:=HXB.out 5 _ rfl;have x6:=HXA.out 6 _ rfl;have y6:=HXB.out 6 _ rfl;have x7:=HXA.out 7 _ rfl;have y7:=HXB.out 7 _ rfl;have x8:=HXA.out 8 _ rfl;have y8:=HXB.out 8 _ rfl;have x9:=HXA.out 9 _ rfl;have y9:=HXB.out 9 _ rfl;have x10:=HXA.out 10 _ rfl;have y10:=HXB.out 10 _ rfl;clear YY HA0 HB0 HXA HXB VA VB FFty FFim FFfu FNty FNim FNfu FNtb FNme FNgl FNex FNst FNsn FNel FNda LAty LBty LAim LBim LAfu LBfu LAtb LBtb LAme LBme LAgl LBgl LAex LBex LAst LBst LAsn LBsn LAel LBel LAda LBda
  go_enter Tryz.func39,Tryz.ntmps39
  simp only[List.append_eq,List.cons_append,List.nil_append];go_wp2;go_ret;exact⟨zA HE.out.symm,HB.out⟩
 subst gst
 by_cases gsn:nsn=msn
 rotate_left
 ·have HE:=hid (FNsn.out gsn)
  have q1:(nsn==msn)=false:=beq_eq_false_iff_ne.2 gsn;have q2:(nsn != msn)=true:=bne_iff_ne.2 gsn;have x0:=HXA.out 0 _ rfl;have y0:=HXB.out 0 _ rfl;have x1:=HXA.out 1 _ rfl;have y1:=HXB.out 1 _ rfl;have x2:=HXA.out 2 _ rfl;have y2:=HXB.out 2 _ rfl;have x3:=HXA.out 3 _ rfl;have y3:=HXB.out 3 _ rfl;have x4:=HXA.out 4 _ rfl;have y4:=HXB.out 4 _ rfl;have x5:=HXA.out 5 _ rfl;have y5:=HXB.out 5 _ rfl;have x6:=HXA.out 6 _ rfl;have y6:=HXB.out 6 _ rfl;have x7:=HXA.out 7 _ rfl;have y7:=HXB.out 7 _ rfl;have x8:=HXA.out 8 _ rfl;have y8:=HXB.out 8 _ rfl;have x9:=HXA.out 9 _ rfl;have y9:=HXB.out 9 _ rfl;have x10:=HXA.out 10 _ rfl;have y10:=HXB.out 10 _ rfl;clear YY HA0 HB0 HXA HXB VA VB FFty FFim FFfu FNty FNim FNfu FNtb FNme FNgl FNex FNst FNsn FNel FNda LAty LBty LAim LBim LAfu LBfu LAtb LBtb LAme LBme LAgl LBgl LAex LBex LAst LBst LAsn LBsn LAel LBel LAda LBda
  go_enter Tryz.func39,Tryz.ntmps39
  simp only[List.append_eq,List.cons_append,List.nil_append];go_wp2;go_ret;exact⟨zA HE.out.symm,HB.out⟩
 subst gsn
 by_cases gel:nel=mel
 rotate_left
 ·have HE:=hid (FNel.out gel)
  have hni:¬(nel:Int)=(mel:Int):=by omega
  have q1:((nel:Int)==(mel:Int))=false:=beq_eq_false_iff_ne.2 hni;have q2:((nel:Int) != (mel:Int))=true:=bne_iff_ne.2 hni;have x0:=HXA.out 0 _ rfl;have y0:=HXB.out 0 _ rfl;have x1:=HXA.out 1 _ rfl;have y1:=HXB.out 1 _ rfl;have x2:=HXA.out 2 _ rfl;have y2:=HXB.out 2 _ rfl;have x3:=HXA.out 3 _ rfl;have y3:=HXB.out 3 _ rfl;have x4:=HXA.out 4 _ rfl;have y4:=HXB.out 4 _ rfl;have x5:=HXA.out 5 _ rfl;have y5:=HXB.out 5 _ rfl;have x6:=HXA.out 6 _ rfl;have y6:=HXB.out 6 _ rfl;have x7:=HXA.out 7 _ rfl;have y7:=HXB.out 7 _ rfl;have x8:=HXA.out 8 _ rfl;have y8:=HXB.out 8 _ rfl;have x9:=HXA.out 9 _ rfl;have y9:=HXB.out 9 _ rfl;have x10:=HXA.out 10 _ rfl;have y10:=HXB.out 10 _ rfl;clear YY HA0 HB0 HXA HXB VA VB FFty FFim FFfu FNty FNim FNfu FNtb FNme FNgl FNex FNst FNsn FNel FNda LAty LBty LAim LBim LAfu LBfu LAtb LBtb LAme LBme LAgl LBgl LAex LBex LAst LBst LAsn LBsn LAel LBel LAda LBda
  go_enter Tryz.func39,Tryz.ntmps39
  simp only[List.append_eq,List.cons_append,List.nil_append];go_wp2;go_ret;exact⟨zA HE.out.symm,HB.out⟩
 subst gel
 by_cases gda:nda=mda
 rotate_left
 ·have HE:=hid (FNda.out gda)
  have hni:¬(nda:Int)=(mda:Int):=by omega
  have q1:((nda:Int)==(mda:Int))=false:=beq_eq_false_iff_ne.2 hni;have q2:((nda:Int) != (mda:Int))=true:=bne_iff_ne.2 hni;have x0:=HXA.out 0 _ rfl;have y0:=HXB.out 0 _ rfl;have x1:=HXA.out 1 _ rfl;have y1:=HXB.out 1 _ rfl;have x2:=HXA.out 2 _ rfl;have y2:=HXB.out 2 _ rfl;have x3:=HXA.out 3 _ rfl;have y3:=HXB.out 3 _ rfl;have x4:=HXA.out 4 _ rfl;have y4:=HXB.out 4 _ rfl;have x5:=HXA.out 5 _ rfl;have y5:=HXB.out 5 _ rfl;have x6:=HXA.out 6 _ rfl;have y6:=HXB.out 6 _ rfl;have x7:=HXA.out 7 _ rfl;have y7:=HXB.out 7 _ rfl;have x8:=HXA.out 8 _ rfl;have y8:=HXB.out 8 _ rfl;have x9:=HXA.out 9 _ rfl;have y9:=HXB.out 9 _ rfl;have x10:=HXA.out 10 _ rfl;have y10:=HXB.out 10 _ rfl;clear YY HA0 HB0 HXA HXB VA VB FFty FFim FFfu FNty FNim FNfu FNtb FNme FNgl FNex FNst FNsn FNel FNda LAty LBty LAim LBim LAfu LBfu LAtb LBtb LAme LBme LAgl LBgl LAex LBex LAst LBst LAsn LBsn LAel LBel LAda LBda
  go_enter Tryz.func39,Tryz.ntmps39
  simp only[List.append_eq,List.cons_append,List.nil_append];go_wp2;go_ret;exact⟨zA HE.out.symm,HB.out⟩
 subst gda;clear FNty FNim FNfu FNtb FNme FNgl FNex FNst FNsn FNel FNda
 go_enter Tryz.func39,Tryz.ntmps39
 simp only[List.append_eq,List.cons_append,List.nil_append];go_wp2
 generalize (w.alloc (.cells #[.slice a.ty'.a nty a.ty'.c,.slice a.im'.a nim a.im'.c,.slice a.fu'.a nfu a.fu'.c,.slice a.tb'.a ntb a.tb'.c,.slice a.me'.a nme a.me'.c,.slice a.gl'.a ngl a.gl'.c,.slice a.ex'.a nex a.ex'.c,.bool nst,.int .u32 nsn,.slice a.el'.a nel a.el'.c,.slice a.da'.a nda a.da'.c] 40)).alloc (.cells #[.slice b.ty'.a nty b.ty'.c,.slice b.im'.a nim b.im'.c,.slice b.fu'.a nfu b.fu'.c,.slice b.tb'.a ntb b.tb'.c,.slice b.me'.a nme b.me'.c,.slice b.gl'.a ngl b.gl'.c,.slice b.ex'.a nex b.ex'.c,.bool nst,.int .u32 nsn,.slice b.el'.a nel b.el'.c,.slice b.da'.a nda b.da'.c] 40)=W0 at HB HA0 HB0 HXA HXB ⊢
 have HA:=HA0;have XAty:=hid (show W0.cell? ⟨w.heap.size,0,none⟩=some (.slice a.ty'.a nty a.ty'.c) from HXA.out 0 _ rfl);have XBty:=hid (show W0.cell? ⟨w.heap.size+1,0,none⟩=some (.slice b.ty'.a nty b.ty'.c) from HXB.out 0 _ rfl);have RAty:=hid HA0.out.ty;have RBty:=hid HB0.out.ty;have XAim:=hid (show W0.cell? ⟨w.heap.size,1,none⟩=some (.slice a.im'.a nim a.im'.c) from HXA.out 1 _ rfl);have XBim:=hid (show W0.cell? ⟨w.heap.size+1,1,none⟩=some (.slice b.im'.a nim b.im'.c) from HXB.out 1 _ rfl);have RAim:=hid HA0.out.im;have RBim:=hid HB0.out.im;have XAfu:=hid (show W0.cell? ⟨w.heap.size,2,none⟩=some (.slice a.fu'.a nfu a.fu'.c) from HXA.out 2 _ rfl);have XBfu:=hid (show W0.cell? ⟨w.heap.size+1,2,none⟩=some (.slice b.fu'.a nfu b.fu'.c) from HXB.out 2 _ rfl);have RAfu:=hid HA0.out.fu;have RBfu:=hid HB0.out.fu;have EV:Even a b:=⟨LAtb.out.trans LBtb.out.symm,LAme.out.trans LBme.out.symm,LAgl.out.trans LBgl.out.symm,LAex.out.trans LBex.out.symm,LAel.out.trans LBel.out.symm,LAda.out.trans LBda.out.symm⟩;have EV:=hid EV;have ST:=hid (LAst.out.trans LBst.out.symm);have SN:=hid (LAsn.out.trans LBsn.out.symm);clear HA0 LAtb LBtb LAme LBme LAgl LBgl LAex LBex LAst LBst LAsn LBsn LAel LBel LAda LBda
 go_loopw [5] (fun vi wr=>∃k:Nat,vi=.int .i64 k∧k≤nty∧Hid (∀j (h1:j<a.ty.length) (h2:j<b.ty.length),j<k→a.ty[j]=b.ty[j])∧Hid (Below W0.heap.size W0 wr)) (fun vi _=>nty-(intOf vi).toNat)
 case atStart=>exact⟨0,rfl,Nat.zero_le _,jX _ _,Below.refl _ _⟩
 case round =>
  obtain⟨k,rfl,hk,HQ,HW⟩:=hrel;have hba:=kP HW.out XAty.out;have hbb:=kP HW.out XBty.out
  by_cases hlt:k<nty
  ·have hka:k<a.ty.length:=by rw[LAty.out];exact hlt
   have hkb:k<b.ty.length:=by rw[LBty.out];exact hlt
   obtain⟨b1,o1,ha1,hl1,hc1⟩:=Mod.Rows.get RAty.out hka;obtain⟨b2,o2,ha2,hl2,hc2⟩:=Mod.Rows.get RBty.out hkb;rw[ha1] at hba;rw[ha2] at hbb;have HS:=hid (fun (h:a.ty[k]=b.ty[k])=>ja hka hkb HQ.out h);have HF:=hid (fun (h:¬a.ty[k]=b.ty[k])=>FFty.out (fun e=>h (YD e hka hkb)));obtain⟨x,hxe⟩:∃x,a.ty[k]=x:=⟨_,rfl⟩;obtain⟨y,hye⟩:∃y,b.ty[k]=y:=⟨_,rfl⟩;rw[hxe] at hc1 HS HF;rw[hye] at hc2 HS HF;have c0:wr.cell? ⟨b1,o1+k*2,none⟩=some (.int .i64 x.1):=(HW.out.cell (p:=⟨b1,o1+k*2+0,none⟩) hl1).trans (hc1 0 (by omega) _ rfl);have c1:wr.cell? ⟨b1,o1+k*2+1,none⟩=some (.int .i64 x.2):=(HW.out.cell (p:=⟨b1,o1+k*2+1,none⟩) hl1).trans (hc1 1 (by omega) _ rfl);have d0:wr.cell? ⟨b2,o2+k*2,none⟩=some (.int .i64 y.1):=(HW.out.cell (p:=⟨b2,o2+k*2+0,none⟩) hl2).trans (hc2 0 (by omega) _ rfl);have d1:wr.cell? ⟨b2,o2+k*2+1,none⟩=some (.int .i64 y.2):=(HW.out.cell (p:=⟨b2,o2+k*2+1,none⟩) hl2).trans (hc2 1 (by omega) _ rfl);have hki:(k:Int)<(nty:Int):=by omega
   have hsz:=HW.out.size;have e1:b1<wr.heap.size:=by omega
   have e2:b2<wr.heap.size:=by omega
   clear hc1 hc2 hl1 hl2 ha1 ha2 hxe hye hka hkb hsz HQ;have q1:=Kind.zDH;have q2:=Kind.Yt
   by_cases hxy:x=y
   ·subst hxy
    have HE:=hid (HS.out rfl);clear HS HF;go_wp2
    go_quiet (fail)
    go_wp2
    go_roundw
    case rel=>exact⟨k+1,by go_num,by omega,HE,jy HW.out _⟩
    case measure=>simp[intOf];omega
   ·have HE:=hid (HF.out hxy)
    have q3:(x.1==y.1&&x.2==y.2)=false:=zJe hxy;clear HS HF hxy;go_wp2
    go_quiet (fail)
    go_wp2;go_ret;exact⟨zA HE.out.symm,HB.out.trans ((jy HW.out _).mono HB.out.size)⟩
  ·obtain rfl:k=nty:=by omega
   have HBL:=HW;have EQty:=hid (jb (n:=k) LAty.out LBty.out HQ.out);clear HQ HW hlt hk;go_wp2;clear hba hbb
   go_loopw [6] (fun vi wr=>∃k:Nat,vi=.int .i64 k∧k≤nim∧Hid (∀j (h1:j<a.im.length) (h2:j<b.im.length),j<k→a.im[j]=b.im[j])∧Hid (Below W0.heap.size W0 wr)) (fun vi _=>nim-(intOf vi).toNat)
   case atStart=>exact⟨0,rfl,Nat.zero_le _,jX _ _,HBL⟩
   case round =>
    clear HBL;obtain⟨k,rfl,hk,HQ,HW⟩:=hrel;have hba:=kP HW.out XAim.out;have hbb:=kP HW.out XBim.out
    by_cases hlt:k<nim
    ·have hka:k<a.im.length:=by rw[LAim.out];exact hlt
     have hkb:k<b.im.length:=by rw[LBim.out];exact hlt
     obtain⟨b1,o1,ha1,hl1,hc1⟩:=Mod.Rows.get RAim.out hka;obtain⟨b2,o2,ha2,hl2,hc2⟩:=Mod.Rows.get RBim.out hkb;rw[ha1] at hba;rw[ha2] at hbb;have HS:=hid (fun (h:a.im[k]=b.im[k])=>ja hka hkb HQ.out h);have HF:=hid (fun (h:¬a.im[k]=b.im[k])=>FFim.out (fun e=>h (YD e hka hkb)));obtain⟨x,hxe⟩:∃x,a.im[k]=x:=⟨_,rfl⟩;obtain⟨y,hye⟩:∃y,b.im[k]=y:=⟨_,rfl⟩;rw[hxe] at hc1 HS HF;rw[hye] at hc2 HS HF;have c0:wr.cell? ⟨b1,o1+k*3,none⟩=some (.string x.mo):=(HW.out.cell (p:=⟨b1,o1+k*3+0,none⟩) hl1).trans (hc1 0 (by omega) _ rfl);have c1:wr.cell? ⟨b1,o1+k*3+1,none⟩=some (.string x.na):=(HW.out.cell (p:=⟨b1,o1+k*3+1,none⟩) hl1).trans (hc1 1 (by omega) _ rfl);have c2:wr.cell? ⟨b1,o1+k*3+2,none⟩=some (.int .i64 x.ty):=(HW.out.cell (p:=⟨b1,o1+k*3+2,none⟩) hl1).trans (hc1 2 (by omega) _ rfl);have d0:wr.cell? ⟨b2,o2+k*3,none⟩=some (.string y.mo):=(HW.out.cell (p:=⟨b2,o2+k*3+0,none⟩) hl2).trans (hc2 0 (by omega) _ rfl);have d1:wr.cell? ⟨b2,o2+k*3+1,none⟩=some (.string y.na):=(HW.out.cell (p:=⟨b2,o2+k*3+1,none⟩) hl2).trans (hc2 1 (by omega) _ rfl);have d2:wr.cell? ⟨b2,o2+k*3+2,none⟩=some (.int .i64 y.ty):=(HW.out.cell (p:=⟨b2,o2+k*3+2,none⟩) hl2).trans (hc2 2 (by omega) _ rfl);have hki:(k:Int)<(nim:Int):=by omega
     have hsz:=HW.out.size;have e1:b1<wr.heap.size:=by omega
     have e2:b2<wr.heap.size:=by omega
     clear hc1 hc2 hl1 hl2 ha1 ha2 hxe hye hka hkb hsz HQ;have q1:=zJc;have q2:=zFn
     by_cases hxy:x=y
     ·subst hxy
      have HE:=hid (HS.out rfl);clear HS HF;go_wp2
      go_quiet (fail)
      go_wp2
      go_roundw
      case rel=>exact⟨k+1,by go_num,by omega,HE,jy HW.out _⟩
      case measure=>simp[intOf];omega
     ·have HE:=hid (HF.out hxy)
      have q3:(x.mo.toList==y.mo.toList&&x.na.toList==y.na.toList&&x.ty==y.ty)=false:=zJh hxy;clear HS HF hxy;go_wp2
      go_quiet (fail)
      go_wp2;go_ret;exact⟨zA HE.out.symm,HB.out.trans ((jy HW.out _).mono HB.out.size)⟩
    ·obtain rfl:k=nim:=by omega
     have HBL:=HW;have EQim:=hid (jb (n:=k) LAim.out LBim.out HQ.out);clear HQ HW hlt hk;go_wp2;clear hba hbb
     go_loopw [7] (fun vi wr=>∃k:Nat,vi=.int .i64 k∧k≤nfu∧Hid (∀j (h1:j<(a.fu.map Mod.Fn.bare).length) (h2:j<(b.fu.map Mod.Fn.bare).length),j<k→(a.fu.map Mod.Fn.bare)[j]=(b.fu.map Mod.Fn.bare)[j])∧Hid (Below W0.heap.size W0 wr)) (fun vi _=>nfu-(intOf vi).toNat)
     case atStart=>exact⟨0,rfl,Nat.zero_le _,jX _ _,HBL⟩
     case round =>
      clear HBL;obtain⟨k,rfl,hk,HQ,HW⟩:=hrel;have hba:=kP HW.out XAfu.out;have hbb:=kP HW.out XBfu.out
      by_cases hlt:k<nfu
      ·have hka:k<a.fu.length:=by rw[LAfu.out];exact hlt
       have hkb:k<b.fu.length:=by rw[LBfu.out];exact hlt
       obtain⟨b1,o1,ha1,hl1,hc1⟩:=Mod.Rows.get RAfu.out hka;obtain⟨b2,o2,ha2,hl2,hc2⟩:=Mod.Rows.get RBfu.out hkb;rw[ha1] at hba;rw[ha2] at hbb;have hma:(a.fu.map Mod.Fn.bare).length=a.fu.length:=List.length_map ..;have hmb:(b.fu.map Mod.Fn.bare).length=b.fu.length:=List.length_map ..;have HS:=hid (fun (h:Mod.Fn.bare a.fu[k]=Mod.Fn.bare b.fu[k])=>ja (by rw[hma];exact hka) (by rw[hmb];exact hkb) HQ.out (show (a.fu.map Mod.Fn.bare)[k]'(by rw[hma];exact hka)=(b.fu.map Mod.Fn.bare)[k]'(by rw[hmb];exact hkb) by rw[List.getElem_map,List.getElem_map];exact h));have HF:=hid (fun (h:¬Mod.Fn.bare a.fu[k]=Mod.Fn.bare b.fu[k])=>FFfu.out (fun e=>h (zBE e hka hkb)));have hx1:a.fu[k]∈a.fu:=List.getElem_mem hka;have hL1:=HA.out.ls _ (JY hx1);have hN1:=FA.out.ls _ (JY hx1);have hx2:b.fu[k]∈b.fu:=List.getElem_mem hkb;have hL2:=HB0.out.ls _ (JY hx2);have hN2:=FB.out.ls _ (JY hx2);obtain⟨x,hxe⟩:∃x,a.fu[k]=x:=⟨_,rfl⟩;obtain⟨y,hye⟩:∃y,b.fu[k]=y:=⟨_,rfl⟩;rw[hxe] at hc1 HS HF hL1 hN1;rw[hye] at hc2 HS HF hL2 hN2;have c0:wr.cell? ⟨b1,o1+k*3,none⟩=some (.int .i64 x.ty):=(HW.out.cell (p:=⟨b1,o1+k*3+0,none⟩) hl1).trans (hc1 0 (by omega) _ rfl);have c1:wr.cell? ⟨b1,o1+k*3+1,none⟩=some (.int .i64 x.lo):=(HW.out.cell (p:=⟨b1,o1+k*3+1,none⟩) hl1).trans (hc1 1 (by omega) _ rfl);have c2:wr.cell? ⟨b1,o1+k*3+2,none⟩=some (.slice x.l.a x.l.t.len x.l.c):=(HW.out.cell (p:=⟨b1,o1+k*3+2,none⟩) hl1).trans (hc1 2 (by omega) _ rfl);have d0:wr.cell? ⟨b2,o2+k*3,none⟩=some (.int .i64 y.ty):=(HW.out.cell (p:=⟨b2,o2+k*3+0,none⟩) hl2).trans (hc2 0 (by omega) _ rfl);have d1:wr.cell? ⟨b2,o2+k*3+1,none⟩=some (.int .i64 y.lo):=(HW.out.cell (p:=⟨b2,o2+k*3+1,none⟩) hl2).trans (hc2 1 (by omega) _ rfl);have d2:wr.cell? ⟨b2,o2+k*3+2,none⟩=some (.slice y.l.a y.l.t.len y.l.c):=(HW.out.cell (p:=⟨b2,o2+k*3+2,none⟩) hl2).trans (hc2 2 (by omega) _ rfl);have hki:(k:Int)<(nfu:Int):=by omega
       have hsz:=HW.out.size;have e1:b1<wr.heap.size:=by omega
       have e2:b2<wr.heap.size:=by omega
       have K1:=hid (fun (W:World) (hb:Below wr.heap.size wr W)=>zAT x y W0.heap.size W (hL1.below (HW.out.trans (hb.mono HW.out.size))) (hL2.below (HW.out.trans (hb.mono HW.out.size))) (Nat.le_trans HW.out.size hb.size) hN1 hN2);clear hc1 hc2 hl1 hl2 ha1 ha2 hxe hye hka hkb hma hmb hsz HQ hx1 hx2 hL1 hN1 hL2 hN2;have hd:=(Below.refl wr.heap.size wr).drew;obtain⟨s1,hs1⟩:∃s,x.ty=s:=⟨_,rfl⟩;obtain⟨s2,hs2⟩:∃s,y.ty=s:=⟨_,rfl⟩;rw[hs1] at c0;rw[hs2] at d0;have HP:=hid (fun (g:s1=s2)=>show x.ty=y.ty by rw[hs1,hs2];exact g);have HPN:=hid (fun (g:¬s1=s2)=>show ¬x.ty=y.ty by rw[hs1,hs2];exact g);clear hs1 hs2
       by_cases g1:s1=s2
       rotate_left
       ·have HE:=hid (HF.out (fun h=>HPN.out g1 ((zBH.1 h).1)))
        have q1:(s1==s2)=false:=beq_eq_false_iff_ne.2 g1;have q2:(s1 != s2)=true:=bne_iff_ne.2 g1;clear K1 HS HF HP HPN;go_wp2
        go_region
        all_goals
         go_wp2;go_ret;exact⟨zA HE.out.symm,HB.out.trans ((HW.out.trans (hd.mono HW.out.size)).mono HB.out.size)⟩
       have P1:=hid (HP.out g1);clear HP HPN;subst g1;have hS0:Below wr.heap.size wr wr.drew∧wr.drew.cell? ⟨w.heap.size,2,none⟩=some (.slice (some ⟨b1,o1,none⟩) nfu a.fu'.c)∧wr.drew.cell? ⟨w.heap.size+1,2,none⟩=some (.slice (some ⟨b2,o2,none⟩) nfu b.fu'.c)∧wr.drew.cell? ⟨b1,o1+k*3,none⟩=some (.int .i64 s1)∧wr.drew.cell? ⟨b1,o1+k*3+1,none⟩=some (.int .i64 x.lo)∧wr.drew.cell? ⟨b1,o1+k*3+2,none⟩=some (.slice x.l.a x.l.t.len x.l.c)∧wr.drew.cell? ⟨b2,o2+k*3,none⟩=some (.int .i64 s1)∧wr.drew.cell? ⟨b2,o2+k*3+1,none⟩=some (.int .i64 y.lo)∧wr.drew.cell? ⟨b2,o2+k*3+2,none⟩=some (.slice y.l.a y.l.t.len y.l.c):=⟨hd,hba,hbb,c0,c1,c2,d0,d1,d2⟩
       by_cases g2:x.lo=y.lo∧x.l.t.bare=y.l.t.bare
       ·have K2:=hid (fun (W:World) (hb:Below wr.heap.size wr W)=>K1.out W hb)
        rw[ya g2] at K2;have HE:=hid (HS.out (zBH.2 ⟨P1.out,g2⟩));clear K1 HS HF P1 g2;go_wp2
        (first|go_loud (go_region_held3 (fun w'=>Below wr.heap.size wr w'∧w'.cell? ⟨w.heap.size,2,none⟩=some (.slice (some ⟨b1,o1,none⟩) nfu a.fu'.c)∧w'.cell? ⟨w.heap.size+1,2,none⟩=some (.slice (some ⟨b2,o2,none⟩) nfu b.fu'.c)∧w'.cell? ⟨b1,o1+k*3,none⟩=some (.int .i64 s1)∧w'.cell? ⟨b1,o1+k*3+1,none⟩=some (.int .i64 x.lo)∧w'.cell? ⟨b1,o1+k*3+2,none⟩=some (.slice x.l.a x.l.t.len x.l.c)∧w'.cell? ⟨b2,o2+k*3,none⟩=some (.int .i64 s1)∧w'.cell? ⟨b2,o2+k*3+1,none⟩=some (.int .i64 y.lo)∧w'.cell? ⟨b2,o2+k*3+2,none⟩=some (.slice y.l.a y.l.t.len y.l.c))
            (first|assumption|exact zAI (by assumption) (by assumption))
            (first|(go_at_call 77;(with_reducible refine (K2.out _ (ZK (by assumption))).mono ?_);rintro e9 w9 ⟨rfl,hb9⟩)))|fail)
        have HW9:=hid (HW.out.trans ((ZK (by assumption)).mono HW.out.size));go_wp2
        go_roundw
        case rel=>exact⟨k+1,by go_num,by omega,HE,HW9⟩
        case measure=>simp[intOf];omega
       ·have K2:=hid (fun (W:World) (hb:Below wr.heap.size wr W)=>K1.out W hb)
        rw[zY g2] at K2;have HE:=hid (HF.out (fun h=>g2 (zBH.1 h).2));clear K1 HS HF P1 g2;go_wp2
        (first|go_loud (go_region_held3 (fun w'=>Below wr.heap.size wr w'∧w'.cell? ⟨w.heap.size,2,none⟩=some (.slice (some ⟨b1,o1,none⟩) nfu a.fu'.c)∧w'.cell? ⟨w.heap.size+1,2,none⟩=some (.slice (some ⟨b2,o2,none⟩) nfu b.fu'.c)∧w'.cell? ⟨b1,o1+k*3,none⟩=some (.int .i64 s1)∧w'.cell? ⟨b1,o1+k*3+1,none⟩=some (.int .i64 x.lo)∧w'.cell? ⟨b1,o1+k*3+2,none⟩=some (.slice x.l.a x.l.t.len x.l.c)∧w'.cell? ⟨b2,o2+k*3,none⟩=some (.int .i64 s1)∧w'.cell? ⟨b2,o2+k*3+1,none⟩=some (.int .i64 y.lo)∧w'.cell? ⟨b2,o2+k*3+2,none⟩=some (.slice y.l.a y.l.t.len y.l.c))
            (first|assumption|exact zAI (by assumption) (by assumption))
            (first|(go_at_call 77;(with_reducible refine (K2.out _ (ZK (by assumption))).mono ?_);rintro e9 w9 ⟨rfl,hb9⟩)))|fail)
        have HW9:=hid (HW.out.trans ((ZK (by assumption)).mono HW.out.size));go_wp2;go_ret;exact⟨zA HE.out.symm,HB.out.trans (HW9.out.mono HB.out.size)⟩
      ·obtain rfl:k=nfu:=by omega
       have HBL:=HW;have EQfu:=hid (jb (n:=k) (by rw[List.length_map];exact LAfu.out) (by rw[List.length_map];exact LBfu.out) HQ.out);clear HQ HW hlt hk;have C0:=zBt a b _ (HA.out.on HBL.out) (HB0.out.on HBL.out) FA.out FB.out ZA.out ZB.out EV.out;rw[VA.out,VB.out,←YY.out EQty.out EQim.out EQfu.out ST.out SN.out] at C0;have C:=hid C0;have ca0:=kP HBL.out (HXA.out 0 _ rfl);have cb0:=kP HBL.out (HXB.out 0 _ rfl);have ca1:=kP HBL.out (HXA.out 1 _ rfl);have cb1:=kP HBL.out (HXB.out 1 _ rfl);have ca2:=kP HBL.out (HXA.out 2 _ rfl);have cb2:=kP HBL.out (HXB.out 2 _ rfl);have ca3:=kP HBL.out (HXA.out 3 _ rfl);have cb3:=kP HBL.out (HXB.out 3 _ rfl);have ca4:=kP HBL.out (HXA.out 4 _ rfl);have cb4:=kP HBL.out (HXB.out 4 _ rfl);have ca5:=kP HBL.out (HXA.out 5 _ rfl);have cb5:=kP HBL.out (HXB.out 5 _ rfl);have ca6:=kP HBL.out (HXA.out 6 _ rfl);have cb6:=kP HBL.out (HXB.out 6 _ rfl);have ca7:=kP HBL.out (HXA.out 7 _ rfl);have cb7:=kP HBL.out (HXB.out 7 _ rfl);have ca8:=kP HBL.out (HXA.out 8 _ rfl);have cb8:=kP HBL.out (HXB.out 8 _ rfl);have ca9:=kP HBL.out (HXA.out 9 _ rfl);have cb9:=kP HBL.out (HXB.out 9 _ rfl);have ca10:=kP HBL.out (HXA.out 10 _ rfl);have cb10:=kP HBL.out (HXB.out 10 _ rfl);clear C0 YY HA HB0 HXA HXB VA VB EV ST SN FA FB ZA ZB EQty EQim EQfu hba hbb FFty LAty LBty XAty XBty RAty RBty FFim LAim LBim XAim XBim RAim RBim FFfu LAfu LBfu XAfu XBfu RAfu RBfu
       go_wp2_with (first|(go_at_call 78;refine C.out.mono ?_;rintro e9 w9 ⟨rfl,hb9⟩))
       all_goals go_wp2
       all_goals go_ret
       exact⟨rfl,HB.out.trans ((HBL.out.trans (hb9.mono HBL.out.size)).mono HB.out.size)⟩
end Mod
end Go.Proofs.YtdljneclfgneoaaGreatDoor
