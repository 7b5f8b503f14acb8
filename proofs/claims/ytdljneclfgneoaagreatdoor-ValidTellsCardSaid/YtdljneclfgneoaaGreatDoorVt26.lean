import Derived.Test.YtdljneclfgneoaaGreatDoorVt25
set_option linter.unusedVariables false
set_option linter.ambiguousOpen false
set_option maxRecDepth 100000
set_option maxHeartbeats 8000000
namespace Go.Proofs.YtdljneclfgneoaaGreatDoor
namespace Instr
end Instr
namespace Mod
end Mod
namespace Val
open Go.RowKit Go.Shelf Instr Mod
def jhd (m:Md) (t1 t2 lo:Int):List Value:=[.slice m.ty'.a m.ty.length m.ty'.c,.slice m.im'.a m.im.length m.im'.c,.slice m.fu'.a m.fu.length m.fu'.c,.slice m.tb'.a m.tb.length m.tb'.c,.slice m.me'.a m.me.length m.me'.c,.slice m.gl'.a m.gl.length m.gl'.c,.slice m.ex'.a m.ex.length m.ex'.c,.bool m.st,.int .u32 m.sn,.slice m.el'.a m.el.length m.el'.c,.slice m.da'.a m.da.length m.da'.c,.int .i64 t1,.int .i64 t2,.int .i64 lo]
theorem zBP {W:World} {g:Nat} {m:Md} {t1 t2 lo:Int} {lab:Value} {j:J} (h:JAt W g (jhd m t1 t2 lo) lab j) (x:Ix) (hx:x.ok) (a:Int) (hop:x.op=32∨x.op=33∨x.op=34) :
  Calls Tryz.prog 292 #[.pointer (some ⟨g,0,none⟩),.agg x.vals,.int .i64 a] W fun e W'=>e=.returned (.tuple #[])∧JQ g (jhd m t1 t2 lo) lab (jc m lo x a j) W W':=by
 have HL:=hid (show zP m lo x=if x.a<lo then 0 else 6 by unfold zP;rw[if_neg (by omega),if_pos hop]);obtain⟨W0,hW0⟩:∃W0,W0=W.alloc (.cells x.vals 92):=⟨_,rfl⟩;have hb0:Below W.heap.size W W0:=by rw[hW0];exact zC (Below.refl _ _) _
 have hat:At x W.heap.size W0:=by rw[hW0];exact At.made x W
 have h0:=h.below hb0;have c13:=h0.hd_ (i:=13) rfl;have CA:=hid (zi x.op W0);have CF:=hid (fun (n:Nat)=>jZ (W:=W0.drewN n) (hd:=jhd m t1 t2 lo) (lab:=lab) (j:=j) ⟨h0.box,h0.len⟩ 6 a);have HQ:=hid (show JQ g (jhd m t1 t2 lo) lab j W W0 from ⟨h0,zF.of_below hb0⟩);obtain⟨ha0,ha1⟩:=hx.a;have d0:=hat.c0;have d2:=hat.c2;obtain⟨op,res,xa,xb,xn,tags,ta,tc,la,ln,lc,ea,en,ec⟩:=x;unfold jc;unfold Ix.vals at hW0 ⊢;simp only at hop hW0 CA ha0 ha1 ⊢;simp only at HL d0 d2;rw[HL.out];clear h h0 hat hb0 HL
 by_cases h1:xa<lo
 ·rw[if_pos h1,if_pos rfl]
  rcases hop with rfl|rfl|rfl
  all_goals
   go_enter Tryz.func292,Tryz.ntmps292
   go_upto_region 1 with fail
   go_wp2_with fail
   rw[←hW0];refine CA.out.mono ?_;rintro e w1 ⟨rfl,rfl⟩
   generalize zf _=al at *
   generalize zS _=sp at *
   clear hW0
   go_upto_region 3 with fail
   go_quiet (fail)
   go_wp2
   go_end0
   exact⟨rfl,JQ.drewN HQ.out _⟩
 ·rw[if_neg h1,if_neg (by omega)]
  rcases hop with rfl|rfl|rfl
  all_goals
   go_enter Tryz.func292,Tryz.ntmps292
   go_upto_region 1 with fail
   go_wp2_with fail
   rw[←hW0];refine CA.out.mono ?_;rintro e w1 ⟨rfl,rfl⟩
   generalize zf _=al at *
   generalize zS _=sp at *
   clear hW0
   go_upto_region 3 with fail
   go_quiet (fail)
   go_wp2_with fail
   refine (CF.out _).mono ?_;rintro e w2 ⟨rfl,hq⟩;have HN:=hid (JQ.trans (JQ.drewN HQ.out _) hq);clear hq CF HQ;go_wp2
   go_end0
   exact⟨rfl,HN.out⟩
theorem zBn {W:World} {g:Nat} {m:Md} {t1 t2 lo:Int} {lab:Value} {j:J} (h:JAt W g (jhd m t1 t2 lo) lab j) (x:Ix) (hx:x.ok) (a:Int) (h0':x.op≠16∧x.op≠17) (h1':x.op<32∨34<x.op) (h2':x.op≠35∧x.op≠36) (h3':zS x.op=false) (h4':x.op≠63∧x.op≠64) :
  Calls Tryz.prog 292 #[.pointer (some ⟨g,0,none⟩),.agg x.vals,.int .i64 a] W fun e W'=>e=.returned (.tuple #[])∧JQ g (jhd m t1 t2 lo) lab (jc m lo x a j) W W':=by
 have HL:=hid (show zP m lo x=0 by unfold zP;rw[if_neg (by omega),if_neg (by omega),if_neg (by omega),if_neg (by rw[h3'];simp),if_neg (by omega)]);obtain⟨W0,hW0⟩:∃W0,W0=W.alloc (.cells x.vals 92):=⟨_,rfl⟩;have hb0:Below W.heap.size W W0:=by rw[hW0];exact zC (Below.refl _ _) _
 have hat:At x W.heap.size W0:=by rw[hW0];exact At.made x W
 have h0:=h.below hb0;have c13:=h0.hd_ (i:=13) rfl;have CA:=hid (zi x.op W0);have HQ:=hid (show JQ g (jhd m t1 t2 lo) lab j W W0 from ⟨h0,zF.of_below hb0⟩);obtain⟨ha0,ha1⟩:=hx.a;have d0:=hat.c0;have d2:=hat.c2;obtain⟨op,res,xa,xb,xn,tags,ta,tc,la,ln,lc,ea,en,ec⟩:=x;unfold jc;unfold Ix.vals at hW0 ⊢;simp only at h0' h1' h2' h3' h4' hW0 CA ha0 ha1 ⊢;simp only at HL d0 d2;rw[HL.out,if_pos rfl];rw[h3'] at CA;obtain⟨g1,g2⟩:=h2';obtain⟨g3,g4⟩:=h4';have HOP:=hid h1';have k1:(op==35)=false:=beq_eq_false_iff_ne.2 g1;have k2:(op==36)=false:=beq_eq_false_iff_ne.2 g2;have k3:(op==63)=false:=beq_eq_false_iff_ne.2 g3;have k4:(op==64)=false:=beq_eq_false_iff_ne.2 g4;clear h0';clear h h0 hat hb0 HL h1' h3'
 rcases HOP.out with hop|hop
 all_goals
  go_enter Tryz.func292,Tryz.ntmps292
  go_upto_region 1 with fail
  go_wp2_with fail
  rw[←hW0];refine CA.out.mono ?_;rintro e w1 ⟨rfl,rfl⟩
  generalize zf _=al at *
  clear hW0;go_wp2
  go_end0
  exact⟨rfl,HQ.out⟩
theorem zDi {W:World} {g:Nat} {m:Md} {t1 t2 lo:Int} {lab:Value} {j:J} (h:JAt W g (jhd m t1 t2 lo) lab j) (x:Ix) (hx:x.ok) (a:Int) (h0':x.op≠16∧x.op≠17) (h1':x.op<32∨34<x.op) (h2':x.op≠35∧x.op≠36) (h3':zS x.op=true∨x.op=63∨x.op=64) :
  Calls Tryz.prog 292 #[.pointer (some ⟨g,0,none⟩),.agg x.vals,.int .i64 a] W fun e W'=>e=.returned (.tuple #[])∧JQ g (jhd m t1 t2 lo) lab (jc m lo x a j) W W':=by
 have HL:=hid (show zP m lo x=if m.me.length=0 then 6 else if zS x.op=true∧zf x.op<x.a then 211 else 0 by
   unfold zP;rw[if_neg (by omega),if_neg (by omega),if_neg (by omega)]
   rcases Bool.eq_false_or_eq_true (zS x.op) with h|h
   · rw[if_pos h];simp[h]
   · rw[if_neg (by rw[h];simp),if_pos (h3'.resolve_left (by rw[h];simp))];simp[h])
 obtain⟨W0,hW0⟩:∃W0,W0=W.alloc (.cells x.vals 92):=⟨_,rfl⟩;have hb0:Below W.heap.size W W0:=by rw[hW0];exact zC (Below.refl _ _) _
 have hat:At x W.heap.size W0:=by rw[hW0];exact At.made x W
 have h0:=h.below hb0;have c4:=h0.hd_ (i:=4) rfl;have CA:=hid (zi x.op W0);have CF:=hid (fun er=>jZ h0 er a)
 have CG:=hid (fun (w1:World) (j':J) (hq:JQ g (jhd m t1 t2 lo) lab j' W0 w1) (he:j'.e≠0)=>(show Calls Tryz.prog 250 #[.pointer (some ⟨g,0,none⟩),.int .i64 211,.int .i64 a] w1 fun e W'=>e=.returned (.tuple #[])∧JQ g (jhd m t1 t2 lo) lab j' w1 W' by
   have:=jZ hq.1 211 a;rw[Yd he] at this;exact this))
 have HQ:=hid (show JQ g (jhd m t1 t2 lo) lab j W W0 from ⟨h0,zF.of_below hb0⟩);obtain⟨ha0,ha1⟩:=hx.a;have d0:=hat.c0;have d2:=hat.c2;obtain⟨op,res,xa,xb,xn,tags,ta,tc,la,ln,lc,ea,en,ec⟩:=x;unfold jc;unfold Ix.vals at hW0 ⊢;simp only at h0' h1' h2' h3' hW0 CA ha0 ha1 ⊢;simp only at HL d0 d2;have HX:=hid (fun (w1:World) (j':J) (hq:JQ g (jhd m t1 t2 lo) lab j' W0 w1)=>(⟨hq.2.cell (p:=⟨W.heap.size,0,none⟩) (by have:=h.lt;show W.heap.size≠g;omega) d0,hq.2.cell (p:=⟨W.heap.size,2,none⟩) (by have:=h.lt;show W.heap.size≠g;omega) d2⟩:w1.cell? ⟨W.heap.size,0,none⟩=some (.int .i64 op)∧w1.cell? ⟨W.heap.size,2,none⟩=some (.int .u32 xa)));rw[HL.out];obtain⟨g1,g2⟩:=h2';have HOP:=hid h1';have k1:(op==35)=false:=beq_eq_false_iff_ne.2 g1;have k2:(op==36)=false:=beq_eq_false_iff_ne.2 g2;clear h0';clear h h0 hat hb0 HL h1'
 generalize hal:zf op=al at *
 generalize hsp:zS op=sp at *
 clear hal hsp
 have hc:sp=true∨(sp=false∧(op=63∨op=64)):=by
  cases sp with
  | true=>exact .inl rfl
  | false=>exact .inr ⟨rfl,h3'.resolve_left (by simp)⟩
 clear h3'
 generalize m.me.length=N at *
 by_cases hN:N=0
 ·subst hN
  rw[if_pos rfl,if_neg (by omega)]
  have hJ:(j.fault 6 a).e≠0:=by
   unfold J.fault
   by_cases h:j.e=0
   ·rw[if_pos h];simp
   ·rw[if_neg h];exact h
  have HJ:=hid hJ;clear hJ
  rcases hc with rfl|⟨rfl,hop⟩
  ·by_cases hxa:al<xa
   ·rcases HOP.out with hop|hop
    all_goals
     go_enter Tryz.func292,Tryz.ntmps292
     go_upto_region 1 with fail
     go_wp2_with fail
     rw[←hW0];refine CA.out.mono ?_;rintro e w1 ⟨rfl,rfl⟩;clear hW0
     go_wp2_with fail
     refine (CF.out 6).mono ?_;rintro e w2 ⟨rfl,hq⟩;obtain⟨x0,x2⟩:=HX.out _ _ hq;have C2:=hid (CG.out _ _ hq HJ.out);have HN:=hid (JQ.trans HQ.out hq);clear hq CF CG HQ
     go_wp2_with fail
     refine C2.out.mono ?_;rintro e w3 ⟨rfl,hq⟩;have HN3:=hid (JQ.trans HN.out hq);clear hq HN C2;go_wp2
     go_end0
     exact⟨rfl,HN3.out⟩
   ·rcases HOP.out with hop|hop
    all_goals
     go_enter Tryz.func292,Tryz.ntmps292
     go_upto_region 1 with fail
     go_wp2_with fail
     rw[←hW0];refine CA.out.mono ?_;rintro e w1 ⟨rfl,rfl⟩;clear hW0
     go_wp2_with fail
     refine (CF.out 6).mono ?_;rintro e w2 ⟨rfl,hq⟩;obtain⟨x0,x2⟩:=HX.out _ _ hq;have HN:=hid (JQ.trans HQ.out hq);clear hq CF CG HQ;go_wp2
     go_end0
     exact⟨rfl,HN.out⟩
  ·rcases hop with rfl|rfl
   all_goals
    clear HOP k1 k2 g1 g2
    go_enter Tryz.func292,Tryz.ntmps292
    go_upto_region 1 with fail
    go_wp2_with fail
    rw[←hW0];refine CA.out.mono ?_;rintro e w1 ⟨rfl,rfl⟩;clear hW0
    go_wp2_with fail
    refine (CF.out 6).mono ?_;rintro e w2 ⟨rfl,hq⟩;obtain⟨x0,x2⟩:=HX.out _ _ hq;have HN:=hid (JQ.trans HQ.out hq);clear hq CF CG HQ;go_wp2
    go_end0
    exact⟨rfl,HN.out⟩
 ·rw[if_neg hN]
  have hN0:((N:Int)==0)=false:=by rw[beq_eq_false_iff_ne];omega
  rcases hc with rfl|⟨rfl,hop⟩
  ·by_cases hxa:al<xa
   ·rw[if_pos (show (true=true∧al<xa) from ⟨rfl,hxa⟩),if_neg (by omega)]
    rcases HOP.out with hop|hop
    all_goals
     go_enter Tryz.func292,Tryz.ntmps292
     go_upto_region 1 with fail
     go_wp2_with fail
     rw[←hW0];refine CA.out.mono ?_;rintro e w1 ⟨rfl,rfl⟩;clear hW0
     go_wp2_with fail
     refine (CF.out 211).mono ?_;rintro e w2 ⟨rfl,hq⟩;obtain⟨x0,x2⟩:=HX.out _ _ hq;have HN:=hid (JQ.trans HQ.out hq);clear hq CF CG HQ;go_wp2
     go_end0
     exact⟨rfl,HN.out⟩
   ·rw[if_neg (show ¬(true=true∧al<xa) from fun h=>hxa h.2),if_pos rfl]
    rcases HOP.out with hop|hop
    all_goals
     go_enter Tryz.func292,Tryz.ntmps292
     go_upto_region 1 with fail
     go_wp2_with fail
     rw[←hW0];refine CA.out.mono ?_;rintro e w1 ⟨rfl,rfl⟩;clear hW0;go_wp2
     go_end0
     exact⟨rfl,HQ.out⟩
  ·rw[if_neg (show ¬(false=true∧al<xa) from fun h=>by simp at h),if_pos rfl]
   rcases hop with rfl|rfl
   all_goals
    clear HOP k1 k2 g1 g2
    go_enter Tryz.func292,Tryz.ntmps292
    go_upto_region 1 with fail
    go_wp2_with fail
    rw[←hW0];refine CA.out.mono ?_;rintro e w1 ⟨rfl,rfl⟩;clear hW0;go_wp2
    go_end0
    exact⟨rfl,HQ.out⟩
theorem zCz {W:World} {g:Nat} {m:Md} {t1 t2 lo:Int} {lab:Value} {j:J} (h:JAt W g (jhd m t1 t2 lo) lab j) (x:Ix) (hx:x.ok) (a:Int) (hm:zN W.heap.size W m) (hop:x.op=35∨x.op=36) :
  Calls Tryz.prog 292 #[.pointer (some ⟨g,0,none⟩),.agg x.vals,.int .i64 a] W fun e W'=>e=.returned (.tuple #[])∧JQ g (jhd m t1 t2 lo) lab (jc m lo x a j) W W':=by
 have HL:=hid (show zP m lo x=if x.a<(m.gl.length:Int) then (if x.op=36∧(m.gl.map (·.mu)).getD x.a.toNat false=false then 212 else 0) else 6 by unfold zP;rw[if_neg (by omega),if_neg (by omega),if_pos hop]);obtain⟨W0,hW0⟩:∃W0,W0=W.alloc (.cells x.vals 92):=⟨_,rfl⟩;have hb0:Below W.heap.size W W0:=by rw[hW0];exact zC (Below.refl _ _) _
 have hat:At x W.heap.size W0:=by rw[hW0];exact At.made x W
 have h0:=h.below hb0;have c5:=h0.hd_ (i:=5) rfl;have CA:=hid (zi x.op W0);have CF:=hid (fun (n:Nat)=>jZ (W:=W0.drewN n) (hd:=jhd m t1 t2 lo) (lab:=lab) (j:=j) ⟨h0.box,h0.len⟩);have HQ:=hid (show JQ g (jhd m t1 t2 lo) lab j W W0 from ⟨h0,zF.of_below hb0⟩);obtain⟨ha0,ha1⟩:=hx.a;have d0:=hat.c0;have d2:=hat.c2;obtain⟨op,res,xa,xb,xn,tags,ta,tc,la,ln,lc,ea,en,ec⟩:=x;unfold jc;unfold Ix.vals at hW0 ⊢;simp only at hop hW0 CA ha0 ha1 ⊢;simp only at HL d0 d2;rw[HL.out];have HBL:=hid hb0;clear h h0 hat hb0 HL
 by_cases h1:xa<(m.gl.length:Int)
 ·rw[if_pos h1]
  obtain⟨K,rfl⟩:∃K:Nat,xa=(K:Int):=⟨xa.toNat,by omega⟩;have hk:K<m.gl.length:=by omega
  obtain⟨b,off,hga,hb,hc⟩:=Rows.get hm.gl hk;have cm:W0.cell? ⟨b,off+K*2,none⟩=some (.bool (m.gl[K]).mu):=(HBL.out.cell (p:=⟨b,off+K*2,none⟩) hb).trans (hc 0 (by omega) _ rfl);have hmu:(m.gl.map (·.mu)).getD ((K:Int)).toNat false=(m.gl[K]).mu:=by simp[hk]
  rw[hmu];rw[hga] at c5
  generalize (m.gl[K]).mu=mu at *
  clear hc hmu hb HBL hm hga hx
  generalize m.gl.length=N at *
  have hk':K≤4294967295:=by omega
  clear hk ha0 ha1
  rcases hop with rfl|rfl
  ·rw[if_neg (show ¬((35:Int)=36∧mu=false) from fun h=>by have:=h.1;omega),if_pos rfl]
   go_enter Tryz.func292,Tryz.ntmps292
   go_upto_region 1 with fail
   go_wp2_with fail
   rw[←hW0];refine CA.out.mono ?_;rintro e w1 ⟨rfl,rfl⟩
   generalize zf _=al at *
   generalize zS _=sp at *
   clear hW0
   go_upto_region 6 with fail
   go_quiet (fail)
   go_upto_region 8 with fail
   go_quiet (fail)
   go_wp2
   go_end0
   exact⟨rfl,JQ.drewN (JQ.drewN HQ.out _) _⟩
  ·cases mu with
   | true =>
    rw[if_neg (show ¬((36:Int)=36∧true=false) from fun h=>by have:=h.2;cases this),if_pos rfl]
    go_enter Tryz.func292,Tryz.ntmps292
    go_upto_region 1 with fail
    go_wp2_with fail
    rw[←hW0];refine CA.out.mono ?_;rintro e w1 ⟨rfl,rfl⟩
    generalize zf _=al at *
    generalize zS _=sp at *
    clear hW0
    go_upto_region 6 with fail
    go_quiet (fail)
    go_upto_region 8 with fail
    go_quiet (fail)
    go_wp2
    go_end0
    exact⟨rfl,JQ.drewN (JQ.drewN HQ.out _) _⟩
   | false =>
    rw[if_pos (show ((36:Int)=36∧false=false) from ⟨rfl,rfl⟩),if_neg (by omega)]
    go_enter Tryz.func292,Tryz.ntmps292
    go_upto_region 1 with fail
    go_wp2_with fail
    rw[←hW0];refine CA.out.mono ?_;rintro e w1 ⟨rfl,rfl⟩
    generalize zf _=al at *
    generalize zS _=sp at *
    clear hW0
    go_upto_region 6 with fail
    go_quiet (fail)
    go_upto_region 8 with fail
    go_quiet (fail)
    go_wp2_with fail
    refine (CF.out _ 212 a).mono ?_;rintro e w2 ⟨rfl,hq⟩;have HN:=hid (JQ.trans (JQ.drewN HQ.out _) hq);clear hq CF HQ;go_wp2
    go_end0
    exact⟨rfl,HN.out⟩
 ·rw[if_neg h1,if_neg (by omega)]
  clear HBL
  generalize m.gl.length=N at *
  rcases hop with rfl|rfl
  all_goals
   go_enter Tryz.func292,Tryz.ntmps292
   go_upto_region 1 with fail
   go_wp2_with fail
   rw[←hW0];refine CA.out.mono ?_;rintro e w1 ⟨rfl,rfl⟩
   generalize zf _=al at *
   generalize zS _=sp at *
   clear hW0
   go_upto_region 6 with fail
   go_quiet (fail)
   go_wp2_with fail
   refine (CF.out _ 6 a).mono ?_;rintro e w2 ⟨rfl,hq⟩;have HN:=hid (JQ.trans (JQ.drewN HQ.out _) hq);clear hq CF HQ;go_wp2
   go_end0
   exact⟨rfl,HN.out⟩
theorem zDe {W:World} {g:Nat} {m:Md} {t1 t2 lo:Int} {lab:Value} {j:J} (h:JAt W g (jhd m t1 t2 lo) lab j) (hm:zN W.heap.size W m) (x:Ix) (hx:x.ok) (a:Int) (hop:x.op≠16∧x.op≠17) :
  Calls Tryz.prog 292 #[.pointer (some ⟨g,0,none⟩),.agg x.vals,.int .i64 a] W fun e W'=>e=.returned (.tuple #[])∧JQ g (jhd m t1 t2 lo) lab (jc m lo x a j) W W':=by
 by_cases h1:x.op=32∨x.op=33∨x.op=34
 ·exact zBP h x hx a h1
 ·by_cases h2:x.op=35∨x.op=36
  ·exact zCz h x hx a hm h2
  ·by_cases h3:zS x.op=true∨x.op=63∨x.op=64
   ·exact zDi h x hx a hop (by omega) (by omega) h3
   ·exact zBn h x hx a hop (by omega) (by omega) (by simpa using fun e=>h3 (.inl e)) ⟨fun e=>h3 (.inr (.inl e)),fun e=>h3 (.inr (.inr e))⟩
structure Three (W:World) (X:Array Value) (n0:Int) (d:Bool) (W':World):Prop where
 a:W'.heap[W.heap.size]?=some (.cells X 92 (0,0))
 b:W'.heap[W.heap.size+1]?=some (.cells #[.int .i64 n0,.bool d] 312 (0,0))
 c:W'.heap[W.heap.size+2]?=some (.cells #[.int .i64 0,.bool false] 312 (0,0))
theorem Three.save {W A B:World} {X:Array Value} {n0:Int} {d:Bool} {g:Nat} (h:Three W X n0 d A) (hs:zF g A B) (hg:g<W.heap.size):Three W X n0 d B :=
 ⟨(hs.block _ (Array.getElem?_eq_some_iff.1 h.a).1 (by omega)).trans h.a,(hs.block _ (Array.getElem?_eq_some_iff.1 h.b).1 (by omega)).trans h.b,(hs.block _ (Array.getElem?_eq_some_iff.1 h.c).1 (by omega)).trans h.c⟩
theorem Three.made (W:World) (X:Array Value) (n0:Int) (d:Bool):Three W X n0 d (((W.alloc (.cells X 92)).alloc (.cells #[.int .i64 n0,.bool d] 312)).alloc (.cells #[.int .i64 0,.bool false] 312)):=by
 have h1:=heap_alloc_new W (.cells X 92);have h2:=heap_alloc_new (W.alloc (.cells X 92)) (.cells #[.int .i64 n0,.bool d] 312);have h3:=heap_alloc_new ((W.alloc (.cells X 92)).alloc (.cells #[.int .i64 n0,.bool d] 312)) (.cells #[.int .i64 0,.bool false] 312);have b1:Below (W.alloc (.cells X 92)).heap.size _ _:=zC (zG (W.alloc (.cells X 92)) (.cells #[.int .i64 n0,.bool d] 312)) (.cells #[.int .i64 0,.bool false] 312);have b2:=zG ((W.alloc (.cells X 92)).alloc (.cells #[.int .i64 n0,.bool d] 312)) (.cells #[.int .i64 0,.bool false] 312);simp only[World.size_alloc] at h2 h3;exact⟨(b1.block W.heap.size (by simp)).trans h1,(b2.block (W.heap.size+1) (by simp)).trans h2,h3⟩
theorem zh {W w1:World} {g:Nat} {hd:List Value} {lab:Value} {j:J} {X:Array Value} {n0:Int} {d:Bool} (hq:JQ g hd lab j W w1) (h3:Three W X n0 d w1) (hg:g<W.heap.size) (y z:Value) :
  JQ g hd lab j W ((w1.setCell ⟨W.heap.size+1+1,0,none⟩ y).setCell ⟨W.heap.size+1+1,1,none⟩ z)∧((w1.setCell ⟨W.heap.size+1+1,0,none⟩ y).setCell ⟨W.heap.size+1+1,1,none⟩ z).heap[W.heap.size+1+1]?=some (.cells #[y,z] 312 (0,0)):=by
 refine⟨⟨?_,(hq.2.setCell (p:=⟨W.heap.size+1+1,0,none⟩) (.inr (by simp;omega)) _).setCell (p:=⟨W.heap.size+1+1,1,none⟩) (.inr (by simp;omega)) _⟩,?_⟩
 ·have e2:=hq.1.keep (zF.setCell (p:=⟨W.heap.size+1+1,0,none⟩) (zF.refl (W.heap.size+1+1) _) (.inl rfl) y) (by omega)
  exact e2.keep (zF.setCell (p:=⟨W.heap.size+1+1,1,none⟩) (zF.refl (W.heap.size+1+1) _) (.inl rfl) z) (by omega)
 ·exact heap_setCell_same _ _ 1 _ _ z (heap_setCell_same _ _ 0 _ _ y h3.c)
theorem zJg {w:World} {p q r:Addr} {x y z:Value} (h:w.cell? p=some x∧w.cell? q=some y∧w.cell? r=some z):w.drew.cell? p=some x∧w.drew.cell? q=some y∧w.drew.cell? r=some z:=h
theorem zEb {W:World} {g:Nat} {m:Md} {t1 t2 lo:Int} {lab:Value} {j:J} (h:JAt W g (jhd m t1 t2 lo) lab j) (x:Ix) (hx:x.ok) (hv:Hv) (a:Int) (ht:0≤t2∧t2≤4611686018427387904) (hh:0≤hv.n∧hv.n≤4611686018427387904) (hop:x.op=15) :
  Calls Tryz.prog 290 #[.pointer (some ⟨g,0,none⟩),.agg x.vals,HvV hv,.int .i64 a] W fun e W'=>e=.returned (HvV ⟨0,true⟩)∧JQ g (jhd m t1 t2 lo) lab (zO t2 a (hv,j)).2 W W':=by
 have CP:=hid (fun (W':World) (hj:JAt W' g (jhd m t1 t2 lo) lab j)=>qc hj hv t2 a ht hh);obtain⟨op,res,xa,xb,xn,tags,ta,tc,la,ln,lc,ea,en,ec⟩:=x;simp only at hop;subst hop;obtain⟨n0,d⟩:=hv;unfold HvV at CP ⊢;unfold Ix.vals;dsimp only at hh CP ⊢;have HG:=hid h.lt;have hb0:Below W.heap.size W (((W.alloc (.cells #[.int .i64 15,.int .i64 res,.int .u32 xa,.int .u32 xb,.int .i32 xn,.slice ta tags.length tc,.slice la ln lc,.slice ea en ec] 92)).alloc (.cells #[.int .i64 n0,.bool d] 312)).alloc (.cells #[.int .i64 0,.bool false] 312)):=zC (zC (zG W _) _) _;have H3:=hid (Three.made W #[.int .i64 15,.int .i64 res,.int .u32 xa,.int .u32 xb,.int .i32 xn,.slice ta tags.length tc,.slice la ln lc,.slice ea en ec] n0 d);have HH:=hid (h.below hb0);have HJ:=hid (show JQ g (jhd m t1 t2 lo) lab j W _ from ⟨h.below hb0,zF.of_below hb0⟩);have c12:=(h.below hb0).hd_ (i:=12) rfl;clear h hx hb0
 go_enter Tryz.func290,Tryz.ntmps290
 go_upto_region 3 with fail
 generalize hW3:(((W.alloc (.cells #[.int .i64 15,.int .i64 res,.int .u32 xa,.int .u32 xb,.int .i32 xn,.slice ta tags.length tc,.slice la ln lc,.slice ea en ec] 92)).alloc (.cells #[.int .i64 n0,.bool d] 312)).alloc (.cells #[.int .i64 0,.bool false] 312))=W3 at *
 have b0:=cell_of_row W3 (W.heap.size+1) 0 _ _ _ H3.out.b;have b1:=cell_of_row W3 (W.heap.size+1) 1 _ _ _ H3.out.b;simp at b0 b1
 have HS:=hid (fun (w1:World) (hs:zF g W3 w1) (j':J) (hj:JAt w1 g (jhd m t1 t2 lo) lab j')=>(show w1.cell? ⟨g,12,none⟩=some (.int .i64 t2)∧w1.cell? ⟨W.heap.size+1,0,none⟩=some (.int .i64 n0)∧w1.cell? ⟨W.heap.size+1,1,none⟩=some (.bool d) from
   ⟨hj.hd_ (i:=12) rfl,hs.cell (p:=⟨W.heap.size+1,0,none⟩) (by have:=HG.out;show W.heap.size+1≠g;omega) b0,hs.cell (p:=⟨W.heap.size+1,1,none⟩) (by have:=HG.out;show W.heap.size+1≠g;omega) b1⟩))
 have hS0:W3.drew.cell? ⟨g,12,none⟩=some (.int .i64 t2)∧W3.drew.cell? ⟨W.heap.size+1,0,none⟩=some (.int .i64 n0)∧W3.drew.cell? ⟨W.heap.size+1,1,none⟩=some (.bool d):=⟨c12,b0,b1⟩;clear hW3
 (first|go_loud (go_region_held3 (fun w'=>w'.cell? ⟨g,12,none⟩=some (.int .i64 t2)∧w'.cell? ⟨W.heap.size+1,0,none⟩=some (.int .i64 n0)∧w'.cell? ⟨W.heap.size+1,1,none⟩=some (.bool d))
   (first|assumption|exact zJg (by assumption))
   (first|(go_at_call 249;(first|refine (CP.out W3.drew ⟨HH.out.box,HH.out.len⟩).mono ?_|refine (CP.out W3 HH.out).mono ?_);rintro e1 w1 ⟨rfl,hq⟩;have hS1:=HS.out w1 ⟨hq.2.os,hq.2.tape,hq.2.output,hq.2.size,hq.2.block⟩ _ hq.1)))|fail)
 have hs:zF g W3 w1:=⟨hq.2.os,hq.2.tape,hq.2.output,hq.2.size,hq.2.block⟩;have h31:=H3.out.save hs HG.out;have HE:=hid (fun y z=>zh (JQ.trans HJ.out ⟨hq.1,hs⟩) h31 HG.out y z);have z0:=cell_of_row w1 (W.heap.size+1+1) 0 _ _ _ h31.c;have z1:=cell_of_row w1 (W.heap.size+1+1) 1 _ _ _ h31.c;have t0:=frozen_of_row w1 (W.heap.size+1+1) 0 _ _ h31.c;have t1':=frozen_of_row w1 (W.heap.size+1+1) 1 _ _ h31.c;simp at z0 z1;clear hq h31 hs HS HH CP H3 HJ c12 hS0 hS1 b0 b1;go_wp2;obtain⟨q1,q2⟩:=HE.out (.int .i64 0) (.bool true);exact bodyPost_ret (results_cell_row Tryz.results290 _ _ (W.heap.size+1+1) _ _ _ _ rfl q2 Tryz.underlying312 rfl (by kernel_rfl)) rfl ⟨rfl,q1⟩
theorem Yw {ls:List Int} (hl:∀l∈ls,0≤l∧l≤4611686018427387904) (n a:Int) (j:J):0≤(zI ls n a j).1∧(zI ls n a j).1≤4611686018427387904:=by
 unfold zI
 split
 ·simp
 ·simp only
  rw[List.getD_eq_getElem?_getD]
  rcases h:ls[ls.length-1-n.toNat]? with _|v
  ·simp
  ·exact hl v (List.mem_of_getElem? h)
theorem vg.save {n₀ g:Nat} {W W':World} {la:Option Addr} {ls:List Int} (h:vg n₀ W la ls) (hs:zF g W W') (hg:n₀≤g):vg n₀ W' la ls:=by
 rcases h with h|⟨b,h1,h2,h3⟩
 ·exact .inl h
 ·exact .inr ⟨b,h1,h2,fun i hi=>hs.cell (p:=⟨b,i,none⟩) (by show b≠g;omega) (h3 i hi)⟩
theorem vg.on {n₀:Nat} {W W':World} {la:Option Addr} {ls:List Int} (h:vg n₀ W la ls) (hb:Below n₀ W W'):vg n₀ W' la ls:=by
 rcases h with h|⟨b,h1,h2,h3⟩
 ·exact .inl h
 ·exact .inr ⟨b,h1,h2,fun i hi=>(hb.cell (p:=⟨b,i,none⟩) h2).trans (h3 i hi)⟩
theorem vg.more {n₀ n₁:Nat} {W:World} {la:Option Addr} {ls:List Int} (h:vg n₀ W la ls) (hn:n₀≤n₁):vg n₁ W la ls:=by
 rcases h with h|⟨b,h1,h2,h3⟩
 ·exact .inl h
 ·exact .inr ⟨b,h1,by omega,h3⟩
theorem zGy {W:World} {g:Nat} {m:Md} {t1 t2 lo:Int} {la:Option Addr} {lc:Nat} {ls:List Int} {j:J} (h:JAt W g (jhd m t1 t2 lo) (.slice la ls.length lc) j) (hlab:vg W.heap.size W la ls) (hln:ls.length≤1000000) (hls:∀l∈ls,0≤l∧l≤4611686018427387904) (x:Ix) (hx:x.ok) (hv:Hv) (a:Int) (hh:0≤hv.n∧hv.n≤4611686018427387904) (hop:x.op=12) :
  Calls Tryz.prog 290 #[.pointer (some ⟨g,0,none⟩),.agg x.vals,HvV hv,.int .i64 a] W fun e W'=>e=.returned (HvV ⟨0,true⟩)∧JQ g (jhd m t1 t2 lo) (.slice la ls.length lc) (zO (zI ls x.a a j).1 a (hv,(zI ls x.a a j).2)).2 W W':=by
 have hk:=Yw hls x.a a j;have CP:=hid (fun (W':World) (hj:JAt W' g (jhd m t1 t2 lo) (.slice la ls.length lc) (zI ls x.a a j).2)=>qc hj hv (zI ls x.a a j).1 a hk hh);obtain⟨ha0,ha1⟩:=hx.a;obtain⟨op,res,xa,xb,xn,tags,ta,tc,la',ln,lc',ea,en,ec⟩:=x;simp only at hop ha0 ha1 hk CP ⊢;subst hop;obtain⟨N,rfl⟩:∃N:Nat,xa=(N:Int):=⟨xa.toNat,by omega⟩;obtain⟨n0,d⟩:=hv;unfold HvV at CP ⊢;unfold Ix.vals;dsimp only at hh CP ⊢;have HG:=hid h.lt;have hb0:Below W.heap.size W (((W.alloc (.cells #[.int .i64 12,.int .i64 res,.int .u32 (N:Int),.int .u32 xb,.int .i32 xn,.slice ta tags.length tc,.slice la' ln lc',.slice ea en ec] 92)).alloc (.cells #[.int .i64 n0,.bool d] 312)).alloc (.cells #[.int .i64 0,.bool false] 312)):=zC (zC (zG W _) _) _;have H3:=hid (Three.made W #[.int .i64 12,.int .i64 res,.int .u32 (N:Int),.int .u32 xb,.int .i32 xn,.slice ta tags.length tc,.slice la' ln lc',.slice ea en ec] n0 d);have HJ:=hid (show JQ g (jhd m t1 t2 lo) (.slice la ls.length lc) j W _ from ⟨h.below hb0,zF.of_below hb0⟩);have CLB:=hid (Zo (h.below hb0) ((hlab.on hb0).more hb0.size) hln N a (by omega));obtain⟨k,hkk⟩:∃k,zI ls (N:Int) a j=k:=⟨_,rfl⟩;rw[hkk] at CLB CP hk ⊢;obtain⟨k,j1⟩:=k;dsimp only at CLB CP hk ⊢;clear h hx hb0 hlab hln hls hkk ha0 ha1
 go_enter Tryz.func290,Tryz.ntmps290
 go_wp2_with fail
 refine CLB.out.mono ?_;rintro e w1 ⟨rfl,hq⟩;have hs1:=hq.2;have h31:=H3.out.save hs1 HG.out;have HJ1:=hid (JQ.trans HJ.out hq);have b0:=cell_of_row w1 (W.heap.size+1) 0 _ _ _ h31.b;have b1:=cell_of_row w1 (W.heap.size+1) 1 _ _ _ h31.b;simp at b0 b1;have H31:=hid h31;clear hq hs1 h31 H3 HJ CLB;have C2:=hid (CP.out w1 HJ1.out.1);clear CP
 go_wp2_with fail
 refine C2.out.mono ?_;rintro e w2 ⟨rfl,hq⟩;have h32:=H31.out.save hq.2 HG.out;have HE:=hid (fun y z=>zh (JQ.trans HJ1.out hq) h32 HG.out y z);have z0:=cell_of_row w2 (W.heap.size+1+1) 0 _ _ _ h32.c;have z1:=cell_of_row w2 (W.heap.size+1+1) 1 _ _ _ h32.c;have t0:=frozen_of_row w2 (W.heap.size+1+1) 0 _ _ h32.c;have t1':=frozen_of_row w2 (W.heap.size+1+1) 1 _ _ h32.c;simp at z0 z1;clear hq h32 C2 H31 HJ1 b0 b1;go_wp2;obtain⟨q1,q2⟩:=HE.out (.int .i64 0) (.bool true);exact bodyPost_ret (results_cell_row Tryz.results290 _ _ (W.heap.size+1+1) _ _ _ _ rfl q2 Tryz.underlying312 rfl (by kernel_rfl)) rfl ⟨rfl,q1⟩
theorem jO {W w1:World} {g:Nat} {hd:List Value} {lab:Value} {j:J} {X:Array Value} {n0:Int} {d:Bool} (hq:JQ g hd lab j W w1) (h3:Three W X n0 d w1) (hg:g<W.heap.size) (y:Int) :
  JQ g hd lab j W (w1.setCell ⟨W.heap.size+1,0,none⟩ (.int .i64 y))∧Three W X y d (w1.setCell ⟨W.heap.size+1,0,none⟩ (.int .i64 y)):=by
 have s1:zF (W.heap.size+1) w1 (w1.setCell ⟨W.heap.size+1,0,none⟩ (.int .i64 y)):=zF.setCell (p:=⟨W.heap.size+1,0,none⟩) (zF.refl (W.heap.size+1) w1) (.inl rfl) _;exact⟨⟨hq.1.keep s1 (by omega),hq.2.setCell (p:=⟨W.heap.size+1,0,none⟩) (.inr (by simp)) _⟩,(s1.block _ (Array.getElem?_eq_some_iff.1 h3.a).1 (by omega)).trans h3.a,heap_setCell_same _ _ 0 _ _ _ h3.b,(s1.block _ (Array.getElem?_eq_some_iff.1 h3.c).1 (by omega)).trans h3.c⟩
theorem yS {W w1:World} {g:Nat} {hd:List Value} {lab:Value} {j:J} {X:Array Value} {n0:Int} {d:Bool} (hq:JQ g hd lab j W w1) (h3:Three W X n0 d w1) (hg:g<W.heap.size) (y:Int) (z:Bool) :
  JQ g hd lab j W ((w1.setCell ⟨W.heap.size+1,0,none⟩ (.int .i64 y)).setCell ⟨W.heap.size+1,1,none⟩ (.bool z))∧Three W X y z ((w1.setCell ⟨W.heap.size+1,0,none⟩ (.int .i64 y)).setCell ⟨W.heap.size+1,1,none⟩ (.bool z)):=by
 have s1:zF (W.heap.size+1) w1 ((w1.setCell ⟨W.heap.size+1,0,none⟩ (.int .i64 y)).setCell ⟨W.heap.size+1,1,none⟩ (.bool z)):=(zF.setCell (p:=⟨W.heap.size+1,0,none⟩) (zF.refl (W.heap.size+1) w1) (.inl rfl) _).setCell (p:=⟨W.heap.size+1,1,none⟩) (.inl rfl) _;refine⟨⟨hq.1.keep s1 (by omega),(hq.2.setCell (p:=⟨W.heap.size+1,0,none⟩) (.inr (by simp)) _).setCell (p:=⟨W.heap.size+1,1,none⟩) (.inr (by simp)) _⟩,(s1.block _ (Array.getElem?_eq_some_iff.1 h3.a).1 (by omega)).trans h3.a,?_,(s1.block _ (Array.getElem?_eq_some_iff.1 h3.c).1 (by omega)).trans h3.c⟩;exact heap_setCell_same _ _ 1 _ _ _ (heap_setCell_same _ _ 0 _ _ _ h3.b)
theorem zDb {W:World} {g:Nat} {m:Md} {t1 t2 lo:Int} {la:Option Addr} {lc:Nat} {ls:List Int} {j:J} (h:JAt W g (jhd m t1 t2 lo) (.slice la ls.length lc) j) (hlab:vg W.heap.size W la ls) (hln:ls.length≤1000000) (hls:∀l∈ls,0≤l∧l≤4611686018427387904) (x:Ix) (hx:x.ok) (hv:Hv) (a:Int) (hh:0≤hv.n∧hv.n≤4611686018427387904) (hop:x.op=13) :
  Calls Tryz.prog 290 #[.pointer (some ⟨g,0,none⟩),.agg x.vals,HvV hv,.int .i64 a] W fun e W'=>e=.returned (HvV (yX (zI ls x.a a j).1 (zO (zI ls x.a a j).1 a (zO 1 a (hv,(zI ls x.a a j).2)))).1)∧JQ g (jhd m t1 t2 lo) (.slice la ls.length lc) (yX (zI ls x.a a j).1 (zO (zI ls x.a a j).1 a (zO 1 a (hv,(zI ls x.a a j).2)))).2 W W':=by
 have hk:=Yw hls x.a a j;have CP:=hid (fun (W':World) (hv:Hv) (j':J) (n:Int) (hj:JAt W' g (jhd m t1 t2 lo) (.slice la ls.length lc) j') (hn:0≤n∧n≤4611686018427387904) (hh:0≤hv.n∧hv.n≤4611686018427387904)=>qc hj hv n a hn hh);obtain⟨ha0,ha1⟩:=hx.a;obtain⟨op,res,xa,xb,xn,tags,ta,tc,la',ln,lc',ea,en,ec⟩:=x;simp only at hop ha0 ha1 hk CP ⊢;subst hop;obtain⟨N,rfl⟩:∃N:Nat,xa=(N:Int):=⟨xa.toNat,by omega⟩;obtain⟨n0,d⟩:=hv;unfold HvV at CP;unfold Ix.vals;dsimp only at hh ⊢;have HG:=hid h.lt;have hb0:Below W.heap.size W (((W.alloc (.cells #[.int .i64 13,.int .i64 res,.int .u32 (N:Int),.int .u32 xb,.int .i32 xn,.slice ta tags.length tc,.slice la' ln lc',.slice ea en ec] 92)).alloc (.cells #[.int .i64 n0,.bool d] 312)).alloc (.cells #[.int .i64 0,.bool false] 312)):=zC (zC (zG W _) _) _;have H3:=hid (Three.made W #[.int .i64 13,.int .i64 res,.int .u32 (N:Int),.int .u32 xb,.int .i32 xn,.slice ta tags.length tc,.slice la' ln lc',.slice ea en ec] n0 d);have HJ:=hid (show JQ g (jhd m t1 t2 lo) (.slice la ls.length lc) j W _ from ⟨h.below hb0,zF.of_below hb0⟩);have CLB:=hid (Zo (h.below hb0) ((hlab.on hb0).more hb0.size) hln N a (by omega));obtain⟨k,hkk⟩:∃k,zI ls (N:Int) a j=k:=⟨_,rfl⟩;rw[hkk] at CLB hk ⊢;obtain⟨k,j1⟩:=k;dsimp only at CLB hk ⊢;obtain⟨P1,hP1⟩:∃P,zO 1 a (⟨n0,d⟩,j1)=P:=⟨_,rfl⟩;obtain⟨⟨n1,d1⟩,j2⟩:=P1;obtain⟨P2,hP2⟩:∃P,zO k a (⟨n1,d1⟩,j2)=P:=⟨_,rfl⟩;obtain⟨⟨n2,d2⟩,j3⟩:=P2
 have hn1:0≤n1∧n1≤4611686018427387904:=by
  have:=congrArg (fun q:Hv×J=>q.1.n) hP1;simp only[zO] at this;omega
 have hn2:0≤n2∧n2+k≤4611686018427387904:=by
  have:=congrArg (fun q:Hv×J=>q.1.n) hP2;simp only[zO] at this;omega
 rw[hP1,hP2];unfold yX HvV;dsimp only;clear h hx hb0 hlab hln hls hkk ha0 ha1
 go_enter Tryz.func290,Tryz.ntmps290
 go_wp2_with fail
 refine CLB.out.mono ?_;rintro e w1 ⟨rfl,hq⟩;have hs1:=hq.2;have h31:=H3.out.save hs1 HG.out;have HJ1:=hid (JQ.trans HJ.out hq);have b0:=cell_of_row w1 (W.heap.size+1) 0 _ _ _ h31.b;have b1:=cell_of_row w1 (W.heap.size+1) 1 _ _ _ h31.b;simp at b0 b1;have H31:=hid h31;clear hq hs1 h31 H3 HJ CLB;have C2:=hid (CP.out w1 ⟨n0,d⟩ j1 1 HJ1.out.1 (by omega) hh);rw[hP1] at C2;dsimp only at C2;have f0:=frozen_of_row w1 (W.heap.size+1) 0 _ _ H31.out.b
 go_wp2_with fail
 refine C2.out.mono ?_;rintro e w2 ⟨rfl,hq⟩;have h32:=H31.out.save hq.2 HG.out;have HS:=hid (yS (JQ.trans HJ1.out hq) h32 HG.out n1 d1);have f0:=frozen_of_row w2 (W.heap.size+1) 0 _ _ h32.b;have f1:=frozen_of_row w2 (W.heap.size+1) 1 _ _ h32.b;have b0:=cell_of_row w2 (W.heap.size+1) 0 _ _ _ h32.b;have b1:=cell_of_row w2 (W.heap.size+1) 1 _ _ _ h32.b;simp at b0 b1;have C3:=hid (CP.out _ ⟨n1,d1⟩ j2 k HS.out.1.1 hk hn1);rw[hP2] at C3;dsimp only at C3;clear hq h32 C2 H31 HJ1 CP
 go_wp2_with fail
 refine C3.out.mono ?_;rintro e w3 ⟨rfl,hq⟩;have h33:=HS.out.2.save hq.2 HG.out;have hj3:=JQ.trans HS.out.1 hq
 have HE:=hid (show ∀y,_ from fun y=>by
   obtain⟨a1,a2⟩:=yS hj3 h33 HG.out n2 d2;obtain⟨a3,a4⟩:=jO a1 a2 HG.out y;exact zh a3 a4 HG.out (.int .i64 y) (.bool d2))
 have g0:=frozen_of_row w3 (W.heap.size+1) 0 _ _ h33.b;have g1:=frozen_of_row w3 (W.heap.size+1) 1 _ _ h33.b;have b0:=cell_of_row w3 (W.heap.size+1) 0 _ _ _ h33.b;have b1:=cell_of_row w3 (W.heap.size+1) 1 _ _ _ h33.b;have z0:=cell_of_row w3 (W.heap.size+1+1) 0 _ _ _ h33.c;have z1:=cell_of_row w3 (W.heap.size+1+1) 1 _ _ _ h33.c;have t0:=frozen_of_row w3 (W.heap.size+1+1) 0 _ _ h33.c;have t1':=frozen_of_row w3 (W.heap.size+1+1) 1 _ _ h33.c;simp at b0 b1 z0 z1;obtain⟨u0,u1⟩:=hn2;obtain⟨u2,u3⟩:=hk;clear hq h33 hj3 C3 HS hP1 hP2 hn1 hh f0 f1;go_wp2;obtain⟨q1,q2⟩:=HE.out (n2+k);exact bodyPost_ret (results_cell_row Tryz.results290 _ _ (W.heap.size+1+1) _ _ _ _ rfl q2 Tryz.underlying312 rfl (by kernel_rfl)) rfl ⟨rfl,q1⟩
end Val
namespace Val
open Go.RowKit Instr Mod
theorem Zv (t:Il) (a:Option Addr) (n c:Nat) (w:World) (hL:zD w.heap.size w a n t) (hn:n≤140737488351232) (hct:t.count≤4611686018427387900) :
  Calls Tryz.prog 60 #[.slice a n c] w fun e w'=>e=.returned (.tuple #[.int .u32 (zy t).1,.int .i64 (zy t).2])∧Below w.heap.size w w':=by
 have CC:=hid (Body.YI t a n c w hL hn hct)
 by_cases h1:t.len=1
 ·cases t with
  | nil=>simp[Il.len] at h1
  | cons x l e r =>
   cases r with
   | cons x' l' e' r'=>simp[Il.len] at h1
   | nil =>
    obtain⟨hl1,hl2⟩:=hL;have hn1:n=1:=by rw[←hl1];rfl
    subst hn1
    rcases hl2 with h|⟨b,off,rfl,hb,hx,⟨c0,c1,c2,c3,c4,c5,c6,c7⟩,-⟩
    ·cases h
    have HE:Hid (zy (.cons x l e .nil)=if x.op=65∧zJ (.cons x l e .nil)=0 then (IntKind.u32.wrap x.n,0) else (0,210)):=hid rfl;obtain⟨q,hq⟩:∃q,zJ (.cons x l e .nil)=q:=⟨_,rfl⟩;rw[hq] at CC HE;obtain⟨op,hop⟩:∃o,x.op=o:=⟨_,rfl⟩;rw[hop] at c0 HE;have hnn:=hx.n;clear h1 hl1 hq hx hb c1 c2 c3 c5 c6 c7 hct hn
    by_cases h2:op=65
    ·subst h2
     by_cases h3:q=0
     ·subst h3
      have HV:=hid (show zy (.cons x l e .nil)=(IntKind.u32.wrap x.n,0) by rw[HE.out,if_pos ⟨rfl,rfl⟩]);obtain⟨xn,hxn⟩:∃z,x.n=z:=⟨_,rfl⟩;rw[hxn] at c4 HV;clear HE hxn hop hnn
      go_enter Tryz.func60,Tryz.ntmps60
      go_wp2_with fail
      refine CC.out.mono ?_;rintro e1 w1 ⟨rfl,hb1⟩;have k0:=kP hb1 c0;have k4:=kP hb1 c4;have HB:=hid hb1;clear CC hb1 c0 c4;go_wp2;go_ret2;refine⟨?_,HB.out⟩;rw[HV.out];rfl
     ·have HV:=hid (show zy (.cons x l e .nil)=(0,210) by rw[HE.out,if_neg (fun h=>h3 h.2)])
      have h3b:(q==0)=false:=by simpa using h3
      clear HE hop hnn c4
      go_enter Tryz.func60,Tryz.ntmps60
      go_wp2_with fail
      refine CC.out.mono ?_;rintro e1 w1 ⟨rfl,hb1⟩;have HB:=hid hb1;clear CC hb1 c0;go_wp2;go_ret2;refine⟨?_,HB.out⟩;rw[HV.out];rfl
    ·have HV:=hid (show zy (.cons x l e .nil)=(0,210) by rw[HE.out,if_neg (fun h=>h2 h.1)])
     have h2b:(op==65)=false:=by simpa using h2
     clear HE hop hnn c4 CC
     go_enter Tryz.func60,Tryz.ntmps60
     go_wp2;go_ret2;refine⟨?_,Below.refl _ _⟩;rw[HV.out];rfl
 ·have HV:=hid (Jm h1)
  have hn1:(n:Int)≠1:=by have:=hL.1;omega
  have hnb:((n:Int)==1)=false:=by simpa using hn1
  clear CC hL h1 hct
  go_enter Tryz.func60,Tryz.ntmps60
  go_wp2;go_ret2;refine⟨?_,Below.refl _ _⟩;rw[HV.out];rfl
end Val
section
open Go.RowKit
end
end Go.Proofs.YtdljneclfgneoaaGreatDoor
