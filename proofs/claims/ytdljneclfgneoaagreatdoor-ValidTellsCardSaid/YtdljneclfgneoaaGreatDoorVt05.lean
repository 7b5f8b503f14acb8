import Derived.Test.YtdljneclfgneoaaGreatDoorVt02
import Derived.BigQuiet
set_option linter.unusedVariables false
set_option linter.ambiguousOpen false
set_option maxRecDepth 100000
set_option maxHeartbeats 8000000
namespace Go.Proofs.YtdljneclfgneoaaGreatDoor
namespace Instr
open Go.RowKit
theorem zC0 (w:World) (x:Ix):(Below w.heap.size w (w.alloc (.cells x.vals 92)).drew∧(w.alloc (.cells x.vals 92)).drew.cell? ⟨w.heap.size,0,none⟩=some (.int .i64 x.op)∧(w.alloc (.cells x.vals 92)).drew.cell? ⟨w.heap.size,1,none⟩=some (.int .i64 x.res)∧(w.alloc (.cells x.vals 92)).drew.cell? ⟨w.heap.size,2,none⟩=some (.int .u32 x.a)∧(w.alloc (.cells x.vals 92)).drew.cell? ⟨w.heap.size,3,none⟩=some (.int .u32 x.b)∧(w.alloc (.cells x.vals 92)).drew.cell? ⟨w.heap.size,4,none⟩=some (.int .i32 x.n)∧(w.alloc (.cells x.vals 92)).drew.cell? ⟨w.heap.size,5,none⟩=some (.slice x.ta x.tags.length x.tc)∧(w.alloc (.cells x.vals 92)).drew.cell? ⟨w.heap.size,6,none⟩=some (.slice x.la x.ln x.lc)∧(w.alloc (.cells x.vals 92)).drew.cell? ⟨w.heap.size,7,none⟩=some (.slice x.ea x.en x.ec)) :=
 have h:=(At.made x w).below ((Below.refl _ _).drew)
 ⟨((Below.refl _ _).alloc (Nat.le_refl _) _).drew,h.c0,h.c1,h.c2,h.c3,h.c4,h.c5,h.c6,h.c7⟩
theorem zEx {w w1 w2:World} {x:Ix} (h:Below w.heap.size w w1∧w1.cell? ⟨w.heap.size,0,none⟩=some (.int .i64 x.op)∧w1.cell? ⟨w.heap.size,1,none⟩=some (.int .i64 x.res)∧w1.cell? ⟨w.heap.size,2,none⟩=some (.int .u32 x.a)∧w1.cell? ⟨w.heap.size,3,none⟩=some (.int .u32 x.b)∧w1.cell? ⟨w.heap.size,4,none⟩=some (.int .i32 x.n)∧w1.cell? ⟨w.heap.size,5,none⟩=some (.slice x.ta x.tags.length x.tc)∧w1.cell? ⟨w.heap.size,6,none⟩=some (.slice x.la x.ln x.lc)∧w1.cell? ⟨w.heap.size,7,none⟩=some (.slice x.ea x.en x.ec)) (hb:Below w1.heap.size w1 w2):Below w.heap.size w w2∧w2.cell? ⟨w.heap.size,0,none⟩=some (.int .i64 x.op)∧w2.cell? ⟨w.heap.size,1,none⟩=some (.int .i64 x.res)∧w2.cell? ⟨w.heap.size,2,none⟩=some (.int .u32 x.a)∧w2.cell? ⟨w.heap.size,3,none⟩=some (.int .u32 x.b)∧w2.cell? ⟨w.heap.size,4,none⟩=some (.int .i32 x.n)∧w2.cell? ⟨w.heap.size,5,none⟩=some (.slice x.ta x.tags.length x.tc)∧w2.cell? ⟨w.heap.size,6,none⟩=some (.slice x.la x.ln x.lc)∧w2.cell? ⟨w.heap.size,7,none⟩=some (.slice x.ea x.en x.ec) :=
 ⟨zM h.1 hb,keep hb h.2.1,keep hb h.2.2.1,keep hb h.2.2.2.1,keep hb h.2.2.2.2.1,keep hb h.2.2.2.2.2.1,keep hb h.2.2.2.2.2.2.1,keep hb h.2.2.2.2.2.2.2.1,keep hb h.2.2.2.2.2.2.2.2⟩
theorem zCx {w w1:World} {x:Ix} (h:Below w.heap.size w w1∧w1.cell? ⟨w.heap.size,0,none⟩=some (.int .i64 x.op)∧w1.cell? ⟨w.heap.size,1,none⟩=some (.int .i64 x.res)∧w1.cell? ⟨w.heap.size,2,none⟩=some (.int .u32 x.a)∧w1.cell? ⟨w.heap.size,3,none⟩=some (.int .u32 x.b)∧w1.cell? ⟨w.heap.size,4,none⟩=some (.int .i32 x.n)∧w1.cell? ⟨w.heap.size,5,none⟩=some (.slice x.ta x.tags.length x.tc)∧w1.cell? ⟨w.heap.size,6,none⟩=some (.slice x.la x.ln x.lc)∧w1.cell? ⟨w.heap.size,7,none⟩=some (.slice x.ea x.en x.ec)):Below w.heap.size w w1:=h.1
theorem zAW (x:Ix) (w:World) (hT:kC w) (hn:zc x.op=[]):Calls Tryz.prog 259 #[.agg x.vals] w fun e w'=>e=.returned (.bool false)∧Below w.heap.size w w':=by
 have CN:=fun w' (hb:Below w.heap.size w w')=>zB6 x.op w' (hT.below hb)
 obtain⟨v,hv⟩:∃v,strOfNums (zc x.op)=v:=⟨_,rfl⟩;have he:v.toList.isEmpty=true:=by rw[←hv,hn,ByteArray.toList_eq,strOfNums_data];rfl
 rw[hv] at CN;clear hn hT hv;unfold Ix.vals at *
 go_enter Tryz.func259,Tryz.ntmps259
 go_wp2
 go_quiet ((go_at_call 299;exact Calls.quiet_of_same ((CN _ (drewN ((Below.refl _ _).alloc (Nat.le_refl _) _))).mono fun e w' h=>⟨h.1,h.2.symm⟩)))
 go_wp2;go_ret;exact⟨rfl,drewN ((Below.refl _ _).alloc (Nat.le_refl _) _)⟩
theorem zEd {l:List Int} (h:l≠[]):(strOfNums l).toList.isEmpty=false:=by
 cases l with
 | nil=>exact absurd rfl h
 | cons a l=>rw[ByteArray.toList_eq,strOfNums_data];rfl
theorem zCX (x:Ix) (w:World) (hT:kC w) (hn:zc x.op≠[]):Calls Tryz.prog 259 #[.agg x.vals] w fun e w'=>e=.returned (.bool (decide (zCI x=0)&&(decide (x.res=0)||decide (x.res=1))))∧Below w.heap.size w w':=by
 have CN:=fun w' (hb:Below w.heap.size w w')=>zB6 x.op w' (hT.below hb)
 obtain⟨v,hv⟩:∃v,strOfNums (zc x.op)=v:=⟨_,rfl⟩;have he:v.toList.isEmpty=false:=by rw[←hv];exact zEd hn
 rw[hv] at CN;clear hn hT hv;have CF:=fun w'=>zDk x w'
 have CU:=fun w'=>zF4 x.op w'
 unfold zCI;obtain⟨f,hf⟩:∃f,ZJ x=f:=⟨_,rfl⟩;obtain⟨u,hu⟩:∃u,uD x.op=u:=⟨_,rfl⟩;rw[hf] at CF;rw[hu] at CU;rw[hf,hu];clear hf hu;unfold Ix.vals at *;obtain⟨op,res,a,b,n,tags,ta,tc,la,ln,lc,ea,en,ec⟩:=x;dsimp only at *
 have hcases:(bits .andNot .u8 f u=0∧res=0)∨(bits .andNot .u8 f u=0∧(res==0)=false∧decide (res=0)=false)∨((bits .andNot .u8 f u==0)=false∧decide (bits .andNot .u8 f u=0)=false):=by
  by_cases h1:bits .andNot .u8 f u=0<;>by_cases h2:res=0<;>simp[h1,h2]
 rcases hcases with ⟨ho,h2⟩|⟨ho,h2,h3⟩|⟨ho,h3⟩
 ·subst h2
  have hA0:=(At.made ⟨op,0,a,b,n,tags,ta,tc,la,ln,lc,ea,en,ec⟩ w).below (Below.refl _ _).drew;unfold Ix.vals at hA0;dsimp only at hA0
  go_enter Tryz.func259,Tryz.ntmps259
  go_wp2
  (first
    | (go_region_with (first
        | (go_at_call 299;refine (CN _ (((Below.refl _ _).alloc (Nat.le_refl _) _).drew)).mono ?_;rintro e w2 ⟨rfl,rfl⟩)
        | (go_at_call 300;refine (CF _).mono ?_;rintro e w3 ⟨rfl,hb3⟩;obtain⟨d0,d1,d2,d3,d4,d5,d6,d7⟩:=hA0.below hb3)
        | (go_at_call 301;refine (CU _).mono ?_;rintro e w4 ⟨rfl,rfl⟩)))
    | fail)
  all_goals go_wp2
  all_goals go_ret
  all_goals refine⟨zA ?_,?_⟩
  all_goals first|exact drewN (zM (((Below.refl _ _).alloc (Nat.le_refl _) _).drew) hb3)|exact (zM (((Below.refl _ _).alloc (Nat.le_refl _) _).drew) hb3)|(first|rfl|(simp[*];done)|(simp[*];rfl))|trace_state
 ·go_enter Tryz.func259,Tryz.ntmps259
  go_wp2
  (first
    | (go_region_held3 (fun w'=>Below w.heap.size w w'∧w'.cell? ⟨w.heap.size,0,none⟩=some (.int .i64 op)∧w'.cell? ⟨w.heap.size,1,none⟩=some (.int .i64 res)∧w'.cell? ⟨w.heap.size,2,none⟩=some (.int .u32 a)∧w'.cell? ⟨w.heap.size,3,none⟩=some (.int .u32 b)∧w'.cell? ⟨w.heap.size,4,none⟩=some (.int .i32 n)∧w'.cell? ⟨w.heap.size,5,none⟩=some (.slice ta tags.length tc)∧w'.cell? ⟨w.heap.size,6,none⟩=some (.slice la ln lc)∧w'.cell? ⟨w.heap.size,7,none⟩=some (.slice ea en ec)) (first|assumption|exact zC0 w ⟨op,res,a,b,n,tags,ta,tc,la,ln,lc,ea,en,ec⟩|exact zEx (x:=⟨op,res,a,b,n,tags,ta,tc,la,ln,lc,ea,en,ec⟩) (by assumption) (by assumption))
        (first
          | (go_at_call 299;refine (CN _ (zCx (x:=⟨op,res,a,b,n,tags,ta,tc,la,ln,lc,ea,en,ec⟩) (by assumption))).mono ?_;rintro e w2 ⟨rfl,rfl⟩)
          | (go_at_call 300;refine (CF _).mono ?_;rintro e w3 ⟨rfl,hb3⟩)
          | (go_at_call 301;refine (CU _).mono ?_;rintro e w4 ⟨rfl,rfl⟩)))
    | fail)
  go_wp2;go_ret;refine⟨zA ?_,zCx (x:=⟨op,res,a,b,n,tags,ta,tc,la,ln,lc,ea,en,ec⟩) (by assumption)⟩
  first|rfl|(simp[*];done)|(simp[*];rfl)
 ·have hund:undef=Value.tuple #[]:=rfl
  have hA0:=(At.made ⟨op,res,a,b,n,tags,ta,tc,la,ln,lc,ea,en,ec⟩ w).below (Below.refl _ _).drew;unfold Ix.vals at hA0;dsimp only at hA0
  go_enter Tryz.func259,Tryz.ntmps259
  go_wp2
  (first
    | (go_region_with (first
        | (go_at_call 299;refine (CN _ (((Below.refl _ _).alloc (Nat.le_refl _) _).drew)).mono ?_;rintro e w2 ⟨rfl,rfl⟩)
        | (go_at_call 300;refine (CF _).mono ?_;rintro e w3 ⟨rfl,hb3⟩;obtain⟨d0,d1,d2,d3,d4,d5,d6,d7⟩:=hA0.below hb3)
        | (go_at_call 301;refine (CU _).mono ?_;rintro e w4 ⟨rfl,rfl⟩)))
    | fail)
  all_goals go_wp2
  all_goals go_ret
  all_goals refine⟨zA ?_,?_⟩
  all_goals first|exact drewN (zM (((Below.refl _ _).alloc (Nat.le_refl _) _).drew) hb3)|exact (zM (((Below.refl _ _).alloc (Nat.le_refl _) _).drew) hb3)|(first|rfl|(simp[*];done)|(simp[*];rfl))|trace_state
end Instr
end Go.Proofs.YtdljneclfgneoaaGreatDoor
