import Derived.Test.YtdljneclfgneoaaGreatDoorVt14
set_option linter.unusedVariables false
set_option linter.ambiguousOpen false
set_option maxRecDepth 100000
set_option maxHeartbeats 8000000
namespace Go.Proofs.YtdljneclfgneoaaGreatDoor
namespace Instr
end Instr
namespace Body
open Go.RowKit Instr
theorem zGD (x:Ix) (w:World) (hn:zc x.op≠[]) (hk:zn x.op=1) (n4:¬x.op=4) :
  Calls Tryz.prog 261 #[.agg x.vals] w fun e w'=>e=.returned (.bool (zW x))∧Below w.heap.size w w':=by
 obtain⟨op,res,a,b,n,tags,ta,tc,la,ln,lc,ea,en,ec⟩:=x;have hlaw:=yj ⟨op,res,a,b,n,tags,ta,tc,la,ln,lc,ea,en,ec⟩;obtain⟨tl,htl⟩:∃tl,tags.length=tl:=⟨_,rfl⟩;dsimp only at hlaw hn hk;rw[htl] at hlaw;simp[hk,hn] at hlaw;obtain⟨q,hq⟩:∃q,zW ⟨op,res,a,b,n,tags,ta,tc,la,ln,lc,ea,en,ec⟩=q:=⟨_,rfl⟩;rw[hq] at hlaw ⊢;have hL:qV op=true:=by rw[jL,hk];rfl
 have hW:qZ op=false:=by rw[jR,hk];rfl
 have hS:zS op=false:=by rw[yf,hk];rfl
 have n14:¬op=14:=fun h=>by have:=qS.1 h;omega
 have n65:¬op=65:=fun h=>by have:=jh.1 h;omega
 dsimp only at n4;have FA:=hid (fun W=>zi (op) W);have FN:=hid (fun W=>yQ (op) W);have FL:=hid (fun W=>yM (op) W);have FW:=hid (fun W=>yN (op) W);rw[hS] at FA;rw[hL] at FL;rw[hW] at FW
 have hne:(strOfNums (zc (op))).toList.isEmpty=false:=by
  rw[←Bool.not_eq_true];intro h;exact hn (jP.1 h)
 obtain⟨nm,hnm⟩:∃nm,strOfNums (zc (op))=nm:=⟨_,rfl⟩;rw[hnm] at FN hne;obtain⟨al,hal⟩:∃al,zf (op)=al:=⟨_,rfl⟩;rw[hal] at FA;have hlaw:=hid hlaw;have hA:=At.made ⟨op,res,a,b,n,tags,ta,tc,la,ln,lc,ea,en,ec⟩ w;have M:=hid ((Below.refl w.heap.size w).alloc (Nat.le_refl _) (.cells (⟨op,res,a,b,n,tags,ta,tc,la,ln,lc,ea,en,ec⟩:Ix).vals 92));simp only[Ix.vals,htl] at hA M ⊢;have HA:=hid hA;have HTL:=hid htl;clear hn hk hq hL hW hS hnm hal htl hA
 go_enter Tryz.func261,Tryz.ntmps261
 go_wp2_with fail
 refine (FA.out _).mono ?_;rintro e w1 ⟨rfl,rfl⟩
 go_wp2_with fail
 refine (FN.out _).mono ?_;rintro e w1 ⟨rfl,hb1⟩;have c0:=keep hb1 HA.out.c0;have c1:=keep hb1 HA.out.c1;have c2:=keep hb1 HA.out.c2;have c3:=keep hb1 HA.out.c3;have c4':=keep hb1 HA.out.c4;have c5:=keep hb1 HA.out.c5;have c6:=keep hb1 HA.out.c6;have c7:=keep hb1 HA.out.c7;dsimp only at c0 c1 c2 c3 c4' c5 c6 c7;rw[show (⟨op,res,a,b,n,tags,ta,tc,la,ln,lc,ea,en,ec⟩:Ix).tags.length=tl from HTL.out] at c5;have HB:=hid (M.out.trans (hb1.mono M.out.size));clear hb1 HA M
 go_wp2_with (first|(go_at_call 304;refine (FL.out _).mono ?_;rintro e w9 ⟨rfl,rfl⟩)|(go_at_call 305;refine (FW.out _).mono ?_;rintro e w9 ⟨rfl,rfl⟩))
 all_goals go_ret
 all_goals refine⟨zA ?_,HB.out⟩
 all_goals
  have hl:=hlaw.out;clear hlaw HB FA FN FL FW
  cases q<;>simp_all<;>omega
end Body
end Go.Proofs.YtdljneclfgneoaaGreatDoor
