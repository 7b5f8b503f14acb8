import Derived.Test.YtdljneclfgneoaaGreatDoorVt02
set_option linter.unusedVariables false
set_option linter.ambiguousOpen false
set_option maxRecDepth 100000
set_option maxHeartbeats 8000000
namespace Go.Proofs.YtdljneclfgneoaaGreatDoor
namespace Instr
open Go.RowKit
theorem zBr:∀j:Fin 121,(¬(69≤j.val∧j.val≤79)∧¬(103≤j.val∧j.val≤120)∧j.val≠0∧j.val≠1∧j.val≠2∧j.val≠3∧j.val≠4∧j.val≠12∧j.val≠13∧j.val≠14∧j.val≠15∧j.val≠16∧j.val≠17∧j.val≠26∧j.val≠27∧j.val≠32∧j.val≠33∧j.val≠34∧j.val≠35∧j.val≠36∧j.val≠40∧j.val≠44∧j.val≠45∧j.val≠46∧j.val≠47∧j.val≠54∧j.val≠58∧j.val≠59∧j.val≠63∧j.val≠64∧j.val≠65)→uF.getD j.val []=[]:=by decide +kernel
theorem zDD (op:Int) (h:¬(69≤op∧op≤79)∧¬(103≤op∧op≤120)∧op≠0∧op≠1∧op≠2∧op≠3∧op≠4∧op≠12∧op≠13∧op≠14∧op≠15∧op≠16∧op≠17∧op≠26∧op≠27∧op≠32∧op≠33∧op≠34∧op≠35∧op≠36∧op≠40∧op≠44∧op≠45∧op≠46∧op≠47∧op≠54∧op≠58∧op≠59∧op≠63∧op≠64∧op≠65):zc op=[]:=by
 unfold zc
 split
 ·exact zBr ⟨op.toNat,by omega⟩ (by simp only;omega)
 ·rfl
theorem zD5 (op:Int) (w:World) (h:¬(69≤op∧op≤79)∧¬(103≤op∧op≤120)∧op≠0∧op≠1∧op≠2∧op≠3∧op≠4∧op≠12∧op≠13∧op≠14∧op≠15∧op≠16∧op≠17∧op≠26∧op≠27):Calls Tryz.prog 349 #[.int .i64 op] w fun e w'=>e=.returned (.string (strOfNums (zc op)))∧w=w':=by
 by_cases hin:op≠32∧op≠33∧op≠34∧op≠35∧op≠36∧op≠40∧op≠44∧op≠45∧op≠46∧op≠47∧op≠54∧op≠58∧op≠59∧op≠63∧op≠64∧op≠65
 ·have hn:zc op=[]:=zDD op (by omega)
  rw[hn];clear hn h;obtain⟨n32,n33,n34,n35,n36,n40,n44,n45,n46,n47,n54,n58,n59,n63,n64,n65⟩:=hin
  go_enter Tryz.func349,Tryz.ntmps349
  go_wp2;go_ret;exact⟨rfl,rfl⟩
 ·have hor:op=32∨op=33∨op=34∨op=35∨op=36∨op=40∨op=44∨op=45∨op=46∨op=47∨op=54∨op=58∨op=59∨op=63∨op=64∨op=65:=by omega
  clear hin h
  rcases hor with rfl|rfl|rfl|rfl|rfl|rfl|rfl|rfl|rfl|rfl|rfl|rfl|rfl|rfl|rfl|rfl
  all_goals
   go_enter Tryz.func349,Tryz.ntmps349
   go_wp2;go_ret;exact⟨by kernel_rfl,rfl⟩
theorem zEa (op:Int) (w:World) (h:¬(69≤op∧op≤79)∧¬(103≤op∧op≤120)):Calls Tryz.prog 330 #[.int .i64 op] w fun e w'=>e=.returned (.string (strOfNums (zc op)))∧w=w':=by
 have CS:=fun hh=>zD5 op w hh
 obtain⟨v,hv⟩:∃v,strOfNums (zc op)=v:=⟨_,rfl⟩;rw[hv] at CS ⊢;have HV:=hid hv;have HH:=hid h;have HC:=hid CS;clear hv h CS
 by_cases hin:op≠0∧op≠1∧op≠2∧op≠3∧op≠4∧op≠12∧op≠13∧op≠14∧op≠15∧op≠16∧op≠17∧op≠26∧op≠27
 ·have hne:op≠0∧op≠1∧op≠2∧op≠3∧op≠4∧op≠12∧op≠13∧op≠14∧op≠15∧op≠16∧op≠17∧op≠26∧op≠27:=by
   have:=HH.out;omega
  have C:=HC.out ⟨HH.out.1,HH.out.2,hne⟩;clear HC HH HV;obtain⟨n0,n1,n2,n3,n4,n12,n13,n14,n15,n16,n17,n26,n27⟩:=hin;clear hne
  go_enter Tryz.func330,Tryz.ntmps330
  go_wp2_with (go_at_call 349;refine C.mono ?_;rintro e w1 ⟨rfl,rfl⟩)
  go_ret;exact⟨rfl,rfl⟩
 ·clear HC
  have hor:op=0∨op=1∨op=2∨op=3∨op=4∨op=12∨op=13∨op=14∨op=15∨op=16∨op=17∨op=26∨op=27:=by omega
  clear hin;have hv:=HV.out;clear HV HH
  rcases hor with rfl|rfl|rfl|rfl|rfl|rfl|rfl|rfl|rfl|rfl|rfl|rfl|rfl
  all_goals
   subst hv
   go_enter Tryz.func330,Tryz.ntmps330
   go_wp2;go_ret;exact⟨by kernel_rfl,rfl⟩
theorem zEq (op:Int) (w:World) (h:op=69∨op=70∨op=71∨op=72∨op=73∨op=74∨op=75∨op=76∨op=77∨op=78∨op=79):Calls Tryz.prog 303 #[.int .i64 op] w fun e w'=>e=.returned (.string (strOfNums (zc op)))∧Below w.heap.size w w':=by
 rcases h with rfl|rfl|rfl|rfl|rfl|rfl|rfl|rfl|rfl|rfl|rfl
 all_goals
  go_enter Tryz.func303,Tryz.ntmps303
  go_wp2;go_ret;exact⟨by kernel_rfl,by first|exact zC (zC (Below.refl _ _) _) _|exact zC (Below.refl _ _) _⟩
end Instr
/-
  BODY: the document's own names of operations,by contract (part two).
-/
namespace Instr
open Go.RowKit
theorem zFd (op:Int) (w:World) (h:op=103∨op=104∨op=105∨op=106∨op=107∨op=108∨op=109∨op=110∨op=111):Calls Tryz.prog 303 #[.int .i64 op] w fun e w'=>e=.returned (.string (strOfNums (zc op)))∧Below w.heap.size w w':=by
 rcases h with rfl|rfl|rfl|rfl|rfl|rfl|rfl|rfl|rfl
 all_goals
  go_enter Tryz.func303,Tryz.ntmps303
  go_wp2;go_ret;exact⟨by kernel_rfl,by first|exact zC (zC (Below.refl _ _) _) _|exact zC (Below.refl _ _) _⟩
theorem zFF (op:Int) (w:World) (h:op=112∨op=113∨op=114∨op=115∨op=116∨op=117∨op=118∨op=119∨op=120):Calls Tryz.prog 303 #[.int .i64 op] w fun e w'=>e=.returned (.string (strOfNums (zc op)))∧Below w.heap.size w w':=by
 rcases h with rfl|rfl|rfl|rfl|rfl|rfl|rfl|rfl|rfl
 all_goals
  go_enter Tryz.func303,Tryz.ntmps303
  go_wp2;go_ret;exact⟨by kernel_rfl,by first|exact zC (zC (Below.refl _ _) _) _|exact zC (Below.refl _ _) _⟩
end Instr
/-
  BODY: the document's own names of operations,by contract all;how they may be aligned;what they have.
-/
namespace Instr
open Go.RowKit
theorem yQ (op:Int) (w:World):Calls Tryz.prog 303 #[.int .i64 op] w fun e w'=>e=.returned (.string (strOfNums (zc op)))∧Below w.heap.size w w':=by
 have hor:(¬(69≤op∧op≤79)∧¬(103≤op∧op≤120))∨op=69∨op=70∨op=71∨op=72∨op=73∨op=74∨op=75∨op=76∨op=77∨op=78∨op=79∨op=103∨op=104∨op=105∨op=106∨op=107∨op=108∨op=109∨op=110∨op=111∨op=112∨op=113∨op=114∨op=115∨op=116∨op=117∨op=118∨op=119∨op=120:=by omega
 rcases hor with h|hor
 ·have C:=fun w'=>zEa op w' h
  obtain⟨v,hv⟩:∃v,strOfNums (zc op)=v:=⟨_,rfl⟩;simp only[hv] at C;rw[hv];clear hv;have h1:decide (69≤op)=false∨decide (op≤79)=false:=by simp;omega
  have h2:decide (103≤op)=false∨decide (op≤120)=false:=by simp;omega
  clear h
  rcases h1 with h1|h1<;>rcases h2 with h2|h2
  all_goals
   go_enter Tryz.func303,Tryz.ntmps303
   go_wp2_with (go_at_call 330;refine (C _).mono ?_;rintro e w1 ⟨rfl,rfl⟩)
   all_goals go_ret
   all_goals exact⟨rfl,zC (zC (Below.refl _ _) _) _⟩
 ·have h3:(op=69∨op=70∨op=71∨op=72∨op=73∨op=74∨op=75∨op=76∨op=77∨op=78∨op=79)∨(op=103∨op=104∨op=105∨op=106∨op=107∨op=108∨op=109∨op=110∨op=111)∨(op=112∨op=113∨op=114∨op=115∨op=116∨op=117∨op=118∨op=119∨op=120):=by omega
  rcases h3 with h|h|h
  ·exact zEq op w h
  ·exact zFd op w h
  ·exact zFF op w h
theorem zi (op:Int) (w:World):Calls Tryz.prog 302 #[.int .i64 op] w fun e w'=>e=.returned (.tuple #[.int .u32 (zf op),.bool (zS op)])∧w=w':=by
 obtain⟨u,hu⟩:∃u,zf op=u:=⟨_,rfl⟩;obtain⟨v,hv⟩:∃v,zS op=v:=⟨_,rfl⟩;rw[hu,hv];have HU:=hid hu;have HV:=hid hv;clear hu hv
 go_enter Tryz.func302,Tryz.ntmps302
 go_wp2
 all_goals go_ret2
 all_goals
  refine⟨?_,rfl⟩;have hu:=HU.out;have hv:=HV.out;clear HU HV;simp only[beq_iff_eq,beq_eq_false_iff_ne,ne_eq] at *;subst hu hv;refine congrArg Ending.returned (congrArg Value.tuple ?_);simp[zf,zS, *]
def qV (op:Int):Bool:=decide (op=2∨op=3∨op=4)
def qZ (op:Int):Bool:=decide (op=12∨op=13∨op=16∨op=17∨(32≤op∧op≤36))
theorem yM (op:Int) (w:World):Calls Tryz.prog 304 #[.int .i64 op] w fun e w'=>e=.returned (.bool (qV op))∧w=w':=by
 obtain⟨u,hu⟩:∃u,qV op=u:=⟨_,rfl⟩;rw[hu];have HU:=hid hu;clear hu
 go_enter Tryz.func304,Tryz.ntmps304
 go_wp2
 all_goals go_ret
 all_goals
  refine⟨?_,rfl⟩;have hu:=HU.out;clear HU;refine zA ?_;rw[←hu];unfold qV;rw[Bool.eq_iff_iff];simp only[beq_iff_eq,decide_eq_true_eq,Bool.or_eq_true] at *
  first|omega|simp_all
theorem yN (op:Int) (w:World):Calls Tryz.prog 305 #[.int .i64 op] w fun e w'=>e=.returned (.bool (qZ op))∧w=w':=by
 obtain⟨u,hu⟩:∃u,qZ op=u:=⟨_,rfl⟩;rw[hu];have HU:=hid hu;clear hu
 go_enter Tryz.func305,Tryz.ntmps305
 go_wp2
 all_goals go_ret
 all_goals
  refine⟨?_,rfl⟩;have hu:=HU.out;clear HU;refine zA ?_;rw[←hu];unfold qZ;rw[Bool.eq_iff_iff];simp only[decide_eq_true_eq] at *
  first|omega|(simp_all;done)|(simp_all;omega)
end Instr
end Go.Proofs.YtdljneclfgneoaaGreatDoor
