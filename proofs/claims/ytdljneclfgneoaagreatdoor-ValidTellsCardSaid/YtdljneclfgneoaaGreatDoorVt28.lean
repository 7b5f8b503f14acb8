import Derived.Test.YtdljneclfgneoaaGreatDoorVt27
import Derived.StillTailTactics
set_option linter.unusedVariables false
set_option linter.ambiguousOpen false
set_option maxRecDepth 100000
set_option maxHeartbeats 8000000
namespace Go.Proofs.YtdljneclfgneoaaGreatDoor
namespace Instr
end Instr
namespace Mod
end Mod
namespace Val
open Go.RowKit Go.Shelf Instr Mod
theorem zCD:∀j:Fin 66,qW.getD j.val 0≤1000:=by decide
theorem zFJ (op:Int):yc op≤1000:=by
 unfold yc
 split
 ·unfold Num.arity
  (repeat' split)<;>omega
 ·unfold vO
  split
  ·exact zCD ⟨op.toNat,by omega⟩
  ·omega
theorem zI5 {W:World} {g:Nat} {hd:List Value} {lab:Value} {j:J} (h:JAt W g hd lab j) (x:Ix) (hv:Hv) (a:Int) (hop:x.op=0) :
  Calls Tryz.prog 248 #[.pointer (some ⟨g,0,none⟩),.agg x.vals,HvV hv,.int .i64 a] W fun e W'=>e=.returned (HvV ⟨0,true⟩)∧JQ g hd lab j W W':=by
 obtain⟨op,res,xa,xb,xn,tags,ta,tc,la,ln,lc,ea,en,ec⟩:=x;obtain⟨n0,d⟩:=hv;simp only at hop;subst hop;have HG:=hid h.lt;obtain⟨W3,hW3⟩:∃W3,W3=((W.alloc (.cells #[.int .i64 0,.int .i64 res,.int .u32 xa,.int .u32 xb,.int .i32 xn,.slice ta tags.length tc,.slice la ln lc,.slice ea en ec] 92)).alloc (.cells #[.int .i64 n0,.bool d] 312)).alloc (.cells #[.int .i64 0,.bool false] 312):=⟨_,rfl⟩;have hb0:Below W.heap.size W W3:=by rw[hW3];exact zC (zC (zG W _) _) _
 have h3:Three W #[.int .i64 0,.int .i64 res,.int .u32 xa,.int .u32 xb,.int .i32 xn,.slice ta tags.length tc,.slice la ln lc,.slice ea en ec] n0 d W3:=by rw[hW3];exact Three.made W _ n0 d
 have hj3:JQ g hd lab j W W3:=⟨h.below hb0,zF.of_below hb0⟩;have HJ:=hid hj3;have H3:=hid h3;have HW3:=hid hW3;have x0:=cell_of_row W3 W.heap.size 0 _ _ _ h3.a;have x1:=cell_of_row W3 W.heap.size 1 _ _ _ h3.a;have x2:=cell_of_row W3 W.heap.size 2 _ _ _ h3.a;have x3:=cell_of_row W3 W.heap.size 3 _ _ _ h3.a;have x4:=cell_of_row W3 W.heap.size 4 _ _ _ h3.a;have x5:=cell_of_row W3 W.heap.size 5 _ _ _ h3.a;have x6:=cell_of_row W3 W.heap.size 6 _ _ _ h3.a;have x7:=cell_of_row W3 W.heap.size 7 _ _ _ h3.a;have b0:=cell_of_row W3 (W.heap.size+1) 0 _ _ _ h3.b;have b1:=cell_of_row W3 (W.heap.size+1) 1 _ _ _ h3.b;have f0:=frozen_of_row W3 (W.heap.size+1) 0 _ _ h3.b;have f1:=frozen_of_row W3 (W.heap.size+1) 1 _ _ h3.b;have r0:=cell_of_row W3 (W.heap.size+1+1) 0 _ _ _ h3.c;have r1:=cell_of_row W3 (W.heap.size+1+1) 1 _ _ _ h3.c;have g0:=frozen_of_row W3 (W.heap.size+1+1) 0 _ _ h3.c;have g1:=frozen_of_row W3 (W.heap.size+1+1) 1 _ _ h3.c;simp at x0 x1 x2 x3 x4 x5 x6 x7 b0 b1 r0 r1;have HE:=hid (fun y z=>zh hj3 h3 h.lt y z);clear h hb0 h3 hj3 hW3;unfold HvV Ix.vals;dsimp only
 go_enter Tryz.func248,Tryz.ntmps248
 go_upto_region 1 with fail
 rw[←HW3.out];clear HW3;go_wp2;obtain⟨q1,q2⟩:=HE.out (.int .i64 0) (.bool true);exact bodyPost_ret (results_cell_row Tryz.results248 _ _ (W.heap.size+1+1) _ _ _ _ rfl q2 Tryz.underlying312 rfl (by kernel_rfl)) rfl ⟨rfl,q1⟩
theorem zJH {W:World} {g:Nat} {hd:List Value} {lab:Value} {j:J} (h:JAt W g hd lab j) (x:Ix) (hv:Hv) (a:Int) (hr:0≤x.res∧x.res≤1) (hh:0≤hv.n∧hv.n≤4000000000000000000) (j1:J) (CL:∀W',JQ g hd lab j W W'→Calls Tryz.prog 182 #[.pointer (some ⟨g,0,none⟩),.slice x.la x.ln x.lc,.int .i64 x.res,.int .i64 x.res,.int .i64 a] W' fun e W2=>e=.returned (.tuple #[])∧JQ g hd lab j1 W' W2) (hop:x.op=2) :
  Calls Tryz.prog 248 #[.pointer (some ⟨g,0,none⟩),.agg x.vals,HvV hv,.int .i64 a] W fun e W'=>e=.returned (HvV ⟨hv.n+x.res,hv.d⟩)∧JQ g hd lab j1 W W':=by
 obtain⟨op,res,xa,xb,xn,tags,ta,tc,la,ln,lc,ea,en,ec⟩:=x;obtain⟨n0,d⟩:=hv;simp only at hop hr CL hh ⊢;subst hop;obtain⟨hh0,hh1⟩:=hh;obtain⟨hr0,hr1⟩:=hr;have HG:=hid h.lt;obtain⟨W3,hW3⟩:∃W3,W3=((W.alloc (.cells #[.int .i64 2,.int .i64 res,.int .u32 xa,.int .u32 xb,.int .i32 xn,.slice ta tags.length tc,.slice la ln lc,.slice ea en ec] 92)).alloc (.cells #[.int .i64 n0,.bool d] 312)).alloc (.cells #[.int .i64 0,.bool false] 312):=⟨_,rfl⟩;have hb0:Below W.heap.size W W3:=by rw[hW3];exact zC (zC (zG W _) _) _
 have h3:Three W #[.int .i64 2,.int .i64 res,.int .u32 xa,.int .u32 xb,.int .i32 xn,.slice ta tags.length tc,.slice la ln lc,.slice ea en ec] n0 d W3:=by rw[hW3];exact Three.made W _ n0 d
 have hj3:JQ g hd lab j W W3:=⟨h.below hb0,zF.of_below hb0⟩;have HJ:=hid hj3;have H3:=hid h3;have HW3:=hid hW3;have x0:=cell_of_row W3 W.heap.size 0 _ _ _ h3.a;have x1:=cell_of_row W3 W.heap.size 1 _ _ _ h3.a;have x2:=cell_of_row W3 W.heap.size 2 _ _ _ h3.a;have x3:=cell_of_row W3 W.heap.size 3 _ _ _ h3.a;have x4:=cell_of_row W3 W.heap.size 4 _ _ _ h3.a;have x5:=cell_of_row W3 W.heap.size 5 _ _ _ h3.a;have x6:=cell_of_row W3 W.heap.size 6 _ _ _ h3.a;have x7:=cell_of_row W3 W.heap.size 7 _ _ _ h3.a;have b0:=cell_of_row W3 (W.heap.size+1) 0 _ _ _ h3.b;have b1:=cell_of_row W3 (W.heap.size+1) 1 _ _ _ h3.b;have f0:=frozen_of_row W3 (W.heap.size+1) 0 _ _ h3.b;have f1:=frozen_of_row W3 (W.heap.size+1) 1 _ _ h3.b;have r0:=cell_of_row W3 (W.heap.size+1+1) 0 _ _ _ h3.c;have r1:=cell_of_row W3 (W.heap.size+1+1) 1 _ _ _ h3.c;have g0:=frozen_of_row W3 (W.heap.size+1+1) 0 _ _ h3.c;have g1:=frozen_of_row W3 (W.heap.size+1+1) 1 _ _ h3.c;simp at x0 x1 x2 x3 x4 x5 x6 x7 b0 b1 r0 r1;have CC:=hid (CL W3 hj3);clear h hb0 h3 hj3 hW3 CL;unfold HvV Ix.vals;dsimp only
 go_enter Tryz.func248,Tryz.ntmps248
 go_upto_region 1 with fail
 rw[←HW3.out];clear HW3
 go_wp2_with fail
 refine CC.out.mono ?_;rintro e w1 ⟨rfl,hq⟩;have h31:=H3.out.save hq.2 HG.out;have hj1:=JQ.trans HJ.out hq
 have HE:=hid (show ∀y z,_ from fun (y:Int) (z:Bool)=>by
   obtain⟨a3,a4⟩:=jO hj1 h31 HG.out y;exact zh a3 a4 HG.out (.int .i64 y) (.bool z))
 clear x0 x1 x2 x3 x4 x5 x6 x7 b0 b1 f0 f1 r0 r1 g0 g1;have x0:=cell_of_row w1 W.heap.size 0 _ _ _ h31.a;have x1:=cell_of_row w1 W.heap.size 1 _ _ _ h31.a;have x2:=cell_of_row w1 W.heap.size 2 _ _ _ h31.a;have x3:=cell_of_row w1 W.heap.size 3 _ _ _ h31.a;have x4:=cell_of_row w1 W.heap.size 4 _ _ _ h31.a;have x5:=cell_of_row w1 W.heap.size 5 _ _ _ h31.a;have x6:=cell_of_row w1 W.heap.size 6 _ _ _ h31.a;have x7:=cell_of_row w1 W.heap.size 7 _ _ _ h31.a;have b0:=cell_of_row w1 (W.heap.size+1) 0 _ _ _ h31.b;have b1:=cell_of_row w1 (W.heap.size+1) 1 _ _ _ h31.b;have f0:=frozen_of_row w1 (W.heap.size+1) 0 _ _ h31.b;have f1:=frozen_of_row w1 (W.heap.size+1) 1 _ _ h31.b;have r0:=cell_of_row w1 (W.heap.size+1+1) 0 _ _ _ h31.c;have r1:=cell_of_row w1 (W.heap.size+1+1) 1 _ _ _ h31.c;have g0:=frozen_of_row w1 (W.heap.size+1+1) 0 _ _ h31.c;have g1:=frozen_of_row w1 (W.heap.size+1+1) 1 _ _ h31.c;simp at x0 x1 x2 x3 x4 x5 x6 x7 b0 b1 r0 r1;clear hq h31 hj1 HJ H3 CC;go_wp2;obtain⟨q1,q2⟩:=HE.out (n0+res) d;exact bodyPost_ret (results_cell_row Tryz.results248 _ _ (W.heap.size+1+1) _ _ _ _ rfl q2 Tryz.underlying312 rfl (by kernel_rfl)) rfl ⟨rfl,q1⟩
theorem zIa {W:World} {g:Nat} {hd:List Value} {lab:Value} {j:J} (h:JAt W g hd lab j) (x:Ix) (hv:Hv) (a:Int) (hr:0≤x.res∧x.res≤1) (hh:0≤hv.n∧hv.n≤4000000000000000000) (j1:J) (CL:∀W',JQ g hd lab j W W'→Calls Tryz.prog 182 #[.pointer (some ⟨g,0,none⟩),.slice x.la x.ln x.lc,.int .i64 0,.int .i64 x.res,.int .i64 a] W' fun e W2=>e=.returned (.tuple #[])∧JQ g hd lab j1 W' W2) (hop:x.op=3) :
  Calls Tryz.prog 248 #[.pointer (some ⟨g,0,none⟩),.agg x.vals,HvV hv,.int .i64 a] W fun e W'=>e=.returned (HvV ⟨hv.n+x.res,hv.d⟩)∧JQ g hd lab j1 W W':=by
 obtain⟨op,res,xa,xb,xn,tags,ta,tc,la,ln,lc,ea,en,ec⟩:=x;obtain⟨n0,d⟩:=hv;simp only at hop hr CL hh ⊢;subst hop;obtain⟨hh0,hh1⟩:=hh;obtain⟨hr0,hr1⟩:=hr;have HG:=hid h.lt;obtain⟨W3,hW3⟩:∃W3,W3=((W.alloc (.cells #[.int .i64 3,.int .i64 res,.int .u32 xa,.int .u32 xb,.int .i32 xn,.slice ta tags.length tc,.slice la ln lc,.slice ea en ec] 92)).alloc (.cells #[.int .i64 n0,.bool d] 312)).alloc (.cells #[.int .i64 0,.bool false] 312):=⟨_,rfl⟩;have hb0:Below W.heap.size W W3:=by rw[hW3];exact zC (zC (zG W _) _) _
 have h3:Three W #[.int .i64 3,.int .i64 res,.int .u32 xa,.int .u32 xb,.int .i32 xn,.slice ta tags.length tc,.slice la ln lc,.slice ea en ec] n0 d W3:=by rw[hW3];exact Three.made W _ n0 d
 have hj3:JQ g hd lab j W W3:=⟨h.below hb0,zF.of_below hb0⟩;have HJ:=hid hj3;have H3:=hid h3;have HW3:=hid hW3;have x0:=cell_of_row W3 W.heap.size 0 _ _ _ h3.a;have x1:=cell_of_row W3 W.heap.size 1 _ _ _ h3.a;have x2:=cell_of_row W3 W.heap.size 2 _ _ _ h3.a;have x3:=cell_of_row W3 W.heap.size 3 _ _ _ h3.a;have x4:=cell_of_row W3 W.heap.size 4 _ _ _ h3.a;have x5:=cell_of_row W3 W.heap.size 5 _ _ _ h3.a;have x6:=cell_of_row W3 W.heap.size 6 _ _ _ h3.a;have x7:=cell_of_row W3 W.heap.size 7 _ _ _ h3.a;have b0:=cell_of_row W3 (W.heap.size+1) 0 _ _ _ h3.b;have b1:=cell_of_row W3 (W.heap.size+1) 1 _ _ _ h3.b;have f0:=frozen_of_row W3 (W.heap.size+1) 0 _ _ h3.b;have f1:=frozen_of_row W3 (W.heap.size+1) 1 _ _ h3.b;have r0:=cell_of_row W3 (W.heap.size+1+1) 0 _ _ _ h3.c;have r1:=cell_of_row W3 (W.heap.size+1+1) 1 _ _ _ h3.c;have g0:=frozen_of_row W3 (W.heap.size+1+1) 0 _ _ h3.c;have g1:=frozen_of_row W3 (W.heap.size+1+1) 1 _ _ h3.c;simp at x0 x1 x2 x3 x4 x5 x6 x7 b0 b1 r0 r1;have CC:=hid (CL W3 hj3);clear h hb0 h3 hj3 hW3 CL;unfold HvV Ix.vals;dsimp only
 go_enter Tryz.func248,Tryz.ntmps248
 go_upto_region 1 with fail
 rw[←HW3.out];clear HW3
 go_wp2_with fail
 refine CC.out.mono ?_;rintro e w1 ⟨rfl,hq⟩;have h31:=H3.out.save hq.2 HG.out;have hj1:=JQ.trans HJ.out hq
 have HE:=hid (show ∀y z,_ from fun (y:Int) (z:Bool)=>by
   obtain⟨a3,a4⟩:=jO hj1 h31 HG.out y;exact zh a3 a4 HG.out (.int .i64 y) (.bool z))
 clear x0 x1 x2 x3 x4 x5 x6 x7 b0 b1 f0 f1 r0 r1 g0 g1;have x0:=cell_of_row w1 W.heap.size 0 _ _ _ h31.a;have x1:=cell_of_row w1 W.heap.size 1 _ _ _ h31.a;have x2:=cell_of_row w1 W.heap.size 2 _ _ _ h31.a;have x3:=cell_of_row w1 W.heap.size 3 _ _ _ h31.a;have x4:=cell_of_row w1 W.heap.size 4 _ _ _ h31.a;have x5:=cell_of_row w1 W.heap.size 5 _ _ _ h31.a;have x6:=cell_of_row w1 W.heap.size 6 _ _ _ h31.a;have x7:=cell_of_row w1 W.heap.size 7 _ _ _ h31.a;have b0:=cell_of_row w1 (W.heap.size+1) 0 _ _ _ h31.b;have b1:=cell_of_row w1 (W.heap.size+1) 1 _ _ _ h31.b;have f0:=frozen_of_row w1 (W.heap.size+1) 0 _ _ h31.b;have f1:=frozen_of_row w1 (W.heap.size+1) 1 _ _ h31.b;have r0:=cell_of_row w1 (W.heap.size+1+1) 0 _ _ _ h31.c;have r1:=cell_of_row w1 (W.heap.size+1+1) 1 _ _ _ h31.c;have g0:=frozen_of_row w1 (W.heap.size+1+1) 0 _ _ h31.c;have g1:=frozen_of_row w1 (W.heap.size+1+1) 1 _ _ h31.c;simp at x0 x1 x2 x3 x4 x5 x6 x7 b0 b1 r0 r1;clear hq h31 hj1 HJ H3 CC;go_wp2;obtain⟨q1,q2⟩:=HE.out (n0+res) d;exact bodyPost_ret (results_cell_row Tryz.results248 _ _ (W.heap.size+1+1) _ _ _ _ rfl q2 Tryz.underlying312 rfl (by kernel_rfl)) rfl ⟨rfl,q1⟩
theorem ZQ {W:World} {g:Nat} {hd:List Value} {lab:Value} {j:J} (h:JAt W g hd lab j) (x:Ix) (hv:Hv) (a:Int) (q:Hv×J) (CJ:∀W',JQ g hd lab j W W'→Calls Tryz.prog 290 #[.pointer (some ⟨g,0,none⟩),.agg x.vals,HvV hv,.int .i64 a] W' fun e W2=>e=.returned (HvV q.1)∧JQ g hd lab q.2 W' W2) (hop:x.op=12∨x.op=13∨x.op=14∨x.op=15) :
  Calls Tryz.prog 248 #[.pointer (some ⟨g,0,none⟩),.agg x.vals,HvV hv,.int .i64 a] W fun e W'=>e=.returned (HvV q.1)∧JQ g hd lab q.2 W W':=by
 obtain⟨op,res,xa,xb,xn,tags,ta,tc,la,ln,lc,ea,en,ec⟩:=x;obtain⟨n0,d⟩:=hv;obtain⟨⟨n1,d1⟩,j1⟩:=q;unfold Ix.vals HvV at CJ;simp only at hop CJ ⊢;have HG:=hid h.lt;obtain⟨W3,hW3⟩:∃W3,W3=((W.alloc (.cells #[.int .i64 op,.int .i64 res,.int .u32 xa,.int .u32 xb,.int .i32 xn,.slice ta tags.length tc,.slice la ln lc,.slice ea en ec] 92)).alloc (.cells #[.int .i64 n0,.bool d] 312)).alloc (.cells #[.int .i64 0,.bool false] 312):=⟨_,rfl⟩;have hb0:Below W.heap.size W W3:=by rw[hW3];exact zC (zC (zG W _) _) _
 have h3:Three W #[.int .i64 op,.int .i64 res,.int .u32 xa,.int .u32 xb,.int .i32 xn,.slice ta tags.length tc,.slice la ln lc,.slice ea en ec] n0 d W3:=by rw[hW3];exact Three.made W _ n0 d
 have hj3:JQ g hd lab j W W3:=⟨h.below hb0,zF.of_below hb0⟩;have HJ:=hid hj3;have H3:=hid h3;have HW3:=hid hW3;have x0:=cell_of_row W3 W.heap.size 0 _ _ _ h3.a;have x1:=cell_of_row W3 W.heap.size 1 _ _ _ h3.a;have x2:=cell_of_row W3 W.heap.size 2 _ _ _ h3.a;have x3:=cell_of_row W3 W.heap.size 3 _ _ _ h3.a;have x4:=cell_of_row W3 W.heap.size 4 _ _ _ h3.a;have x5:=cell_of_row W3 W.heap.size 5 _ _ _ h3.a;have x6:=cell_of_row W3 W.heap.size 6 _ _ _ h3.a;have x7:=cell_of_row W3 W.heap.size 7 _ _ _ h3.a;have b0:=cell_of_row W3 (W.heap.size+1) 0 _ _ _ h3.b;have b1:=cell_of_row W3 (W.heap.size+1) 1 _ _ _ h3.b;have f0:=frozen_of_row W3 (W.heap.size+1) 0 _ _ h3.b;have f1:=frozen_of_row W3 (W.heap.size+1) 1 _ _ h3.b;have r0:=cell_of_row W3 (W.heap.size+1+1) 0 _ _ _ h3.c;have r1:=cell_of_row W3 (W.heap.size+1+1) 1 _ _ _ h3.c;have g0:=frozen_of_row W3 (W.heap.size+1+1) 0 _ _ h3.c;have g1:=frozen_of_row W3 (W.heap.size+1+1) 1 _ _ h3.c;simp at x0 x1 x2 x3 x4 x5 x6 x7 b0 b1 r0 r1;have CC:=hid (CJ W3 hj3);have HE:=hid (fun (w1:World) (hq:JQ g hd lab j1 W3 w1)=>(show Three W #[.int .i64 op,.int .i64 res,.int .u32 xa,.int .u32 xb,.int .i32 xn,.slice ta tags.length tc,.slice la ln lc,.slice ea en ec] n0 d w1∧∀y z,_ from ⟨h3.save hq.2 h.lt,fun y z=>zh (JQ.trans hj3 hq) (h3.save hq.2 h.lt) h.lt y z⟩));clear h hb0 h3 hj3 hW3 CJ HJ H3;unfold HvV Ix.vals;dsimp only
 rcases hop with rfl|rfl|rfl|rfl
 all_goals
  go_enter Tryz.func248,Tryz.ntmps248
  go_upto_region 1 with fail
  rw[←HW3.out];clear HW3
  go_wp2_with fail
  refine CC.out.mono ?_;rintro e w1 ⟨rfl,hq⟩;obtain⟨h31,hend⟩:=HE.out _ hq;obtain⟨q1,q2⟩:=hend (.int .i64 n1) (.bool d1);have Q1:=hid q1;have Q2:=hid q2;have r0:=cell_of_row w1 (W.heap.size+1+1) 0 _ _ _ h31.c;have r1:=cell_of_row w1 (W.heap.size+1+1) 1 _ _ _ h31.c;have g0:=frozen_of_row w1 (W.heap.size+1+1) 0 _ _ h31.c;have g1:=frozen_of_row w1 (W.heap.size+1+1) 1 _ _ h31.c;simp at r0 r1;clear hq h31 hend q1 q2 CC HE x0 x1 x2 x3 x4 x5 x6 x7 b0 b1 f0 f1;go_wp2;exact bodyPost_ret (results_cell_row Tryz.results248 _ _ (W.heap.size+1+1) _ _ _ _ rfl Q2.out Tryz.underlying312 rfl (by kernel_rfl)) rfl ⟨rfl,Q1.out⟩
theorem zEY {W:World} {g:Nat} {hd:List Value} {lab:Value} {j:J} (h:JAt W g hd lab j) (x:Ix) (hv:Hv) (a:Int) (q:Hv×J) (CJ:∀W',JQ g hd lab j W W'→Calls Tryz.prog 291 #[.pointer (some ⟨g,0,none⟩),.agg x.vals,HvV hv,.int .i64 a] W' fun e W2=>e=.returned (HvV q.1)∧JQ g hd lab q.2 W' W2) (hop:x.op=16∨x.op=17) :
  Calls Tryz.prog 248 #[.pointer (some ⟨g,0,none⟩),.agg x.vals,HvV hv,.int .i64 a] W fun e W'=>e=.returned (HvV q.1)∧JQ g hd lab q.2 W W':=by
 obtain⟨op,res,xa,xb,xn,tags,ta,tc,la,ln,lc,ea,en,ec⟩:=x;obtain⟨n0,d⟩:=hv;obtain⟨⟨n1,d1⟩,j1⟩:=q;unfold Ix.vals HvV at CJ;simp only at hop CJ ⊢;have HG:=hid h.lt;obtain⟨W3,hW3⟩:∃W3,W3=((W.alloc (.cells #[.int .i64 op,.int .i64 res,.int .u32 xa,.int .u32 xb,.int .i32 xn,.slice ta tags.length tc,.slice la ln lc,.slice ea en ec] 92)).alloc (.cells #[.int .i64 n0,.bool d] 312)).alloc (.cells #[.int .i64 0,.bool false] 312):=⟨_,rfl⟩;have hb0:Below W.heap.size W W3:=by rw[hW3];exact zC (zC (zG W _) _) _
 have h3:Three W #[.int .i64 op,.int .i64 res,.int .u32 xa,.int .u32 xb,.int .i32 xn,.slice ta tags.length tc,.slice la ln lc,.slice ea en ec] n0 d W3:=by rw[hW3];exact Three.made W _ n0 d
 have hj3:JQ g hd lab j W W3:=⟨h.below hb0,zF.of_below hb0⟩;have HJ:=hid hj3;have H3:=hid h3;have HW3:=hid hW3;have x0:=cell_of_row W3 W.heap.size 0 _ _ _ h3.a;have x1:=cell_of_row W3 W.heap.size 1 _ _ _ h3.a;have x2:=cell_of_row W3 W.heap.size 2 _ _ _ h3.a;have x3:=cell_of_row W3 W.heap.size 3 _ _ _ h3.a;have x4:=cell_of_row W3 W.heap.size 4 _ _ _ h3.a;have x5:=cell_of_row W3 W.heap.size 5 _ _ _ h3.a;have x6:=cell_of_row W3 W.heap.size 6 _ _ _ h3.a;have x7:=cell_of_row W3 W.heap.size 7 _ _ _ h3.a;have b0:=cell_of_row W3 (W.heap.size+1) 0 _ _ _ h3.b;have b1:=cell_of_row W3 (W.heap.size+1) 1 _ _ _ h3.b;have f0:=frozen_of_row W3 (W.heap.size+1) 0 _ _ h3.b;have f1:=frozen_of_row W3 (W.heap.size+1) 1 _ _ h3.b;have r0:=cell_of_row W3 (W.heap.size+1+1) 0 _ _ _ h3.c;have r1:=cell_of_row W3 (W.heap.size+1+1) 1 _ _ _ h3.c;have g0:=frozen_of_row W3 (W.heap.size+1+1) 0 _ _ h3.c;have g1:=frozen_of_row W3 (W.heap.size+1+1) 1 _ _ h3.c;simp at x0 x1 x2 x3 x4 x5 x6 x7 b0 b1 r0 r1;have CC:=hid (CJ W3 hj3);have HE:=hid (fun (w1:World) (hq:JQ g hd lab j1 W3 w1)=>(show Three W #[.int .i64 op,.int .i64 res,.int .u32 xa,.int .u32 xb,.int .i32 xn,.slice ta tags.length tc,.slice la ln lc,.slice ea en ec] n0 d w1∧∀y z,_ from ⟨h3.save hq.2 h.lt,fun y z=>zh (JQ.trans hj3 hq) (h3.save hq.2 h.lt) h.lt y z⟩));clear h hb0 h3 hj3 hW3 CJ HJ H3;unfold HvV Ix.vals;dsimp only
 rcases hop with rfl|rfl
 all_goals
  go_enter Tryz.func248,Tryz.ntmps248
  go_upto_region 1 with fail
  rw[←HW3.out];clear HW3
  go_wp2_with fail
  refine CC.out.mono ?_;rintro e w1 ⟨rfl,hq⟩;obtain⟨h31,hend⟩:=HE.out _ hq;obtain⟨q1,q2⟩:=hend (.int .i64 n1) (.bool d1);have Q1:=hid q1;have Q2:=hid q2;have r0:=cell_of_row w1 (W.heap.size+1+1) 0 _ _ _ h31.c;have r1:=cell_of_row w1 (W.heap.size+1+1) 1 _ _ _ h31.c;have g0:=frozen_of_row w1 (W.heap.size+1+1) 0 _ _ h31.c;have g1:=frozen_of_row w1 (W.heap.size+1+1) 1 _ _ h31.c;simp at r0 r1;clear hq h31 hend q1 q2 CC HE x0 x1 x2 x3 x4 x5 x6 x7 b0 b1 f0 f1;go_wp2;exact bodyPost_ret (results_cell_row Tryz.results248 _ _ (W.heap.size+1+1) _ _ _ _ rfl Q2.out Tryz.underlying312 rfl (by kernel_rfl)) rfl ⟨rfl,Q1.out⟩
theorem zFM {W:World} {g:Nat} {hd:List Value} {lab:Value} {j:J} (h:JAt W g hd lab j) (x:Ix) (hv:Hv) (a:Int) (hh:0≤hv.n∧hv.n≤4000000000000000000) (j1:J) (CN:∀W',JQ g hd lab j W W'→Calls Tryz.prog 292 #[.pointer (some ⟨g,0,none⟩),.agg x.vals,.int .i64 a] W' fun e W2=>e=.returned (.tuple #[])∧JQ g hd lab j1 W' W2) (hop:x.op≠0∧x.op≠2∧x.op≠3∧x.op≠4∧x.op≠12∧x.op≠13∧x.op≠14∧x.op≠15∧x.op≠16∧x.op≠17) :
  Calls Tryz.prog 248 #[.pointer (some ⟨g,0,none⟩),.agg x.vals,HvV hv,.int .i64 a] W fun e W'=>e=.returned (HvV (yX (yg x.op) (zO (yc x.op) a (hv,j1))).1)∧JQ g hd lab (yX (yg x.op) (zO (yc x.op) a (hv,j1))).2 W W':=by
 obtain⟨op,res,xa,xb,xn,tags,ta,tc,la,ln,lc,ea,en,ec⟩:=x;obtain⟨n0,d⟩:=hv;have htk:=vW op;have htk2:=zFJ op;have hlv:=vZ op;unfold Ix.vals at CN;simp only at hop CN hh htk hlv ⊢;have CS:=hid (fun w=>zBi op w);have CP:=hid (fun (W':World) (hj:JAt W' g hd lab j1)=>qc hj ⟨n0,d⟩ (yc op) a (by omega) (by dsimp only;omega))
 generalize yc op=tk at *
 generalize yg op=lv at *
 generalize Jt op=kn at *
 obtain⟨P1,hP1⟩:∃P,zO tk a (⟨n0,d⟩,j1)=P:=⟨_,rfl⟩;obtain⟨⟨n1,d1⟩,j2⟩:=P1
 have hn1:0≤n1∧n1≤4000000000000000000:=by
  have:=congrArg (fun q:Hv×J=>q.1.n) hP1;simp only[zO] at this;omega
 rw[hP1] at CP ⊢;unfold yX;unfold HvV at CP;dsimp only at CP ⊢;have HG:=hid h.lt;obtain⟨W3,hW3⟩:∃W3,W3=((W.alloc (.cells #[.int .i64 op,.int .i64 res,.int .u32 xa,.int .u32 xb,.int .i32 xn,.slice ta tags.length tc,.slice la ln lc,.slice ea en ec] 92)).alloc (.cells #[.int .i64 n0,.bool d] 312)).alloc (.cells #[.int .i64 0,.bool false] 312):=⟨_,rfl⟩;have hb0:Below W.heap.size W W3:=by rw[hW3];exact zC (zC (zG W _) _) _
 have h3:Three W #[.int .i64 op,.int .i64 res,.int .u32 xa,.int .u32 xb,.int .i32 xn,.slice ta tags.length tc,.slice la ln lc,.slice ea en ec] n0 d W3:=by rw[hW3];exact Three.made W _ n0 d
 have hj3:JQ g hd lab j W W3:=⟨h.below hb0,zF.of_below hb0⟩;have HJ:=hid hj3;have H3:=hid h3;have HW3:=hid hW3;have x0:=cell_of_row W3 W.heap.size 0 _ _ _ h3.a;have x1:=cell_of_row W3 W.heap.size 1 _ _ _ h3.a;have x2:=cell_of_row W3 W.heap.size 2 _ _ _ h3.a;have x3:=cell_of_row W3 W.heap.size 3 _ _ _ h3.a;have x4:=cell_of_row W3 W.heap.size 4 _ _ _ h3.a;have x5:=cell_of_row W3 W.heap.size 5 _ _ _ h3.a;have x6:=cell_of_row W3 W.heap.size 6 _ _ _ h3.a;have x7:=cell_of_row W3 W.heap.size 7 _ _ _ h3.a;have b0:=cell_of_row W3 (W.heap.size+1) 0 _ _ _ h3.b;have b1:=cell_of_row W3 (W.heap.size+1) 1 _ _ _ h3.b;have f0:=frozen_of_row W3 (W.heap.size+1) 0 _ _ h3.b;have f1:=frozen_of_row W3 (W.heap.size+1) 1 _ _ h3.b;have r0:=cell_of_row W3 (W.heap.size+1+1) 0 _ _ _ h3.c;have r1:=cell_of_row W3 (W.heap.size+1+1) 1 _ _ _ h3.c;have g0:=frozen_of_row W3 (W.heap.size+1+1) 0 _ _ h3.c;have g1:=frozen_of_row W3 (W.heap.size+1+1) 1 _ _ h3.c;simp at x0 x1 x2 x3 x4 x5 x6 x7 b0 b1 r0 r1;have CC:=hid (CN W3 hj3);have e0:(op==0)=false:=by simp[hop.1]
 have e2:(op==2)=false:=by simp[hop.2.1]
 have e3:(op==3)=false:=by simp[hop.2.2.1]
 have e4:(op==4)=false:=by simp[hop.2.2.2.1]
 have e12:(op==12)=false:=by simp[hop.2.2.2.2.1]
 have e13:(op==13)=false:=by simp[hop.2.2.2.2.2.1]
 have e14:(op==14)=false:=by simp[hop.2.2.2.2.2.2.1]
 have e15:(op==15)=false:=by simp[hop.2.2.2.2.2.2.2.1]
 have e16:(op==16)=false:=by simp[hop.2.2.2.2.2.2.2.2.1]
 have e17:(op==17)=false:=by simp[hop.2.2.2.2.2.2.2.2.2]
 obtain⟨u0,u1⟩:=hn1;obtain⟨v0,v1⟩:=hlv;clear h hb0 h3 hj3 hW3 CN hP1 hop hh htk htk2;unfold HvV Ix.vals;dsimp only
 go_enter Tryz.func248,Tryz.ntmps248
 go_upto_region 1 with fail
 rw[←HW3.out];clear HW3
 go_wp2_with fail
 refine CC.out.mono ?_;rintro e w1 ⟨rfl,hq⟩;have H31:=hid (H3.out.save hq.2 HG.out);have HJ1:=hid (JQ.trans HJ.out hq);clear x0 x1 x2 x3 x4 x5 x6 x7 b0 b1 f0 f1 r0 r1 g0 g1;have x0:=cell_of_row w1 W.heap.size 0 _ _ _ H31.out.a;have x1:=cell_of_row w1 W.heap.size 1 _ _ _ H31.out.a;have x2:=cell_of_row w1 W.heap.size 2 _ _ _ H31.out.a;have x3:=cell_of_row w1 W.heap.size 3 _ _ _ H31.out.a;have x4:=cell_of_row w1 W.heap.size 4 _ _ _ H31.out.a;have x5:=cell_of_row w1 W.heap.size 5 _ _ _ H31.out.a;have x6:=cell_of_row w1 W.heap.size 6 _ _ _ H31.out.a;have x7:=cell_of_row w1 W.heap.size 7 _ _ _ H31.out.a;have b0:=cell_of_row w1 (W.heap.size+1) 0 _ _ _ H31.out.b;have b1:=cell_of_row w1 (W.heap.size+1) 1 _ _ _ H31.out.b;have f0:=frozen_of_row w1 (W.heap.size+1) 0 _ _ H31.out.b;have f1:=frozen_of_row w1 (W.heap.size+1) 1 _ _ H31.out.b;have r0:=cell_of_row w1 (W.heap.size+1+1) 0 _ _ _ H31.out.c;have r1:=cell_of_row w1 (W.heap.size+1+1) 1 _ _ _ H31.out.c;have g0:=frozen_of_row w1 (W.heap.size+1+1) 0 _ _ H31.out.c;have g1:=frozen_of_row w1 (W.heap.size+1+1) 1 _ _ H31.out.c;simp at x0 x1 x2 x3 x4 x5 x6 x7 b0 b1 r0 r1;have C2:=hid (CS.out w1);have C3:=hid (CP.out w1 HJ1.out.1);clear hq HJ H3 CC CS CP
 go_wp2_with fail
 refine C2.out.mono ?_;rintro e w2 ⟨rfl,rfl⟩
 go_wp2_with fail
 refine C3.out.mono ?_;rintro e w2 ⟨rfl,hq⟩;have h32:=H31.out.save hq.2 HG.out;have hj2:=JQ.trans HJ1.out hq
 have HE:=hid (show ∀y,_ from fun (y:Int)=>by
   obtain⟨a1,a2⟩:=yS hj2 h32 HG.out n1 d1;obtain⟨a3,a4⟩:=jO a1 a2 HG.out y;exact zh a3 a4 HG.out (.int .i64 y) (.bool d1))
 clear x0 x1 x2 x3 x4 x5 x6 x7 b0 b1 f0 f1 r0 r1 g0 g1;have x0:=cell_of_row w2 W.heap.size 0 _ _ _ h32.a;have x1:=cell_of_row w2 W.heap.size 1 _ _ _ h32.a;have x2:=cell_of_row w2 W.heap.size 2 _ _ _ h32.a;have x3:=cell_of_row w2 W.heap.size 3 _ _ _ h32.a;have x4:=cell_of_row w2 W.heap.size 4 _ _ _ h32.a;have x5:=cell_of_row w2 W.heap.size 5 _ _ _ h32.a;have x6:=cell_of_row w2 W.heap.size 6 _ _ _ h32.a;have x7:=cell_of_row w2 W.heap.size 7 _ _ _ h32.a;have b0:=cell_of_row w2 (W.heap.size+1) 0 _ _ _ h32.b;have b1:=cell_of_row w2 (W.heap.size+1) 1 _ _ _ h32.b;have f0:=frozen_of_row w2 (W.heap.size+1) 0 _ _ h32.b;have f1:=frozen_of_row w2 (W.heap.size+1) 1 _ _ h32.b;have r0:=cell_of_row w2 (W.heap.size+1+1) 0 _ _ _ h32.c;have r1:=cell_of_row w2 (W.heap.size+1+1) 1 _ _ _ h32.c;have g0:=frozen_of_row w2 (W.heap.size+1+1) 0 _ _ h32.c;have g1:=frozen_of_row w2 (W.heap.size+1+1) 1 _ _ h32.c;simp at x0 x1 x2 x3 x4 x5 x6 x7 b0 b1 r0 r1;clear hq h32 hj2 C2 C3 H31 HJ1;go_wp2;obtain⟨q1,q2⟩:=HE.out (n1+lv);exact bodyPost_ret (results_cell_row Tryz.results248 _ _ (W.heap.size+1+1) _ _ _ _ rfl q2 Tryz.underlying312 rfl (by kernel_rfl)) rfl ⟨rfl,q1⟩
theorem zIe {W:World} {g:Nat} {hd:List Value} {lab:Value} {j:J} (h:JAt W g hd lab j) (x:Ix) (hv:Hv) (a:Int) (hr:0≤x.res∧x.res≤1) (hh:0≤hv.n∧hv.n≤4000000000000000000) (LJ EJ:J→J) (CL:∀W' j',JQ g hd lab j' W W'→j'.e=0→j'=(zO 1 a (hv,j)).2→Calls Tryz.prog 182 #[.pointer (some ⟨g,0,none⟩),.slice x.la x.ln x.lc,.int .i64 x.res,.int .i64 x.res,.int .i64 a] W' fun e W2=>e=.returned (.tuple #[])∧JQ g hd lab (LJ j') W' W2) (CE:∀W' j',JQ g hd lab j' W W'→j'.e=0→(j'=(zO 1 a (hv,j)).2∨j'=LJ (zO 1 a (hv,j)).2)→Calls Tryz.prog 182 #[.pointer (some ⟨g,0,none⟩),.slice x.ea x.en x.ec,.int .i64 x.res,.int .i64 x.res,.int .i64 a] W' fun e W2=>e=.returned (.tuple #[])∧JQ g hd lab (EJ j') W' W2) (hop:x.op=4) :
  Calls Tryz.prog 248 #[.pointer (some ⟨g,0,none⟩),.agg x.vals,HvV hv,.int .i64 a] W fun e W'=>e=.returned (HvV (ifJ x.res a (fun _=>LJ) (fun _=>EJ) (hv,j)).1)∧JQ g hd lab (ifJ x.res a (fun _=>LJ) (fun _=>EJ) (hv,j)).2 W W':=by
 obtain⟨op,res,xa,xb,xn,tags,ta,tc,la,ln,lc,ea,en,ec⟩:=x;obtain⟨n0,d⟩:=hv;simp only at hop hr CL CE hh ⊢;subst hop;have CP:=hid (fun (W':World) (hj:JAt W' g hd lab j)=>qc hj ⟨n0,d⟩ 1 a (by omega) (by dsimp only;omega));unfold ifJ yX;dsimp only;obtain⟨P1,hP1⟩:∃P,zO 1 a (⟨n0,d⟩,j)=P:=⟨_,rfl⟩;obtain⟨⟨n1,d1⟩,j1⟩:=P1
 have hn1:0≤n1∧n1≤4000000000000000000:=by
  have:=congrArg (fun q:Hv×J=>q.1.n) hP1;simp only[zO] at this;omega
 rw[hP1] at CP CL CE ⊢;dsimp only at CP CL CE ⊢;obtain⟨hh0,hh1⟩:=hh;obtain⟨hr0,hr1⟩:=hr;obtain⟨u0,u1⟩:=hn1;have HG:=hid h.lt;obtain⟨W3,hW3⟩:∃W3,W3=((W.alloc (.cells #[.int .i64 4,.int .i64 res,.int .u32 xa,.int .u32 xb,.int .i32 xn,.slice ta tags.length tc,.slice la ln lc,.slice ea en ec] 92)).alloc (.cells #[.int .i64 n0,.bool d] 312)).alloc (.cells #[.int .i64 0,.bool false] 312):=⟨_,rfl⟩;have hb0:Below W.heap.size W W3:=by rw[hW3];exact zC (zC (zG W _) _) _
 have h3:Three W #[.int .i64 4,.int .i64 res,.int .u32 xa,.int .u32 xb,.int .i32 xn,.slice ta tags.length tc,.slice la ln lc,.slice ea en ec] n0 d W3:=by rw[hW3];exact Three.made W _ n0 d
 have hj3:JQ g hd lab j W W3:=⟨h.below hb0,zF.of_below hb0⟩;have HJ:=hid hj3;have H3:=hid h3;have HW3:=hid hW3;have x0:=cell_of_row W3 W.heap.size 0 _ _ _ h3.a;have x1:=cell_of_row W3 W.heap.size 1 _ _ _ h3.a;have x2:=cell_of_row W3 W.heap.size 2 _ _ _ h3.a;have x3:=cell_of_row W3 W.heap.size 3 _ _ _ h3.a;have x4:=cell_of_row W3 W.heap.size 4 _ _ _ h3.a;have x5:=cell_of_row W3 W.heap.size 5 _ _ _ h3.a;have x6:=cell_of_row W3 W.heap.size 6 _ _ _ h3.a;have x7:=cell_of_row W3 W.heap.size 7 _ _ _ h3.a;have b0:=cell_of_row W3 (W.heap.size+1) 0 _ _ _ h3.b;have b1:=cell_of_row W3 (W.heap.size+1) 1 _ _ _ h3.b;have f0:=frozen_of_row W3 (W.heap.size+1) 0 _ _ h3.b;have f1:=frozen_of_row W3 (W.heap.size+1) 1 _ _ h3.b;have r0:=cell_of_row W3 (W.heap.size+1+1) 0 _ _ _ h3.c;have r1:=cell_of_row W3 (W.heap.size+1+1) 1 _ _ _ h3.c;have g0:=frozen_of_row W3 (W.heap.size+1+1) 0 _ _ h3.c;have g1:=frozen_of_row W3 (W.heap.size+1+1) 1 _ _ h3.c;simp at x0 x1 x2 x3 x4 x5 x6 x7 b0 b1 r0 r1;have CC:=hid (CP.out W3 hj3.1);have HCL:=hid CL;have HCE:=hid CE;unfold HvV at CC;dsimp only at CC;clear h hb0 h3 hj3 hW3 CL CE CP hP1;unfold HvV Ix.vals;dsimp only
 by_cases he1:j1.e=0
 ·rw[if_pos he1]
  obtain⟨j2,hj2⟩:∃j2,LJ j1=j2:=⟨_,rfl⟩;rw[hj2]
  by_cases he2:j2.e=0
  ·rw[if_pos he2]
   have HE1:=hid he1;have HE2:=hid he2;have HJ2:=hid hj2;clear he1 he2 hj2
   go_enter Tryz.func248,Tryz.ntmps248
   go_upto_region 1 with fail
   rw[←HW3.out];clear HW3
   go_wp2_with fail
   refine CC.out.mono ?_;rintro e w1 ⟨rfl,hq⟩;have hs1:=yS (JQ.trans HJ.out hq) (H3.out.save hq.2 HG.out) HG.out n1 d1;clear x0 x1 x2 x3 x4 x5 x6 x7 b0 b1 f0 f1 r0 r1 g0 g1;have f0:=frozen_of_row w1 (W.heap.size+1) 0 _ _ (H3.out.save hq.2 HG.out).b;have f1:=frozen_of_row w1 (W.heap.size+1) 1 _ _ (H3.out.save hq.2 HG.out).b;have b0:=cell_of_row w1 (W.heap.size+1) 0 _ _ _ (H3.out.save hq.2 HG.out).b;have b1:=cell_of_row w1 (W.heap.size+1) 1 _ _ _ (H3.out.save hq.2 HG.out).b;simp at b0 b1
   go_upto_region 14 with fail
   obtain⟨W4,hW4⟩:∃W4,W4=((w1.setCell ⟨W.heap.size+1,0,none⟩ (.int .i64 n1)).setCell ⟨W.heap.size+1,1,none⟩ (.bool d1)):=⟨_,rfl⟩;rw[←hW4] at hs1 ⊢;have H4:=hid hs1.2;have HJ4:=hid hs1.1;have c16:=hs1.1.1.c.2.2.1;clear f0 f1 b0 b1 hq hW4 hs1 CC HJ H3;have C1:=hid (HCL.out W4 j1 HJ4.out HE1.out rfl);rw[HJ2.out] at C1;rw[HE1.out] at c16;have x0:=cell_of_row W4 W.heap.size 0 _ _ _ H4.out.a;have x1:=cell_of_row W4 W.heap.size 1 _ _ _ H4.out.a;have x2:=cell_of_row W4 W.heap.size 2 _ _ _ H4.out.a;have x3:=cell_of_row W4 W.heap.size 3 _ _ _ H4.out.a;have x4:=cell_of_row W4 W.heap.size 4 _ _ _ H4.out.a;have x5:=cell_of_row W4 W.heap.size 5 _ _ _ H4.out.a;have x6:=cell_of_row W4 W.heap.size 6 _ _ _ H4.out.a;have x7:=cell_of_row W4 W.heap.size 7 _ _ _ H4.out.a;have b0:=cell_of_row W4 (W.heap.size+1) 0 _ _ _ H4.out.b;have b1:=cell_of_row W4 (W.heap.size+1) 1 _ _ _ H4.out.b;have f0:=frozen_of_row W4 (W.heap.size+1) 0 _ _ H4.out.b;have f1:=frozen_of_row W4 (W.heap.size+1) 1 _ _ H4.out.b;have r0:=cell_of_row W4 (W.heap.size+1+1) 0 _ _ _ H4.out.c;have r1:=cell_of_row W4 (W.heap.size+1+1) 1 _ _ _ H4.out.c;have g0:=frozen_of_row W4 (W.heap.size+1+1) 0 _ _ H4.out.c;have g1:=frozen_of_row W4 (W.heap.size+1+1) 1 _ _ H4.out.c;simp at x0 x1 x2 x3 x4 x5 x6 x7 b0 b1 r0 r1
   go_wp2_with fail
   refine C1.out.mono ?_;rintro e w5 ⟨rfl,hq⟩;have H5:=hid (H4.out.save hq.2 HG.out);have HJ5:=hid (JQ.trans HJ4.out hq);have C2:=hid (HCE.out w5 j2 HJ5.out HE2.out (.inr HJ2.out.symm));clear x0 x1 x2 x3 x4 x5 x6 x7 b0 b1 f0 f1 r0 r1 g0 g1;clear c16 C1 hq H4 HJ4 HCL HCE;have c16:=HJ5.out.1.c.2.2.1;rw[HE2.out] at c16;have x0:=cell_of_row w5 W.heap.size 0 _ _ _ H5.out.a;have x1:=cell_of_row w5 W.heap.size 1 _ _ _ H5.out.a;have x2:=cell_of_row w5 W.heap.size 2 _ _ _ H5.out.a;have x3:=cell_of_row w5 W.heap.size 3 _ _ _ H5.out.a;have x4:=cell_of_row w5 W.heap.size 4 _ _ _ H5.out.a;have x5:=cell_of_row w5 W.heap.size 5 _ _ _ H5.out.a;have x6:=cell_of_row w5 W.heap.size 6 _ _ _ H5.out.a;have x7:=cell_of_row w5 W.heap.size 7 _ _ _ H5.out.a;have b0:=cell_of_row w5 (W.heap.size+1) 0 _ _ _ H5.out.b;have b1:=cell_of_row w5 (W.heap.size+1) 1 _ _ _ H5.out.b;have f0:=frozen_of_row w5 (W.heap.size+1) 0 _ _ H5.out.b;have f1:=frozen_of_row w5 (W.heap.size+1) 1 _ _ H5.out.b;have r0:=cell_of_row w5 (W.heap.size+1+1) 0 _ _ _ H5.out.c;have r1:=cell_of_row w5 (W.heap.size+1+1) 1 _ _ _ H5.out.c;have g0:=frozen_of_row w5 (W.heap.size+1+1) 0 _ _ H5.out.c;have g1:=frozen_of_row w5 (W.heap.size+1+1) 1 _ _ H5.out.c;simp at x0 x1 x2 x3 x4 x5 x6 x7 b0 b1 r0 r1
   go_wp2_with fail
   refine C2.out.mono ?_;rintro e w6 ⟨rfl,hq⟩;have H6:=hid (H5.out.save hq.2 HG.out);have HJ6:=hid (JQ.trans HJ5.out hq);clear x0 x1 x2 x3 x4 x5 x6 x7 b0 b1 f0 f1 r0 r1 g0 g1;clear c16 C2 hq H5 HJ5
   have HE:=hid (show ∀(y:Int),_ from fun (y:Int)=>by
     obtain⟨a3,a4⟩:=jO HJ6.out H6.out HG.out y;exact zh a3 a4 HG.out (.int .i64 y) (.bool d1))
   have x0:=cell_of_row w6 W.heap.size 0 _ _ _ H6.out.a;have x1:=cell_of_row w6 W.heap.size 1 _ _ _ H6.out.a;have x2:=cell_of_row w6 W.heap.size 2 _ _ _ H6.out.a;have x3:=cell_of_row w6 W.heap.size 3 _ _ _ H6.out.a;have x4:=cell_of_row w6 W.heap.size 4 _ _ _ H6.out.a;have x5:=cell_of_row w6 W.heap.size 5 _ _ _ H6.out.a;have x6:=cell_of_row w6 W.heap.size 6 _ _ _ H6.out.a;have x7:=cell_of_row w6 W.heap.size 7 _ _ _ H6.out.a;have b0:=cell_of_row w6 (W.heap.size+1) 0 _ _ _ H6.out.b;have b1:=cell_of_row w6 (W.heap.size+1) 1 _ _ _ H6.out.b;have f0:=frozen_of_row w6 (W.heap.size+1) 0 _ _ H6.out.b;have f1:=frozen_of_row w6 (W.heap.size+1) 1 _ _ H6.out.b;have r0:=cell_of_row w6 (W.heap.size+1+1) 0 _ _ _ H6.out.c;have r1:=cell_of_row w6 (W.heap.size+1+1) 1 _ _ _ H6.out.c;have g0:=frozen_of_row w6 (W.heap.size+1+1) 0 _ _ H6.out.c;have g1:=frozen_of_row w6 (W.heap.size+1+1) 1 _ _ H6.out.c;simp at x0 x1 x2 x3 x4 x5 x6 x7 b0 b1 r0 r1;clear H6 HJ6;go_wp2;obtain⟨q1,q2⟩:=HE.out (n1+res);exact bodyPost_ret (results_cell_row Tryz.results248 _ _ (W.heap.size+1+1) _ _ _ _ rfl q2 Tryz.underlying312 rfl (by kernel_rfl)) rfl ⟨rfl,q1⟩
  ·rw[if_neg he2]
   have HE1:=hid he1;have hef:(j2.e==0)=false:=by simpa using he2
   have HJ2:=hid hj2;clear he1 he2 hj2
   go_enter Tryz.func248,Tryz.ntmps248
   go_upto_region 1 with fail
   rw[←HW3.out];clear HW3
   go_wp2_with fail
   refine CC.out.mono ?_;rintro e w1 ⟨rfl,hq⟩;have hs1:=yS (JQ.trans HJ.out hq) (H3.out.save hq.2 HG.out) HG.out n1 d1;clear x0 x1 x2 x3 x4 x5 x6 x7 b0 b1 f0 f1 r0 r1 g0 g1;have f0:=frozen_of_row w1 (W.heap.size+1) 0 _ _ (H3.out.save hq.2 HG.out).b;have f1:=frozen_of_row w1 (W.heap.size+1) 1 _ _ (H3.out.save hq.2 HG.out).b;have b0:=cell_of_row w1 (W.heap.size+1) 0 _ _ _ (H3.out.save hq.2 HG.out).b;have b1:=cell_of_row w1 (W.heap.size+1) 1 _ _ _ (H3.out.save hq.2 HG.out).b;simp at b0 b1
   go_upto_region 14 with fail
   obtain⟨W4,hW4⟩:∃W4,W4=((w1.setCell ⟨W.heap.size+1,0,none⟩ (.int .i64 n1)).setCell ⟨W.heap.size+1,1,none⟩ (.bool d1)):=⟨_,rfl⟩;rw[←hW4] at hs1 ⊢;have H4:=hid hs1.2;have HJ4:=hid hs1.1;have c16:=hs1.1.1.c.2.2.1;clear f0 f1 b0 b1 hq hW4 hs1 CC HJ H3;have C1:=hid (HCL.out W4 j1 HJ4.out HE1.out rfl);rw[HJ2.out] at C1;rw[HE1.out] at c16;have x0:=cell_of_row W4 W.heap.size 0 _ _ _ H4.out.a;have x1:=cell_of_row W4 W.heap.size 1 _ _ _ H4.out.a;have x2:=cell_of_row W4 W.heap.size 2 _ _ _ H4.out.a;have x3:=cell_of_row W4 W.heap.size 3 _ _ _ H4.out.a;have x4:=cell_of_row W4 W.heap.size 4 _ _ _ H4.out.a;have x5:=cell_of_row W4 W.heap.size 5 _ _ _ H4.out.a;have x6:=cell_of_row W4 W.heap.size 6 _ _ _ H4.out.a;have x7:=cell_of_row W4 W.heap.size 7 _ _ _ H4.out.a;have b0:=cell_of_row W4 (W.heap.size+1) 0 _ _ _ H4.out.b;have b1:=cell_of_row W4 (W.heap.size+1) 1 _ _ _ H4.out.b;have f0:=frozen_of_row W4 (W.heap.size+1) 0 _ _ H4.out.b;have f1:=frozen_of_row W4 (W.heap.size+1) 1 _ _ H4.out.b;have r0:=cell_of_row W4 (W.heap.size+1+1) 0 _ _ _ H4.out.c;have r1:=cell_of_row W4 (W.heap.size+1+1) 1 _ _ _ H4.out.c;have g0:=frozen_of_row W4 (W.heap.size+1+1) 0 _ _ H4.out.c;have g1:=frozen_of_row W4 (W.heap.size+1+1) 1 _ _ H4.out.c;simp at x0 x1 x2 x3 x4 x5 x6 x7 b0 b1 r0 r1
   go_wp2_with fail
   refine C1.out.mono ?_;rintro e w5 ⟨rfl,hq⟩;have H5:=hid (H4.out.save hq.2 HG.out);have HJ5:=hid (JQ.trans HJ4.out hq);clear x0 x1 x2 x3 x4 x5 x6 x7 b0 b1 f0 f1 r0 r1 g0 g1;clear c16 C1 hq H4 HJ4 HCL HCE;have c16:=HJ5.out.1.c.2.2.1
   have HE:=hid (show ∀(y:Int),_ from fun (y:Int)=>by
     obtain⟨a3,a4⟩:=jO HJ5.out H5.out HG.out y;exact zh a3 a4 HG.out (.int .i64 y) (.bool d1))
   have x0:=cell_of_row w5 W.heap.size 0 _ _ _ H5.out.a;have x1:=cell_of_row w5 W.heap.size 1 _ _ _ H5.out.a;have x2:=cell_of_row w5 W.heap.size 2 _ _ _ H5.out.a;have x3:=cell_of_row w5 W.heap.size 3 _ _ _ H5.out.a;have x4:=cell_of_row w5 W.heap.size 4 _ _ _ H5.out.a;have x5:=cell_of_row w5 W.heap.size 5 _ _ _ H5.out.a;have x6:=cell_of_row w5 W.heap.size 6 _ _ _ H5.out.a;have x7:=cell_of_row w5 W.heap.size 7 _ _ _ H5.out.a;have b0:=cell_of_row w5 (W.heap.size+1) 0 _ _ _ H5.out.b;have b1:=cell_of_row w5 (W.heap.size+1) 1 _ _ _ H5.out.b;have f0:=frozen_of_row w5 (W.heap.size+1) 0 _ _ H5.out.b;have f1:=frozen_of_row w5 (W.heap.size+1) 1 _ _ H5.out.b;have r0:=cell_of_row w5 (W.heap.size+1+1) 0 _ _ _ H5.out.c;have r1:=cell_of_row w5 (W.heap.size+1+1) 1 _ _ _ H5.out.c;have g0:=frozen_of_row w5 (W.heap.size+1+1) 0 _ _ H5.out.c;have g1:=frozen_of_row w5 (W.heap.size+1+1) 1 _ _ H5.out.c;simp at x0 x1 x2 x3 x4 x5 x6 x7 b0 b1 r0 r1;clear H5 HJ5;go_wp2;obtain⟨q1,q2⟩:=HE.out (n1+res);exact bodyPost_ret (results_cell_row Tryz.results248 _ _ (W.heap.size+1+1) _ _ _ _ rfl q2 Tryz.underlying312 rfl (by kernel_rfl)) rfl ⟨rfl,q1⟩
 ·rw[if_neg he1,if_neg he1]
  have hef:(j1.e==0)=false:=by simpa using he1
  clear he1
  go_enter Tryz.func248,Tryz.ntmps248
  go_upto_region 1 with fail
  rw[←HW3.out];clear HW3
  go_wp2_with fail
  refine CC.out.mono ?_;rintro e w1 ⟨rfl,hq⟩;have hs1:=yS (JQ.trans HJ.out hq) (H3.out.save hq.2 HG.out) HG.out n1 d1;clear x0 x1 x2 x3 x4 x5 x6 x7 b0 b1 f0 f1 r0 r1 g0 g1;have f0:=frozen_of_row w1 (W.heap.size+1) 0 _ _ (H3.out.save hq.2 HG.out).b;have f1:=frozen_of_row w1 (W.heap.size+1) 1 _ _ (H3.out.save hq.2 HG.out).b;have b0:=cell_of_row w1 (W.heap.size+1) 0 _ _ _ (H3.out.save hq.2 HG.out).b;have b1:=cell_of_row w1 (W.heap.size+1) 1 _ _ _ (H3.out.save hq.2 HG.out).b;simp at b0 b1
  go_upto_region 14 with fail
  obtain⟨W4,hW4⟩:∃W4,W4=((w1.setCell ⟨W.heap.size+1,0,none⟩ (.int .i64 n1)).setCell ⟨W.heap.size+1,1,none⟩ (.bool d1)):=⟨_,rfl⟩;rw[←hW4] at hs1 ⊢;have H4:=hid hs1.2;have HJ4:=hid hs1.1;have c16:=hs1.1.1.c.2.2.1;clear f0 f1 b0 b1 hq hW4 hs1 CC HJ H3
  have HE:=hid (show ∀(y:Int),_ from fun (y:Int)=>by
    obtain⟨a3,a4⟩:=jO HJ4.out H4.out HG.out y;exact zh a3 a4 HG.out (.int .i64 y) (.bool d1))
  have x0:=cell_of_row W4 W.heap.size 0 _ _ _ H4.out.a;have x1:=cell_of_row W4 W.heap.size 1 _ _ _ H4.out.a;have x2:=cell_of_row W4 W.heap.size 2 _ _ _ H4.out.a;have x3:=cell_of_row W4 W.heap.size 3 _ _ _ H4.out.a;have x4:=cell_of_row W4 W.heap.size 4 _ _ _ H4.out.a;have x5:=cell_of_row W4 W.heap.size 5 _ _ _ H4.out.a;have x6:=cell_of_row W4 W.heap.size 6 _ _ _ H4.out.a;have x7:=cell_of_row W4 W.heap.size 7 _ _ _ H4.out.a;have b0:=cell_of_row W4 (W.heap.size+1) 0 _ _ _ H4.out.b;have b1:=cell_of_row W4 (W.heap.size+1) 1 _ _ _ H4.out.b;have f0:=frozen_of_row W4 (W.heap.size+1) 0 _ _ H4.out.b;have f1:=frozen_of_row W4 (W.heap.size+1) 1 _ _ H4.out.b;have r0:=cell_of_row W4 (W.heap.size+1+1) 0 _ _ _ H4.out.c;have r1:=cell_of_row W4 (W.heap.size+1+1) 1 _ _ _ H4.out.c;have g0:=frozen_of_row W4 (W.heap.size+1+1) 0 _ _ H4.out.c;have g1:=frozen_of_row W4 (W.heap.size+1+1) 1 _ _ H4.out.c;simp at x0 x1 x2 x3 x4 x5 x6 x7 b0 b1 r0 r1;clear H4 HJ4;go_wp2;obtain⟨q1,q2⟩:=HE.out (n1+res);exact bodyPost_ret (results_cell_row Tryz.results248 _ _ (W.heap.size+1+1) _ _ _ _ rfl q2 Tryz.underlying312 rfl (by kernel_rfl)) rfl ⟨rfl,q1⟩
end Val
namespace Val
open Go.RowKit Instr Mod
theorem kR (e a:Int) (j:J):(j.fault e a).cnt=j.cnt:=by unfold J.fault;split<;>rfl
theorem jC (n a:Int) (p:Hv×J):(zO n a p).2.cnt=p.2.cnt:=by
 unfold zO;simp only;split
 ·exact kR _ _ _
 ·rfl
theorem ql (ls:List Int) (n a:Int) (j:J):(zI ls n a j).2.cnt=j.cnt:=by
 unfold zI;split
 ·exact kR _ _ _
 ·rfl
theorem zAx (ls:List Int) (a:Int):∀(l:List Int) (j:J),(jG ls a l j).cnt=j.cnt
 | [],_=>rfl
 | t::r,j=>by rw[jG,zAx ls a r,ql]
theorem Y2 (ls:List Int) (k a:Int):∀(l:List Int) (j:J),(yO ls k a l j).cnt=j.cnt
 | [],_=>rfl
 | t::r,j=>by
  rw[yO]
  split
  ·rw[Y2 ls k a r]
   split
   ·exact ql _ _ _ _
   ·rw[kR,ql]
  ·rfl
theorem zDI (ls tags:List Int) (last a:Int) (p:Hv×J):(vV ls tags last a p).2.cnt=p.2.cnt:=by
 unfold vV;simp only;rw[jC,jC];simp only;rw[Y2,ql,zAx]
theorem zEu (m:Md) (x:Ix) (a:Int) (p:Hv×J):(vq m x a p).2.cnt=p.2.cnt:=by
 unfold vq;split
 ·exact kR _ _ _
 ·unfold yX;simp only
  rw[jC];split
  ·exact jC _ _ _
  ·rfl
theorem zC4 (m:Md) (lo:Int) (x:Ix) (a:Int) (j:J):(jc m lo x a j).cnt=j.cnt:=by
 unfold jc;split
 ·rfl
 ·exact kR _ _ _
theorem Jk (r a:Int) (p:Hv×J):(Yf r a p).cnt=p.2.cnt:=by
 unfold Yf
 split
 ·split
  ·rw[kR,jC]
  ·exact jC _ _ _
 ·rfl
theorem zCH {m:Md} {lo tr:Int} {ls:List Int} {x:Ix} {L E:Int→J→J} {a u v:Int} {p:Hv×J} (hu:0≤u) (hv:0≤v) (hL:∀l j,j.cnt≤(L l j).cnt∧(L l j).cnt≤j.cnt+u) (hE:∀l j,j.cnt≤(E l j).cnt∧(E l j).cnt≤j.cnt+v) :
  p.2.cnt≤(qH m lo tr ls x L E a p).2.cnt∧(qH m lo tr ls x L E a p).2.cnt≤p.2.cnt+u+v:=by
 have z:∀c:Int,c=p.2.cnt→p.2.cnt≤c∧c≤p.2.cnt+u+v:=fun c h=>by omega
 unfold qH
 split;· exact z _ rfl
 split
 ·have:=hL x.res p.2;show p.2.cnt≤(L x.res p.2).cnt∧(L x.res p.2).cnt≤_;omega
 split
 ·have:=hL 0 p.2;show p.2.cnt≤(L 0 p.2).cnt∧(L 0 p.2).cnt≤_;omega
 split
 ·unfold ifJ yX
  simp only;have h1:=jC 1 a p
  have h2:p.2.cnt≤(if (zO 1 a p).2.e=0 then L x.res (zO 1 a p).2 else (zO 1 a p).2).cnt∧(if (zO 1 a p).2.e=0 then L x.res (zO 1 a p).2 else (zO 1 a p).2).cnt≤p.2.cnt+u:=by
   split
   ·have:=hL x.res (zO 1 a p).2;omega
   ·omega
  generalize (if (zO 1 a p).2.e=0 then L x.res (zO 1 a p).2 else (zO 1 a p).2)=j2 at *
  split
  ·have:=hE x.res j2;omega
  ·omega
 split;· exact z _ (zDI _ _ _ _ _)
 split
 ·refine z _ ?_;simp only;rw[jC];exact ql _ _ _ _
 split
 ·refine z _ ?_;unfold yX;simp only;rw[jC,jC];exact ql _ _ _ _
 split;· exact z _ (jC _ _ _)
 split;· exact z _ (zEu _ _ _ _)
 refine z _ ?_;unfold yX;simp only;rw[jC];exact zC4 _ _ _ _ _
theorem YG (m:Md) (lo tr:Int):∀(t:Il) (ls:List Int) (p:Hv×J),p.2.cnt≤(ZH m lo tr t ls p).2.cnt∧(ZH m lo tr t ls p).2.cnt≤p.2.cnt+t.count
 | .nil,ls,p=>by simp[ZH,Il.count]
 | .cons x l e r,ls,p=>by
  rw[vv]
  split
  ·have hl:∀a lb (j:J),j.cnt≤(yE m lo tr ls l lb x.res a j).cnt∧(yE m lo tr ls l lb x.res a j).cnt≤j.cnt+(l.count:Int):=fun a lb j=>by unfold yE;rw[Jk];exact YG m lo tr l _ _
   have he:∀a lb (j:J),j.cnt≤(yE m lo tr ls e lb x.res a j).cnt∧(yE m lo tr ls e lb x.res a j).cnt≤j.cnt+(e.count:Int):=fun a lb j=>by unfold yE;rw[Jk];exact YG m lo tr e _ _
   have h1:=zCH (m:=m) (lo:=lo) (tr:=tr) (ls:=ls) (x:=x) (L:=fun label=>yE m lo tr ls l label x.res (p.2.cnt+1)) (E:=fun label=>yE m lo tr ls e label x.res (p.2.cnt+1)) (a:=p.2.cnt+1) (u:=l.count) (v:=e.count) (p:=(p.1,p.2.next)) (by omega) (by omega) (fun lb j=>hl _ lb j) (fun lb j=>he _ lb j);have h2:=YG m lo tr r ls (qH m lo tr ls x (fun label=>yE m lo tr ls l label x.res (p.2.cnt+1)) (fun label=>yE m lo tr ls e label x.res (p.2.cnt+1)) (p.2.cnt+1) (p.1,p.2.next));have h3:p.2.next.cnt=p.2.cnt+1:=rfl;simp only[h3] at h1;simp only[Il.count];omega
  ·simp only[Il.count];omega
theorem Yj (m:Md) (lo tr:Int) (ls:List Int) (t:Il) (lb r a:Int) (j:J):j.cnt≤(yE m lo tr ls t lb r a j).cnt∧(yE m lo tr ls t lb r a j).cnt≤j.cnt+(t.count:Int):=by
 unfold yE;rw[Jk];exact YG m lo tr t _ _
theorem Yp {n a:Int} {p:Hv×J} (hn:0≤n) (hp:0≤p.1.n):0≤(zO n a p).1.n∧(zO n a p).1.n≤p.1.n:=by unfold zO;simp only;omega
theorem zDK {ls:List Int} (hl:∀l∈ls,0≤l∧l≤1) (n a:Int) (j:J):0≤(zI ls n a j).1∧(zI ls n a j).1≤1:=by
 unfold zI
 split
 ·simp
 ·simp only
  rw[List.getD_eq_getElem?_getD]
  rcases h:ls[ls.length-1-n.toNat]? with _|v
  ·simp
  ·exact hl v (List.mem_of_getElem? h)
theorem zJB {m:Md} (he:Env m) {lo tr:Int} (htr:0≤tr) {ls:List Int} (hl:∀l∈ls,0≤l∧l≤1) {x:Ix} (hr:0≤x.res∧x.res≤1) {L E:Int→J→J} {a:Int} {p:Hv×J} (hp:0≤p.1.n) :
  0≤(qH m lo tr ls x L E a p).1.n∧(qH m lo tr ls x L E a p).1.n≤p.1.n+1:=by
 unfold qH
 split;· show (0:Int)≤0∧(0:Int)≤p.1.n+1;omega
 split;· show 0≤p.1.n+x.res∧p.1.n+x.res≤_;omega
 split;· show 0≤p.1.n+x.res∧p.1.n+x.res≤_;omega
 split
 ·have:=Yp (n:=1) (a:=a) (by omega) hp
  show 0≤(zO 1 a p).1.n+x.res∧(zO 1 a p).1.n+x.res≤_
  omega
 split;· show (0:Int)≤0∧(0:Int)≤p.1.n+1;omega
 split;· show (0:Int)≤0∧(0:Int)≤p.1.n+1;omega
 split
 ·have h1:=zDK hl x.a a p.2
  generalize zI ls x.a a p.2=q at *
  have h2:=Yp (n:=1) (a:=a) (p:=(p.1,q.2)) (by omega) hp
  generalize zO 1 a (p.1,q.2)=q2 at *
  have h3:=Yp (n:=q.1) (a:=a) (p:=q2) h1.1 h2.1
  show 0≤(zO q.1 a q2).1.n+q.1∧(zO q.1 a q2).1.n+q.1≤_
  simp only at h2;omega
 split;· show (0:Int)≤0∧(0:Int)≤p.1.n+1;omega
 split
 ·unfold vq
  split
  ·simp only;omega
  ·have hc:=he.callee x
   have h1:0≤(if x.op=17 then zO 1 a p else p).1.n∧(if x.op=17 then zO 1 a p else p).1.n≤p.1.n:=by
    split
    ·exact Yp (by omega) hp
    ·omega
   generalize (if x.op=17 then zO 1 a p else p)=q at *
   have h2:=Yp (n:=(zT m x).1.1) (a:=a) (p:=q) hc.1 h1.1
   show 0≤(zO (zT m x).1.1 a q).1.n+(zT m x).1.2∧(zO (zT m x).1.1 a q).1.n+(zT m x).1.2≤_
   omega
 have hlv:=vZ x.op;have h2:=Yp (n:=yc x.op) (a:=a) (p:=(p.1,jc m lo x a p.2)) (vW _) hp
 show 0≤(zO (yc x.op) a (p.1,jc m lo x a p.2)).1.n+yg x.op∧(zO (yc x.op) a (p.1,jc m lo x a p.2)).1.n+yg x.op≤_
 simp only at h2;omega
end Val
namespace Val
open Go.RowKit Go.Shelf Instr Mod
def LR (g n₀:Nat) (m:Md) (t1 tr lo:Int) (t:Il):Prop:=∀(W:World) (la:Option Addr) (lc:Nat) (ls:List Int) (j:J) (a0:Option Addr) (n c:Nat) (lab res a:Int),
 JAt W g (jhd m t1 tr lo) (.slice la ls.length lc) j→Zq g W la ls→ls.length+t.deep+1≤1000000→(∀l∈ls,0≤l∧l≤1)→(0≤lab∧lab≤1)→(0≤res∧res≤1)→0≤j.cnt→j.cnt+t.count≤1000000→zN n₀ W m→zD n₀ W a0 n t →
 Calls Tryz.prog 182 #[.pointer (some ⟨g,0,none⟩),.slice a0 n c,.int .i64 lab,.int .i64 res,.int .i64 a] W fun e W'=>e=.returned (.tuple #[])∧JQ g (jhd m t1 tr lo) (.slice la ls.length lc) (yE m lo tr ls t lab res a j) W W'
theorem zD6 {g n₀:Nat} {W W':World} {a:Option Addr} {n:Nat} {t:Il} (h:zD n₀ W a n t) (hg:n₀≤g) (hn:n₀≤W.heap.size) (hs:zF g W W'):zD n₀ W' a n t:=h.below (hs.below hn hg)
theorem zG3 {g n₀:Nat} {m:Md} {t1 tr lo:Int} (hg:n₀≤g) (hf:m.fits) (he:Env m) (hpp:∀t∈m.ty,t.1≤1000000) (htr:0≤tr∧tr≤1) {W:World} {la:Option Addr} {lc:Nat} {ls:List Int} {j:J} (x:Ix) (l e:Il) (hL:LR g n₀ m t1 tr lo l) (hE:LR g n₀ m t1 tr lo e)
  (h:JAt W g (jhd m t1 tr lo) (.slice la ls.length lc) j) (hlab:Zq g W la ls) (hln:ls.length+max l.deep e.deep+1≤1000000) (hls:∀l∈ls,0≤l∧l≤1) (hc0:0≤j.cnt) (hc1:j.cnt+l.count+e.count≤1000000) (hm:zN n₀ W m)
  (hx:x.ok) (hr:0≤x.res∧x.res≤1) (ht:zk n₀ W x.ta x.tags) (hl:zD n₀ W x.la x.ln l) (hle:zD n₀ W x.ea x.en e) (hv:Hv) (a:Int) (hh:0≤hv.n∧hv.n≤4000000000000000000) :
  Calls Tryz.prog 248 #[.pointer (some ⟨g,0,none⟩),.agg x.vals,HvV hv,.int .i64 a] W fun en W'=>en=.returned (HvV (qH m lo tr ls x (fun label=>yE m lo tr ls l label x.res a) (fun label=>yE m lo tr ls e label x.res a) a (hv,j)).1) ∧
   JQ g (jhd m t1 tr lo) (.slice la ls.length lc) (qH m lo tr ls x (fun label=>yE m lo tr ls l label x.res a) (fun label=>yE m lo tr ls e label x.res a) a (hv,j)).2 W W':=by
 have hnW:n₀≤W.heap.size:=by have:=h.lt;omega
 have hlb:∀l∈ls,0≤l∧l≤4611686018427387904:=fun l hl=>by have:=hls l hl;omega
 have hlen:ls.length≤1000000:=by omega
 have hLc:=fun (W':World) (j':J) (lab:Int) (hq:JQ g (jhd m t1 tr lo) (.slice la ls.length lc) j' W W') (h0:0≤lab∧lab≤1) (c0:0≤j'.cnt) (c1:j'.cnt+l.count≤1000000) =>
  hL W' la lc ls j' x.la x.ln x.lc lab x.res a hq.1 (hlab.save hq.2) (by omega) hls h0 hr c0 c1 (Zk hm hg hnW hq.2) (zD6 hl hg hnW hq.2)
 have hEc:=fun (W':World) (j':J) (lab:Int) (hq:JQ g (jhd m t1 tr lo) (.slice la ls.length lc) j' W W') (h0:0≤lab∧lab≤1) (c0:0≤j'.cnt) (c1:j'.cnt+e.count≤1000000) =>
  hE W' la lc ls j' x.ea x.en x.ec lab x.res a hq.1 (hlab.save hq.2) (by omega) hls h0 hr c0 c1 (Zk hm hg hnW hq.2) (zD6 hle hg hnW hq.2)
 unfold qH
 by_cases o0:x.op=0
 ·rw[if_pos o0];exact zI5 h x hv a o0
 rw[if_neg o0]
 by_cases o2:x.op=2
 ·rw[if_pos o2]
  exact zJH h x hv a hr hh _ (fun W' hq=>hLc W' j x.res hq hr hc0 (by omega)) o2
 rw[if_neg o2]
 by_cases o3:x.op=3
 ·rw[if_pos o3]
  exact zIa h x hv a hr hh _ (fun W' hq=>hLc W' j 0 hq (by omega) hc0 (by omega)) o3
 rw[if_neg o3]
 by_cases o4:x.op=4
 ·rw[if_pos o4]
  have hp:=jC 1 a (hv,j);refine zIe h x hv a hr hh (yE m lo tr ls l x.res x.res a) (yE m lo tr ls e x.res x.res a) (fun W' j' hq _ hj=>?_) (fun W' j' hq _ hj=>?_) o4
  ·rw[←hj] at hp
   exact hLc W' j' x.res hq hr (by simp only at hp;omega) (by simp only at hp;omega)
  ·have hcl:=Yj m lo tr ls l x.res x.res a (zO 1 a (hv,j)).2
   have hjc:j.cnt≤j'.cnt∧j'.cnt≤j.cnt+l.count:=by
    simp only at hp
    rcases hj with hj|hj
    ·rw[hj];omega
    ·rw[hj];omega
   exact hEc W' j' x.res hq hr (by omega) (by omega)
 rw[if_neg o4]
 by_cases o14:x.op=14
 ·rw[if_pos o14]
  exact ZQ h x hv a (vV ls x.tags x.a a (hv,j)) (fun W' hq=>(zB8 hq.1 (hlab.save hq.2) hlen hlb x hx (ht.below (hq.2.below hnW hg)) hg hv a (by omega) o14)) (by omega)
 rw[if_neg o14]
 by_cases o12:x.op=12
 ·rw[if_pos o12]
  exact ZQ h x hv a (⟨0,true⟩,(zO (zI ls x.a a j).1 a (hv,(zI ls x.a a j).2)).2) (fun W' hq=>zGy hq.1 (hlab.save hq.2).at_ hlen hlb x hx hv a (by omega) o12) (by omega)
 rw[if_neg o12]
 by_cases o13:x.op=13
 ·rw[if_pos o13]
  exact ZQ h x hv a (yX (zI ls x.a a j).1 (zO (zI ls x.a a j).1 a (zO 1 a (hv,(zI ls x.a a j).2)))) (fun W' hq=>zDb hq.1 (hlab.save hq.2).at_ hlen hlb x hx hv a (by omega) o13) (by omega)
 rw[if_neg o13]
 by_cases o15:x.op=15
 ·rw[if_pos o15]
  exact ZQ h x hv a (⟨0,true⟩,(zO tr a (hv,j)).2) (fun W' hq=>zEb hq.1 x hx hv a (by omega) (by omega) o15) (by omega)
 rw[if_neg o15]
 by_cases oc:x.op=16∨x.op=17
 ·rw[if_pos oc]
  refine zEY h x hv a (vq m x a (hv,j)) (fun W' hq=>?_) oc
  rcases oc with o|o
  ·exact zGg hq.1 (Zk hm hg hnW hq.2) hg hf he hpp x hx hv a hh o
  ·exact zGf hq.1 (Zk hm hg hnW hq.2) hg hf he hpp x hx hv a hh o
 rw[if_neg oc];exact zFM h x hv a hh (jc m lo x a j) (fun W' hq=>zDe hq.1 (zHx (Zk hm hg hnW hq.2) (Nat.le_trans hnW hq.2.size)) x hx a ⟨fun o=>oc (.inl o),fun o=>oc (.inr o)⟩) ⟨o0,o2,o3,o4,o12,o13,o14,o15,fun o=>oc (.inl o),fun o=>oc (.inr o)⟩
theorem Jc:(Tryz.prog.info? 3).map (fun i=>(i.zero,i.size,i.bytes))=some (some (.int .i64 0),1,8):=by kernel_rfl
def i1 (z:Int):List Value:=[.int .i64 z]
theorem zGX (l:List Int):∀r∈l.map i1,r.length=1:=by
 intro r hr;obtain⟨z,_,rfl⟩:=List.mem_map.1 hr;rfl
theorem zHn (l:List Int):∀r∈l.map i1,∀u∈r,u.oneCell'=true:=by
 intro r hr u hu;obtain⟨z,_,rfl⟩:=List.mem_map.1 hr;simp only[i1,List.mem_singleton] at hu;subst hu;rfl
theorem zFG {g:Nat} {W:World} {a:Option Addr} {ls:List Int} (h:Zq g W a ls):Stk.Rows W.heap.size W a 1 (ls.map i1):=by
 rcases h with h|⟨b,h1,h2,h3,h4⟩
 ·subst h;exact .inl rfl
 ·refine .inr ⟨b,0,h1,h3,fun i hi j hj v hv=>?_⟩
  rw[List.length_map] at hi;have hj0:j=0:=by omega
  subst hj0;have e:(ls.map i1).getD i []=i1 (ls.getD i 0):=by simp[hi]
  rw[e] at hv;simp only[i1,List.getElem?_cons_zero,Option.some.injEq] at hv;rw[←hv,Nat.zero_add,Nat.mul_one,Nat.add_zero];exact h4 i hi
theorem zGN {g base:Nat} {w:World} {v:Value} {ls:List Int} (h:Stk.zR 3 1 base w v (ls.map i1)) (hne:ls≠[]) (hg:g<base):∃b c,v=.slice (some ⟨b,0,none⟩) ls.length c∧base≤b∧b<w.heap.size∧Zq g w (some ⟨b,0,none⟩) ls:=by
 have hl:=World.ownsRow.lt h.row
 rcases h.row.2 with ⟨_,h0⟩|⟨b,cap,cur,rfl,h1,h2,h3,h4,h5,h6⟩
 ·rw[List.length_map] at h0;exact absurd (List.eq_nil_of_length_eq_zero h0) hne
 ·refine⟨b,cap,by rw[List.length_map],h1,(hl b rfl).2,.inr ⟨b,rfl,by omega,(hl b rfl).2,fun i hi=>?_⟩⟩
  have hf:(ls.map i1).flatten[i]?=some (.int .i64 (ls.getD i 0)):=by
   have:=Stk.flat_get (ls.map i1) (zGX ls) i 0 (by simpa using hi) (by omega);rw[Nat.mul_one,Nat.add_zero] at this;rw[this];simp[hi,i1]
  have hc:=World.ownsRow.cells h.row (g:=b) rfl i _ hf;have hp:(⟨b,0,none⟩:Addr).add i=⟨b,i,none⟩:=by unfold Addr.add;split<;>simp_all
  rw[hp] at hc;exact hc
structure zEv (W:World) (g n₀ hb b2 c2 n:Nat) (m:Md) (t1 tr lo:Int) (ls:List Int) (a0:Option Addr) (T:Nat) (R:Hv×J) (k:Nat) (t:Il) (hv:Hv) (j:J) (wr:World):Prop where
 hk:k+t.len=n
 it:t=.nil∨∃b off,a0=some ⟨b,off,none⟩∧zg n₀ wr b (off+k*8) t
 jq:JQ g (jhd m t1 tr lo) (.slice (some ⟨b2,0,none⟩) ls.length c2) j W wr
 lb:Zq g wr (some ⟨b2,0,none⟩) ls
 bx:wr.heap[hb]?=some (.cells #[.int .i64 hv.n,.bool hv.d] 312 (0,0))
 run:ZH m lo tr t ls (hv,j)=R
 n0:0≤hv.n∧hv.n≤k
 cn:0≤j.cnt∧j.cnt+t.count≤1000000
 al:t.all=true
 ct:t.count≤T
 dp:ls.length+t.deep≤1000000
theorem zGM (m:Md) (lo tr:Int) (t:Il) (ls:List Int) (p:Hv×J) (h:p.2.e≠0):ZH m lo tr t ls p=p:=by
 cases t with
 | nil=>rfl
 | cons x l e r=>rw[vv,if_neg h]
theorem zBb {g:Nat} {hd:List Value} {lab:Value} {j:J} {W A:World} (h:JQ g hd lab j W A) (v:Value):JQ g hd v j W (A.setCell ⟨g,14,none⟩ v):=⟨h.1.setLab v,h.2.setCell (p:=⟨g,14,none⟩) (.inl rfl) v⟩
theorem zEW {g:Nat} {hd:List Value} {lab:Value} {j:J} {W A:World} (h:JQ g hd lab j W A):JQ g hd lab j.next W (A.setCell ⟨g,15,none⟩ (.int .i64 (j.cnt+1))):=⟨h.1.setCnt (j.cnt+1),h.2.setCell (p:=⟨g,15,none⟩) (.inl rfl) _⟩
theorem Zq.away {g q i b2:Nat} {W:World} {ls:List Int} (h:Zq g W (some ⟨b2,0,none⟩) ls) (hne:b2≠q) (v:Value):Zq g (W.setCell ⟨q,i,none⟩ v) (some ⟨b2,0,none⟩) ls:=by
 rcases h with h|⟨b,h1,h2,h3,h4⟩
 ·exact .inl h
 ·simp only[Option.some.injEq,Addr.mk.injEq,and_true] at h1
  subst h1;exact .inr ⟨_,rfl,h2,by simpa[World.setCell] using h3,fun k hk=>(World.cell?_setCell_far _ ⟨q,i,none⟩ _ _ (by simpa using Ne.symm hne)).trans (h4 k hk)⟩
theorem zEC {W:World} {hb:Nat} {n0 n1:Int} {d0 d1:Bool} (h:W.heap[hb]?=some (.cells #[.int .i64 n0,.bool d0] 312 (0,0))):((W.setCell ⟨hb,0,none⟩ (.int .i64 n1)).setCell ⟨hb,1,none⟩ (.bool d1)).heap[hb]?=some (.cells #[.int .i64 n1,.bool d1] 312 (0,0)) :=
 heap_setCell_same _ _ 1 _ _ _ (heap_setCell_same _ _ 0 _ _ _ h)
theorem zEv.next {W:World} {g n₀ hb b2 c2 n:Nat} {m:Md} {t1 tr lo:Int} {ls:List Int} {b off:Nat} {T:Nat} {R:Hv×J} {k:Nat} {x:Ix} {l e r:Il} {hv:Hv} {j:J} {wr w2:World} (V:zEv W g n₀ hb b2 c2 n m t1 tr lo ls (some ⟨b,off,none⟩) T R k (.cons x l e r) hv j wr) (hje:j.e=0)
  (hg:n₀≤g) (hn:n₀≤W.heap.size) (hbg:hb≠g) (hbW:W.heap.size≤hb) (hb2:b2≠hb) {n1:Int} {d1:Bool} {j2:J}
  (hone:qH m lo tr ls x (fun label=>yE m lo tr ls l label x.res (j.cnt+1)) (fun label=>yE m lo tr ls e label x.res (j.cnt+1)) (j.cnt+1) (hv,j.next)=(⟨n1,d1⟩,j2)) (hn1:0≤n1∧n1≤hv.n+1)
  (hq:JQ g (jhd m t1 tr lo) (.slice (some ⟨b2,0,none⟩) ls.length c2) j2 (wr.setCell ⟨g,15,none⟩ (.int .i64 (j.cnt+1))).drew w2) :
  zEv W g n₀ hb b2 c2 n m t1 tr lo ls (some ⟨b,off,none⟩) T R (k+1) r ⟨n1,d1⟩ j2 ((w2.setCell ⟨hb,0,none⟩ (.int .i64 n1)).setCell ⟨hb,1,none⟩ (.bool d1)):=by
 have hs2:zF g wr w2:=by
  have h1:zF g wr (wr.setCell ⟨g,15,none⟩ (.int .i64 (j.cnt+1))):=zF.setCell (p:=⟨g,15,none⟩) (zF.refl g wr) (.inl rfl) _;exact h1.trans ⟨hq.2.os,hq.2.tape,hq.2.output,hq.2.size,hq.2.block⟩
 have hbl:Below n₀ wr ((w2.setCell ⟨hb,0,none⟩ (.int .i64 n1)).setCell ⟨hb,1,none⟩ (.bool d1)):=((hs2.below (by have:=V.jq.2.size;omega) hg).setCell (p:=⟨hb,0,none⟩) (by show n₀≤hb;omega) _).setCell (p:=⟨hb,1,none⟩) (by show n₀≤hb;omega) _;have hlen:=V.hk;simp only[Il.len] at hlen;have hct:=V.ct;have hcn:=V.cn;have hdp:=V.dp;have hn0:=V.n0;simp only[Il.count] at hct hcn;simp only[Il.deep] at hdp;have hal:=V.al;simp only[Il.all,Bool.and_eq_true] at hal;have hcnt:=zCH (m:=m) (lo:=lo) (tr:=tr) (ls:=ls) (x:=x) (L:=fun label=>yE m lo tr ls l label x.res (j.cnt+1)) (E:=fun label=>yE m lo tr ls e label x.res (j.cnt+1)) (a:=j.cnt+1) (u:=l.count) (v:=e.count) (p:=(hv,j.next)) (by omega) (by omega) (fun lb j'=>Yj _ _ _ _ _ _ _ _ _) (fun lb j'=>Yj _ _ _ _ _ _ _ _ _);rw[hone] at hcnt;have hnx:(j.next).cnt=j.cnt+1:=rfl;simp only[hnx] at hcnt;refine⟨by omega,?_,?_,?_,?_,?_,⟨hn1.1,by dsimp only;omega⟩,by omega,hal.2,by omega,by omega⟩
 ·rcases V.it with h|⟨b',off',h1,h2⟩
  ·cases h
  ·simp only[Option.some.injEq,Addr.mk.injEq,and_true] at h1
   obtain⟨rfl,rfl⟩:=h1;refine .inr ⟨_,_,rfl,?_⟩;have:=h2.2.2.2.2.2.2;rw[show off+(k+1)*8=off+k*8+8 by omega];exact this.below hbl
 ·have h1:=zEW V.jq
  have h2:JQ g (jhd m t1 tr lo) (.slice (some ⟨b2,0,none⟩) ls.length c2) j2 W w2:=⟨hq.1,h1.2.trans ⟨hq.2.os,hq.2.tape,hq.2.output,hq.2.size,hq.2.block⟩⟩;exact (h2.away hbg hbW _).away hbg hbW _
 ·exact ((V.lb.save hs2).away hb2 _).away hb2 _
 ·have hlt:=(Array.getElem?_eq_some_iff.1 V.bx).1
  exact zEC ((hs2.block hb hlt hbg).trans V.bx)
 ·have hr:=V.run
  rw[vv,if_pos hje] at hr;simp only at hr;rw[hone] at hr;exact hr
theorem zEk {g n₀:Nat} {m:Md} {t1 tr lo:Int} (hg:n₀≤g) (hf:m.fits) (he:Env m) (hpp:∀t∈m.ty,t.1≤1000000) (htr:0≤tr∧tr≤1) (t:Il) (IH:∀u:Il,u.count<t.count→u.all=true→LR g n₀ m t1 tr lo u) (hall:t.all=true):LR g n₀ m t1 tr lo t:=by
 intro W la lc ls j a0 n c lab res a h hlab hln hls hlb hre hc0 hc1 hm hl;have HJ:=hid h;have HG:=hid h.lt;have hnW:n₀≤W.heap.size:=by have:=h.lt;omega
 have c14:=h.c.1;have HR:=hid (zFG hlab);have HLN:=hid (show (ls.map i1).length=ls.length by simp);have HLEN:=hid (show ls.length≤1000000 by omega);obtain⟨ls2,hls2⟩:∃l,l=ls++[lab]:=⟨_,rfl⟩;have HL2:=hid (show ls2.map i1=ls.map i1++[[.int .i64 lab]] by rw[hls2];simp[i1]);have HN2:=hid (show ls2≠[] by rw[hls2];simp)
 have hl2:∀l∈ls2,0≤l∧l≤1:=by
  intro l hl;rw[hls2] at hl
  rcases List.mem_append.1 hl with hl|hl
  ·exact hls l hl
  ·rw[List.mem_singleton.1 hl];exact hlb
 have HLS:=hid hl2;have HD2:=hid (show ls2.length+t.deep≤1000000 by rw[hls2];simp;omega)
 have CO:=hid (fun (W':World) (la:Option Addr) (lc:Nat) (j':J) (x:Ix) (l e:Il) (cl:l.count<t.count) (ce:e.count<t.count) (al:l.all=true) (ae:e.all=true) (h':JAt W' g (jhd m t1 tr lo) (.slice la ls2.length lc) j') (hlab':Zq g W' la ls2) (hln':ls2.length+max l.deep e.deep+1≤1000000) (k0:0≤j'.cnt) (k1:j'.cnt+l.count+e.count≤1000000) (hs:zF g W W') (hx:x.ok) (hr:0≤x.res∧x.res≤1) (ht:zk n₀ W' x.ta x.tags) (hl':zD n₀ W' x.la x.ln l) (hle:zD n₀ W' x.ea x.en e) (hv:Hv) (a:Int) (hh:0≤hv.n∧hv.n≤4000000000000000000) =>
   zG3 hg hf he hpp htr x l e (IH l cl al) (IH e ce ae) h' hlab' hln' hl2 k0 k1 (Zk hm hg hnW hs) hx hr ht hl' hle hv a hh)
 have CN:=hid (fun (x:Ix) (L E:Int→J→J) (a:Int) (p:Hv×J) (hr:0≤x.res∧x.res≤1) (hp:0≤p.1.n)=>zJB (m:=m) he (lo:=lo) htr.1 hl2 hr (L:=L) (E:=E) (a:=a) hp);have CP:=hid (fun (W':World) (hd:List Value) (lab:Value) (hv:Hv) (j':J) (hj:JAt W' g hd lab j') (hh:0≤hv.n∧hv.n≤4611686018427387904)=>qc hj hv res a (by omega) hh);have CF:=hid (fun (W':World) (hd:List Value) (lab:Value) (j':J) (hj:JAt W' g hd lab j')=>jZ hj 201 a);have hnl:n≤1000000:=by have:=hl.1;have:=uU t;omega
 have HLT:=hid hl;unfold yE;rw[←hls2];obtain⟨R,hR⟩:∃R,ZH m lo tr t ls2 (⟨0,false⟩,j)=R:=⟨_,rfl⟩;rw[hR];have HRR:=hid hR;have HC:=hid (show 0≤j.cnt∧j.cnt+t.count≤1000000 from ⟨hc0,hc1⟩);have HALL:=hid hall;have HSW:=hid hnW;have HGN:=hid hg;clear h hlab hln hls hlb hre hc0 hc1 hm hl hR hls2 hl2 IH hall hf he hpp htr hnW hg
 go_enter Tryz.func182,Tryz.ntmps182
 go_wp2_with (first
   | (at_builtin;refine Stk.jH Jc rfl (by omega) (by omega) Tryz.underlying79 rfl (.tmp 18) (.tmp 19) rfl rfl (Stk.zR.made 3 1 W) (by simp) _ _ _ rfl (ls.map i1) HLN.out ((HR.out.below (zG W (.cells #[] 3))).more (by simp)) (zGX ls) (zHn ls) (by rw[HLN.out];have:=HLEN.out;omega) ?_;intro v1 u1 ho1 hb1 hsz1)
   | (at_builtin;refine Stk.jI Jc rfl (by omega) (by omega) Tryz.underlying79 rfl (.tmp 20) (.tmp 22) rfl (base:=W.heap.size) (w0:=u1) (xs:=ls.map i1) [[.int .i64 lab]] rfl (ho1.alloc _) ((Below.refl W.heap.size u1).alloc hsz1 _) (by simp;omega) ⟨u1.heap.size,0,none⟩ 1 1 rfl rfl (by simp) (by simpa using World.news_of_block (heap_alloc_new u1 (.cells #[.int .i64 lab] 3))) (by simp[Value.oneCell']) (by rw[HLN.out];have:=HLEN.out;omega) ?_
      intro v2 u2 ho2 hb2 hsz2 hgrow;rw[←HL2.out] at ho2;obtain⟨b2,c2,hv2,hbb,hbs,hlx⟩:=zGN ho2 HN2.out HG.out;subst hv2;have hB:=hid (((zG W (.cells #[] 3)).trans hb1).trans hb2);have hj2:=HJ.out.below hB.out;have c14':=hj2.c.1;have f14:=hj2.f 14;have HLX:=hid hlx;have HB2:=hid (show b2<u2.heap.size from hbs);have HJ2:=hid hj2;clear ho1 hb1 hsz1 ho2 hb2 hsz2 hgrow hbb hbs hlx hj2 c14))
 obtain⟨hb,hhb⟩:∃hb,u2.heap.size=hb:=⟨_,rfl⟩;obtain⟨W5,hW5⟩:∃W5,W5=((u2.setCell ⟨g,14,none⟩ (.slice (some ⟨b2,0,none⟩) ls2.length c2)).alloc (.cells #[.int .i64 0,.bool false] 312)):=⟨_,rfl⟩
 have hV:zEv W g n₀ hb b2 c2 n m t1 tr lo ls2 a0 t.count R 0 t ⟨0,false⟩ j W5:=by
  have hs1:zF g u2 W5:=by rw[hW5];exact (zF.setCell (p:=⟨g,14,none⟩) (zF.refl g u2) (.inl rfl) _).alloc _
  have hsW:zF g W W5:=(zF.of_below hB.out).trans hs1;refine⟨by have:=HLT.out.1;omega,?_,⟨?_,hsW⟩,HLX.out.save hs1,?_,HRR.out,by simp,HC.out,HALL.out,Nat.le_refl _,HD2.out⟩
  ·rcases HLT.out.2 with h|⟨b,off,h1,h2⟩
   ·exact .inl h
   ·exact .inr ⟨b,off,h1,by rw[Nat.zero_mul,Nat.add_zero];exact h2.below (hsW.below HSW.out HGN.out)⟩
  ·rw[hW5];exact (HJ2.out.setLab _).below (zG _ _)
  ·rw[hW5,←hhb]
   have:=heap_alloc_new (u2.setCell ⟨g,14,none⟩ (.slice (some ⟨b2,0,none⟩) ls2.length c2)) (.cells #[.int .i64 0,.bool false] 312);have e:(u2.setCell ⟨g,14,none⟩ (.slice (some ⟨b2,0,none⟩) ls2.length c2)).heap.size=u2.heap.size:=by simp[World.setCell]
   rw[e] at this;exact this
 have HV:=hid hV;have HHB:=hid (show hb≠g∧W.heap.size≤hb∧b2≠hb by have h1:=hB.out.size;have h2:=HB2.out;have h3:=HG.out;omega);rw[←hW5,hhb];clear hV hW5 hhb HLX HJ2 HB2 hB c14' f14
 go_loopw [12] (fun vi wr=>∃(k:Nat) (t':Il) (hv:Hv) (j':J),vi=.int .i64 k∧Hid (zEv W g n₀ hb b2 c2 n m t1 tr lo ls2 a0 t.count R k t' hv j' wr)) (fun vi _=>n-(intOf vi).toNat)
 case atStart=>exact⟨0,t,⟨0,false⟩,j,rfl,HV⟩
 case round =>
  clear HV;obtain⟨k,t',⟨hn,hd'⟩,j',rfl,HV⟩:=hrel;have c15:=HV.out.jq.1.c.2.1;have c16:=HV.out.jq.1.c.2.2.1;have f14:=HV.out.jq.1.f 14;have f15:=HV.out.jq.1.f 15;have b0:=cell_of_row wr hb 0 _ _ _ HV.out.bx;have b1:=cell_of_row wr hb 1 _ _ _ HV.out.bx;have f0:=frozen_of_row wr hb 0 _ _ HV.out.bx;have f1:=frozen_of_row wr hb 1 _ _ HV.out.bx;have c14:=HV.out.jq.1.c.1;simp at b0 b1
  by_cases hje:j'.e=0
  ·rw[hje] at c16
   cases t' with
   | nil =>
    have hkn:k=n:=by have:=HV.out.hk;simp only[Il.len] at this;omega
    subst hkn;have hRR:((⟨hn,hd'⟩,j'):Hv×J)=R:=HV.out.run;subst hRR;have hnb:=HV.out.n0;have C1:=hid (CP.out wr _ _ ⟨hn,hd'⟩ j' HV.out.jq.1 (by dsimp only at hnb ⊢;omega));have HEN:=hid (show Yf res a (⟨hn,hd'⟩,j')=if 0<(zO res a (⟨hn,hd'⟩,j')).1.n then (zO res a (⟨hn,hd'⟩,j')).2.fault 201 a else (zO res a (⟨hn,hd'⟩,j')).2 by unfold Yf;rw[if_pos hje]);obtain⟨P1,hP1⟩:∃P,zO res a (⟨hn,hd'⟩,j')=P:=⟨_,rfl⟩;obtain⟨⟨n1,d1⟩,j1⟩:=P1;rw[hP1] at C1 HEN;unfold HvV at C1;dsimp only at C1 HEN;clear hP1 hje hnb c15 f15
    go_wp2_with fail
    refine C1.out.mono ?_;rintro e w2 ⟨rfl,hq⟩;have hs2:=hq.2;have HBX:=hid ((hs2.block hb (Array.getElem?_eq_some_iff.1 HV.out.bx).1 HHB.out.1).trans HV.out.bx);have HQ2:=hid (((JQ.trans HV.out.jq hq).away (i:=0) HHB.out.1 HHB.out.2.1 (.int .i64 n1)).away (i:=1) HHB.out.1 HHB.out.2.1 (.bool d1));clear b0 b1 f0 f1 c14 f14 c16 C1 hq hs2 HV;have b0:=cell_of_row w2 hb 0 _ _ _ HBX.out;have b1:=cell_of_row w2 hb 1 _ _ _ HBX.out;have f0:=frozen_of_row w2 hb 0 _ _ HBX.out;have f1:=frozen_of_row w2 hb 1 _ _ HBX.out;simp at b0 b1
    by_cases h0:0<n1
    ·rw[if_pos h0] at HEN
     go_upto_region 11 with fail
     obtain⟨W6,hW6⟩:∃W6,W6=((w2.setCell ⟨hb,0,none⟩ (.int .i64 n1)).setCell ⟨hb,1,none⟩ (.bool d1)):=⟨_,rfl⟩;have hq6:=HQ2.out;rw[←hW6] at hq6 ⊢;have C2:=hid (CF.out W6 _ _ j1 hq6.1);have HQ6:=hid hq6;clear b0 b1 f0 f1 hW6 HQ2 hq6 HBX h0
     go_wp2_with fail
     refine C2.out.mono ?_;rintro e w7 ⟨rfl,hq⟩;have HQ7:=hid (JQ.trans HQ6.out hq);have f14:=HQ7.out.1.f 14;have c14:=HQ7.out.1.c.1;clear C2 hq HQ6;go_wp2
     go_end0
     refine⟨rfl,?_⟩;rw[HEN.out];exact zBb HQ7.out _
    ·rw[if_neg h0] at HEN
     go_upto_region 10 with fail
     obtain⟨W6,hW6⟩:∃W6,W6=((w2.setCell ⟨hb,0,none⟩ (.int .i64 n1)).setCell ⟨hb,1,none⟩ (.bool d1)):=⟨_,rfl⟩;have hq6:=HQ2.out;have hbx6:W6.heap[hb]?=some (.cells #[.int .i64 n1,.bool d1] 312 (0,0)):=by rw[hW6];exact zEC HBX.out
     rw[←hW6] at hq6 ⊢;have HQ6:=hid hq6;clear b0 b1 f0 f1;have b0:=cell_of_row W6 hb 0 _ _ _ hbx6;simp at b0;have f14:=hq6.1.f 14;have c14:=hq6.1.c.1;clear hW6 HQ2 hq6 HBX hbx6;go_wp2
     go_end0
     refine⟨rfl,?_⟩;rw[HEN.out];exact zBb HQ6.out _
   | cons x l e r =>
    have hlen:=HV.out.hk;simp only[Il.len] at hlen;have hki:(k:Int)<(n:Int):=by omega
    obtain⟨b,off,rfl,hbn,hx,⟨c0,c1,c2',c3,c4,c5,c6,c7⟩,ht,hl',he',-⟩:=HV.out.it.resolve_left (fun h=>by cases h);have hal:=HV.out.al;simp only[Il.all,Bool.and_eq_true] at hal;have hres:=J0 hal.1.1.1;have hct:=HV.out.ct;simp only[Il.count] at hct;have hcn:=HV.out.cn;simp only[Il.count] at hcn;have hdp:=HV.out.dp;simp only[Il.deep] at hdp;have hnb:=HV.out.n0;dsimp only at hnb;obtain⟨W6,hW6⟩:∃W6,W6=wr.setCell ⟨g,15,none⟩ (.int .i64 (j'.cnt+1)):=⟨_,rfl⟩;have hs6:zF g wr W6:=by rw[hW6];exact zF.setCell (p:=⟨g,15,none⟩) (zF.refl g wr) (.inl rfl) _
    have hq6:JQ g (jhd m t1 tr lo) (.slice (some ⟨b2,0,none⟩) ls2.length c2) j'.next W W6:=by rw[hW6];exact zEW HV.out.jq
    have hbl6:Below n₀ wr W6:=hs6.below (by have:=HV.out.jq.2.size;have:=HSW.out;omega) HGN.out;have HLb:zD n₀ W6.drew x.la x.ln l:=(show zD n₀ wr x.la x.ln l from hl').below hbl6.drew;have HEb:zD n₀ W6.drew x.ea x.en e:=(show zD n₀ wr x.ea x.en e from he').below hbl6.drew;have HTb:=ht.below hbl6.drew;have C1:=hid (CO.out W6.drew (some ⟨b2,0,none⟩) c2 j'.next x l e (by omega) (by omega) hal.1.1.2 hal.1.2 ⟨hq6.1.box,hq6.1.len⟩ (HV.out.lb.save ⟨hs6.os,hs6.tape,hs6.output,hs6.size,hs6.block⟩) (by omega) (by show 0≤j'.cnt+1;omega) (by show j'.cnt+1+_+_≤_;omega) ⟨hq6.2.os,hq6.2.tape,hq6.2.output,hq6.2.size,hq6.2.block⟩ hx hres HTb HLb HEb ⟨hn,hd'⟩ (j'.cnt+1) (by dsimp only;omega));have hone:=CN.out x (fun label=>yE m lo tr ls2 l label x.res (j'.cnt+1)) (fun label=>yE m lo tr ls2 e label x.res (j'.cnt+1)) (j'.cnt+1) (⟨hn,hd'⟩,j'.next) hres hnb.1;obtain⟨Q1,hQ1⟩:∃Q,qH m lo tr ls2 x (fun label=>yE m lo tr ls2 l label x.res (j'.cnt+1)) (fun label=>yE m lo tr ls2 e label x.res (j'.cnt+1)) (j'.cnt+1) (⟨hn,hd'⟩,j'.next)=Q:=⟨_,rfl⟩;obtain⟨⟨n1,d1⟩,j2⟩:=Q1;rw[hQ1] at C1 hone;have HN2':=hid (fun (w2:World) (hq:JQ g (jhd m t1 tr lo) (.slice (some ⟨b2,0,none⟩) ls2.length c2) j2 (wr.setCell ⟨g,15,none⟩ (.int .i64 (j'.cnt+1))).drew w2)=>zEv.next HV.out hje HGN.out HSW.out HHB.out.1 HHB.out.2.1 HHB.out.2.2 hQ1 hone hq);dsimp only at C1 hone;rw[←hW6] at HN2';have d0:=hbl6.cell (p:=⟨b,off+k*8,none⟩) hbn |>.trans c0;have d1':=hbl6.cell (p:=⟨b,off+k*8+1,none⟩) hbn |>.trans c1;have d2:=hbl6.cell (p:=⟨b,off+k*8+2,none⟩) hbn |>.trans c2';have d3:=hbl6.cell (p:=⟨b,off+k*8+3,none⟩) hbn |>.trans c3;have d4:=hbl6.cell (p:=⟨b,off+k*8+4,none⟩) hbn |>.trans c4;have d5:=hbl6.cell (p:=⟨b,off+k*8+5,none⟩) hbn |>.trans c5;have d6:=hbl6.cell (p:=⟨b,off+k*8+6,none⟩) hbn |>.trans c6;have d7:=hbl6.cell (p:=⟨b,off+k*8+7,none⟩) hbn |>.trans c7;have e0:=hs6.cell (p:=⟨hb,0,none⟩) HHB.out.1 b0;have e1:=hs6.cell (p:=⟨hb,1,none⟩) HHB.out.1 b1;have e15:=hq6.1.c.2.1;have HBX:=hid ((hs6.block hb (Array.getElem?_eq_some_iff.1 HV.out.bx).1 HHB.out.1).trans HV.out.bx);have hcb0:-9223372036854775808≤j'.cnt:=by omega
    have hcb1:j'.cnt≤1000000:=by omega
    obtain⟨op,xres,xa,xb,xn,tags,ta,tc,xla,ln,xlc,ea,en,ec⟩:=x;unfold HvV Ix.vals at C1;dsimp only at C1 d0 d1' d2 d3 d4 d5 d6 d7;have HW6:=hid hW6;have hnn:J.next j'=⟨j'.cnt+1,j'.e,j'.at_⟩:=rfl;rw[hnn] at e15;dsimp only at e15;clear c0 c1 c2' c3 c4 c5 c6 c7 hx ht hl' he' hal hres hct hcn hdp hnb hs6 hq6 hbl6 HLb HEb HTb hQ1 hone hje hbn hW6 hlen hnn
    go_upto_region 7 with fail
    rw[←HW6.out];clear b0 b1 f0 f1 c15 f15 c14 f14 c16
    go_still_tail 10,(by kernel_rfl)
    change wpList _ _ _ _ _ W6.drew
    go_wp2_with fail
    refine C1.out.mono ?_;rintro en w2 ⟨rfl,hq⟩;have HNEW:=hid (HN2'.out w2 hq);have HBX2:=(hq.2.block hb (Array.getElem?_eq_some_iff.1 HBX.out).1 HHB.out.1).trans HBX.out;clear d0 d1' d2 d3 d4 d5 d6 d7 e0 e1 e15 C1 HN2' hq HV HBX;have b0:=cell_of_row w2 hb 0 _ _ _ HBX2;have b1:=cell_of_row w2 hb 1 _ _ _ HBX2;have f0:=frozen_of_row w2 hb 0 _ _ HBX2;have f1:=frozen_of_row w2 hb 1 _ _ HBX2;simp at b0 b1;clear HBX2;go_wp2
    go_roundw
    case rel=>exact⟨k+1,r,⟨n1,d1⟩,j2,by go_num,HNEW⟩
    case measure=>simp[intOf];omega
  ·have hef:(j'.e==0)=false:=by simpa using hje
   have hRR:((⟨hn,hd'⟩,j'):Hv×J)=R:=by have:=HV.out.run;rw[zGM _ _ _ _ _ _ hje] at this;exact this
   have HEN:=hid (show Yf res a (⟨hn,hd'⟩,j')=j' by unfold Yf;rw[if_neg hje]);subst hRR;clear hje
   by_cases hlt:k<n
   ·have hki:(k:Int)<(n:Int):=by omega
    clear hlt;go_wp2
    go_end0
    refine⟨rfl,?_⟩;rw[HEN.out];exact zBb HV.out.jq _
   ·have hki:¬((k:Int)<(n:Int)):=by omega
    clear hlt;go_wp2
    go_end0
    refine⟨rfl,?_⟩;rw[HEN.out];exact zBb HV.out.jq _
theorem zIY {g n₀:Nat} {m:Md} {t1 tr lo:Int} (hg:n₀≤g) (hf:m.fits) (he:Env m) (hpp:∀t∈m.ty,t.1≤1000000) (htr:0≤tr∧tr≤1) (t:Il) (hall:t.all=true):LR g n₀ m t1 tr lo t:=by
 suffices h:∀(N:Nat) (u:Il),u.count<N→u.all=true→LR g n₀ m t1 tr lo u from h (t.count+1) t (Nat.lt_succ_self _) hall
 intro N
 induction N with
 | zero=>intro u h;omega
 | succ N ih=>intro u h ha;exact zEk hg hf he hpp htr u (fun v hv hva=>ih v (by omega) hva) ha
theorem zCa {t:Il} (h:zJ t=0):t.all=true∧t.count≤262144∧t.deep≤900:=by
 unfold zJ at h
 by_cases ha:t.all=true
 ·rw[if_pos ha] at h
  refine⟨ha,?_⟩
  by_cases hb:262144<t.count∨900<t.deep∨t.tags=true
  ·rw[if_pos hb] at h;exact absurd h (by decide)
  ·omega
 ·rw[if_neg ha] at h;exact absurd h (by decide)
theorem zA5 (m:Md) (w:World) (k:Nat) (hm:zN w.heap.size w m) (hf:m.fits) (hF:ky m) (hk:k<m.fu.length) (ht:(yL m k).ty<m.ty.length) :
  Calls Tryz.prog 96 #[.agg m.v,.int .i64 k] w fun e w'=>e=.returned (.tuple #[.int .i64 (Md.bodyJ m k).1,.int .i64 (Md.bodyJ m k).2])∧Below w.heap.size w w':=by
 have hfe:yL m k=m.fu[k]:=by unfold yL;simp[hk]
 have hmem:m.fu[k]∈m.fu:=List.getElem_mem hk;obtain⟨fb,fo,ha,hfb,hc⟩:=Rows.get hm.fu hk;have f0:w.cell? ⟨fb,fo+k*3,none⟩=some (.int .i64 (m.fu[k]).ty):=hc 0 (by omega) _ rfl;have f1:=hc 1 (by omega) _ rfl;have f2:=hc 2 (by omega) _ rfl;have hty0:=hF.ty _ hmem;have hlo:=hF.lo _ hmem;rw[hfe] at ht;have hcs:m.fu[k].l∈m.codes:=by unfold Md.codes;exact List.mem_append_left _ (List.mem_map.2 ⟨_,hmem,rfl⟩)
 obtain⟨hall,hct,hdp⟩:=zCa (hF.cs _ hcs);have hls:=hm.ls _ hcs;have hln:=hf.ls _ hcs;obtain⟨T,hT⟩:∃T:Nat,m.fu[k].ty=(T:Int):=⟨m.fu[k].ty.toNat,by omega⟩;have hTl:T<m.ty.length:=by omega
 obtain⟨tb,to,hta,htb,t0,t1⟩:=zIA hm hTl;have htr:=hF.tys.getD T
 have hB:Md.bodyJ m k=((yE m ((m.ty.getD T (0,0)).1+m.fu[k].lo) (m.ty.getD T (0,0)).2 [] m.fu[k].l.t (m.ty.getD T (0,0)).2 (m.ty.getD T (0,0)).2 0 ⟨0,0,0⟩).e,(yE m ((m.ty.getD T (0,0)).1+m.fu[k].lo) (m.ty.getD T (0,0)).2 [] m.fu[k].l.t (m.ty.getD T (0,0)).2 (m.ty.getD T (0,0)).2 0 ⟨0,0,0⟩).at_):=by
  have e:m.fu.getD k ⟨0,0,⟨none,0,.nil⟩⟩=m.fu[k]:=by simp[hk]
  unfold Md.bodyJ;rw[e];simp only[hT,Int.toNat_natCast]
 rw[hB];obtain⟨⟨p,r⟩,hpr⟩:∃q,m.ty.getD T (0,0)=q:=⟨_,rfl⟩;rw[hpr] at t0 t1 htr ⊢;obtain⟨⟨fty,lo,⟨la,lc,lt⟩⟩,hfk⟩:∃f,m.fu[k]=f:=⟨_,rfl⟩;rw[hfk] at f0 f1 f2 hlo hall hct hdp hls hln hT ⊢;dsimp only[Lst.val] at f0 f1 f2 hlo hall hct hdp hls hln hT htr t0 t1 ⊢;subst hT
 have CL:=hid (fun (W:World) (g:Nat) (hg:w.heap.size≤g) (hj:JAt W g (jhd m p r (p+lo)) (.slice none 0 0) ⟨0,0,0⟩) (hb:Below w.heap.size w W) =>
   zIY (t1:=p) (tr:=r) (lo:=p+lo) hg hf (zG2 hF) (fun t ht=>by have:=hF.tys t ht;omega) (by omega) lt hall W none 0 [] ⟨0,0,0⟩ la lt.len lc r r 0 hj (.inl rfl) (by simp;omega) (by simp) (by omega) (by omega) (by simp) (by simp;omega) (hm.below hb) (hls.below hb))
 obtain⟨R,hR⟩:∃R,yE m (p+lo) r [] lt r r 0 ⟨0,0,0⟩=R:=⟨_,rfl⟩;rw[hR] at CL ⊢;obtain⟨n,hn⟩:∃n,lt.len=n:=⟨_,rfl⟩;rw[hn] at CL f2 hln;obtain⟨W0,hW0⟩:∃W0,W0=w.alloc (.cells m.v 40):=⟨_,rfl⟩;have hs0:W0.heap.size=w.heap.size+1:=by rw[hW0];simp
 have hb0:Below w.heap.size w W0:=by rw[hW0];exact zG _ _
 have hx0:zB W0 w.heap.size m.v:=by rw[hW0];exact zB.made w m.v _
 obtain⟨W1,hW1⟩:∃W1,W1=W0.alloc (.cells #[.int .i64 (T:Int),.int .i64 lo,.slice la n lc] 43):=⟨_,rfl⟩;have hs1:W1.heap.size=w.heap.size+2:=by rw[hW1];simp;omega
 have hb1:Below W0.heap.size W0 W1:=by rw[hW1];exact zG _ _
 have hx1:zB W1 (w.heap.size+1) #[.int .i64 (T:Int),.int .i64 lo,.slice la n lc]:=by rw[hW1,←hs0];exact zB.made W0 _ _
 obtain⟨W2,hW2⟩:∃W2,W2=W1.alloc (.cells #[.int .i64 p,.int .i64 r] 26):=⟨_,rfl⟩;have hs2:W2.heap.size=w.heap.size+3:=by rw[hW2];simp;omega
 have hb2:Below W1.heap.size W1 W2:=by rw[hW2];exact zG _ _
 have hx2:zB W2 (w.heap.size+2) #[.int .i64 p,.int .i64 r]:=by rw[hW2,←hs1];exact zB.made W1 _ _
 obtain⟨W3,hW3⟩:∃W3,W3=W2.alloc (.cells (jhd m p r (p+lo)++[Value.slice none 0 0,Value.int .i64 0,Value.int .i64 0,Value.int .i64 0]).toArray 261):=⟨_,rfl⟩;have hb3:Below W2.heap.size W2 W3:=by rw[hW3];exact zG _ _
 have hbw:Below w.heap.size w W3:=zM (zM (zM hb0 hb1) hb2) hb3;have hj3:JAt W3 (w.heap.size+3) (jhd m p r (p+lo)) (.slice none 0 0) ⟨0,0,0⟩:=⟨by rw[hW3,←hs2];exact heap_alloc_new W2 _,rfl⟩;have C1:=hid (CL.out W3 (w.heap.size+3) (by omega) hj3 hbw);have HB:=hid hbw;have HW0:=hid hW0;have HW1:=hid hW1;have HW2:=hid hW2;have HW3:=hid hW3;have HS:=hid (show W0.heap.size=w.heap.size+1∧W1.heap.size=w.heap.size+2∧W2.heap.size=w.heap.size+3 from ⟨hs0,hs1,hs2⟩);have HX0:=hid hx0;have HX1:=hid hx1;have HX2:=hid hx2;have HB1:=hid hb1;have HB2:=hid hb2;have HB3:=hid hb3;have g0:=kP hb0 f0;have g1:=kP hb0 f1;have g2:=kP hb0 f2;have HT0:=hid (kP (zM hb0 hb1) t0);have HT1:=hid (kP (zM hb0 hb1) t1);have hki:(k:Int)<(m.fu.length:Int):=by omega
 have hTi:(T:Int)<(m.ty.length:Int):=by omega
 have hfl:=hf.fu;have htl:=hf.ty;have HA:=hid ha;have HTA:=hid hta;obtain⟨hp0,hp1⟩:0≤p∧p≤255:=by omega
 obtain⟨hl0,hl1⟩:=hlo;clear hm hf hF hfe hmem hc hk ht hty0 hcs hall hct hdp hls hB hpr hfk htr hR hn hb3 hj3 hW3 hW0 hW1 hW2 hbw hb0 hb1 hb2 hx0 hx1 hx2 hs0 hs1 hs2 f0 f1 f2 t0 t1 CL hfb htb hTl ha hta
 go_enter Tryz.func96,Tryz.ntmps96
 go_upto_region 1 with fail
 rw[←HW0.out];have hxx:=HX0.out;unfold Md.v at hxx;obtain⟨n0,n1,n2,n3,n4,n5,n6,n7,n8,n9,n10⟩:=zB.mod hxx;rw[HA.out] at n2;clear hxx
 go_upto_region 2 with fail
 rw[HS.out.1,←HW1.out];have hxx:=HX0.out.keep HB1.out;unfold Md.v at hxx;clear n0 n1 n2 n3 n4 n5 n6 n7 n8 n9 n10 g0 g1 g2;obtain⟨n0,n1,n2,n3,n4,n5,n6,n7,n8,n9,n10⟩:=zB.mod hxx;rw[HTA.out] at n0;have b0:=HX1.out 0 _ rfl;have t0:=HT0.out;have t1:=HT1.out;clear hxx
 go_upto_region 3 with fail
 rw[HS.out.2.1,←HW2.out];have hxx:=(HX0.out.keep HB1.out).keep HB2.out;unfold Md.v at hxx;clear n0 n1 n2 n3 n4 n5 n6 n7 n8 n9 n10 t0 t1 b0;obtain⟨n0,n1,n2,n3,n4,n5,n6,n7,n8,n9,n10⟩:=zB.mod hxx;have hyy:=HX1.out.keep HB2.out;have b0:=hyy 0 _ rfl;have b1:=hyy 1 _ rfl;have b2:=hyy 2 _ rfl;have t0:=HX2.out 0 _ rfl;have t1:=HX2.out 1 _ rfl;clear hxx hyy
 go_upto_region 4 with fail
 rw[show W2.alloc (.cells #[.slice m.ty'.a m.ty.length m.ty'.c,.slice m.im'.a m.im.length m.im'.c,.slice m.fu'.a m.fu.length m.fu'.c,.slice m.tb'.a m.tb.length m.tb'.c,.slice m.me'.a m.me.length m.me'.c,.slice m.gl'.a m.gl.length m.gl'.c,.slice m.ex'.a m.ex.length m.ex'.c,.bool m.st,.int .u32 m.sn,.slice m.el'.a m.el.length m.el'.c,.slice m.da'.a m.da.length m.da'.c,.int .i64 p,.int .i64 r,.int .i64 (p+lo),.slice none 0 0,.int .i64 0,.int .i64 0,.int .i64 0] 261)=W3 from HW3.out.symm,HS.out.2.2];have hyy:=(HX1.out.keep HB2.out).keep HB3.out;have hzz:=HX2.out.keep HB3.out;clear n0 n1 n2 n3 n4 n5 n6 n7 n8 n9 n10 t0 t1 b0 b1 b2;have b2:=hyy 2 _ rfl;have t1:=hzz 1 _ rfl;clear hyy hzz
 go_wp2_with fail
 refine C1.out.mono ?_;rintro e w1 ⟨rfl,hq⟩;have c16:=hq.1.c.2.2.1;have c17:=hq.1.c.2.2.2;have HQ:=hid (HB.out.trans (hq.2.below (by have:=HB.out.size;omega) (by omega)));clear b2 t1 hq C1
 go_upto_region 5 with fail
 go_quiet (fail)
 go_wp2;go_ret2;exact⟨rfl,by have:=HQ.out;exact⟨this.os,this.tape,this.output,this.size,this.block⟩⟩
end Val
end Go.Proofs.YtdljneclfgneoaaGreatDoor
