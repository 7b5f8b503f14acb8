import Derived.Test.YtdljneclfgneoaaGreatDoorVt15
import Derived.Test.YtdljneclfgneoaaGreatDoorVt16
import Derived.Test.YtdljneclfgneoaaGreatDoorVt17
import Derived.Test.YtdljneclfgneoaaGreatDoorVt18
import Derived.Laws.AppendOwnNone
import Derived.Deep.RegionHeld
import Derived.Deep.RegionHeld3
import Derived.RegionTactic
import Derived.BigRegion
import Derived.BigQuiet
set_option linter.unusedVariables false
set_option linter.ambiguousOpen false
set_option maxRecDepth 100000
set_option maxHeartbeats 8000000
namespace Go.Proofs.YtdljneclfgneoaaGreatDoor
namespace Instr
end Instr
namespace Mod
end Mod
namespace Stk
end Stk
namespace Body
open Go.RowKit Instr
theorem qO (w:World) (base:Nat) (t ty e:TypeId) (i:TypeInfo) (size c:Nat) (ht:Tryz.prog.underlying t=some (.slice e)) (hi:Tryz.prog.info? e=some i)
  (v:Value) (n:Nat) (xs:List Value) (hown:w.ownsRow base e size v n xs) :
  (Builtin.append_ #[t,t] ty #[v,.slice none 0 c]).run Tryz.prog w=.ok v w:=by
 rcases hown.2 with ⟨rfl,rfl⟩|⟨g,cap,cur,rfl,_,_,hnc,_⟩
 ·simp[Builtin.append_,run_underlying ht,sizeOf,typeInfo,hi,Builtin.lenOf,Builtin.firstCells]
 ·simp[Builtin.append_,run_underlying ht,sizeOf,typeInfo,hi,Builtin.lenOf,Builtin.firstCells,hnc,storeCells]
section
variable {ops:Array Oper} {rest:List Oper} {o:Oper} {act:Act} {Q:Exit→Act→World→Prop}
theorem vF (hgd:o.guard=none) (s x:Operand) (t:TypeId) (ho:o.op=.call { callee:=.builtin .append,args:=#[s,x],argTypes:=#[t,t] })
  {w:World} (base:Nat) (e:TypeId) (i:TypeInfo) (size c:Nat) (ht:Tryz.prog.underlying t=some (.slice e)) (hi:Tryz.prog.info? e=some i)
  (v:Value) (n:Nat) (xs:List Value) (hs:act.eval s=v) (hown:w.ownsRow base e size v n xs) (hx:act.eval x=.slice none 0 c)
  (h:wpList Tryz.prog ops Q rest (act.put o.dst v) w):wpList Tryz.prog ops Q (o::rest) act w:=by
 refine wpList_plain hgd fun K hK=>?_
 have hrun:=qO w base t o.type e i size c ht hi v n xs hown;unfold Oper.wp;simp[execOp,ho,resolve,invoke,builtin,hs,hx,hrun,Result.andThen];exact hK _ _ h
theorem zCt (hgd:o.guard=none) (s x:Operand) (ho:o.op=.call { callee:=.builtin .append,args:=#[s,x],argTypes:=#[27,27] })
  {base:Nat} {w0 wr:World} {v:Value} {xs ys:List Int} (hs:act.eval s=v) (hown:qR 36 .u32 base wr v xs) (hb:Below base w0 wr) (hbase:base≤wr.heap.size)
  (a2:Option Addr) (n c:Nat) (hx:act.eval x=.slice a2 n c) (hn:ys.length=n) (hy:zk wr.heap.size wr a2 ys) (hl:xs.length+ys.length≤8796093022208)
  (h:∀v' w',qR 36 .u32 base w' v' (xs++ys)→Below base w0 w'→base≤w'.heap.size→wpList Tryz.prog ops Q rest (act.put o.dst v') w') :
  wpList Tryz.prog ops Q (o::rest) act wr:=by
 obtain⟨i0,hi,hz0,hz1,hz2⟩:=info_parts zHs;subst hn
 have fin:∀v' w',w'.ownsRow base 36 1 v' (xs.length+ys.length) (xs.map (Value.int .u32)++ys.map (Value.int .u32))→wr.grownBy w' v.ownBlock→wpList Tryz.prog ops Q rest (act.put o.dst v') w':=by
  intro v' w' hown' hgrow;refine h v' w' ?_ (hb.grown hgrow (by omega) (fun k hk=>(World.ownsRow.lt hown k hk).1)) (by have:=hgrow.size;omega);unfold qR;rw[List.length_append,List.map_append];exact hown'
 rcases hy with h0|⟨b,off,rfl,hlt,hc⟩
 ·subst h0
  cases a2 with
  | none=>exact vF hgd s x 27 ho base 36 i0 1 c Tryz.underlying27 hi v xs.length _ hs hown hx (h v wr (by simpa using hown) hb hbase)
  | some ad =>
   refine wpList_append_own _ hgd s x 27 ho base 36 i0 (.int .u32 0) 1 4 Tryz.underlying27 hi hz0 hz1 hz2 rfl (by decide) v xs.length _ hs hown ad 0 c [] hx rfl
    (by simp) (by simp) ?_ ?_ hbase (fun v' w' hown' hgrow _=>fin v' w' (by simpa using hown') hgrow)
   ·unfold maxLen;simp at hl;omega
   ·simp at hl;omega
 ·refine wpList_append_own _ hgd s x 27 ho base 36 i0 (.int .u32 0) 1 4 Tryz.underlying27 hi hz0 hz1 hz2 rfl (by decide) v xs.length _ hs hown ⟨b,off,none⟩ ys.length c (ys.map (Value.int .u32)) hx (by simp)
   ?_ ?_ ?_ ?_ hbase (fun v' w' hown' hgrow _=>fin v' w' hown' hgrow)
  ·intro j u hj
   have hjl:j<ys.length:=by
    rcases Nat.lt_or_ge j ys.length with h|h
    ·exact h
    ·rw[List.getElem?_eq_none (by simpa using h)] at hj;cases hj
   have hplain:(⟨b,off,none⟩:Addr).add j=⟨b,off+j,none⟩:=by unfold Addr.add;split<;>simp_all
   rw[hplain,hc j hjl];rw[←hj,getD_lt hjl];simp[hjl]
  ·intro u hu
   obtain⟨n,_,rfl⟩:=List.mem_map.1 hu;rfl
  ·unfold maxLen;omega
  ·omega
end
section
variable {ops:Array Oper} {rest:List Oper} {o:Oper} {act:Act} {Q:Exit→Act→World→Prop}
theorem zCd (hgd:o.guard=none) (s x:Operand) (ho:o.op=.call { callee:=.builtin .append,args:=#[s,x],argTypes:=#[22,22] })
  {base n:Nat} {wr:World} {v:Value} {xs:List Value} (y:Ix) (hs:act.eval s=v) (hown:wr.ownsRow base 92 8 v n xs) (hbase:base≤wr.heap.size) (g0:Nat) (hg0:g0=wr.heap.size)
  (hx:act.eval x=.slice (some ⟨g0,0,none⟩) 1 1) (hn:n≤1000000)
  (h:∀g cap w',w'.ownsRow base 92 8 (.slice (some ⟨g,0,none⟩) (n+1) cap) (n+1) (xs++y.vals.toList)→(wr.alloc (.cells y.vals 92)).grownBy w' v.ownBlock→(v.ownBlock=some g∨g=(wr.alloc (.cells y.vals 92)).heap.size)→wpList Tryz.prog ops Q rest (act.put o.dst (.slice (some ⟨g,0,none⟩) (n+1) cap)) w') :
  wpList Tryz.prog ops Q (o::rest) act (wr.alloc (.cells y.vals 92)):=by
 subst hg0;exact zDv hgd s x ho y hs hown hbase hx hn h
end
def zEP (w:World) (n:Nat) (t:Il) (e:Ending) (w':World):Prop :=
 ∃(a:Option Addr) (c:Nat) (u:Il),e=.returned (.slice a n c)∧Below w.heap.size w w'∧zD w'.heap.size w' a n u∧(∀q∈zV n a++u.foot,w.heap.size≤q)∧u.bare=t.bare
theorem zDu (w:World):qR 36 .u32 w.heap.size (w.alloc (.cells #[] 36)) (.slice (some ⟨w.heap.size,0,none⟩) 0 0) []:=World.ownsRow_made w #[] 0 (Nat.le_refl _) (by unfold maxLen;omega) rfl
def Left (w:World) (a:Option Addr) (k:Nat) (r:Il):Prop:=r=.nil∨∃b off,a=some ⟨b,off,none⟩∧zg w.heap.size w b (off+k*8) r
theorem zB7:∀(m:Nat) (t:Il) (a:Option Addr) (n c:Nat) (w:World),t.weight≤m→m≤100000→zD w.heap.size w a n t →
  Calls Tryz.prog 76 #[.slice a n c] w (zEP w n t):=by
 intro m
 induction m using Nat.strongRecOn with
 | ind m ih =>
  intro t a n c w hm hm1 hL
  have hIH:∀(t':Il) (a':Option Addr) (n' c':Nat) (w':World),t'.weight<m→zD w'.heap.size w' a' n' t'→Calls Tryz.prog 76 #[.slice a' n' c'] w' (zEP w' n' t') :=
   fun t' a' n' c' w' h1 h2=>ih t'.weight h1 t' a' n' c' w' (Nat.le_refl _) (by omega) h2
  have IH:=hid hIH;have HW:=hid hm
  have H0:=hid (show Left w a 0 t from by
    rcases hL.2 with h|⟨b,off,h1,h2⟩
    · exact .inl h
    · exact .inr ⟨b,off,h1,by simpa using h2⟩)
  have HLN:=hid hL.1;clear hIH ih hm hL
  go_enter Tryz.func76,Tryz.ntmps76
  go_wp2
  go_loopw [3,4,5] (fun vo vi v5 wr=>∃(k:Nat) (u r:Il),vi=.int .i64 k∧u.len=k∧r.len+k=n∧r.weight+k≤m∧Hid (LOk w vo u wr)∧Hid (Below w.heap.size w wr)∧Hid (Left w a k r)∧Hid (u.bare.app r.bare=t.bare)) (fun _ vi _ _=>n-(intOf vi).toNat)
  case atStart=>exact⟨0,.nil,t,rfl,rfl,HLN.out,HW.out,LOk.start w w,Below.refl _ _,H0,rfl⟩
  case round =>
   clear H0 HW HLN;obtain⟨k,u,r,rfl,hu,hr,hw,HO,HB,HI,HE⟩:=hrel
   cases r with
   | nil =>
    simp only[Il.len] at hr;obtain rfl:k=n:=by omega
    obtain⟨a0,c0,rfl,hl,hlow⟩:=HO.out.value;rw[hu] at hl hlow ⊢;have HLL:=hid hl;have HLW:=hid hlow;have hE:=HE.out;simp only[Il.bare,zD7] at hE;have HE2:=hid hE;clear hl hlow hE HO HI HE;go_wp2;go_ret;exact⟨a0,c0,u,rfl,HB.out,HLL.out,HLW.out,HE2.out⟩
   | cons x l e r =>
    simp only[Il.len] at hr;simp only[Il.weight] at hw;have hkn:(k:Int)<(n:Int):=by omega
    obtain⟨b,off,rfl,hits⟩:∃b off,a=some ⟨b,off,none⟩∧zg w.heap.size w b (off+k*8) (.cons x l e r):=by
     rcases HI.out with h|h
     ·cases h
     ·exact h
    obtain⟨op,res,xa,xb,xn,tags,ta,tc,la,ln,lc,ea,en,ec⟩:=x;obtain⟨hb,hx,⟨c0,c1,c2,c3,c4,c5,c6,c7⟩,htg,hl,he,hrr⟩:=hits;have HX:=hid hx;dsimp only at c0 c1 c2 c3 c4 c5 c6 c7 htg hl he hw;have cc:∀i v,w.cell? ⟨b,i,none⟩=some v→wr.cell? ⟨b,i,none⟩=some v:=fun i v h=>(HB.out.cell (p:=⟨b,i,none⟩) hb).trans h
    have c0:=cc _ _ c0;have c1:=cc _ _ c1;have c2:=cc _ _ c2;have c3:=cc _ _ c3;have c4:=cc _ _ c4;have c5:=cc _ _ c5;have c6:=cc _ _ c6;have c7:=cc _ _ c7;have HR2:=hid (show Left w (some ⟨b,off,none⟩) (k+1) r from .inr ⟨b,off,rfl,by rw[show off+(k+1)*8=off+k*8+8 by omega];exact hrr⟩);have C1:=hid (fun W (hb:Below w.heap.size w W)=>IH.out l la ln lc W (by omega) (show zD W.heap.size W la ln l from zD.on (w:=w) hl hb));have C2:=hid (fun W (hb:Below w.heap.size w W)=>IH.out e ea en ec W (by omega) (show zD W.heap.size W ea en e from zD.on (w:=w) he hb));have hTG:zk w.heap.size w ta tags:=htg;have HTG:=hid (fun W (hb:Below w.heap.size w W)=>(hTG.below hb).more hb.size);have htl:tags.length≤100000:=by omega
    have Y0:=zHR ⟨op,res,xa,xb,xn,tags,ta,tc,la,ln,lc,ea,en,ec⟩ wr;have W0B:=hid (zFs wr (.cells #[.int .i64 op,.int .i64 res,.int .u32 xa,.int .u32 xb,.int .i32 xn,.slice ta tags.length tc,.slice la ln lc,.slice ea en ec] 92));have Y1:=hid (Y0.alloc (.cells #[] 36));have OW:=zDu (wr.alloc (.cells (⟨op,res,xa,xb,xn,tags,ta,tc,la,ln,lc,ea,en,ec⟩:Ix).vals 92));rw[show (wr.alloc (.cells (⟨op,res,xa,xb,xn,tags,ta,tc,la,ln,lc,ea,en,ec⟩:Ix).vals 92)).heap.size=wr.heap.size+1 by simp] at OW;have HOW:=hid OW;obtain⟨⟨-,-,-,-,-,b5,-,-⟩,-,-,-,-,-,g5,-,-⟩:=Y1.out;dsimp only[Ix.vals] at b5 g5;clear hb htg hl he hrr cc hx HI Y0 OW hTG;have BW1:=hid (HB.out.trans ((zC W0B.out (.cells #[] 36)).mono HB.out.size));have SZ1:=hid (show wr.heap.size+1≤((wr.alloc (.cells #[.int .i64 op,.int .i64 res,.int .u32 xa,.int .u32 xb,.int .i32 xn,.slice ta tags.length tc,.slice la ln lc,.slice ea en ec] 92)).alloc (.cells #[] 36)).heap.size by simp);have HTL:=hid htl;clear htl
    go_wp2_with (first
      | (at_builtin;refine zCt rfl (.tmp 16) (.tmp 18) rfl rfl HOW.out (Below.refl _ _) SZ1.out ta tags.length tc rfl rfl (HTG.out _ BW1.out) (by have:=HTL.out;simp;omega) ?_;intro v6 w6 ho6 hb6 hs6;rw[List.nil_append] at ho6;obtain⟨a6,c6',rfl⟩:=ho6.sliceN (n:=tags.length) rfl;have O6:=hid ho6;have B6:=hid hb6;clear b5 g5 ho6 hb6;have Y6:=hid (Y1.out.belowB B6.out (Nat.lt_succ_self _));have b5:=Y6.out.at_.c5;have g5:=Y6.out.f5;dsimp only at b5;refine Hid.out ?_))
    refine hid ?_;have Y7:=hid (Y6.out.setT tags a6 c6');have BR6:=hid ((zC W0B.out (.cells #[] 36)).trans (B6.out.mono (Nat.le_succ _)));have BR7:=hid (BR6.out.setCell (p:=⟨wr.heap.size,5,none⟩) (Nat.le_refl _) (.slice a6 tags.length c6'));have BW7:=hid (HB.out.trans (BR7.out.mono HB.out.size));have TG6:=hid (zHG O6.out);have SV67:=hid ((zF.refl wr.heap.size w6).setCell (p:=⟨wr.heap.size,5,none⟩) (.inl rfl) (.slice a6 tags.length c6'));have D1:=hid (C1.out _ BW7.out);obtain⟨⟨-,-,-,-,-,-,b6,-⟩,-,-,-,-,-,-,g6,-⟩:=Y7.out;dsimp only at b6 g6;clear C1 Y6 Y1 HOW HTG W0B BW1 SZ1 B6
    go_wp2_with fail
    refine D1.out.mono ?_;clear D1 b5 g5;rintro e1 w8 ⟨a8,c8,u8,rfl,hb8,hl8,hlow8,hbr8⟩;have Y8:=hid (Y7.out.belowB hb8 (by have:=World.block_lt_of_cell? _ _ Y7.out.at_.c0;simpa using this));have BR8:=hid (BR7.out.trans (hb8.mono BR7.out.size));have SV68:=hid (SV67.out.trans (zF.of_below hb8));have HL8:=hid hl8;have HLW8:=hid (fun q hq=>Nat.le_trans (show w6.heap.size≤(w6.setCell ⟨wr.heap.size,5,none⟩ (.slice a6 tags.length c6')).heap.size from by simp[World.setCell]) (hlow8 q hq));have HBR8:=hid hbr8;obtain⟨⟨-,-,-,-,-,-,b6,-⟩,-,-,-,-,-,-,g6,-⟩:=Y8.out;dsimp only at b6 g6;have Y9:=hid (Y8.out.setL a8 ln c8);have BR9:=hid (BR8.out.setCell (p:=⟨wr.heap.size,6,none⟩) (Nat.le_refl _) (.slice a8 ln c8));have SV89:=hid ((zF.refl wr.heap.size w8).setCell (p:=⟨wr.heap.size,6,none⟩) (.inl rfl) (.slice a8 ln c8));have BW9:=hid (HB.out.trans (BR9.out.mono HB.out.size));have D2:=hid (C2.out _ BW9.out);obtain⟨⟨-,-,-,-,-,-,-,b7⟩,-,-,-,-,-,-,-,g7⟩:=Y9.out;dsimp only at b7 g7;clear C2 Y7 Y8 hb8 hl8 hlow8 hbr8 BR7 BR8 SV67
    go_wp2_with fail
    refine D2.out.mono ?_;clear D2 b6 g6;rintro e2 w10 ⟨a10,c10,u10,rfl,hb10,hl10,hlow10,hbr10⟩;have Y10:=hid (Y9.out.belowB hb10 (by have:=World.block_lt_of_cell? _ _ Y9.out.at_.c0;simpa using this));have BR10:=hid (BR9.out.trans (hb10.mono BR9.out.size));have SV810:=hid (SV89.out.trans (zF.of_below hb10));have HL10:=hid hl10;have HLW10:=hid (fun q hq=>Nat.le_trans (show w8.heap.size≤(w8.setCell ⟨wr.heap.size,6,none⟩ (.slice a8 ln c8)).heap.size from by simp[World.setCell]) (hlow10 q hq));have HBR10:=hid hbr10;have Y11:=hid (Y10.out.setE a10 en c10);have BR11:=hid (BR10.out.setCell (p:=⟨wr.heap.size,7,none⟩) (Nat.le_refl _) (.slice a10 en c10));have SV1011:=hid ((zF.refl wr.heap.size w10).setCell (p:=⟨wr.heap.size,7,none⟩) (.inl rfl) (.slice a10 en c10));obtain⟨⟨-,-,-,-,-,-,-,b7⟩,-,-,-,-,-,-,-,g7⟩:=Y10.out;dsimp only at b7 g7;obtain⟨⟨z0,z1,z2,z3,z4,z5,z6,z7⟩,-,-,-,-,-,-,-,-⟩:=Y11.out;dsimp only at z0 z1 z2 z3 z4 z5 z6 z7;clear Y9 Y10 hb10 hl10 hlow10 hbr10 BR9 BR10 SV89;have SZ6:=hid (show wr.heap.size+1≤w6.heap.size from hs6);have SZ8:=hid (show w6.heap.size≤w8.heap.size from SV68.out.size)
    have kids:(Il.cons ⟨op,res,xa,xb,xn,tags,a6,c6',a8,ln,c8,a10,en,c10⟩ u8 u10 .nil).kids (w10.setCell ⟨wr.heap.size,7,none⟩ (.slice a10 en c10)):=by
     have hx:=HX.out;refine⟨⟨hx.op,hx.res,hx.a,hx.b,hx.n,hx.tags,hx.tn,hx.ln,hx.en⟩,?_,?_,?_,trivial⟩
     ·have T:=(SV68.out.trans SV810.out).trans SV1011.out
      refine (TG6.out.1.touch (.of_save T) (fun q hq h=>?_)).more T.size;have:=TG6.out.2.1 q hq;omega
     ·have T:=SV810.out.trans SV1011.out
      refine zD.more T.size (HL8.out.touch (.of_save T) (fun q hq h=>?_));have h1:=HLW8.out q hq;have h2:=SZ6.out;omega
     ·refine zD.more SV1011.out.size (HL10.out.touch (.of_save SV1011.out) (fun q hq h=>?_))
      have h1:=HLW10.out q hq;have h2:=SZ6.out;have h3:=SZ8.out;omega
    have hlo:∀q∈(Il.cons ⟨op,res,xa,xb,xn,tags,a6,c6',a8,ln,c8,a10,en,c10⟩ u8 u10 .nil).foot,wr.heap.size≤q:=by
     intro q hq;simp only[Il.foot,List.append_nil] at hq;have h2:=SZ6.out;have h3:=SZ8.out
     rcases List.mem_append.1 hq with hq|hq
     ·rcases List.mem_append.1 hq with hq|hq
      ·have:=TG6.out.2.1 q hq;omega
      ·have:=HLW8.out q hq;omega
     ·have:=HLW10.out q hq;omega
    have KD:=hid kids;have HLO:=hid hlo;have HO11:=hid (HO.out.touch (S:=fun _=>False) (.of_below BR11.out) (fun _ _ h=>h));have hsz11:w.heap.size≤(w10.setCell ⟨wr.heap.size,7,none⟩ (.slice a10 en c10)).heap.size:=Nat.le_trans HB.out.size BR11.out.size;have hu1:u.len≤1000000:=by omega
    have ROW:=hid HO11.out.row;clear kids hlo
    go_wp2_with (first
      | (at_builtin;refine zCd rfl (.tmp 29) (.tmp 31) rfl ⟨op,res,xa,xb,xn,tags,a6,c6',a8,ln,c8,a10,en,c10⟩ rfl ROW.out hsz11 w10.heap.size (by simp[World.setCell]) rfl hu1 ?_;intro g cap6 w12 hown hgrow hat;have HOWN:=hid hown;have HGR:=hid hgrow;have HAT:=hid hat;clear hown hgrow hat;refine Hid.out ?_))
    refine hid ?_;go_wp2
    go_roundw
    case rel =>
     have hsn:=HO.out.snoc HO11.out KD.out HLO.out HB.out.size HOWN.out HGR.out HAT.out;have hB:=below_grown HO11.out.row hsz11 HGR.out;rw[hu] at hsn;refine⟨k+1,u.app (.cons ⟨op,res,xa,xb,xn,tags,a6,c6',a8,ln,c8,a10,en,c10⟩ u8 u10 .nil),r,by go_num,by rw[zBS];simp only[Il.len];omega,by omega,by omega,hsn,(HB.out.trans (BR11.out.mono HB.out.size)).trans hB,HR2,?_⟩
     show (u.app (.cons ⟨op,res,xa,xb,xn,tags,a6,c6',a8,ln,c8,a10,en,c10⟩ u8 u10 .nil)).bare.app r.bare=t.bare
     rw[zCU,zBA,←HE.out];simp only[Il.bare,Ix.bare,HBR8.out,HBR10.out,Il.app]
    case measure=>simp[intOf];omega
end Body
namespace Mod
open Go.RowKit Instr
theorem zIk:(Tryz.prog.info? 26).map (fun i=>(i.zero,i.size,i.bytes))=some (some (.agg #[.int .i64 0,.int .i64 0]),2,16):=by kernel_rfl
theorem zIc:(Tryz.prog.info? 124).map (fun i=>(i.zero,i.size,i.bytes))=some (some (.agg #[.string ⟨#[]⟩,.string ⟨#[]⟩,.int .i64 0]),3,40):=by kernel_rfl
theorem zJG:(Tryz.prog.info? 43).map (fun i=>(i.zero,i.size,i.bytes))=some (some (.agg #[.int .i64 0,.int .i64 0,.slice none 0 0]),3,40):=by kernel_rfl
theorem zGc:(Tryz.prog.info? 127).map (fun i=>(i.zero,i.size,i.bytes))=some (some (.agg #[.int .u32 0,.int .u32 0,.bool false]),3,12):=by kernel_rfl
theorem zJF:(Tryz.prog.info? 129).map (fun i=>(i.zero,i.size,i.bytes))=some (some (.agg #[.bool false,.slice none 0 0]),2,32):=by kernel_rfl
theorem zIu:(Tryz.prog.info? 45).map (fun i=>(i.zero,i.size,i.bytes))=some (some (.agg #[.string ⟨#[]⟩,.int .i64 0,.int .u32 0]),3,32):=by kernel_rfl
theorem zGb:(Tryz.prog.info? 131).map (fun i=>(i.zero,i.size,i.bytes))=some (some (.agg #[.slice none 0 0,.slice none 0 0]),2,48):=by kernel_rfl
theorem zF9:(Tryz.prog.info? 146).map (fun i=>(i.zero,i.size,i.bytes))=some (some (.agg #[.slice none 0 0,.slice none 0 0]),2,48):=by kernel_rfl
theorem zB.set {W:World} {g:Nat} {v:Array Value} (h:zB W g v) (j:Nat) (hj:j<v.size) (u:Value):zB (W.setCell ⟨g,j,none⟩ u) g (v.setIfInBounds j u):=by
 intro i x hi
 by_cases e:i=j
 ·subst e
  rw[Array.getElem?_setIfInBounds_self_of_lt hj] at hi
  cases hi
  exact World.cell?_setCell_same _ _ _ (h i _ (Array.getElem?_eq_getElem hj))
 ·rw[Array.getElem?_setIfInBounds_ne (fun k=>e k.symm)] at hi
  exact (World.cell?_setCell_other _ _ _ _ (fun k=>e (by injection k with _ k2 _;exact k2.symm))).trans (h i x hi)
theorem zB.belowB {W W':World} {B g:Nat} {v:Array Value} (h:zB W g v) (hb:Below B W W') (hg:g<B):zB W' g v:=fun j x hj=>(hb.cell (p:=⟨g,j,none⟩) hg).trans (h j x hj)
theorem zB.setFar {W:World} {g:Nat} {v:Array Value} (h:zB W g v) {p:Addr} (hp:p.block≠g) (u:Value):zB (W.setCell p u) g v:=fun j x hj=>(World.cell?_setCell_far W p ⟨g,j,none⟩ u hp).trans (h j x hj)
def qN:Array Value:=#[.slice none 0 0,.slice none 0 0,.slice none 0 0,.slice none 0 0,.slice none 0 0,.slice none 0 0,.slice none 0 0,.bool false,.int .u32 0,.slice none 0 0,.slice none 0 0]
structure Cp (w:World) (mv o:Array Value) (W:World):Prop where
 below:Below w.heap.size w W
 size:w.heap.size+3≤W.heap.size
 mod:zB W w.heap.size mv
 res:zB W (w.heap.size+1) qN
 resf:∀j,W.frozen? ⟨w.heap.size+1,j,none⟩=false
 out:zB W (w.heap.size+2) o
 outf:∀j,W.frozen? ⟨w.heap.size+2,j,none⟩=false
theorem Cp.on {w:World} {mv o:Array Value} {W W':World} (h:Cp w mv o W) (hb:Below (w.heap.size+3) W W'):Cp w mv o W' :=
 ⟨h.below.trans (hb.mono (by omega)),Nat.le_trans h.size hb.size,h.mod.belowB hb (by omega),h.res.belowB hb (by omega),fun j=>(hb.frozen (p:=⟨w.heap.size+1,j,none⟩) (by simp)).trans (h.resf j),h.out.belowB hb (by omega),fun j=>(hb.frozen (p:=⟨w.heap.size+2,j,none⟩) (by simp)).trans (h.outf j)⟩
theorem Cp.go {w:World} {mv o:Array Value} {W W':World} (h:Cp w mv o W) (hb:Below W.heap.size W W'):Cp w mv o W':=h.on (hb.mono h.size)
theorem Cp.set {w:World} {mv o:Array Value} {W:World} (h:Cp w mv o W) (j:Nat) (hj:j<o.size) (u:Value):Cp w mv (o.setIfInBounds j u) (W.setCell ⟨w.heap.size+2,j,none⟩ u) :=
 ⟨h.below.setCell (by simp) _,by simpa[World.setCell] using h.size,h.mod.setFar (by simp) _,h.res.setFar (by simp) _,fun j=>by rw[World.frozen?_setCell];exact h.resf j,h.out.set j hj u,fun j=>by rw[World.frozen?_setCell];exact h.outf j⟩
theorem Cp.start (w:World) (mv:Array Value):Cp w mv mv (((w.alloc (.cells mv 40)).alloc (.cells qN 40)).alloc (.cells mv 40)):=by
 have h0:=(Below.refl w.heap.size w).alloc (Nat.le_refl _) (.cells mv 40);have a1:=zB.made w mv 40;have a2:=zB.made (w.alloc (.cells mv 40)) qN 40;have a3:=zB.made ((w.alloc (.cells mv 40)).alloc (.cells qN 40)) mv 40;have b1:=fun W o=>(Below.refl (World.heap W).size W).alloc (Nat.le_refl _) o
 rw[World.size_alloc] at a2;rw[World.size_alloc,World.size_alloc] at a3;refine⟨(h0.alloc (by simp) _).alloc (by simp;omega) _,by simp,(a1.keep (b1 _ _)).keep (b1 _ _),a2.keep (b1 _ _),fun j=>?_,a3,fun j=>?_⟩
 ·refine ((b1 ((w.alloc (.cells mv 40)).alloc (.cells qN 40)) (.cells mv 40)).frozen (p:=⟨w.heap.size+1,j,none⟩) (by simp)).trans ?_
  have h:=heap_alloc_new (w.alloc (.cells mv 40)) (.cells qN 40);rw[World.size_alloc] at h;exact Zn.frozen ⟨_,_,h⟩ j
 ·have h:=heap_alloc_new ((w.alloc (.cells mv 40)).alloc (.cells qN 40)) (.cells mv 40)
  rw[World.size_alloc,World.size_alloc] at h;exact Zn.frozen (q:=w.heap.size+2) ⟨_,_,h⟩ j
section
variable {ops:Array Oper} {rest:List Oper} {o:Oper} {act:Act} {Q:Exit→Act→World→Prop}
theorem jH {e ts:TypeId} {sz nb:Nat} {z:Value} (inf:(Tryz.prog.info? e).map (fun i=>(i.zero,i.size,i.bytes))=some (some z,sz,nb)) (hz:z.cells.size=sz) (h0:0<sz) (hnb:nb≤1000) (ut:Tryz.prog.underlying ts=some (.slice e))
  (hgd:o.guard=none) (s x:Operand) (ho:o.op=.call { callee:=.builtin .append,args:=#[s,x],argTypes:=#[ts,ts] })
  {base:Nat} {wr:World} {v:Value} (hs:act.eval s=v) (hown:zR e sz base wr v []) (hbase:base≤wr.heap.size)
  (a2:Option Addr) (n c:Nat) (hx:act.eval x=.slice a2 n c) (ys:List (List Value)) (hn:ys.length=n) (hy:Rows wr.heap.size wr a2 sz ys) (hlen:∀r∈ys,r.length=sz) (h1:∀r∈ys,∀u∈r,u.oneCell'=true)
  (hl:ys.length≤1000000000)
  (h:∀v' w',zR e sz base w' v' ys→Below base wr w'→base≤w'.heap.size→wpList Tryz.prog ops Q rest (act.put o.dst v') w') :
  wpList Tryz.prog ops Q (o::rest) act wr:=by
 obtain⟨i0,hi,hz0,hz1,hz2⟩:=info_parts inf;subst hn;have hb0:=Below.refl base wr
 rcases hy with h2|⟨b,off,rfl,hlt,hc⟩
 ·subst h2
  cases a2 with
  | none=>exact Body.vF hgd s x ts ho base e i0 sz c ut hi v _ _ hs hown.row hx (h v wr hown hb0 hbase)
  | some ad =>
   refine jI inf hz h0 hnb ut hgd s x ho (xs:=[]) [] hs hown hb0 hbase ad 0 c rfl hx (by simp) (by simp) (by simp) (by simp) (fun v' w' h3 h4 h5 _=>h v' w' h3 h4 h5)
 ·refine jI inf hz h0 hnb ut hgd s x ho (xs:=[]) ys hs hown hb0 hbase ⟨b,off,none⟩ ys.length c rfl hx hlen (fun j u hj=>?_) h1 (by simpa using hl) (fun v' w' h3 h4 h5 _=>h v' w' h3 h4 h5)
  have hfl:=flat_length ys hlen
  have hjl:j<ys.length*sz:=by
   rcases Nat.lt_or_ge j (ys.length*sz) with h|h
   ·exact h
   ·rw[List.getElem?_eq_none (by omega)] at hj;cases hj
  have hq:j / sz<ys.length:=(Nat.div_lt_iff_lt_mul h0).2 hjl;have hr:j % sz<sz:=Nat.mod_lt _ h0;have hjj:j / sz*sz+j % sz=j:=by rw[Nat.mul_comm];exact Nat.div_add_mod j sz
  have hg:=flat_get ys hlen (j / sz) (j % sz) hq hr;rw[hjj,hj] at hg;have:=hc (j / sz) hq (j % sz) hr u hg.symm;rw[Nat.add_assoc,hjj] at this;have hplain:(⟨b,off,none⟩:Addr).add j=⟨b,off+j,none⟩:=by unfold Addr.add;split<;>simp_all
  rw[hplain];exact this
end
section
variable {α:Type}
theorem zR.madeG {W:World} (e:TypeId) (sz g:Nat) (hg:g=W.heap.size):zR e sz g (W.alloc (.cells #[] e)) (.slice (some ⟨g,0,none⟩) 0 0) []:=by
 subst hg;exact zR.made e sz W
theorem zR.alloc {e:TypeId} {sz base:Nat} {w:World} {v:Value} {rs:List (List Value)} (h:zR e sz base w v rs) (o:Obj):zR e sz base (w.alloc o) v rs:=h.below ((Below.refl _ _).alloc (Nat.le_refl _) o)
theorem Got.more {e:TypeId} {sz nb base n0:Nat} {f:α→List Value} {p:α→Part} {W w':World} {v:Value} {us:List α} (x0:α) (hG:Got e sz base f p W v us) (hlen:(f x0).length=sz) (hlie:(p x0).lies W) (hlo:∀q∈(p x0).foot,n0≤q) (hb:base≤n0) (hv:∀g,v.ownBlock=some g→g<n0) {g cap:Nat}
  (hown:w'.ownsRow base e sz (.slice (some ⟨g,0,none⟩) (us.length+1) cap) (us.length+1) ((us.map f).flatten++f x0)) (hgrow:(W.alloc (.cells (f x0).toArray e)).grownBy w' v.ownBlock) (hat:v.ownBlock=some g∨g=W.heap.size+1) :
  Got e sz base f p w' (.slice (some ⟨g,0,none⟩) (us.length+1) cap) (us++[x0]):=by
 have hb1:=(Below.refl W.heap.size W).alloc (Nat.le_refl _) (.cells (f x0).toArray e);have hG1:=hG.below hb1;have hs1:(W.alloc (.cells (f x0).toArray e)).heap.size=W.heap.size+1:=by simp
 refine Got.snoc (n0:=n0) hG1 (Part.touch (S:=fun _=>False) hlie (.of_below hb1) (fun _ _ h=>h)) hlo (fun q hq=>by have:=zHM hlie q hq;omega) hb hv ⟨?_,?_⟩ hgrow (fun q hq=>?_)
 ·rw[List.flatten_append,List.length_append,List.length_map]
  simpa using hown
 ·intro r hr
  rcases List.mem_append.1 hr with hr|hr
  ·exact hG.row.len r hr
  ·rw[List.mem_singleton] at hr;subst hr;exact hlen
 ·simp only[Value.ownBlock,Option.some.injEq] at hq
  subst hq
  rcases hat with h|h
  ·exact .inl h
  ·right;omega
theorem Got.len {e:TypeId} {sz base:Nat} {f:α→List Value} {p:α→Part} {W:World} {v:Value} {us:List α} (h:Got e sz base f p W v us):∃a c,v=.slice a us.length c∧(a=none→c=0):=by
 rcases h.row.row.2 with ⟨rfl,h0⟩|⟨g,cap,cur,rfl,_⟩
 ·exact⟨none,0,by simpa using h0.symm,fun _=>rfl⟩
 ·exact⟨_,cap,by rw[List.length_map],fun h=>by cases h⟩
end
section
variable {ops:Array Oper} {rest:List Oper} {o:Oper} {act:Act} {Q:Exit→Act→World→Prop} {α:Type}
theorem zB0 {e ts:TypeId} {sz nb:Nat} {z:Value} (inf:(Tryz.prog.info? e).map (fun i=>(i.zero,i.size,i.bytes))=some (some z,sz,nb)) (hz:z.cells.size=sz) (h0:0<sz) (hnb:nb≤1000) (ut:Tryz.prog.underlying ts=some (.slice e))
  (hgd:o.guard=none) (s x:Operand) (ho:o.op=.call { callee:=.builtin .append,args:=#[s,x],argTypes:=#[ts,ts] })
  {base n0:Nat} {f:α→List Value} {p:α→Part} {W:World} {v:Value} {us:List α} (x0:α) (hs:act.eval s=v) (hG:Got e sz base f p W v us) (hbase:base≤W.heap.size) (g0:Nat) (hg0:g0=W.heap.size) (hx:act.eval x=.slice (some ⟨g0,0,none⟩) 1 1)
  (hlen:(f x0).length=sz) (h1:∀u∈f x0,u.oneCell'=true) (hl:us.length≤1000000) (hlie:(p x0).lies W) (hlo:∀q∈(p x0).foot,n0≤q) (hb:base≤n0) (hv:∀g,v.ownBlock=some g→g<n0)
  (h:∀g cap w',Got e sz base f p w' (.slice (some ⟨g,0,none⟩) (us.length+1) cap) (us++[x0])→Below base W w'→wpList Tryz.prog ops Q rest (act.put o.dst (.slice (some ⟨g,0,none⟩) (us.length+1) cap)) w') :
  wpList Tryz.prog ops Q (o::rest) act (W.alloc (.cells (f x0).toArray e)):=by
 obtain⟨i0,hi,hz0,hz1,hz2⟩:=info_parts inf;subst hg0;have hb1:=(Below.refl W.heap.size W).alloc (Nat.le_refl _) (.cells (f x0).toArray e);have hr:=hG.row.alloc (.cells (f x0).toArray e)
 refine wpList_append_lies _ hgd s x ts ho base e i0 z sz nb ut hi hz0 hz1 hz2 hz h0 v us.length (us.map f).flatten hs (by have:=hr.row;rwa [List.length_map] at this) ⟨W.heap.size,0,none⟩ 1 1 (f x0) hx (by rw[hlen,Nat.one_mul])
  (World.news_of_block (heap_alloc_new W _)) h1 (by omega) (by unfold maxLen;omega) ?_ (by simp;omega) (W.heap.size+1) (by simp) (fun g cap w' h2 h3 h4 _=>h g cap w' (hG.more (nb:=nb) x0 hlen hlie hlo hb hv h2 h3 h4) ?_)
 ·calc (us.length+1)*nb≤1000001*1000:=Nat.mul_le_mul (by omega) hnb
   _≤_:=by omega
 ·exact ((hb1.mono hbase).grown h3 (by simp;omega) (fun k hk=>(World.ownsRow.lt hr.row k hk).1))
theorem vk {e ts:TypeId} {sz nb:Nat} {z:Value} {E:Prop} {K:Act→World→Prop} (inf:(Tryz.prog.info? e).map (fun i=>(i.zero,i.size,i.bytes))=some (some z,sz,nb)) (hz:z.cells.size=sz) (h0:0<sz) (hnb:nb≤1000) (ut:Tryz.prog.underlying ts=some (.slice e))
  (hgd:o.guard=none) (s x:Operand) (ho:o.op=.call { callee:=.builtin .append,args:=#[s,x],argTypes:=#[ts,ts] })
  {base n0:Nat} {f:α→List Value} {p:α→Part} {W:World} {v:Value} {us:List α} (x0:α) (hs:act.eval s=v) (hG:Got e sz base f p W v us) (hbase:base≤W.heap.size) (g0:Nat) (hg0:g0=W.heap.size) (hx:act.eval x=.slice (some ⟨g0,0,none⟩) 1 1)
  (hlen:(f x0).length=sz) (h1:∀u∈f x0,u.oneCell'=true) (hl:us.length≤1000000) (hlie:(p x0).lies W) (hlo:∀q∈(p x0).foot,n0≤q) (hb:base≤n0) (hv:∀g,v.ownBlock=some g→g<n0)
  (h:∀g cap w',Got e sz base f p w' (.slice (some ⟨g,0,none⟩) (us.length+1) cap) (us++[x0])→Below base W w'→K (act.put o.dst (.slice (some ⟨g,0,none⟩) (us.length+1) cap)) w') :
  if Region.wanted o (yielded ops act.tmps)=true then Oper.wp Tryz.prog o act (W.alloc (.cells (f x0).toArray e)) K Q else E:=by
 obtain⟨i0,hi,hz0,hz1,hz2⟩:=info_parts inf;subst hg0;have hb1:=(Below.refl W.heap.size W).alloc (Nat.le_refl _) (.cells (f x0).toArray e);have hr:=hG.row.alloc (.cells (f x0).toArray e);have hw:Region.wanted o (yielded ops act.tmps)=true:=by simp[Region.wanted,hgd]
 rw[if_pos hw]
 refine wp_append_lies _ s x ts ho base e i0 z sz nb ut hi hz0 hz1 hz2 hz h0 v us.length (us.map f).flatten hs (by have:=hr.row;rwa [List.length_map] at this) ⟨W.heap.size,0,none⟩ 1 1 (f x0) hx (by rw[hlen,Nat.one_mul])
  (World.news_of_block (heap_alloc_new W _)) h1 (by omega) (by unfold maxLen;omega) ?_ (by simp;omega) (W.heap.size+1) (by simp) (fun g cap w' h2 h3 h4 _=>h g cap w' (hG.more (nb:=nb) x0 hlen hlie hlo hb hv h2 h3 h4) ?_)
 ·calc (us.length+1)*nb≤1000001*1000:=Nat.mul_le_mul (by omega) hnb
   _≤_:=by omega
 ·exact ((hb1.mono hbase).grown h3 (by simp;omega) (fun k hk=>(World.ownsRow.lt hr.row k hk).1))
end
end Mod
namespace Mod
open Go.RowKit Instr
theorem Got.rows {α:Type} {e:TypeId} {sz base:Nat} {f:α→List Value} {p:α→Part} {W:World} {v:Value} {us:List α} (h:Got e sz base f p W v us):∃a c,v=.slice a us.length c∧Rows W.heap.size W a sz (us.map f):=by
 obtain⟨a,c,hv,hr,_⟩:=h.row.rows;rw[List.length_map] at hv;exact⟨a,c,hv,hr⟩
theorem zR.rowsN {α:Type} {e:TypeId} {sz base:Nat} {f:α→List Value} {W:World} {v:Value} {us:List α} (h:zR e sz base W v (us.map f)):∃a c,v=.slice a us.length c∧Rows W.heap.size W a sz (us.map f):=by
 obtain⟨a,c,hv,hr,_⟩:=h.rows;rw[List.length_map] at hv;exact⟨a,c,hv,hr⟩
theorem zHi {m:Md} {W:World} {e1 e2 e3 e4 e5 e6 e7 e8 e9:TypeId} {b1 b2 b3 b4 b5 b6 b7 b8 b9:Nat} {v1 v2 v3 v4 v5 v6 v7 v8 v9:Value} {fus:List Fn} {gls:List Gl} {els:List El} {das:List Da}
  (h1:zR e1 2 b1 W v1 (m.ty.map tyV)) (h2:zR e2 3 b2 W v2 (m.im.map Imp.v)) (h3:Got e3 3 b3 Fn.v zCp W v3 fus) (h4:zR e4 3 b4 W v4 (m.tb.map Li.v)) (h5:zR e5 3 b5 W v5 (m.me.map Li.v))
  (h6:Got e6 2 b6 Gl.v zCK W v6 gls) (h7:zR e7 3 b7 W v7 (m.ex.map Ex.v)) (h8:Got e8 2 b8 El.v zAF W v8 els) (h9:Got e9 2 b9 Da.v Jh W v9 das)
  (q3:fus.map Fn.bare=m.fu.map Fn.bare) (q6:gls.map Gl.bare=m.gl.map Gl.bare) (q8:els.map El.bare=m.el.map El.bare) (q9:das.map Da.bare=m.da.map Da.bare) :
  ∃m':Md,m'.v=#[v1,v2,v3,v4,v5,v6,v7,.bool m.st,.int .u32 m.sn,v8,v9]∧zN W.heap.size W m'∧m'.bare=m.bare:=by
 obtain⟨a1,c1,rfl,r1⟩:=h1.rowsN;obtain⟨a2,c2,rfl,r2⟩:=h2.rowsN;obtain⟨a3,c3,rfl,r3⟩:=h3.rows;obtain⟨a4,c4,rfl,r4⟩:=h4.rowsN;obtain⟨a5,c5,rfl,r5⟩:=h5.rowsN;obtain⟨a6,c6,rfl,r6⟩:=h6.rows;obtain⟨a7,c7,rfl,r7⟩:=h7.rowsN;obtain⟨a8,c8,rfl,r8⟩:=h8.rows;obtain⟨a9,c9,rfl,r9⟩:=h9.rows;refine⟨⟨m.ty,m.im,fus,m.tb,m.me,gls,m.ex,m.st,m.sn,els,das,⟨a1,c1⟩,⟨a2,c2⟩,⟨a3,c3⟩,⟨a4,c4⟩,⟨a5,c5⟩,⟨a6,c6⟩,⟨a7,c7⟩,⟨a8,c8⟩,⟨a9,c9⟩⟩,rfl,⟨r1,r2,r3,r4,r5,r6,r7,r8,r9,fun l hl=>?_,fun e he=>(h8.kids e he).2.1,fun d hd=>(h9.kids d hd).2.2⟩,same_iff.2 ⟨rfl,rfl,q3,rfl,rfl,q6,rfl,rfl,rfl,q8,q9⟩⟩;unfold Md.codes at hl
 rcases List.mem_append.1 hl with hl|hl
 ·obtain⟨x,hx,rfl⟩:=List.mem_map.1 hl
  exact (h3.kids x hx).1
 ·rcases List.mem_append.1 hl with hl|hl
  ·obtain⟨x,hx,rfl⟩:=List.mem_map.1 hl
   exact (h6.kids x hx).1
  ·rcases List.mem_append.1 hl with hl|hl
   ·obtain⟨x,hx,rfl⟩:=List.mem_map.1 hl
    exact (h8.kids x hx).1
   ·obtain⟨x,hx,rfl⟩:=List.mem_map.1 hl
    exact (h9.kids x hx).1
theorem YU {α:Type} (f:α→α) {us l:List α} {k:Nat} {x:α} (h:us.map f=(l.take k).map f) (hk:k<l.length) (hx:f x=f l[k]):(us++[x]).map f=(l.take (k+1)).map f:=by
 rw[List.take_succ_eq_append_getElem hk,List.map_append,List.map_append,h];simp[hx]
theorem zR.save {e:TypeId} {sz base k:Nat} {W W':World} {v:Value} {rs:List (List Value)} (h:zR e sz base W v rs) (hs:zF k W W') (hk:k<base):zR e sz base W' v rs :=
 h.touch (.of_save hs) (fun g hg e=>by have:=(World.ownsRow.lt h.row g hg).1;omega)
theorem zR.slc {α:Type} {e:TypeId} {sz base n:Nat} {f:α→List Value} {W:World} {v:Value} {us:List α} (h:zR e sz base W v (us.map f)) (hn:us.length=n):∃a c,v=.slice a n c:=by
 obtain⟨a,c,rfl,_⟩:=h.rowsN;exact⟨a,c,by rw[hn]⟩
theorem Got.slc {α:Type} {e:TypeId} {sz base n:Nat} {f:α→List Value} {p:α→Part} {W:World} {v:Value} {us:List α} (h:Got e sz base f p W v us) (hn:us.length=n):∃a c,v=.slice a n c:=h.row.slc hn
theorem zF.zM {k:Nat} {a b c:World} (h:zF k a b) (g:Below a.heap.size b c):zF k a c :=
 ⟨g.os.trans h.os,g.tape.trans h.tape,g.output.trans h.output,Nat.le_trans h.size g.size,fun j hj hk=>(g.block j hj).trans (h.block j hj hk)⟩
structure zHH (m:Md) (B:Nat) (W:World) (v1 v2 v4 v5 v7:Value):Prop where
 ty:zR 26 2 B W v1 (m.ty.map tyV)
 im:zR 124 3 B W v2 (m.im.map Imp.v)
 tb:zR 127 3 B W v4 (m.tb.map Li.v)
 me:zR 127 3 B W v5 (m.me.map Li.v)
 ex:zR 45 3 B W v7 (m.ex.map Ex.v)
theorem zHH.save {m:Md} {B k:Nat} {W W':World} {v1 v2 v4 v5 v7:Value} (h:zHH m B W v1 v2 v4 v5 v7) (hs:zF k W W') (hk:k<B):zHH m B W' v1 v2 v4 v5 v7 :=
 ⟨h.ty.save hs hk,h.im.save hs hk,h.tb.save hs hk,h.me.save hs hk,h.ex.save hs hk⟩
theorem Jd {k:Nat} {V W:World} {p0 p1 p2:Addr} {v0 v1 v2:Value} (h0:V.cell? p0=some v0) (h1:V.cell? p1=some v1) (h2:V.cell? p2=some v2) (n0:p0.block≠k) (n1:p1.block≠k) (n2:p2.block≠k) (h:zF k V W) :
  zF k V W∧W.cell? p0=some v0∧W.cell? p1=some v1∧W.cell? p2=some v2:=⟨h,h.cell n0 h0,h.cell n1 h1,h.cell n2 h2⟩
theorem zBT {A B C D:Prop} {p:Addr} {v:Value} {W X:World} (h:A∧B∧C∧D) (e:X.cell? p=W.cell? p) (hv:W.cell? p=some v):A∧B∧C∧D∧X.cell? p=some v:=⟨h.1,h.2.1,h.2.2.1,h.2.2.2,e.trans hv⟩
def zJn (W:World) (xl:Il) (e:Ending) (w':World):Prop :=
 ∃(a:Option Addr) (c:Nat) (u:Il),e=.returned (.slice a u.len c)∧Below W.heap.size W w'∧zD w'.heap.size w' a u.len u∧(∀q∈zV u.len a++u.foot,W.heap.size≤q)∧u.bare=xl.bare
theorem zDE {k:Nat} {w V:World} {xl:Il} {xa:Option Addr} {xn xc:Nat} (hl:zD w.heap.size w xa xn xl) (hw:xl.weight≤5000) (hV:Below w.heap.size w V) (hk:w.heap.size≤k) (W:World) (hs:zF k V W) :
  Calls Tryz.prog 76 #[.slice xa xn xc] W (zJn W xl):=by
 refine (Body.zB7 5000 xl xa xn xc W hw (by omega) (hl.on (hV.trans (hs.below hV.size hk)))).mono ?_;rintro e w' ⟨a,c,u,rfl,h1,h2,h3,h4⟩;have:=h2.1;subst this;exact⟨a,c,u,rfl,h1,h2,h3,h4⟩
section
variable {ops:Array Oper} {rest:List Oper} {o:Oper} {act:Act} {Q:Exit→Act→World→Prop}
theorem step_none {E:Prop} {K:Act→World→Prop} (hgd:o.guard=none) (s x:Operand) (t:TypeId) (ho:o.op=.call { callee:=.builtin .append,args:=#[s,x],argTypes:=#[t,t] })
  {w:World} (base:Nat) (e:TypeId) (i:TypeInfo) (size c:Nat) (ht:Tryz.prog.underlying t=some (.slice e)) (hi:Tryz.prog.info? e=some i)
  (v:Value) (n:Nat) (xs:List Value) (hs:act.eval s=v) (hown:w.ownsRow base e size v n xs) (hx:act.eval x=.slice none 0 c)
  (h:K (act.put o.dst v) w):if Region.wanted o (yielded ops act.tmps)=true then Oper.wp Tryz.prog o act w K Q else E:=by
 have hw:Region.wanted o (yielded ops act.tmps)=true:=by simp[Region.wanted,hgd]
 rw[if_pos hw];have hrun:=Body.qO w base t o.type e i size c ht hi v n xs hown;unfold Oper.wp;simp[execOp,ho,resolve,invoke,builtin,hs,hx,hrun,Result.andThen];exact h
theorem ZS {e ts:TypeId} {sz nb:Nat} {z:Value} {E:Prop} {K:Act→World→Prop} (inf:(Tryz.prog.info? e).map (fun i=>(i.zero,i.size,i.bytes))=some (some z,sz,nb)) (hz:z.cells.size=sz) (h0:0<sz) (hnb:nb≤1000) (ut:Tryz.prog.underlying ts=some (.slice e))
  (hgd:o.guard=none) (s x:Operand) (ho:o.op=.call { callee:=.builtin .append,args:=#[s,x],argTypes:=#[ts,ts] })
  {base:Nat} {wr:World} {v:Value} (hs:act.eval s=v) (hown:zR e sz base wr v []) (hbase:base≤wr.heap.size)
  (a2:Option Addr) (n c:Nat) (hx:act.eval x=.slice a2 n c) (ys:List (List Value)) (hn:ys.length=n) (hy:Rows wr.heap.size wr a2 sz ys) (hlen:∀r∈ys,r.length=sz) (h1:∀r∈ys,∀u∈r,u.oneCell'=true)
  (hl:ys.length≤1000000000)
  (h:∀v' w',zR e sz base w' v' ys→Touch (fun j=>v.ownBlock=some j) wr w'→K (act.put o.dst v') w') :
  if Region.wanted o (yielded ops act.tmps)=true then Oper.wp Tryz.prog o act wr K Q else E:=by
 obtain⟨i0,hi,hz0,hz1,hz2⟩:=info_parts inf;subst hn;have hb0:=Below.refl base wr
 rcases hy with h2|⟨b,off,rfl,hlt,hc⟩
 ·subst h2
  cases a2 with
  | none=>exact step_none hgd s x ts ho base e i0 sz c ut hi v _ _ hs hown.row hx (h v wr hown (Touch.refl _ _))
  | some ad =>
   refine Yi inf hz h0 hnb ut hgd s x ho (xs:=[]) [] hs hown hb0 hbase ad 0 c rfl hx (by simp) (by simp) (by simp) (by simp) (fun v' w' h3 h4 h5 h6=>h v' w' h3 (Touch.of_grown h6))
 ·refine Yi inf hz h0 hnb ut hgd s x ho (xs:=[]) ys hs hown hb0 hbase ⟨b,off,none⟩ ys.length c rfl hx hlen (fun j u hj=>?_) h1 (by simpa using hl) (fun v' w' h3 h4 h5 h6=>h v' w' h3 (Touch.of_grown h6))
  have hfl:=flat_length ys hlen
  have hjl:j<ys.length*sz:=by
   rcases Nat.lt_or_ge j (ys.length*sz) with h|h
   ·exact h
   ·rw[List.getElem?_eq_none (by omega)] at hj;cases hj
  have hq:j / sz<ys.length:=(Nat.div_lt_iff_lt_mul h0).2 hjl;have hr:j % sz<sz:=Nat.mod_lt _ h0;have hjj:j / sz*sz+j % sz=j:=by rw[Nat.mul_comm];exact Nat.div_add_mod j sz
  have hg:=flat_get ys hlen (j / sz) (j % sz) hq hr;rw[hjj,hj] at hg;have:=hc (j / sz) hq (j % sz) hr u hg.symm;rw[Nat.add_assoc,hjj] at this;have hplain:(⟨b,off,none⟩:Addr).add j=⟨b,off+j,none⟩:=by unfold Addr.add;split<;>simp_all
  rw[hplain];exact this
end
def zAZ (z:Int):List Value:=[.int .u32 z]
def zAP (z:Int):List Value:=[.int .u8 z]
theorem zCr:∀x,∀u∈zAZ x,u.oneCell'=true:=by intro x u hu;simp only[zAZ,List.mem_cons,List.not_mem_nil,or_false] at hu;subst hu;rfl
theorem zCY:∀x,∀u∈zAP x,u.oneCell'=true:=by intro x u hu;simp only[zAP,List.mem_cons,List.not_mem_nil,or_false] at hu;subst hu;rfl
theorem zEK:(Tryz.prog.info? 36).map (fun i=>(i.zero,i.size,i.bytes))=some (some (.int .u32 0),1,4):=by kernel_rfl
theorem zFz:(Tryz.prog.info? 5).map (fun i=>(i.zero,i.size,i.bytes))=some (some (.int .u8 0),1,1):=by kernel_rfl
theorem zBQ {n₀:Nat} {w:World} {a:Option Addr} {zs:List Int} (h:zk n₀ w a zs):Rows n₀ w a 1 (zs.map zAZ):=by
 rcases h with h|⟨b,off,ha,hl,hc⟩
 ·exact .inl (by rw[h];rfl)
 ·refine .inr ⟨b,off,ha,hl,fun i hi j hj v hv=>?_⟩
  have hi':i<zs.length:=by simpa using hi
  obtain rfl:j=0:=by omega
  have:=hc i hi';rw[List.getD_eq_getElem?_getD,List.getElem?_map,List.getElem?_eq_getElem hi'] at hv;simp only[zAZ,Option.map_some,Option.getD_some,List.getElem?_cons_zero,Option.some.injEq] at hv;subst hv;rw[List.getD_eq_getElem?_getD,List.getElem?_eq_getElem hi'] at this;simpa using this
theorem zAY {n₀:Nat} {w:World} {a:Option Addr} {zs:List Int} (h:BytesAt n₀ w a zs):Rows n₀ w a 1 (zs.map zAP):=by
 rcases h with h|⟨b,off,ha,hl,hc⟩
 ·exact .inl (by rw[h];rfl)
 ·refine .inr ⟨b,off,ha,hl,fun i hi j hj v hv=>?_⟩
  have hi':i<zs.length:=by simpa using hi
  obtain rfl:j=0:=by omega
  have:=hc i hi';rw[List.getD_eq_getElem?_getD,List.getElem?_map,List.getElem?_eq_getElem hi'] at hv;simp only[zAP,Option.map_some,Option.getD_some,List.getElem?_cons_zero,Option.some.injEq] at hv;subst hv;rw[List.getD_eq_getElem?_getD,List.getElem?_eq_getElem hi'] at this;simpa using this
theorem YZ {n₀:Nat} {w:World} {a:Option Addr} {zs:List Int} (h:Rows n₀ w a 1 (zs.map zAZ)):zk n₀ w a zs:=by
 rcases h with h|⟨b,off,ha,hl,hc⟩
 ·exact .inl (by simpa using h)
 ·refine .inr ⟨b,off,ha,hl,fun i hi=>?_⟩
  have:=hc i (by simpa using hi) 0 (by omega) (.int .u32 (zs.getD i 0)) (by rw[List.getD_eq_getElem?_getD,List.getElem?_map,List.getElem?_eq_getElem hi];simp[zAZ,List.getD_eq_getElem?_getD,List.getElem?_eq_getElem hi]);simpa using this
theorem Za {n₀:Nat} {w:World} {a:Option Addr} {zs:List Int} (h:Rows n₀ w a 1 (zs.map zAP)):BytesAt n₀ w a zs:=by
 rcases h with h|⟨b,off,ha,hl,hc⟩
 ·exact .inl (by simpa using h)
 ·refine .inr ⟨b,off,ha,hl,fun i hi=>?_⟩
  have:=hc i (by simpa using hi) 0 (by omega) (.int .u8 (zs.getD i 0)) (by rw[List.getD_eq_getElem?_getD,List.getElem?_map,List.getElem?_eq_getElem hi];simp[zAP,List.getD_eq_getElem?_getD,List.getElem?_eq_getElem hi]);simpa using this
theorem YF {e:TypeId} {sz base:Nat} {W:World} {v:Value} {zs:List Int} {f:Int→List Value} (h:zR e sz base W v (zs.map f)):∃a c,v=.slice a zs.length c∧Rows W.heap.size W a sz (zs.map f)∧∀q∈zV zs.length a,base≤q:=by
 obtain⟨a,c,hv,hr,hl⟩:=h.rows;rw[List.length_map] at hv;refine⟨a,c,hv,hr,fun q hq=>?_⟩;unfold zV at hq
 split at hq
 ·simp at hq
 ·rename_i hne
  cases a with
  | none=>simp at hq
  | some ad =>
   simp only[List.mem_singleton] at hq;subst hq;exact hl _ (by rw[hv];rfl)
theorem YB {w8 W:World} {a8:Option Addr} {u8:Il} (hl8:zD w8.heap.size w8 a8 u8.len u8) {S:Nat→Prop} (ht:Touch S w8 W) (hne:∀q∈zV u8.len a8++u8.foot,¬S q):zD W.heap.size W a8 u8.len u8:=(hl8.touch ht hne).more ht.size
theorem zJD {mu:Bool} {a8:Option Addr} {c8:Nat} {u8:Il} {n0:Nat} (h:∀q∈zV u8.len a8++u8.foot,n0≤q):∀q∈(zCK ⟨mu,⟨a8,c8,u8⟩⟩).foot,n0≤q:=fun q hq=>by
 have h2:q∈(zV u8.len a8++u8.foot)++([]++[]):=hq;simp only[List.append_nil] at h2;exact h q h2
theorem zGE {fs:List Int} {fa:Option Addr} {fc:Nat} {a8:Option Addr} {c8:Nat} {u8:Il} {n0:Nat} (h:∀q∈zV u8.len a8++u8.foot,n0≤q) (h2:∀q∈zV fs.length fa,n0≤q):∀q∈(zAF ⟨⟨a8,c8,u8⟩,fa,fc,fs⟩).foot,n0≤q:=fun q hq=>by
 have h3:q∈(zV u8.len a8++u8.foot)++(zV fs.length fa++[]):=hq;rw[List.append_nil] at h3
 rcases List.mem_append.1 h3 with h4|h4
 ·exact h q h4
 ·exact h2 q h4
theorem zGr {fs:List Int} {fa:Option Addr} {fc:Nat} {a8:Option Addr} {c8:Nat} {u8:Il} {n0:Nat} (h:∀q∈zV u8.len a8++u8.foot,n0≤q) (h2:∀q∈zV fs.length fa,n0≤q):∀q∈(Jh ⟨⟨a8,c8,u8⟩,fa,fc,fs⟩).foot,n0≤q:=fun q hq=>by
 have h3:q∈(zV u8.len a8++u8.foot)++([]++zV fs.length fa):=hq;rw[List.nil_append] at h3
 rcases List.mem_append.1 h3 with h4|h4
 ·exact h q h4
 ·exact h2 q h4
theorem zDQ {V:World} {g:Nat} (h:zB V g qN) (v0 v1 v2 v3 v4 v5 v6 v7 v8 v9 v10:Value):zB (((((((((((V.setCell ⟨g,0,none⟩ v0).setCell ⟨g,1,none⟩ v1).setCell ⟨g,2,none⟩ v2).setCell ⟨g,3,none⟩ v3).setCell ⟨g,4,none⟩ v4).setCell ⟨g,5,none⟩ v5).setCell ⟨g,6,none⟩ v6).setCell ⟨g,7,none⟩ v7).setCell ⟨g,8,none⟩ v8).setCell ⟨g,9,none⟩ v9).setCell ⟨g,10,none⟩ v10) g #[v0,v1,v2,v3,v4,v5,v6,v7,v8,v9,v10]:=by
 have h2:=(((((((((((h.set 0 (by simp[qN]) v0).set 1 (by simp[qN]) v1).set 2 (by simp[qN]) v2).set 3 (by simp[qN]) v3).set 4 (by simp[qN]) v4).set 5 (by simp[qN]) v5).set 6 (by simp[qN]) v6).set 7 (by simp[qN]) v7).set 8 (by simp[qN]) v8).set 9 (by simp[qN]) v9).set 10 (by simp[qN]) v10);unfold qN at h2;simpa only [List.setIfInBounds_toArray,List.set_cons_zero,List.set_cons_succ] using h2
end Mod
section
open Go
section
variable {P:Program} {md:Region.Mode} {ops:Array Oper} {Q:Exit→Act→World→Prop} {S:World→Prop} {L:Nat}
def zQ (P:Program) (md:Region.Mode) (ops:Array Oper) (Q:Exit→Act→World→Prop) (S:World→Prop) (L:Nat):Nat→Array Bool→Act→World→Prop
 | 0,l,a,w=>Region.ready md ops l=[]∧Q .normal a w
 | n+1,l,a,w=>(Region.ready md ops l=[]→Q .normal a w)∧∀i∈Region.ready md ops l,wpOp P ops Q i (fun a' w'=>(i≠L→S w')∧zQ P md ops Q S L n (l.setIfInBounds i true) a' w') a w
theorem zQ.any:∀(n:Nat) (l:Array Bool) (a:Act) (w:World),zQ P md ops Q S L n l a w→wpAny P md ops Q n l a w
 | 0,_,_,_,h=>h
 | n+1,_,_,_,h=>⟨h.1,fun i hi=>wpOp_mono (fun a' w' k=>zQ.any n _ a' w' k.2) (h.2 i hi)⟩
theorem zQ.begin {id:Nat} {a:Act} {w:World} (hm:P.follows .mixedOrders=true) (hS:S w.drew)
  (h:S w.drew→zQ P .any ops Q S L ops.size (Array.replicate ops.size false) a w.drew):(Code.region id ops true).wp P Q a w :=
 wp_region_any hm (zQ.any _ _ _ _ (h hS))
theorem zAd {l:Array Bool} {i j:Nat} {oj:Oper} (hj:ops[j]?=some oj) (hw:(oj.after.any fun e=>Region.binds md e&&e.on==i)=true) (hi:i∈Region.ready md ops l):j∉Region.ready md ops l:=by
 intro h;obtain⟨_,o,ho,hall⟩:=mem_ready.1 h;rw[hj] at ho;obtain rfl:=Option.some.inj ho;obtain⟨e,he,hb⟩:=Array.any_eq_true'.1 hw;simp only[Bool.and_eq_true,beq_iff_eq] at hb;have h1:=hall e he hb.1;rw[hb.2] at h1;have h0:=(mem_ready.1 hi).1;rw[Array.getD_eq_getD_getElem?] at h0 h1
 cases hl:l[i]? with
 | none=>rw[hl] at h1;simp at h1
 | some b=>rw[hl] at h0 h1;simp at h0 h1;rw[h0] at h1;cases h1
theorem zQ.first {i:Nat} {oi oL:Oper} {v:Value} (hi:ops[i]?=some oi) (hsel:∀(j:Nat) (o:Oper) cs b,ops[j]?=some o→o.op≠.select cs b)
  (hL:ops[L]?=some oL) (hw:(oL.after.any fun e=>Region.binds md e&&e.on==i)=true) (hQ:∀c a w,Q (.panic c) (a.put oi.dst v) w→Q (.panic c) a w) :
  ∀(n:Nat) (l:Array Bool) (a:Act) (w:World),
   (∀j oj,ops[j]?=some oj→j≠i→l.getD j true=false→(∀e∈oj.after,Region.binds md e=true→e.on≠i)→oi.apart ops oj=true) →
   i∈Region.ready md ops l→YieldsIf P ops S oi v a→S w→zQ P md ops Q S L n (l.setIfInBounds i true) (a.put oi.dst v) w→zQ P md ops Q S L (n+1) l a w
 | n,l,a,w,hfree,hr,hy,hS,H=>by
  refine⟨fun h=>(by rw[h] at hr;cases hr),fun j hj=>?_⟩
  rcases Nat.decEq j i with hji|hji
  rotate_left
  ·subst hji;exact hy.wpOp hi hS ⟨fun _=>hS,H⟩
  have hjL:j≠L:=fun e=>zAd hL hw hr (e▸hj)
  have hj2:=ready_mono hj hji
  cases n with
  | zero=>rw[H.1] at hj2;cases hj2
  | succ n =>
   have h1:=H.2 j hj2;obtain⟨hjun,oj,hoj,hall⟩:=mem_ready.1 hj
   have hno:∀e∈oj.after,Region.binds md e=true→e.on≠i:=fun e he hb heq=>by
    refine zAd hoj ?_ hr hj;exact Array.any_eq_true'.2 ⟨e,he,by simp[hb,heq]⟩
   have h2:=wpOp_putIf hoj (hfree j oj hoj hji hjun hno) (fun cs b=>hsel i oi cs b hi) (fun cs b=>hsel j oj cs b hoj) hQ hy h1;refine wpOp_mono (fun a' w' k=>⟨fun h=>k.2.1 h,zQ.first hi hsel hL hw hQ n (l.setIfInBounds j true) a' w' (fun q oq hq hqi hun hn=>?_) (ready_mono hr (Ne.symm hji)) k.1 (k.2.1 hjL) ?_⟩) h2
   ·refine hfree q oq hq hqi ?_ hn
    by_cases e:j=q
    ·subst e;exact hjun
    ·rwa [getD_set_ne true e] at hun
   ·rw[Array.setIfInBounds_comm _ _ hji];exact k.2.2
theorem zQ.take {i:Nat} {oi oL:Oper} {v:Value} {n:Nat} {l:Array Bool} {a:Act} {w:World} (hi:ops[i]?=some oi) (hs:Region.noSelect ops=true) (hf:Region.free md ops l i=true) (hr:(Region.ready md ops l).contains i=true)
  (hL:ops[L]?=some oL) (hw:(oL.after.any fun e=>Region.binds md e&&e.on==i)=true) (hQ:∀c a w,Q (.panic c) (a.put oi.dst v) w→Q (.panic c) a w) (hy:YieldsIf P ops S oi v a) (hS:S w)
  (h:zQ P md ops Q S L n (l.setIfInBounds i true) (a.put oi.dst v) w):zQ P md ops Q S L (n+1) l a w :=
 zQ.first hi (Region.noSelect_spec hs) hL hw hQ n l a w (Region.free_spec hi hf) (by simpa using hr) hy hS h
def qJ (P:Program) (md:Region.Mode) (ops:Array Oper) (Q:Exit→Act→World→Prop) (S:World→Prop) (L n:Nat) (l:Array Bool) (a:Act) (w:World) (i:Nat):Prop :=
 wpOp P ops Q i (fun a' w'=>(i≠L→S w')∧zQ P md ops Q S L n (l.setIfInBounds i true) a' w') a w
theorem qJ.of {n:Nat} {l:Array Bool} {a:Act} {w:World} {i:Nat} {o:Oper} (ho:ops[i]?=some o)
  (h:∀K':Act→World→Prop,Shut (∀a w,(i≠L→S w)→(S w∨i=L→zQ P md ops Q S L n (l.setIfInBounds i true) a w)→K' a w)→if Region.wanted o (yielded ops a.tmps)=true then Oper.wp P o a w K' Q else K' (a.put o.dst undef) w):qJ P md ops Q S L n l a w i :=
 wpOp_step ho (fun K' hK=>h K' (fun a w hS hW=>hK a w ⟨hS,hW (by
   by_cases e:i=L
   · exact .inr e
   · exact .inl (hS e))⟩))
theorem zQ.one {n:Nat} {l:Array Bool} {a:Act} {w:World} {i:Nat} (hr:Region.ready md ops l=[i]) (h:qJ P md ops Q S L n l a w i):zQ P md ops Q S L (n+1) l a w :=
 ⟨fun h0=>(by rw[hr] at h0;cases h0),fun j hj=>by rw[hr,List.mem_singleton] at hj;subst hj;exact h⟩
theorem zQ.two {n:Nat} {l:Array Bool} {a:Act} {w:World} {i k:Nat} (hr:Region.ready md ops l=[i,k]) (h:qJ P md ops Q S L n l a w i) (g:qJ P md ops Q S L n l a w k):zQ P md ops Q S L (n+1) l a w :=
 ⟨fun h0=>(by rw[hr] at h0;cases h0),fun j hj=>by
   rw[hr] at hj
   rcases List.mem_cons.1 hj with rfl|hj
   · exact h
   · rw[List.mem_singleton] at hj;subst hj;exact g⟩
theorem zQ.done {l:Array Bool} {a:Act} {w:World} (hr:Region.ready md ops l=[]) (h:Q .normal a w):∀n,zQ P md ops Q S L n l a w
 | 0=>⟨hr,h⟩
 | _+1=>⟨fun _=>h,by rw[hr];simp⟩
end
end
namespace Mod
open Go.RowKit Instr
theorem zJc (a b a' b':ByteArray) (c c':Int) (w:World):(Op.equalIn 10000 124 (.agg #[.string a,.string b,.int .i64 c]) (.agg #[.string a',.string b',.int .i64 c'])).run Tryz.prog w=.ok (a.toList==a'.toList&&b.toList==b'.toList&&c==c') w:=by
 have u3:=Tryz.underlying3;have a3:=Tryz.isAgg3;have z3:=Tryz.sizeOf3;have u4:=Tryz.underlying9;have a4:=Tryz.isAgg9;have z4:=Tryz.sizeOf9;have hS:Tryz.prog.underlying 124=some (.struct (Tryz.prog.fieldsOf 124)):=by kernel_rfl
 have hp:Tryz.prog.stoodInHeld 124=false:=by kernel_rfl
 rw[show (10000:Nat)=9999+1 from rfl,run_equalIn_agg w 9999 124 _ _ hS hp];simp only[Program.fieldsOf,Tryz.underlying124]
 go_simp
 by_cases h1:a.toList=a'.toList<;>by_cases h2:b.toList=b'.toList<;>by_cases h3:c=c'<;>simp[h1,h2,h3]
theorem zFn (op:BinOp) (x y:Operand) (xs ys:Array Value) (w:World):(eqGuard op 124 x y (.agg xs) (.agg ys)).run Tryz.prog w=.ok () w :=
 run_eqGuard_agg w op _ x y xs ys (by kernel_rfl)
theorem zJm (a a':ByteArray) (b c b' c':Int) (w:World):(Op.equalIn 10000 45 (.agg #[.string a,.int .i64 b,.int .u32 c]) (.agg #[.string a',.int .i64 b',.int .u32 c'])).run Tryz.prog w=.ok (a.toList==a'.toList&&b==b'&&c==c') w:=by
 have u3:=Tryz.underlying3;have a3:=Tryz.isAgg3;have z3:=Tryz.sizeOf3;have u4:=Tryz.underlying9;have a4:=Tryz.isAgg9;have z4:=Tryz.sizeOf9;have u5:=Tryz.underlying36;have a5:=Tryz.isAgg36;have z5:=Tryz.sizeOf36;have hS:Tryz.prog.underlying 45=some (.struct (Tryz.prog.fieldsOf 45)):=by kernel_rfl
 have hp:Tryz.prog.stoodInHeld 45=false:=by kernel_rfl
 rw[show (10000:Nat)=9999+1 from rfl,run_equalIn_agg w 9999 45 _ _ hS hp];simp only[Program.fieldsOf,Tryz.underlying45]
 go_simp
 by_cases h1:a.toList=a'.toList<;>by_cases h2:b=b'<;>by_cases h3:c=c'<;>simp[h1,h2,h3]
theorem zGV (op:BinOp) (x y:Operand) (xs ys:Array Value) (w:World):(eqGuard op 45 x y (.agg xs) (.agg ys)).run Tryz.prog w=.ok () w :=
 run_eqGuard_agg w op _ x y xs ys (by kernel_rfl)
theorem Yk {a b:ByteArray} (h:¬a=b):¬a.toList=b.toList:=fun e=>h (ByteArray.ext (Array.toList_inj.1 (by rwa [ByteArray.toList_eq,ByteArray.toList_eq] at e)))
theorem zAT (x y:Mod.Fn) (n₀:Nat) (w:World) (h1:zD n₀ w x.l.a x.l.t.len x.l.t) (h2:zD n₀ w y.l.a y.l.t.len y.l.t) (hn:n₀≤w.heap.size) (b1:x.l.t.len≤140737488351232) (b2:y.l.t.len≤140737488351232) :
  Calls Tryz.prog 77 #[.agg #[.int .i64 x.lo,.slice x.l.a x.l.t.len x.l.c],.agg #[.int .i64 y.lo,.slice y.l.a y.l.t.len y.l.c]] w fun e w'=>e=.returned (.bool (is (x.lo=y.lo∧x.l.t.bare=y.l.t.bare)))∧Below w.heap.size w w':=by
 have hb0:=(Below.refl w.heap.size w).alloc (Nat.le_refl _) (.cells #[.int .i64 x.lo,.slice x.l.a x.l.t.len x.l.c] 24);have hb1:=zC hb0 (.cells #[.int .i64 y.lo,.slice y.l.a y.l.t.len y.l.c] 24);have C:=hid (qY n₀ (max x.l.t.count y.l.t.count) x.l.t y.l.t x.l.a y.l.a x.l.t.len y.l.t.len x.l.c y.l.c _ (by omega) (by omega) (h1.below (hb1.mono hn)) (h2.below (hb1.mono hn)) (Nat.le_trans hn hb1.size) b1 b2);have HB:=hid hb1;obtain⟨lo,hlo⟩:∃n,x.lo=n:=⟨_,rfl⟩;obtain⟨lo',hlo'⟩:∃n,y.lo=n:=⟨_,rfl⟩;have HY:=hid (fun (g:lo=lo') (g2:x.l.t.bare=y.l.t.bare)=>ya (p:=x.lo=y.lo∧x.l.t.bare=y.l.t.bare) ⟨by rw[hlo,hlo',g],g2⟩);have HN:=hid (fun (g:¬(lo=lo'∧x.l.t.bare=y.l.t.bare))=>zY (p:=x.lo=y.lo∧x.l.t.bare=y.l.t.bare) (fun e=>g ⟨by rw[←hlo,←hlo',e.1],e.2⟩));obtain⟨r,hr⟩:∃r,is (x.lo=y.lo∧x.l.t.bare=y.l.t.bare)=r:=⟨_,rfl⟩;rw[hr] at HY HN ⊢;rw[hlo,hlo'] at C HB ⊢;clear h1 h2 hb0 hb1 hlo hlo' hr
 by_cases g:lo=lo'
 ·subst g
  by_cases g2:x.l.t.bare=y.l.t.bare
  ·rw[ya g2] at C
   have HE:=hid (HY.out rfl g2);clear HY HN g2
   go_enter Tryz.func77,Tryz.ntmps77
   go_wp2_with fail
   refine C.out.mono ?_;rintro e w1 ⟨rfl,hb⟩;clear C;go_wp2;go_ret;exact⟨zA HE.out.symm,HB.out.trans (hb.mono HB.out.size)⟩
  ·rw[zY g2] at C
   have HE:=hid (HN.out (fun h=>g2 h.2));clear HY HN g2
   go_enter Tryz.func77,Tryz.ntmps77
   go_wp2_with fail
   refine C.out.mono ?_;rintro e w1 ⟨rfl,hb⟩;clear C;go_wp2;go_ret;exact⟨zA HE.out.symm,HB.out.trans (hb.mono HB.out.size)⟩
 ·have HE:=hid (HN.out (fun h=>g h.1))
  have q1:(lo==lo')=false:=beq_eq_false_iff_ne.2 g;clear HY HN C
  go_enter Tryz.func77,Tryz.ntmps77
  go_wp2;go_ret;exact⟨zA HE.out.symm,HB.out⟩
end Mod
namespace Instr
open Go.RowKit
theorem kS {w w1:World} {p q:Addr} {x y:Value} (h:Below w.heap.size w w1∧w1.cell? p=some x∧w1.cell? q=some y):Below w.heap.size w w1:=h.1
theorem J3 {w w1 w2:World} {p q:Addr} {x y:Value} (h:Below w.heap.size w w1∧w1.cell? p=some x∧w1.cell? q=some y) (hb:Below w1.heap.size w1 w2) :
  Below w.heap.size w w2∧w2.cell? p=some x∧w2.cell? q=some y:=⟨zM h.1 hb,keep hb h.2.1,keep hb h.2.2⟩
theorem zBs:∀(m:Nat) (t:Il) (a:Option Addr) (len c:Nat) (w:World),t.count≤m→zD w.heap.size w a len t→len≤140737488351232→t.count≤4611686018427387900 →
  Calls Tryz.prog 211 #[.slice a len c] w fun e w'=>e=.returned (.int .i64 t.count)∧Below w.heap.size w w':=by
 intro m
 induction m with
 | zero =>
  intro t a len c w hm hL hlen hbig
  cases t with
  | cons x l e r=>simp only[Il.count] at hm;omega
  | nil =>
   have h0:len=0:=hL.1.symm;subst h0;clear hm hL hlen hbig
   go_enter Tryz.func211,Tryz.ntmps211
   go_wp2
   go_loopw [3,4] (fun sn si wr=>sn=.int .i64 0∧si=.int .i64 0∧wr=w) (fun _ _ _=>0)
   case atStart=>exact⟨rfl,rfl,rfl⟩
   case round =>
    obtain⟨rfl,rfl,rfl⟩:=hrel;go_wp2;go_ret;exact⟨rfl,Below.refl _ _⟩
 | succ m ih =>
  intro t a len c w hm hL hlen hbig;obtain⟨hL1,hL2⟩:=hL
  rcases hL2 with rfl|⟨b,off,rfl,hi⟩
  ·have h0:len=0:=hL1.symm
   subst h0;clear ih hm hL1 hlen hbig
   go_enter Tryz.func211,Tryz.ntmps211
   go_wp2
   go_loopw [3,4] (fun sn si wr=>sn=.int .i64 0∧si=.int .i64 0∧wr=w) (fun _ _ _=>0)
   case atStart=>exact⟨rfl,rfl,rfl⟩
   case round =>
    obtain⟨rfl,rfl,rfl⟩:=hrel;go_wp2;go_ret;exact⟨rfl,Below.refl _ _⟩
  ·have HM:=hid hm
   have HB:=hid hbig;have HL1:=hid hL1;have HI:=hid hi;clear hm hbig hL1 hi
   go_enter Tryz.func211,Tryz.ntmps211
   go_wp2
   go_loopw [3,4] (fun sn si wr=>∃(k:Nat) (n:Int) (rest:Il),si=.int .i64 k∧sn=.int .i64 n∧k≤len∧0≤n∧n≤4611686018427387900∧Hid (k+rest.len=len∧rest.count≤t.count∧n+(rest.count-rest.len:Int)=t.count)∧Hid (zg w.heap.size w b (off+k*8) rest)∧Below w.heap.size w wr)
    (fun _ si _=>len-(intOf si).toNat)
   case atStart=>exact⟨0,len,t,rfl,rfl,Nat.zero_le _,by omega,by omega,⟨by have:=HL1.out;omega,Nat.le_refl _,by have:=HL1.out;omega⟩,by simpa using HI,Below.refl _ _⟩
   case round =>
    obtain⟨k,n,rest,rfl,rfl,hk,hn0,hn1,HR,HIR,hb⟩:=hrel
    cases rest with
    | nil =>
     obtain⟨r1,_,r3⟩:=HR.out;have hkl:k=len:=by simpa[Il.len] using r1
     subst hkl;have R3:Hid (n=t.count):=by show _=_;simp only[Il.count,Il.len] at r3;omega
     clear r3;go_wp2;go_ret;exact⟨zH R3.out,hb⟩
    | cons x tl te r =>
     have hir:=zg.below hb HIR.out;obtain⟨hbn,hx,⟨c0,c1,c2,c3,c4,c5,c6,c7⟩,_⟩:=hir;have hir0:=HIR.out;obtain⟨_,_,_,ht,hLl,hLe,hir'⟩:=hir0;have hlt:k<len:=by have:=HR.out.1;simp only[Il.len] at this;omega
     have hLn:=hx.ln;have hEn:=hx.en
     have hcnt:tl.count+te.count+1≤m+1∧tl.count≤4611686018427387900∧te.count≤4611686018427387900:=by
      have h1:=HR.out.2.1;have h2:=HM.out;have h3:=HB.out;simp only[Il.count] at h1;omega
     obtain⟨k1,k2,k3⟩:=hcnt;have N2:=fun w' (hb':Below w.heap.size w w')=>ih tl x.la x.ln x.lc w' (by omega) (zD.on hLl hb') hLn k2
     have N3:=fun w' (hb':Below w.heap.size w w')=>ih te x.ea x.en x.ec w' (by omega) (zD.on hLe hb') hEn k3
     have hq:n+tl.count+te.count≤4611686018427387900:=by
      have h1:=HR.out.2.2;have h2:=HB.out;have h3:=uU r;simp only[Il.count,Il.len] at h1;omega
     obtain⟨q2,hq2⟩:∃q:Int,(tl.count:Int)=q:=⟨_,rfl⟩;obtain⟨q3,hq3⟩:∃q:Int,(te.count:Int)=q:=⟨_,rfl⟩;have y1:0≤q2:=by omega
     have y2:0≤q3:=by omega
     rw[hq2,hq3] at hq;simp only[hq2,hq3] at N2 N3;have Q2:=hid hq2;have Q3:=hid hq3;have H2:=hid N2;have H3:=hid N3;have hv1:IntKind.i64.wrap (n+q2)=n+q2:=by rw[IntKind.wrap_i64];omega
     have hv2:IntKind.i64.wrap (n+q2+q3)=n+q2+q3:=by rw[IntKind.wrap_i64];omega
     clear N2 N3 hq2 hq3 ih k1 k2 k3 hLl hLe;have hS0:Below w.heap.size w wr.drew∧wr.drew.cell? ⟨b,off+k*8+6,none⟩=some (.slice x.la x.ln x.lc)∧wr.drew.cell? ⟨b,off+k*8+7,none⟩=some (.slice x.ea x.en x.ec):=⟨hb.drew,c6,c7⟩;go_wp2
     (first
       | go_loud (go_region_held3 (fun w'=>Below w.heap.size w w'∧w'.cell? ⟨b,off+k*8+6,none⟩=some (.slice x.la x.ln x.lc)∧w'.cell? ⟨b,off+k*8+7,none⟩=some (.slice x.ea x.en x.ec))
           (first|assumption|exact J3 (by assumption) (by assumption))
           (first
             | (go_at_call 211;(with_reducible refine (H2.out _ (kS (by assumption))).mono ?_);rintro e w7 ⟨rfl,hb7⟩)
             | (go_at_call 211;(with_reducible refine (H3.out _ (kS (by assumption))).mono ?_);rintro e w8 ⟨rfl,hb8⟩)))
       | fail)
     go_wp2;have hbE:=kS (by assumption);have g2:=Q2.out;have g3:=Q3.out;refine⟨⟨k+1,n+q2+q3,r,by simp,rfl,by omega,by omega,by omega,⟨by have:=HR.out.1;simp only[Il.len] at this;omega,by have:=HR.out.2.1;simp only[Il.count] at this;omega,?_⟩,by rw[show off+(k+1)*8=off+k*8+8 by omega];exact hir',hbE⟩,by simp[intOf];omega⟩;have h1:=HR.out.2.2;simp only[Il.count,Il.len] at h1;omega
theorem zCF:∀(m:Nat) (t:Il) (a:Option Addr) (len c:Nat) (w:World),t.count≤m→zD w.heap.size w a len t→len≤140737488351232→t.count≤4611686018427387900 →
  Calls Tryz.prog 212 #[.slice a len c] w fun e w'=>e=.returned (.int .i64 t.deep)∧Below w.heap.size w w':=by
 intro m
 induction m with
 | zero =>
  intro t a len c w hm hL hlen hbig
  cases t with
  | cons x l e r=>simp only[Il.count] at hm;omega
  | nil =>
   have h0:len=0:=hL.1.symm;subst h0;clear hm hL hlen hbig
   go_enter Tryz.func212,Tryz.ntmps212
   go_wp2
   go_loopw [3,4] (fun sn si wr=>sn=.int .i64 0∧si=.int .i64 0∧wr=w) (fun _ _ _=>0)
   case atStart=>exact⟨rfl,rfl,rfl⟩
   case round =>
    obtain⟨rfl,rfl,rfl⟩:=hrel;go_wp2;go_ret;exact⟨rfl,Below.refl _ _⟩
 | succ m ih =>
  intro t a len c w hm hL hlen hbig;obtain⟨hL1,hL2⟩:=hL
  rcases hL2 with rfl|⟨b,off,rfl,hi⟩
  ·have h0:len=0:=hL1.symm
   subst h0;clear ih hm hL1 hlen hbig
   go_enter Tryz.func212,Tryz.ntmps212
   go_wp2
   go_loopw [3,4] (fun sn si wr=>sn=.int .i64 0∧si=.int .i64 0∧wr=w) (fun _ _ _=>0)
   case atStart=>exact⟨rfl,rfl,rfl⟩
   case round =>
    obtain⟨rfl,rfl,rfl⟩:=hrel;go_wp2;go_ret;exact⟨rfl,Below.refl _ _⟩
  ·have HM:=hid hm
   have HB:=hid hbig;have HL1:=hid hL1;have HI:=hid hi;clear hm hbig hL1 hi
   go_enter Tryz.func212,Tryz.ntmps212
   go_wp2
   go_loopw [3,4] (fun sn si wr=>∃(k:Nat) (n:Int) (rest:Il),si=.int .i64 k∧sn=.int .i64 n∧k≤len∧0≤n∧n≤4611686018427387900∧Hid (k+rest.len=len∧rest.count≤t.count∧max n rest.deep=t.deep)∧Hid (zg w.heap.size w b (off+k*8) rest)∧Below w.heap.size w wr)
    (fun _ si _=>len-(intOf si).toNat)
   case atStart=>exact⟨0,0,t,rfl,rfl,Nat.zero_le _,by omega,by omega,⟨by have:=HL1.out;omega,Nat.le_refl _,by omega⟩,by simpa using HI,Below.refl _ _⟩
   case round =>
    obtain⟨k,n,rest,rfl,rfl,hk,hn0,hn1,HR,HIR,hb⟩:=hrel
    cases rest with
    | nil =>
     obtain⟨r1,_,r3⟩:=HR.out;have hkl:k=len:=by simpa[Il.len] using r1
     subst hkl;have R3:Hid (n=t.deep):=by show _=_;simp only[Il.deep] at r3;omega
     clear r3;go_wp2;go_ret;exact⟨zH R3.out,hb⟩
    | cons x tl te r =>
     have hir:=zg.below hb HIR.out;obtain⟨hbn,hx,⟨c0,c1,c2,c3,c4,c5,c6,c7⟩,_⟩:=hir;have hir0:=HIR.out;obtain⟨_,_,_,ht,hLl,hLe,hir'⟩:=hir0;have hlt:k<len:=by have:=HR.out.1;simp only[Il.len] at this;omega
     have hLn:=hx.ln;have hEn:=hx.en
     have hcnt:tl.count+te.count+1≤m+1∧tl.count≤4611686018427387900∧te.count≤4611686018427387900:=by
      have h1:=HR.out.2.1;have h2:=HM.out;have h3:=HB.out;simp only[Il.count] at h1;omega
     obtain⟨k1,k2,k3⟩:=hcnt;have N2:=fun w' (hb':Below w.heap.size w w')=>ih tl x.la x.ln x.lc w' (by omega) (zD.on hLl hb') hLn k2
     have N3:=fun w' (hb':Below w.heap.size w w')=>ih te x.ea x.en x.ec w' (by omega) (zD.on hLe hb') hEn k3
     have d2:=jY tl;have d3:=jY te
     have hq:(tl.deep:Int)≤4611686018427387899∧(te.deep:Int)≤4611686018427387899:=by
      have h1:=HR.out.2.1;have h2:=HB.out;simp only[Il.count] at h1;omega
     obtain⟨q2,hq2⟩:∃q:Int,(tl.deep:Int)=q:=⟨_,rfl⟩;obtain⟨q3,hq3⟩:∃q:Int,(te.deep:Int)=q:=⟨_,rfl⟩;have y1:0≤q2:=by omega
     have y2:0≤q3:=by omega
     rw[hq2,hq3] at hq;obtain⟨y3,y4⟩:=hq;simp only[hq2,hq3] at N2 N3;have Q2:=hid hq2;have Q3:=hid hq3;have H2:=hid N2;have H3:=hid N3;have hv1:IntKind.i64.wrap (1+max q2 q3)=1+max q2 q3:=by rw[IntKind.wrap_i64];omega
     clear N2 N3 hq2 hq3 ih k1 k2 k3 hLl hLe d2 d3;have hS0:Below w.heap.size w wr.drew∧wr.drew.cell? ⟨b,off+k*8+6,none⟩=some (.slice x.la x.ln x.lc)∧wr.drew.cell? ⟨b,off+k*8+7,none⟩=some (.slice x.ea x.en x.ec):=⟨hb.drew,c6,c7⟩;go_wp2
     (first
       | go_loud (go_region_held3 (fun w'=>Below w.heap.size w w'∧w'.cell? ⟨b,off+k*8+6,none⟩=some (.slice x.la x.ln x.lc)∧w'.cell? ⟨b,off+k*8+7,none⟩=some (.slice x.ea x.en x.ec))
           (first|assumption|exact J3 (by assumption) (by assumption))
           (first
             | (go_at_call 212;(with_reducible refine (H2.out _ (kS (by assumption))).mono ?_);rintro e w7 ⟨rfl,hb7⟩)
             | (go_at_call 212;(with_reducible refine (H3.out _ (kS (by assumption))).mono ?_);rintro e w8 ⟨rfl,hb8⟩)))
       | fail)
     go_wp2;have hbE:=kS (by assumption);have g2:=Q2.out;have g3:=Q3.out;refine⟨⟨k+1,max n (1+max q2 q3),r,by simp,rfl,by omega,by omega,by omega,⟨by have:=HR.out.1;simp only[Il.len] at this;omega,by have:=HR.out.2.1;simp only[Il.count] at this;omega,?_⟩,by rw[show off+(k+1)*8=off+k*8+8 by omega];exact hir',hbE⟩,by simp[intOf];omega⟩;have h1:=HR.out.2.2;simp only[Il.deep] at h1;omega
theorem zB5:∀(m:Nat) (t:Il) (a:Option Addr) (len c:Nat) (w:World),t.count≤m→zD w.heap.size w a len t→len≤140737488351232→t.count≤4611686018427387900 →
  Calls Tryz.prog 213 #[.slice a len c] w fun e w'=>e=.returned (.bool t.tags)∧Below w.heap.size w w':=by
 intro m
 induction m with
 | zero =>
  intro t a len c w hm hL hlen hbig
  cases t with
  | cons x l e r=>simp only[Il.count] at hm;omega
  | nil =>
   have h0:len=0:=hL.1.symm;subst h0;clear hm hL hlen hbig
   go_enter Tryz.func213,Tryz.ntmps213
   go_wp2
   go_loopw [3] (fun si wr=>si=.int .i64 0∧wr=w) (fun _ _=>0)
   case atStart=>exact⟨rfl,rfl⟩
   case round =>
    obtain⟨rfl,rfl⟩:=hrel;go_wp2;go_ret;exact⟨rfl,Below.refl _ _⟩
 | succ m ih =>
  intro t a len c w hm hL hlen hbig;obtain⟨hL1,hL2⟩:=hL
  rcases hL2 with rfl|⟨b,off,rfl,hi⟩
  ·have h0:len=0:=hL1.symm
   subst h0;clear ih hm hL1 hlen hbig
   go_enter Tryz.func213,Tryz.ntmps213
   go_wp2
   go_loopw [3] (fun si wr=>si=.int .i64 0∧wr=w) (fun _ _=>0)
   case atStart=>exact⟨rfl,rfl⟩
   case round =>
    obtain⟨rfl,rfl⟩:=hrel;go_wp2;go_ret;exact⟨rfl,Below.refl _ _⟩
  ·have HM:=hid hm
   have HB:=hid hbig;have HL1:=hid hL1;have HI:=hid hi;clear hm hbig hL1 hi
   go_enter Tryz.func213,Tryz.ntmps213
   go_wp2
   go_loopw [3] (fun si wr=>∃(k:Nat) (rest:Il),si=.int .i64 k∧k≤len∧Hid (k+rest.len=len∧rest.count≤t.count∧rest.tags=t.tags)∧Hid (zg w.heap.size w b (off+k*8) rest)∧Below w.heap.size w wr)
    (fun si _=>len-(intOf si).toNat)
   case atStart=>exact⟨0,t,rfl,Nat.zero_le _,⟨by have:=HL1.out;omega,Nat.le_refl _,rfl⟩,by simpa using HI,Below.refl _ _⟩
   case round =>
    obtain⟨k,rest,rfl,hk,HR,HIR,hb⟩:=hrel
    cases rest with
    | nil =>
     obtain⟨r1,_,r3⟩:=HR.out;have hkl:k=len:=by simpa[Il.len] using r1
     subst hkl;have R3:Hid (t.tags=false):=by show _=_;rw[←r3];rfl
     clear r3;go_wp2;go_ret;exact⟨zA R3.out.symm,hb⟩
    | cons x tl te r =>
     have hir:=zg.below hb HIR.out;obtain⟨hbn,hx,⟨c0,c1,c2,c3,c4,c5,c6,c7⟩,_⟩:=hir;have hir0:=HIR.out;obtain⟨_,_,_,ht,hLl,hLe,hir'⟩:=hir0;have hlt:k<len:=by have:=HR.out.1;simp only[Il.len] at this;omega
     have hLn:=hx.ln;have hEn:=hx.en
     have hcnt:tl.count+te.count+1≤m+1∧tl.count≤4611686018427387900∧te.count≤4611686018427387900:=by
      have h1:=HR.out.2.1;have h2:=HM.out;have h3:=HB.out;simp only[Il.count] at h1;omega
     obtain⟨k1,k2,k3⟩:=hcnt;have N2:=fun w' (hb':Below w.heap.size w w')=>ih tl x.la x.ln x.lc w' (by omega) (zD.on hLl hb') hLn k2
     have N3:=fun w' (hb':Below w.heap.size w w')=>ih te x.ea x.en x.ec w' (by omega) (zD.on hLe hb') hEn k3
     have HE:Hid (t.tags=(decide (16384<x.tags.length)||tl.tags||te.tags||r.tags)):=by show _=_;rw[←HR.out.2.2];rfl
     have htn:=hx.tn;have H2:=hid N2;have H3:=hid N3;clear N2 N3 ih k1 k2 k3 hLl hLe
     by_cases hbig:16384<x.tags.length
     ·have R:Hid (t.tags=true):=by show _=_;rw[HE.out];simp[hbig]
      have hbig':(16384:Int)<(x.tags.length:Int):=by omega
      clear H2 H3;go_wp2;go_ret;exact⟨zA R.out.symm,hb⟩
     ·have hbig':¬(16384:Int)<(x.tags.length:Int):=by omega
      obtain⟨g1,hg1⟩:∃g,tl.tags=g:=⟨_,rfl⟩;obtain⟨g2,hg2⟩:∃g,te.tags=g:=⟨_,rfl⟩;simp only[hg1] at H2;simp only[hg2] at H3;have HE2:Hid (t.tags=(g1||g2||r.tags)):=by show _=_;rw[HE.out,hg1,hg2];simp[hbig]
      clear hg1 hg2 HE
      go_wp2_with fail
      refine (H2.out _ hb).mono ?_;clear H2;rintro e1 w3 ⟨rfl,hb3⟩;have hbW:=zM hb hb3;have d6:=keep hb3 c6;have d7:=keep hb3 c7
      cases g1
      ·go_wp2_with fail
       refine (H3.out _ hbW).mono ?_;clear H3;rintro e1 w4 ⟨rfl,hb4⟩;have hbX:=zM hbW hb4
       cases g2
       ·go_wp2
        go_roundw
        case rel =>
         refine⟨k+1,r,by simp,by omega,⟨by have:=HR.out.1;simp only[Il.len] at this;omega,by have:=HR.out.2.1;simp only[Il.count] at this;omega,?_⟩,by rw[show off+(k+1)*8=off+k*8+8 by omega];exact hir',hbX⟩;rw[HE2.out];rfl
        case measure=>simp[intOf];omega
       ·have R:Hid (t.tags=true):=by show _=_;rw[HE2.out];rfl
        go_wp2;go_ret;exact⟨zA R.out.symm,hbX⟩
      ·have R:Hid (t.tags=true):=by show _=_;rw[HE2.out];simp
       clear H3;go_wp2;go_ret;exact⟨zA R.out.symm,hbW⟩
end Instr
namespace Body
open Go.RowKit Instr
theorem zBN (x:Ix) (w:World):Calls Tryz.prog 261 #[.agg x.vals] w fun e w'=>e=.returned (.bool (zW x))∧Below w.heap.size w w':=by
 by_cases hn:zc x.op=[]
 ·have h0:zW x=false:=by
   rw[←Bool.not_eq_true];intro h;exact ((yj x).1 h).1 hn
  rw[h0];exact zDt x.op x.res x.a x.b x.n x.tags.length x.ln x.en x.ta x.la x.ea x.tc x.lc x.ec w hn
 ·rcases zDP x.op with h|h|h|h|h|h|h|h
  ·exact zHv x w hn h
  ·by_cases h4:x.op=4
   ·exact zG1 x w hn h h4
   ·exact zGD x w hn h h4
  ·exact zHk x w hn h
  ·exact zHl x w hn h
  ·exact zHW x w hn h
  ·exact zHT x w hn h
  ·exact zHC x w hn h
  ·exact zHw x w hn h
theorem zDL:∀(m:Nat) (t:Il) (a:Option Addr) (len c:Nat) (w:World),t.count≤m→zD w.heap.size w a len t→len≤140737488351232→t.count≤4611686018427387900 →
  Calls Tryz.prog 210 #[.slice a len c] w fun e w'=>e=.returned (.bool t.all)∧Below w.heap.size w w':=by
 intro m
 induction m with
 | zero =>
  intro t a len c w hm hL hlen hbig
  cases t with
  | cons x l e r=>simp only[Il.count] at hm;omega
  | nil =>
   have h0:len=0:=hL.1.symm;subst h0;clear hm hL hlen hbig
   go_enter Tryz.func210,Tryz.ntmps210
   go_wp2
   go_loopw [3] (fun si wr=>si=.int .i64 0∧wr=w) (fun _ _=>0)
   case atStart=>exact⟨rfl,rfl⟩
   case round =>
    obtain⟨rfl,rfl⟩:=hrel;go_wp2;go_ret;exact⟨rfl,Below.refl _ _⟩
 | succ m ih =>
  intro t a len c w hm hL hlen hbig;obtain⟨hL1,hL2⟩:=hL
  rcases hL2 with rfl|⟨b,off,rfl,hi⟩
  ·have h0:len=0:=hL1.symm
   subst h0;clear ih hm hL1 hlen hbig
   go_enter Tryz.func210,Tryz.ntmps210
   go_wp2
   go_loopw [3] (fun si wr=>si=.int .i64 0∧wr=w) (fun _ _=>0)
   case atStart=>exact⟨rfl,rfl⟩
   case round =>
    obtain⟨rfl,rfl⟩:=hrel;go_wp2;go_ret;exact⟨rfl,Below.refl _ _⟩
  ·have HM:=hid hm
   have HB:=hid hbig;have HL1:=hid hL1;have HI:=hid hi;clear hm hbig hL1 hi
   go_enter Tryz.func210,Tryz.ntmps210
   go_wp2
   go_loopw [3] (fun si wr=>∃(k:Nat) (rest:Il),si=.int .i64 k∧k≤len∧Hid (k+rest.len=len∧rest.count≤t.count∧rest.all=t.all)∧Hid (zg w.heap.size w b (off+k*8) rest)∧Below w.heap.size w wr)
    (fun si _=>len-(intOf si).toNat)
   case atStart=>exact⟨0,t,rfl,Nat.zero_le _,⟨by have:=HL1.out;omega,Nat.le_refl _,rfl⟩,by simpa using HI,Below.refl _ _⟩
   case round =>
    obtain⟨k,rest,rfl,hk,HR,HIR,hb⟩:=hrel
    cases rest with
    | nil =>
     obtain⟨r1,_,r3⟩:=HR.out;have hkl:k=len:=by simpa[Il.len] using r1
     subst hkl;have R3:Hid (t.all=true):=by show _=_;rw[←r3];rfl
     clear r3;go_wp2;go_ret;exact⟨zA R3.out.symm,hb⟩
    | cons x tl te r =>
     have hir:=zg.below hb HIR.out;obtain⟨hbn,hx,⟨c0,c1,c2,c3,c4,c5,c6,c7⟩,_⟩:=hir;have hir0:=HIR.out;obtain⟨_,_,_,ht,hLl,hLe,hir'⟩:=hir0;have hlt:k<len:=by have:=HR.out.1;simp only[Il.len] at this;omega
     have hLn:=hx.ln;have hEn:=hx.en
     have hcnt:tl.count+te.count+1≤m+1∧tl.count≤4611686018427387900∧te.count≤4611686018427387900:=by
      have h1:=HR.out.2.1;have h2:=HM.out;have h3:=HB.out;simp only[Il.count] at h1;omega
     obtain⟨k1,k2,k3⟩:=hcnt;have N1:=fun w'=>zBN x w'
     have N2:=fun w' (hb':Below w.heap.size w w')=>ih tl x.la x.ln x.lc w' (by omega) (zD.on hLl hb') hLn k2
     have N3:=fun w' (hb':Below w.heap.size w w')=>ih te x.ea x.en x.ec w' (by omega) (zD.on hLe hb') hEn k3
     have HE:Hid (t.all=(zW x&&tl.all&&te.all&&r.all)):=by show _=_;rw[←HR.out.2.2];rfl
     have H1:=hid N1;have H2:=hid N2;have H3:=hid N3;unfold Ix.vals at H1;clear N1 N2 N3 ih k1 k2 k3 hLl hLe;obtain⟨g0,hg0⟩:∃g,zW x=g:=⟨_,rfl⟩;obtain⟨g1,hg1⟩:∃g,tl.all=g:=⟨_,rfl⟩;obtain⟨g2,hg2⟩:∃g,te.all=g:=⟨_,rfl⟩;simp only[hg0] at H1;simp only[hg1] at H2;simp only[hg2] at H3;have HE2:Hid (t.all=(g0&&g1&&g2&&r.all)):=by show _=_;rw[HE.out,hg0,hg1,hg2]
     clear hg0 hg1 hg2 HE
     go_wp2_with fail
     refine (H1.out _).mono ?_;clear H1;rintro e1 w3 ⟨rfl,hb3⟩;have hbW:=zM hb hb3;have d6:=keep (w1:=w3) hb3 c6;have d7:=keep (w1:=w3) hb3 c7
     cases g0
     ·have R:Hid (t.all=false):=by show _=_;rw[HE2.out];rfl
      clear H2 H3;go_wp2;go_ret;exact⟨zA R.out.symm,hbW⟩
     go_wp2_with fail
     refine (H2.out _ hbW).mono ?_;clear H2;rintro e1 w4 ⟨rfl,hb4⟩;have hbX:=zM hbW hb4;have e7:=keep (w1:=w4) hb4 d7
     cases g1
     ·have R:Hid (t.all=false):=by show _=_;rw[HE2.out];rfl
      clear H3;go_wp2;go_ret;exact⟨zA R.out.symm,hbX⟩
     go_wp2_with fail
     refine (H3.out _ hbX).mono ?_;clear H3;rintro e1 w5 ⟨rfl,hb5⟩;have hbY:=zM hbX hb5
     cases g2
     ·have R:Hid (t.all=false):=by show _=_;rw[HE2.out];rfl
      go_wp2;go_ret;exact⟨zA R.out.symm,hbY⟩
     go_wp2
     go_roundw
     case rel =>
      refine⟨k+1,r,by simp,by omega,⟨by have:=HR.out.1;simp only[Il.len] at this;omega,by have:=HR.out.2.1;simp only[Il.count] at this;omega,?_⟩,by rw[show off+(k+1)*8=off+k*8+8 by omega];exact hir',hbY⟩;rw[HE2.out];rfl
     case measure=>simp[intOf];omega
theorem YI (t:Il) (a:Option Addr) (len c:Nat) (w:World) (hL:zD w.heap.size w a len t) (hlen:len≤140737488351232) (hbig:t.count≤4611686018427387900) :
  Calls Tryz.prog 122 #[.slice a len c] w fun e w'=>e=.returned (.int .i64 (zJ t))∧Below w.heap.size w w':=by
 have CA:=fun w' (h:zD w'.heap.size w' a len t)=>zDL t.count t a len c w' (Nat.le_refl _) h hlen hbig
 have CN:=fun w' (h:zD w'.heap.size w' a len t)=>zBs t.count t a len c w' (Nat.le_refl _) h hlen hbig
 have CD:=fun w' (h:zD w'.heap.size w' a len t)=>zCF t.count t a len c w' (Nat.le_refl _) h hlen hbig
 have CT:=fun w' (h:zD w'.heap.size w' a len t)=>zB5 t.count t a len c w' (Nat.le_refl _) h hlen hbig
 unfold zJ;obtain⟨ga,hga⟩:∃g,t.all=g:=⟨_,rfl⟩;simp only[hga] at CA ⊢
 cases ga
 ·have C1:=hid CA
  clear CA CN CD CT hga hbig hlen;rw[if_neg (by decide)]
  go_enter Tryz.func122,Tryz.ntmps122
  go_wp2_with fail
  refine (C1.out _ hL).mono ?_;rintro e w1 ⟨rfl,hb1⟩;go_wp2;go_ret;exact⟨rfl,hb1⟩
 rw[if_pos rfl];obtain⟨n,hn⟩:∃n:Int,(t.count:Int)=n:=⟨_,rfl⟩;obtain⟨d,hd⟩:∃d:Int,(t.deep:Int)=d:=⟨_,rfl⟩;obtain⟨g,hgt⟩:∃g,t.tags=g:=⟨_,rfl⟩;simp only[hn] at CN;simp only[hd] at CD;simp only[hgt] at CT
 have hR:(if 262144<t.count∨900<t.deep∨t.tags=true then (141:Int) else 0)=if 262144<n∨900<d∨g=true then 141 else 0:=by
  rw[hgt,←hn,←hd]
  congr 1
  simp only[eq_iff_iff]
  constructor<;>(rintro (h|h|h))<;>first|exact .inl (by omega)|exact .inr (.inl (by omega))|exact .inr (.inr h)
 rw[hR];clear hR hn hd hgt hga hbig hlen;have C1:=hid CA;have C2:=hid CN;have C3:=hid CD;have C4:=hid CT;clear CA CN CD CT
 by_cases h1:262144<n
 ·rw[if_pos (.inl h1)]
  go_enter Tryz.func122,Tryz.ntmps122
  go_wp2_with fail
  refine (C1.out _ hL).mono ?_;rintro e w1 ⟨rfl,hb1⟩
  go_wp2_with fail
  refine (C2.out _ (hL.on hb1)).mono ?_;rintro e w2 ⟨rfl,hb2⟩;go_wp2;go_ret;exact⟨rfl,zM hb1 hb2⟩
 ·have h1':n≤262144:=by omega
  by_cases h2:900<d
  ·rw[if_pos (.inr (.inl h2))]
   go_enter Tryz.func122,Tryz.ntmps122
   go_wp2_with fail
   refine (C1.out _ hL).mono ?_;rintro e w1 ⟨rfl,hb1⟩
   go_wp2_with fail
   refine (C2.out _ (hL.on hb1)).mono ?_;rintro e w2 ⟨rfl,hb2⟩
   go_wp2_with fail
   refine (C3.out _ ((hL.on hb1).on hb2)).mono ?_;rintro e w3 ⟨rfl,hb3⟩;go_wp2;go_ret;exact⟨rfl,zM (zM hb1 hb2) hb3⟩
  ·have h2':d≤900:=by omega
   have hR:(if 262144<n∨900<d∨g=true then (141:Int) else 0)=if g then 141 else 0:=by simp[h1,h2]
   rw[hR];clear hR
   cases g
   all_goals
    go_enter Tryz.func122,Tryz.ntmps122
    go_wp2_with fail
    refine (C1.out _ hL).mono ?_;rintro e w1 ⟨rfl,hb1⟩
    go_wp2_with fail
    refine (C2.out _ (hL.on hb1)).mono ?_;rintro e w2 ⟨rfl,hb2⟩
    go_wp2_with fail
    refine (C3.out _ ((hL.on hb1).on hb2)).mono ?_;rintro e w3 ⟨rfl,hb3⟩
    go_wp2_with fail
    refine (C4.out _ (((hL.on hb1).on hb2).on hb3)).mono ?_;rintro e w4 ⟨rfl,hb4⟩;go_wp2;go_ret;exact⟨rfl,zM (zM (zM hb1 hb2) hb3) hb4⟩
end Body
namespace Val
open Go.RowKit Instr Mod
open Stk (Fr R ji vP qM yu yl yW vT valid zl)
def F1:List Fr:=[⟨0,0,0,true⟩]
structure Dd (b:Int) (s:St):Prop where
 er:s.er=0
 l:s.l=F1
 h0:0≤s.h
 h1:s.h≤b
theorem Dd.mono {b c:Int} {s:St} (h:Dd b s) (hbc:b≤c):Dd c s:=⟨h.er,h.l,h.h0,by have:=h.h1;omega⟩
def Good (op:Int) (s:St):Prop:=Dd 50 s∨(s.er≠0∧s.at_=2∧(s.er=6∨s.er=212∨s.er=211∨(s.er=200∧(op=2∨op=3∨op=4))))
end Val
end Go.Proofs.YtdljneclfgneoaaGreatDoor
