import Derived.Test.YtdljneclfgneoaaGreatDoorRows
import Derived.Test.YtdljneclfgneoaaGreatDoorProg
import Derived.JoinedOf
import Derived.KernelRfl
import Derived.WalkKit
import Derived.WalkSpells
import Derived.WalkLawsBesides
import Derived.Laws.BitsAllLaws
import Derived.Outline
import Derived.Lib.ItoaNum
import Derived.Laws.BytesArg
import Derived.Lib.ConvBytes
import Derived.Lib.AppendStr
import Derived.BigQuiet
import Derived.Deep.RegionHeld3
import Derived.RangeFuncNested
import Derived.RangeFuncBound
import Derived.RangeFuncCalls
import Derived.RangeFuncLeaves
import Derived.ProofKit
import Derived.OpenShut
import Derived.ShutString
import Derived.ChangeOld
import Derived.Below
import Derived.SizedLaws
import Derived.Lib.LaidU8
import Derived.Lay
import Derived.ChangeArms
import Derived.Lib.TrimUEq
import Derived.Lib.MapLaws
import Derived.Shelf.Small.Bits
import Derived.Shelf.Unicode.DecodeSlow
import Derived.Shelf.Unicode.DecodeAny
set_option linter.unusedVariables false
set_option linter.ambiguousOpen false
set_option maxRecDepth 100000
set_option maxHeartbeats 8000000
namespace Go.Proofs.YtdljneclfgneoaaGreatDoor
namespace Leb
end Leb
namespace Instr
end Instr
namespace validTells
theorem zJs:(Rows.validTellsRow.inPlace==Tryz.pinned.checked.prog.inPlace 11)=true:=by kernel_rfl
theorem zJw:(Rows.validTellsRow.unfollowed==Tryz.pinned.checked.prog.unfollowed 11)=true:=by kernel_rfl
theorem zJt:(Rows.validTellsRow.recurses==Tryz.pinned.checked.prog.recurses 11)=true:=by kernel_rfl
theorem zJv:(Rows.validTellsRow.named==Tryz.pinned.checked.prog.varsNamed 11)=true:=by kernel_rfl
end validTells
section
open Go.RowKit
theorem hid {p:Prop} (h:p):Hid p:=h
theorem zH {k:IntKind} {a b:Int} (h:a=b):Ending.returned (.int k a)=.returned (.int k b):=by rw[h]
theorem zA {a b:Bool} (h:a=b):Ending.returned (.bool a)=.returned (.bool b):=by rw[h]
def Own (base:Nat) (w:World) (v:Value) (zs:List Int):Prop:=w.ownsRow base 5 1 v zs.length (zs.map (Value.int .u8))
theorem Own.slice {base:Nat} {w:World} {v:Value} {zs:List Int} (h:Own base w v zs):∃a c,v=.slice a zs.length c:=by
 rcases h.2 with ⟨rfl,h0⟩|⟨g,cap,cur,rfl,_⟩
 ·exact⟨none,0,by rw[h0]⟩
 ·exact⟨_,cap,rfl⟩
theorem getD_lt {zs:List Int} {i:Nat} (h:i<zs.length):zs.getD i 0=zs[i]:=by simp[h]
theorem drop_at {zs:List Int} {i:Nat} (h:i<zs.length):zs.drop i=zs.getD i 0::zs.drop (i+1):=by rw[List.drop_eq_getElem_cons h,getD_lt h]
structure Bytes (w:World) (a:Option Addr) (zs:List Int):Prop where
 byte:∀z∈zs,0≤z∧z<256
 size:zs.length≤140737488351232
 at_:zs=[]∨∃b off,a=some ⟨b,off,none⟩∧∀i,i<zs.length→w.cell? ⟨b,off+i,none⟩=some (.int .u8 (zs.getD i 0))
theorem Bytes.get {w:World} {a:Option Addr} {zs:List Int} (h:Bytes w a zs) {i:Nat} (hi:i<zs.length):0≤zs.getD i 0∧zs.getD i 0<256:=by
 rw[getD_lt hi];exact h.byte _ (List.getElem_mem hi)
theorem Bytes.at {w:World} {a:Option Addr} {zs:List Int} (h:Bytes w a zs) (hi:0<zs.length):∃b off,a=some ⟨b,off,none⟩∧∀i,i<zs.length→w.cell? ⟨b,off+i,none⟩=some (.int .u8 (zs.getD i 0)):=by
 rcases h.at_ with h|h
 ·rw[h] at hi;simp at hi
 ·exact h
theorem Bytes.below {w w':World} {a:Option Addr} {zs:List Int} (h:Bytes w a zs) (hb:Below w.heap.size w w'):Bytes w' a zs:=by
 refine⟨h.byte,h.size,?_⟩
 rcases h.at_ with h0|⟨b,off,rfl,hc⟩
 ·exact .inl h0
 ·exact .inr ⟨b,off,rfl,fun i hi=>(hb.cell (World.block_lt_of_cell? w _ (hc i hi))).trans (hc i hi)⟩
def zIF (w:World) (zs:List Int) (e:Ending) (w':World):Prop:=∃v,e=.returned v∧Own w.heap.size w' v zs∧Below w.heap.size w w'
end
namespace Instr
open Go.RowKit
structure Ix where
 op:Int
 res:Int
 a:Int
 b:Int
 n:Int
 tags:List Int
 ta:Option Addr
 tc:Nat
 la:Option Addr
 ln:Nat
 lc:Nat
 ea:Option Addr
 en:Nat
 ec:Nat
inductive Il where
 | nil
 | cons (x:Ix) (l e r:Il)
def Il.len:Il→Nat
 | .nil=>0
 | .cons _ _ _ r=>r.len+1
def Il.count:Il→Nat
 | .nil=>0
 | .cons _ l e r=>l.count+e.count+r.count+1
def Il.deep:Il→Nat
 | .nil=>0
 | .cons _ l e r=>max (max l.deep e.deep+1) r.deep
def uF:List (List Int):=[[117,110,114,101,97,99,104,97,98,108,101],[110,111,112],[98,108,111,99,107],[108,111,111,112],[105,102],[],[],[],[],[],[],[],[98,114],[98,114,95,105,102],[98,114,95,116,97,98,108,101],[114,101,116,117,114,110],[99,97,108,108],[99,97,108,108,95,105,110,100,105,114,101,99,116],[],[],[],[],[],[],[],[],[100,114,111,112],[115,101,108,101,99,116],[],[],[],[],[108,111,99,97,108,46,103,101,116],[108,111,99,97,108,46,115,101,116],[108,111,99,97,108,46,116,101,101],[103,108,111,98,97,108,46,103,101,116],[103,108,111,98,97,108,46,115,101,116],[],[],[],[105,51,50,46,108,111,97,100],[],[],[],[105,51,50,46,108,111,97,100,56,95,115],[105,51,50,46,108,111,97,100,56,95,117],[105,51,50,46,108,111,97,100,49,54,95,115],[105,51,50,46,108,111,97,100,49,54,95,117],[],[],[],[],[],[],[105,51,50,46,115,116,111,114,101],[],[],[],[105,51,50,46,115,116,111,114,101,56],[105,51,50,46,115,116,111,114,101,49,54],[],[],[],[109,101,109,111,114,121,46,115,105,122,101],[109,101,109,111,114,121,46,103,114,111,119],[105,51,50,46,99,111,110,115,116],[],[],[],[105,51,50,46,101,113,122],[105,51,50,46,101,113],[105,51,50,46,110,101],[105,51,50,46,108,116,95,115],[105,51,50,46,108,116,95,117],[105,51,50,46,103,116,95,115],[105,51,50,46,103,116,95,117],[105,51,50,46,108,101,95,115],[105,51,50,46,108,101,95,117],[105,51,50,46,103,101,95,115],[105,51,50,46,103,101,95,117],[],[],[],[],[],[],[],[],[],[],[],[],[],[],[],[],[],[],[],[],[],[],[],[105,51,50,46,99,108,122],[105,51,50,46,99,116,122],[105,51,50,46,112,111,112,99,110,116],[105,51,50,46,97,100,100],[105,51,50,46,115,117,98],[105,51,50,46,109,117,108],[105,51,50,46,100,105,118,95,115],[105,51,50,46,100,105,118,95,117],[105,51,50,46,114,101,109,95,115],[105,51,50,46,114,101,109,95,117],[105,51,50,46,97,110,100],[105,51,50,46,111,114],[105,51,50,46,120,111,114],[105,51,50,46,115,104,108],[105,51,50,46,115,104,114,95,115],[105,51,50,46,115,104,114,95,117],[105,51,50,46,114,111,116,108],[105,51,50,46,114,111,116,114]]
def zc (op:Int):List Int:=if 0≤op∧op<121 then uF.getD op.toNat [] else []
def uD (op:Int):Int :=
 if op=40∨op=54∨op=46∨op=47∨op=59∨op=44∨op=45∨op=58 then 6
 else if op=2∨op=3 then 33 else if op=4 then 97
 else if op=12∨op=13∨op=16∨op=17∨op=32∨op=33∨op=34∨op=35∨op=36 then 2
 else if op=14 then 18 else if op=65 then 8 else 0
def bit (b:Bool) (k:Int):Int:=if b then k else 0
def ZJ (x:Ix):Int :=
 bit (x.res != 0) 1+bit (x.a != 0) 2+bit (x.b != 0) 4+bit (x.n != 0) 8+bit (decide (0<x.tags.length)) 16+bit (decide (0<x.ln)) 32+bit (decide (0<x.en)) 64
def zCI (x:Ix):Int:=bits .andNot .u8 (ZJ x) (uD x.op)
def zW (x:Ix):Bool:=decide (zc x.op≠[])&&decide (zCI x=0)&&(decide (x.res=0)||decide (x.res=1))
def Il.all:Il→Bool
 | .nil=>true
 | .cons x l e r=>zW x&&l.all&&e.all&&r.all
def Il.tags:Il→Bool
 | .nil=>false
 | .cons x l e r=>decide (16384<x.tags.length)||l.tags||e.tags||r.tags
def zJ (t:Il):Int:=if t.all then (if 262144<t.count∨900<t.deep∨t.tags=true then 141 else 0) else 2
def Il.walk:Il→Int→List (Int×Ix)
 | .nil,_=>[]
 | .cons x l e r,d=>(d,x)::(l.walk (d+1)++(e.walk (d+1)++r.walk d))
theorem jj:∀(t:Il) (d:Int),(t.walk d).length=t.count
 | .nil,_=>rfl
 | .cons x l e r,d=>by simp[Il.walk,Il.count,jj l,jj e,jj r];omega
theorem Z9:∀(t:Il) (d:Int),((t.walk d).all fun p=>zW p.2)=t.all
 | .nil,_=>rfl
 | .cons x l e r,d=>by simp[Il.walk,Il.all,Z9 l,Z9 e,Z9 r,Bool.and_assoc]
theorem ZV:∀(t:Il) (d:Int),((t.walk d).any fun p=>decide (16384<p.2.tags.length))=t.tags
 | .nil,_=>rfl
 | .cons x l e r,d=>by simp[Il.walk,Il.tags,ZV l,ZV e,ZV r,Bool.or_assoc]
def vM (l:List (Int×Ix)):Int:=l.foldl (fun m p=>max m p.1) 0
theorem ZL:∀(t:Il) (d m:Int),1≤d→0≤m→(t.walk d).foldl (fun m p=>max m p.1) m=max m (if t.deep=0 then 0 else d-1+t.deep)
 | .nil,d,m,_,hm=>by simp[Il.walk,Il.deep];omega
 | .cons x l e r,d,m,h,hm=>by
  simp only[Il.walk,List.foldl_cons,List.foldl_append,Il.deep];rw[ZL l _ _ (by omega) (by omega),ZL e _ _ (by omega) (by omega),ZL r _ _ h (by omega)]
  (repeat' split)<;>omega
theorem zBv (t:Il):vM (t.walk 1)=t.deep:=by
 unfold vM;rw[ZL t 1 0 (by omega) (by omega)]
 split<;>omega
theorem zBR (l:List (Int×Ix)) (p:Int×Ix):vM (l++[p])=max (vM l) p.1:=by simp[vM,List.foldl_append]
theorem jY:∀t:Il,t.deep≤t.count
 | .nil=>Nat.le_refl _
 | .cons x l e r=>by have:=jY l;have:=jY e;have:=jY r;simp only[Il.deep,Il.count];omega
theorem uU:∀t:Il,t.len≤t.count
 | .nil=>Nat.le_refl _
 | .cons x l e r=>by have:=uU r;simp only[Il.len,Il.count];omega
end Instr
namespace Kind
open Leb
def jJ (p r:Int):Bool:=decide (0≤p)&&decide (p≤255)&&decide (0≤r)&&decide (r≤1)
def qG (n x:Int) (c:Bool) (most:Int):Bool:=decide (n≤most)&&(if c then decide (n≤x)&&decide (x≤most) else decide (x=0))
abbrev Rd:=Int×Int×Int
def Good (zs:List Int) (s:Rd):Prop:=s.2.1=0→0≤s.1∧s.1≤zs.length∧s.2.2=0
end Kind
namespace Utf
def Zl (n:Int):Prop:=0≤n∧n≤1114111∧(n<55296∨57343<n)
instance (n:Int):Decidable (Zl n):=by unfold Zl;infer_instance
def yt (n:Int):List Int :=
 if n<128 then [n] else if n<2048 then [192+n / 64,128+n % 64] else if n<65536 then [224+n / 4096,128+n / 64 % 64,128+n % 64]
 else [240+n / 262144,128+n / 4096 % 64,128+n / 64 % 64,128+n % 64]
def yx (c:Int):Option (Int×Nat) :=
 if c<128 then some (c,0) else if 192≤c∧c<224 then some (c-192,1) else if 224≤c∧c<240 then some (c-224,2) else if 240≤c∧c<248 then some (c-240,3) else none
def yB:Nat→Int→List Int→Option Int
 | 0,n,_=>some n
 | _+1,_,[]=>none
 | m+1,n,c::t=>if 128≤c∧c<192 then yB m (64*n+(c-128)) t else none
def atL:List Int→Option (Int×Nat)
 | []=>none
 | c::t=>match yx c with
  | none=>none
  | some (n0,more)=>match yB more n0 t with
   | none=>none
   | some n=>if Zl n∧(yt n).length=more+1 then some (n,more+1) else none
theorem zCi (n:Int):1≤(yt n).length∧(yt n).length≤4:=by
 unfold yt
 repeat' split
 all_goals simp
theorem vh {l:List Int} {n:Int} {k:Nat} (h:atL l=some (n,k)):Zl n∧l.take k=yt n∧k=(yt n).length∧1≤k∧k≤4∧k≤l.length:=by
 cases l with
 | nil=>simp[atL] at h
 | cons c t =>
  simp only[atL,yx] at h
  by_cases h1:c<128
  ·simp only[if_pos h1,yB] at h
   split at h
   ·rename_i hr
    simp only[Option.some.injEq,Prod.mk.injEq] at h;obtain⟨rfl,rfl⟩:=h;refine⟨hr.1,?_,hr.2.symm,by omega,by omega,by simp⟩;simp[yt,h1]
   ·cases h
  rw[if_neg h1] at h
  by_cases h2:192≤c∧c<224
  ·simp only[if_pos h2] at h
   match t,h with
   | [],h=>simp[yB] at h
   | c1::t,h =>
    simp only[yB] at h
    by_cases k1:128≤c1∧c1<192
    ·simp only[if_pos k1] at h
     split at h
     ·rename_i hr
      simp only[Option.some.injEq,Prod.mk.injEq] at h;obtain⟨rfl,rfl⟩:=h;refine⟨hr.1,?_,hr.2.symm,by omega,by omega,by simp⟩;have hl:=hr.2;unfold yt at hl ⊢
      split at hl
      ·simp at hl
      ·split at hl
       ·rename_i a b
        rw[if_neg a,if_pos b];simp only[List.take_succ_cons,List.take_zero,List.cons.injEq,and_true];omega
       ·split at hl<;>simp at hl
     ·cases h
    ·simp[if_neg k1] at h
  rw[if_neg h2] at h
  by_cases h3:224≤c∧c<240
  ·simp only[if_pos h3] at h
   match t,h with
   | [],h=>simp[yB] at h
   | [c1],h=>simp[yB] at h
   | c1::c2::t,h =>
    simp only[yB] at h
    by_cases k1:128≤c1∧c1<192
    ·simp only[if_pos k1] at h
     by_cases k2:128≤c2∧c2<192
     ·simp only[if_pos k2] at h
      split at h
      ·rename_i hr
       simp only[Option.some.injEq,Prod.mk.injEq] at h;obtain⟨rfl,rfl⟩:=h;refine⟨hr.1,?_,hr.2.symm,by omega,by omega,by simp⟩;have hl:=hr.2;unfold yt at hl ⊢
       split at hl
       ·simp at hl
       ·split at hl
        ·simp at hl
        ·split at hl
         ·rename_i a b d
          rw[if_neg a,if_neg b,if_pos d];simp only[List.take_succ_cons,List.take_zero,List.cons.injEq,and_true];omega
         ·simp at hl
      ·cases h
     ·simp[if_neg k2] at h
    ·simp[if_neg k1] at h
  rw[if_neg h3] at h
  by_cases h4:240≤c∧c<248
  ·simp only[if_pos h4] at h
   match t,h with
   | [],h=>simp[yB] at h
   | [c1],h=>simp[yB] at h
   | [c1,c2],h=>simp[yB] at h
   | c1::c2::c3::t,h =>
    simp only[yB] at h
    by_cases k1:128≤c1∧c1<192
    ·simp only[if_pos k1] at h
     by_cases k2:128≤c2∧c2<192
     ·simp only[if_pos k2] at h
      by_cases k3:128≤c3∧c3<192
      ·simp only[if_pos k3] at h
       split at h
       ·rename_i hr
        simp only[Option.some.injEq,Prod.mk.injEq] at h;obtain⟨rfl,rfl⟩:=h;refine⟨hr.1,?_,hr.2.symm,by omega,by omega,by simp⟩;have hl:=hr.2;unfold yt at hl ⊢
        split at hl
        ·simp at hl
        ·split at hl
         ·simp at hl
         ·split at hl
          ·simp at hl
          ·rename_i a b d
           rw[if_neg a,if_neg b,if_neg d];simp only[List.take_succ_cons,List.take_zero,List.cons.injEq,and_true];omega
       ·cases h
      ·simp[if_neg k3] at h
     ·simp[if_neg k2] at h
    ·simp[if_neg k1] at h
  ·simp[if_neg h4] at h
theorem zHu {n:Int} (h:Zl n) (rest:List Int):atL (yt n++rest)=some (n,(yt n).length):=by
 have hr:=h;obtain⟨h0,h1,h2⟩:=h
 by_cases a:n<128
 ·have e:yt n=[n]:=by simp[yt,a]
  simp[atL,yx,yB,e,a,hr]
 by_cases b:n<2048
 ·have e:yt n=[192+n / 64,128+n % 64]:=by simp[yt,a,b]
  have c1:¬(192+n / 64<128):=by omega
  have c2:192≤192+n / 64∧192+n / 64<224:=by omega
  have c3:128≤128+n % 64∧128+n % 64<192:=by omega
  have c4:64*(192+n / 64-192)+(128+n % 64-128)=n:=by omega
  rw[e];simp only[List.cons_append,List.nil_append,atL,yx,if_neg c1,if_pos c2,yB,if_pos c3,c4,e];simp[hr]
 by_cases d:n<65536
 ·have e:yt n=[224+n / 4096,128+n / 64 % 64,128+n % 64]:=by simp[yt,a,b,d]
  have c1:¬(224+n / 4096<128):=by omega
  have c2:¬(192≤224+n / 4096∧224+n / 4096<224):=by omega
  have c3:224≤224+n / 4096∧224+n / 4096<240:=by omega
  have c4:128≤128+n / 64 % 64∧128+n / 64 % 64<192:=by omega
  have c5:128≤128+n % 64∧128+n % 64<192:=by omega
  have c6:64*(64*(224+n / 4096-224)+(128+n / 64 % 64-128))+(128+n % 64-128)=n:=by omega
  rw[e];simp only[List.cons_append,List.nil_append,atL,yx,if_neg c1,if_neg c2,if_pos c3,yB,if_pos c4,if_pos c5,c6,e];simp[hr]
 ·have e:yt n=[240+n / 262144,128+n / 4096 % 64,128+n / 64 % 64,128+n % 64]:=by simp[yt,a,b,d]
  have c1:¬(240+n / 262144<128):=by omega
  have c2:¬(192≤240+n / 262144∧240+n / 262144<224):=by omega
  have c3:¬(224≤240+n / 262144∧240+n / 262144<240):=by omega
  have c4:240≤240+n / 262144∧240+n / 262144<248:=by omega
  have c5:128≤128+n / 4096 % 64∧128+n / 4096 % 64<192:=by omega
  have c6:128≤128+n / 64 % 64∧128+n / 64 % 64<192:=by omega
  have c7:128≤128+n % 64∧128+n % 64<192:=by omega
  have c8:64*(64*(64*(240+n / 262144-240)+(128+n / 4096 % 64-128))+(128+n / 64 % 64-128))+(128+n % 64-128)=n:=by omega
  rw[e];simp only[List.cons_append,List.nil_append,atL,yx,if_neg c1,if_neg c2,if_neg c3,if_pos c4,yB,if_pos c5,if_pos c6,if_pos c7,c8,e];simp[hr]
def vX:Nat→List Int→List Int×Nat
 | 0,_=>([],0)
 | f+1,l=>match atL l with
  | none=>([],0)
  | some (n,k)=>(n::(vX f (l.drop k)).1,k+(vX f (l.drop k)).2)
def scan (l:List Int):List Int×Nat:=vX l.length l
theorem JI:∀(f g:Nat) (l:List Int),l.length≤f→l.length≤g→vX f l=vX g l
 | 0,0,_,_,_=>rfl
 | 0,g+1,l,hf,_=>by
  have:l=[]:=List.eq_nil_of_length_eq_zero (by omega);subst this;simp[vX,atL]
 | f+1,0,l,_,hg=>by
  have:l=[]:=List.eq_nil_of_length_eq_zero (by omega);subst this;simp[vX,atL]
 | f+1,g+1,l,hf,hg=>by
  simp only[vX]
  cases h:atL l with
  | none=>rfl
  | some p =>
   obtain⟨n,k⟩:=p;obtain⟨_,_,_,hk,_,hl⟩:=vh h;simp only;rw[JI f g (l.drop k) (by simp;omega) (by simp;omega)]
theorem Yb {l:List Int} (h:atL l=none):scan l=([],0):=by
 unfold scan
 cases l with
 | nil=>rfl
 | cons c t=>simp[vX,h]
theorem zAg {l:List Int} {n:Int} {k:Nat} (h:atL l=some (n,k)):scan l=(n::(scan (l.drop k)).1,k+(scan (l.drop k)).2):=by
 obtain⟨_,_,_,hk,_,hl⟩:=vh h;unfold scan;obtain⟨m,hm⟩:∃m,l.length=m+1:=⟨l.length-1,by omega⟩;rw[hm];simp only[vX,h];rw[JI m (l.drop k).length (l.drop k) (by simp;omega) (Nat.le_refl _)]
theorem zAD:scan []=([],0):=rfl
def jK (l:List Int):Int:=if (scan l).2=l.length then -1 else (scan l).2
theorem zFc {l:List Int} (h:(scan l).2=l.length):jK l=-1:=if_pos h
theorem zE0 {l:List Int} (h:(scan l).2≠l.length):jK l=(scan l).2:=if_neg h
end Utf
section
open Go.RowKit
theorem kP {W w1:World} {p:Addr} {v:Value} (hb:Below W.heap.size W w1) (h:W.cell? p=some v):w1.cell? p=some v:=(hb.cell (World.block_lt_of_cell? W _ h)).trans h
theorem keep {W w1:World} {p:Addr} {v:Value} (hb:Below W.heap.size W w1) (h:W.cell? p=some v):w1.cell? p=some v:=(hb.cell (World.block_lt_of_cell? W _ h)).trans h
theorem Bytes.alloc {w:World} {a:Option Addr} {zs:List Int} (h:Bytes w a zs) (o:Obj):Bytes (w.alloc o) a zs:=h.below ((Below.refl _ _).alloc (Nat.le_refl _) o)
theorem zM {w w1 w2:World} (h1:Below w.heap.size w w1) (h2:Below w1.heap.size w1 w2):Below w.heap.size w w2:=h1.trans (h2.mono h1.size)
theorem zC {w w1:World} (h1:Below w.heap.size w w1) (o:Obj):Below w.heap.size w (w1.alloc o):=h1.alloc h1.size o
theorem Own.bytes {base:Nat} {w:World} {a:Option Addr} {n cap:Nat} {zs:List Int} (h:Own base w (.slice a n cap) zs) (hz:∀z∈zs,0≤z∧z<256) (hn:zs.length≤140737488351232):Bytes w a zs:=by
 refine⟨hz,hn,?_⟩
 rcases h.2 with ⟨_,h0⟩|⟨g,cap',cur,hv,_,hh,_,_,_,ht⟩
 ·exact .inl (List.eq_nil_of_length_eq_zero h0)
 ·simp only[Value.slice.injEq] at hv
  obtain⟨rfl,_,_⟩:=hv;refine .inr ⟨g,0,rfl,fun i hi=>?_⟩;have hj:(zs.map (Value.int .u8))[i]?=some (.int .u8 (zs.getD i 0)):=by rw[getD_lt hi];simp[hi]
  have:=World.ownsRow.cells (show w.ownsRow base 5 1 (.slice (some ⟨g,0,none⟩) n cap) zs.length (zs.map (Value.int .u8)) from h) (g:=g) rfl i _ hj;have hplain:(⟨g,0,none⟩:Addr).add i=⟨g,0+i,none⟩:=by unfold Addr.add;split<;>simp_all
  rw[hplain] at this;exact this
theorem Own.nil {base:Nat} {w:World} {a:Option Addr} {n c:Nat} {zs:List Int} (h:Own base w (.slice a n c) zs):Hid (a=none→c=0):=by
 refine hid fun ha=>?_
 subst ha
 rcases h.2 with ⟨h',_⟩|⟨g,cap,cur,h',_⟩
 ·simp at h';exact h'.2
 ·simp at h'
theorem Own.mono {base base':Nat} {w:World} {v:Value} {zs:List Int} (h:Own base w v zs) (hb:base'≤base):Own base' w v zs:=by
 refine⟨h.1,?_⟩
 rcases h.2 with h0|⟨g,cap,cur,hv,hg,rest⟩
 ·exact .inl h0
 ·exact .inr ⟨g,cap,cur,hv,Nat.le_trans hb hg,rest⟩
theorem Own.setCell {base:Nat} {w:World} {v:Value} {zs:List Int} (h:Own base w v zs) {p:Addr} (hp:p.block<base) (u:Value):Own base (w.setCell p u) v zs:=by
 refine⟨h.1,?_⟩
 rcases h.2 with h0|⟨g,cap,cur,hv,hg,hh,rest⟩
 ·exact .inl h0
 ·exact .inr ⟨g,cap,cur,hv,hg,(Below.heap_setCell w p u g (by omega)).trans hh,rest⟩
theorem zDN {w:World} {a:Option Addr} {zs:List Int} (hz:Bytes w a zs) (len cap:Nat) (hlen:zs.length=len) :
  (convert 28 9 (.slice a len cap)).run Tryz.prog w=.ok (.string (strOfNums zs)) w:=by
 rcases hz.at_ with h|⟨b,off,rfl,hc⟩
 ·subst h
  subst hlen;rw[run_convert_bytes_string w 28 9 5 _ _ cap Tryz.underlying28 Tryz.underlying5 Tryz.underlying9]
  cases a<;>simp[Conv.bytesToString,loadCells]
  all_goals rfl
 ·exact run_convert_bytes_arg w 28 5 Tryz.underlying28 Tryz.underlying5 b off len cap zs hlen (fun i hi=>hc i (by omega)) 9 Tryz.underlying9
def numsOf (s:ByteArray):List Int:=s.data.toList.map fun b=>(b.toNat:Int)
theorem numsOf_length (s:ByteArray):(numsOf s).length=s.size:=by rw[numsOf,List.length_map,Array.length_toList];rfl
theorem YV (s:ByteArray):∀z∈numsOf s,0≤z∧z<256:=by
 intro z hz;obtain⟨b,_,rfl⟩:=List.mem_map.1 hz;have:=b.toNat_lt;omega
theorem Jf (s:ByteArray):strOfNums (numsOf s)=s:=by
 apply ByteArray.ext
 apply Array.toList_inj.1
 rw[strOfNums_data,numsOf,List.map_map];refine (List.map_congr_left (g:=id) fun b _=>?_).trans (List.map_id _);simp
theorem zCN (zs:List Int) (hz:∀z∈zs,0≤z∧z<256) (hl:zs.length≤140737488351232) (w:World) :
  ∃b c w',(convert 9 28 (.string (strOfNums zs))).run Tryz.prog w=.ok (.slice (some ⟨b,0,none⟩) zs.length c) w'∧Bytes w' (some ⟨b,0,none⟩) zs∧Below w.heap.size w w':=by
 refine⟨w.heap.size,grownCap w (strOfNums zs).size 0 5,Lib.bytesWorld w 5 (strOfNums zs),?_,⟨hz,hl,.inr ⟨w.heap.size,0,rfl,fun i hi=>?_⟩⟩,?_⟩
 ·rw[Lib.run_convert_string_bytes w 9 28 5 (strOfNums zs) Tryz.underlying9 Tryz.underlying28 Tryz.underlying5,strOfNums_size]
 ·rw[Nat.zero_add,Lib.bytesWorld_cell w 5 (strOfNums zs) i (by rw[strOfNums_size];exact hi)]
  rw[strOfNums_data,getD_lt hi];have:=hz _ (List.getElem_mem hi);simp[hi];omega
 ·exact⟨rfl,rfl,rfl,by rw[Lib.bytesWorld_size];omega,fun k hk=>Lib.bytesWorld_at_old w _ _ k hk⟩
section
variable {ops:Array Oper} {rest:List Oper} {o:Oper} {act:Act} {Q:Exit→Act→World→Prop}
end
end
namespace Mod
open Go.RowKit Instr
structure Lst where
 a:Option Addr
 c:Nat
 t:Il
structure Imp where
 mo:ByteArray
 na:ByteArray
 ty:Int
structure Fn where
 ty:Int
 lo:Int
 l:Lst
structure Li where
 n:Int
 x:Int
 c:Bool
structure Gl where
 mu:Bool
 l:Lst
structure Ex where
 na:ByteArray
 k:Int
 i:Int
structure El where
 l:Lst
 fa:Option Addr
 fc:Nat
 fs:List Int
structure Da where
 l:Lst
 ba:Option Addr
 bc:Nat
 bs:List Int
structure Sl where
 a:Option Addr
 c:Nat
structure Md where
 ty:List (Int×Int)
 im:List Imp
 fu:List Fn
 tb:List Li
 me:List Li
 gl:List Gl
 ex:List Ex
 st:Bool
 sn:Int
 el:List El
 da:List Da
 ty':Sl
 im':Sl
 fu':Sl
 tb':Sl
 me':Sl
 gl':Sl
 ex':Sl
 el':Sl
 da':Sl
def Lst.val (l:Lst):Value:=.slice l.a l.t.len l.c
def tyV (x:Int×Int):List Value:=[.int .i64 x.1,.int .i64 x.2]
def Imp.v (x:Imp):List Value:=[.string x.mo,.string x.na,.int .i64 x.ty]
def Fn.v (x:Fn):List Value:=[.int .i64 x.ty,.int .i64 x.lo,x.l.val]
def Li.v (x:Li):List Value:=[.int .u32 x.n,.int .u32 x.x,.bool x.c]
def Gl.v (x:Gl):List Value:=[.bool x.mu,x.l.val]
def Ex.v (x:Ex):List Value:=[.string x.na,.int .i64 x.k,.int .u32 x.i]
def El.v (x:El):List Value:=[x.l.val,.slice x.fa x.fs.length x.fc]
def Da.v (x:Da):List Value:=[x.l.val,.slice x.ba x.bs.length x.bc]
def Md.v (m:Md):Array Value:=#[.slice m.ty'.a m.ty.length m.ty'.c,.slice m.im'.a m.im.length m.im'.c,.slice m.fu'.a m.fu.length m.fu'.c,.slice m.tb'.a m.tb.length m.tb'.c,.slice m.me'.a m.me.length m.me'.c,
  .slice m.gl'.a m.gl.length m.gl'.c,.slice m.ex'.a m.ex.length m.ex'.c,.bool m.st,.int .u32 m.sn,.slice m.el'.a m.el.length m.el'.c,.slice m.da'.a m.da.length m.da'.c]
def Md.codes (m:Md):List Lst:=m.fu.map (·.l)++(m.gl.map (·.l)++(m.el.map (·.l)++m.da.map (·.l)))
def zu:List Lst→Int
 | []=>0
 | l::r=>if zJ l.t=141 then 141 else if zu r=141 then 141 else if zJ l.t=0 then zu r else 2
theorem kK (t:Il):zJ t=0∨zJ t=141∨zJ t=2:=by
 unfold zJ;split
 ·split<;>simp
 ·simp
theorem jk (l:Lst) (r:List Lst):zu (l::r)=if zJ l.t=141 then 141 else if zu r=141 then 141 else if zJ l.t=0 then zu r else 2:=rfl
theorem qx:∀l:List Lst,zu l=0∨zu l=141∨zu l=2
 | []=>.inl rfl
 | l::r=>by
  rw[jk];have:=qx r
  split
  ·simp
  ·split
   ·simp
   ·split
    ·exact this
    ·simp
def qQ:List Lst→Int→Int
 | [],x=>x
 | l::r,x=>qQ r (if zJ l.t=0 then x else zJ l.t)
theorem Zf:∀(l r:List Lst) (x:Int),qQ (l++r) x=qQ r (qQ l x)
 | [],_,_=>rfl
 | a::l,r,x=>by simp only[List.cons_append,qQ];exact Zf l r _
theorem Zx:∀(l:List Lst) (x:Int),(∀y∈l,zJ y.t≠141)→(x=0∨x=2)→qQ l x=(if x=2 then 2 else zu l)∧zu l≠141
 | [],x,_,hx=>by
  simp only[qQ,zu]
  split<;>omega
 | l::r,x,h,hx=>by
  have h0:=h l (by simp);have hr:∀y∈r,zJ y.t≠141:=fun y hy=>h y (by simp[hy])
  have hc:=kK l.t;simp only[qQ]
  by_cases h1:zJ l.t=0
  ·obtain⟨i1,i2⟩:=Zx r x hr hx
   have e:zu (l::r)=zu r:=by rw[jk,if_neg h0,if_neg i2,if_pos h1]
   rw[if_pos h1,i1,e];exact⟨rfl,i2⟩
  ·have h2:zJ l.t=2:=by omega
   obtain⟨i1,i2⟩:=Zx r 2 hr (.inr rfl);have e:zu (l::r)=2:=by rw[jk,if_neg h0,if_neg i2,if_neg h1]
   rw[if_neg h1,h2,i1,if_pos rfl,e];exact⟨by split<;>rfl,by omega⟩
theorem uY:∀(l:List Lst) (y:Lst),y∈l→zJ y.t=141→zu l=141
 | [],y,h,_=>by simp at h
 | l::r,y,h,h1=>by
  rw[jk]
  rcases List.mem_cons.1 h with rfl|h
  ·rw[if_pos h1]
  ·split
   ·rfl
   ·rw[if_pos (uY r y h h1)]
theorem Zc:∀(l:List Lst),zu l=141→∃y∈l,zJ y.t=141
 | [],h=>by simp[zu] at h
 | l::r,h=>by
  rw[jk] at h
  split at h
  ·exact⟨l,by simp,by assumption⟩
  ·split at h
   ·obtain⟨y,hy,h1⟩:=Zc r (by assumption)
    exact⟨y,by simp[hy],h1⟩
   ·split at h
    ·contradiction
    ·omega
theorem kU:∀(l:List Lst),zu l=0↔∀y∈l,zJ y.t=0
 | []=>by simp[zu]
 | l::r=>by
  rw[jk,List.forall_mem_cons,←kU r];have:=kK l.t;have:=qx r
  (repeat' split)<;>omega
def vB {α:Type} (p:α→Bool) (l:List α):Int:=match l.findIdx? p with
 | some i=>(i:Int)
 | none=>-1
theorem vm {α:Type} {p:α→Bool} {l:List α} {k:Nat} (hk:k<l.length) (h:p l[k]=true) (hb:∀j (hj:j<l.length),j<k→p l[j]=false):vB p l=k:=by
 have:l.findIdx? p=some k:=List.findIdx?_eq_some_iff_getElem.2 ⟨hk,h,fun j hj=>by rw[hb j (by omega) hj];simp⟩;unfold vB;rw[this]
theorem kN {α:Type} {p:α→Bool} {l:List α} (hb:∀j (hj:j<l.length),p l[j]=false):vB p l=-1:=by
 have:l.findIdx? p=none:=List.findIdx?_eq_none_iff.2 fun x hx=>by
  obtain⟨j,hj,rfl⟩:=List.mem_iff_getElem.1 hx;exact hb j hj
 unfold vB;rw[this]
theorem vf {α:Type} (p:α→Bool) (l:List α):decide (0≤vB p l)=l.any p:=by
 cases h:l.findIdx? p with
 | none =>
  have h1:=List.findIdx?_eq_none_iff.1 h;have:l.any p=false:=by rw[List.any_eq_false];intro x hx;rw[h1 x hx];simp
  rw[this];unfold vB;rw[h];simp
 | some i =>
  obtain⟨hi,h1,_⟩:=List.findIdx?_eq_some_iff_getElem.1 h;have:l.any p=true:=List.any_eq_true.2 ⟨l[i],List.getElem_mem hi,h1⟩;rw[this];unfold vB;rw[h];simp
theorem qU {α:Type} (p:α→Bool) (l:List α):-1≤vB p l∧vB p l<l.length:=by
 unfold vB
 cases h:l.findIdx? p with
 | none=>simp;omega
 | some i =>
  obtain⟨hi,_,_⟩:=List.findIdx?_eq_some_iff_getElem.1 h;simp;omega
def Md.crowded (m:Md):Bool :=
 decide (16384<m.ty.length)||decide (16384<m.im.length)||decide (16384<m.fu.length)||decide (16384<m.gl.length)||decide (16384<m.ex.length)||decide (16384<m.el.length)||decide (16384<m.da.length) ||
  (m.el.any fun e=>decide (16384<e.fs.length))||decide (1<m.tb.length)||decide (1<m.me.length)
def ZZ (l:List El) (x:Int):Int:=l.foldl (fun x e=>max x (e.fs.length:Int)) x
theorem zDB (l:List El) (e:El) (x:Int):ZZ (l++[e]) x=max (ZZ l x) (e.fs.length:Int):=by simp[ZZ,List.foldl_append]
theorem zBz:∀(l:List El) (x:Int),decide (16384<ZZ l x)=(decide (16384<x)||l.any fun e=>decide (16384<e.fs.length))
 | [],x=>(Bool.or_false _).symm
 | e::l,x=>by
  have:=zBz l (max x (e.fs.length:Int));unfold ZZ at this ⊢;rw[List.foldl_cons,this,List.any_cons,←Bool.or_assoc]
  congr 1
  rw[Bool.eq_iff_iff];simp only[Bool.or_eq_true,decide_eq_true_eq];omega
def Md.max7 (m:Md):Int:=max (max (max (max (max (max (m.ty.length:Int) m.im.length) m.fu.length) m.gl.length) m.ex.length) m.el.length) m.da.length
theorem zDO (m:Md):m.crowded=(decide (16384<ZZ m.el m.max7)||(decide (1<m.tb.length)||decide (1<m.me.length))):=by
 rw[zBz]
 have:decide (16384<m.max7)=(decide (16384<m.ty.length)||decide (16384<m.im.length)||decide (16384<m.fu.length)||decide (16384<m.gl.length)||decide (16384<m.ex.length)||decide (16384<m.el.length)||decide (16384<m.da.length)):=by
  unfold Md.max7;rw[Bool.eq_iff_iff];simp only[Bool.or_eq_true,decide_eq_true_eq];omega
 rw[this];unfold Md.crowded;simp only[Bool.or_assoc]
def qa (s:ByteArray):Bool:=decide (1000<s.size)
def yZ (s:ByteArray):Bool:=decide (0≤Utf.jK (numsOf s))
def Md.anyName (m:Md) (p:ByteArray→Bool):Bool:=(m.im.any fun i=>p i.mo||p i.na)||(m.ex.any fun e=>p e.na)
def qq:List Da→Nat
 | []=>0
 | d::r=>d.bs.length+qq r
theorem ul:∀(l r:List Da),qq (l++r)=qq l+qq r
 | [],r=>by simp[qq]
 | d::l,r=>by simp only[List.cons_append,qq,ul l r];omega
theorem zAj (l:List Da) (k:Nat):qq (l.take k)≤qq l:=by
 have:=ul (l.take k) (l.drop k);rw[List.take_append_drop] at this;omega
theorem Ya {l:List Da} {k:Nat} (hk:k<l.length):qq (l.take (k+1))=qq (l.take k)+l[k].bs.length:=by
 rw[List.take_succ_eq_append_getElem hk,ul];rfl
def Md.heavy (m:Md):Bool:=decide (1048576<qq m.da)
def kD (n:Int):Bool:=decide (n<0)||decide (2147483647<n)
def jS (t:Int×Int):Bool:=!Kind.jJ t.1 t.2
def jQ (i:Imp):Bool:=kD i.ty
def yR (f:Fn):Bool:=kD f.ty||(decide (f.lo<0)||decide (50000<f.lo))
def yP (e:Ex):Bool:=decide (e.k<0)||decide (3<e.k)
def beyond (most:Int) (l:Li):Bool:=!Kind.qG l.n l.x l.c most
def Md.wrong (m:Md):Bool :=
 m.anyName yZ||m.ty.any jS||m.im.any jQ||m.fu.any yR||m.ex.any yP||m.tb.any (beyond 1048576)||m.me.any (beyond 65536)||(!m.st&&decide (m.sn≠0))
def Md.check (m:Md):Int :=
 if m.crowded then 141 else if zu m.codes=141 then 141 else if m.anyName qa then 3 else if m.heavy then 3 else if zu m.codes=2 then 2 else if m.wrong then 2 else 0
def Md.typeN (m:Md) (n:Nat):Int :=
 if n<m.im.length then ((m.im.map (·.ty)).getD n 0) else if n<m.im.length+m.fu.length then ((m.fu.map (·.ty)).getD (n-m.im.length) 0) else -1
def Md.typeOf (m:Md) (n:Nat):(Int×Int)×Bool :=
 if m.typeN n<0∨(m.ty.length:Int)≤m.typeN n then ((0,0),false) else (m.ty.getD (m.typeN n).toNat (0,0),true)
def zF7:List Lst→Nat
 | []=>0
 | l::r=>l.t.count+zF7 r
def Md.size (m:Md):Nat:=zF7 m.codes
end Mod
namespace Instr
open Go.RowKit
theorem drewN {B n:Nat} {a w:World} (h:Below B a w):Below B a (w.drewN n):=⟨h.os,h.tape,h.output,h.size,h.block⟩
def kC (w:World):Prop:=∀j,j<121→w.cell? ⟨1,j,none⟩=some (.string (strOfNums (uF.getD j [])))
theorem kC.below {w w':World} (h:kC w) (hb:Below w.heap.size w w'):kC w':=fun j hj=>keep hb (h j hj)
theorem zB6 (op:Int) (w:World) (hT:kC w):Calls Tryz.prog 299 #[.int .i64 op] w fun e w'=>e=.returned (.string (strOfNums (zc op)))∧w=w':=by
 by_cases h:0≤op∧op<121
 ·have hc:=hT op.toNat (by omega)
  have hn:uF.getD op.toNat []=zc op:=by unfold zc;rw[if_pos h]
  rw[hn] at hc;obtain⟨v,hv⟩:∃v,strOfNums (zc op)=v:=⟨_,rfl⟩;rw[hv] at hc ⊢;obtain⟨h0,h1⟩:=h;clear hv hT hn
  go_enter Tryz.func299,Tryz.ntmps299
  go_wp2;go_ret;exact⟨rfl,rfl⟩
 ·have hn:zc op=[]:=by unfold zc;rw[if_neg h]
  rw[hn];clear hn hT;have h':op<0∨121≤op:=by omega
  clear h
  rcases h' with h'|h'
  all_goals
   go_enter Tryz.func299,Tryz.ntmps299
   go_wp2;go_ret;exact⟨rfl,rfl⟩
def zf (op:Int):Int:=if op=40∨op=54 then 2 else if op=46∨op=47∨op=59 then 1 else 0
def zS (op:Int):Bool:=decide (op=40∨op=54∨op=46∨op=47∨op=59∨op=44∨op=45∨op=58)
theorem zAl (op:Int) (w:World):Calls Tryz.prog 318 #[.int .i64 op] w fun e w'=>e=.returned (.tuple #[.int .u32 (zf op),.bool (zS op)])∧w=w':=by
 obtain⟨u,hu⟩:∃u,zf op=u:=⟨_,rfl⟩;obtain⟨v,hv⟩:∃v,zS op=v:=⟨_,rfl⟩;rw[hu,hv];have HU:=hid hu;have HV:=hid hv;clear hu hv
 go_enter Tryz.func318,Tryz.ntmps318
 go_wp2
 all_goals go_ret2
 all_goals
  refine⟨?_,rfl⟩;have hu:=HU.out;have hv:=HV.out;clear HU HV;simp only[beq_iff_eq,beq_eq_false_iff_ne,ne_eq] at *;subst hu hv;refine congrArg Ending.returned (congrArg Value.tuple ?_);simp[zf,zS, *]
theorem zF4 (op:Int) (w:World):Calls Tryz.prog 301 #[.int .i64 op] w fun e w'=>e=.returned (.int .u8 (uD op))∧w=w':=by
 have CA:=zAl op w;obtain⟨u,hu⟩:∃u,zf op=u:=⟨_,rfl⟩;rw[hu] at CA;clear hu;obtain⟨v,hv⟩:∃v,uD op=v:=⟨_,rfl⟩;rw[hv];have HV:=hid hv;clear hv
 cases hs:zS op
 all_goals
  rw[hs] at CA;have HS:=hid hs;have C:=hid CA;clear hs CA
  go_enter Tryz.func301,Tryz.ntmps301
  go_wp2_with fail
  refine C.out.mono ?_;clear C;rintro e w1 ⟨rfl,rfl⟩;go_wp2
 all_goals go_ret
 all_goals
  refine⟨?_,rfl⟩;have hv:=HV.out;have hs:=HS.out;clear HV HS;simp only[beq_iff_eq,beq_eq_false_iff_ne,ne_eq] at *;subst hv;refine zH ?_;simp only[zS,decide_eq_true_eq,decide_eq_false_iff_not] at hs;unfold uD
  (repeat' split)<;>first|rfl|(exfalso;omega)
end Instr
section
open Go.RowKit
structure zF (k:Nat) (w w':World):Prop where
 os:w'.os=w.os
 tape:w'.tape=w.tape
 output:w'.output=w.output
 size:w.heap.size≤w'.heap.size
 block:∀j,j<w.heap.size→j≠k→w'.heap[j]?=w.heap[j]?
theorem zF.refl (k:Nat) (w:World):zF k w w:=⟨rfl,rfl,rfl,Nat.le_refl _,fun _ _ _=>rfl⟩
theorem zF.trans {k:Nat} {a b c:World} (h:zF k a b) (g:zF k b c):zF k a c :=
 ⟨g.os.trans h.os,g.tape.trans h.tape,g.output.trans h.output,Nat.le_trans h.size g.size,fun j hj hk=>(g.block j (Nat.lt_of_lt_of_le hj h.size) hk).trans (h.block j hj hk)⟩
theorem zF.of_below {k:Nat} {w w':World} (h:Below w.heap.size w w'):zF k w w':=⟨h.os,h.tape,h.output,h.size,fun j hj _=>h.block j hj⟩
theorem zF.below {k B:Nat} {w w':World} (h:zF k w w') (hB:B≤w.heap.size) (hk:B≤k):Below B w w' :=
 ⟨h.os,h.tape,h.output,h.size,fun j hj=>h.block j (by omega) (by omega)⟩
theorem zF.drew {k:Nat} {w w':World} (h:zF k w w'):zF k w w'.drew:=h.trans (.of_below (Below.refl _ _).drew)
theorem zF.alloc {k:Nat} {w w':World} (h:zF k w w') (o:Obj):zF k w (w'.alloc o):=h.trans (.of_below ((Below.refl _ _).alloc (Nat.le_refl _) o))
theorem zF.setCell {k:Nat} {w w':World} (h:zF k w w') {p:Addr} (hp:p.block=k∨w.heap.size≤p.block) (u:Value):zF k w (w'.setCell p u) :=
 ⟨h.os,h.tape,h.output,by have:=h.size;simpa[World.setCell] using this,fun j hj hk=>(Below.heap_setCell _ _ _ _ (by omega)).trans (h.block j hj hk)⟩
theorem zF.cell {k:Nat} {w w':World} (h:zF k w w') {p:Addr} {v:Value} (hk:p.block≠k) (hc:w.cell? p=some v):w'.cell? p=some v :=
 (World.cell?_of_block (w:=w) (h.block p.block (World.block_lt_of_cell? w _ hc) hk)).trans hc
theorem zF.frozen {k:Nat} {w w':World} (h:zF k w w') {p:Addr} {b:Bool} (hp:p.block<w.heap.size) (hk:p.block≠k) (hc:w.frozen? p=b):w'.frozen? p=b :=
 (World.frozen?_of_block (w:=w) (h.block p.block hp hk)).trans hc
theorem Bytes.save {k:Nat} {w w':World} {a:Option Addr} {zs:List Int} (h:Bytes w a zs) (hs:zF k w w') (ha:∀b off,a=some ⟨b,off,none⟩→zs≠[]→b≠k):Bytes w' a zs:=by
 refine⟨h.byte,h.size,?_⟩
 by_cases h9:zs=[]
 ·exact .inl h9
 rcases h.at_ with h0|⟨b,off,rfl,hc⟩
 ·exact .inl h0
 ·exact .inr ⟨b,off,rfl,fun i hi=>hs.cell (ha b off rfl h9) (hc i hi)⟩
theorem Bytes.lt {w:World} {a:Option Addr} {zs:List Int} (h:Bytes w a zs):∀b off,a=some ⟨b,off,none⟩→zs≠[]→b<w.heap.size:=by
 intro b off ha hne
 rcases h.at_ with h0|⟨b',off',h1,hc⟩
 ·exact absurd h0 hne
 ·rw[h1] at ha
  simp only[Option.some.injEq,Addr.mk.injEq] at ha;obtain⟨rfl,_,_⟩:=ha;exact World.block_lt_of_cell? w _ (hc 0 (List.length_pos_iff.2 hne))
end
namespace Instr
open Go.RowKit
def Ix.vals (x:Ix):Array Value:=#[.int .i64 x.op,.int .i64 x.res,.int .u32 x.a,.int .u32 x.b,.int .i32 x.n,.slice x.ta x.tags.length x.tc,.slice x.la x.ln x.lc,.slice x.ea x.en x.ec]
structure Ix.ok (x:Ix):Prop where
 op:-9223372036854775808≤x.op∧x.op≤9223372036854775807
 res:-9223372036854775808≤x.res∧x.res≤9223372036854775807
 a:0≤x.a∧x.a<4294967296
 b:0≤x.b∧x.b<4294967296
 n:-2147483648≤x.n∧x.n<2147483648
 tags:∀z∈x.tags,0≤z∧z<4294967296
 tn:x.tags.length≤140737488351232
 ln:x.ln≤140737488351232
 en:x.en≤140737488351232
structure At (x:Ix) (g:Nat) (w:World):Prop where
 c0:w.cell? ⟨g,0,none⟩=some (.int .i64 x.op)
 c1:w.cell? ⟨g,1,none⟩=some (.int .i64 x.res)
 c2:w.cell? ⟨g,2,none⟩=some (.int .u32 x.a)
 c3:w.cell? ⟨g,3,none⟩=some (.int .u32 x.b)
 c4:w.cell? ⟨g,4,none⟩=some (.int .i32 x.n)
 c5:w.cell? ⟨g,5,none⟩=some (.slice x.ta x.tags.length x.tc)
 c6:w.cell? ⟨g,6,none⟩=some (.slice x.la x.ln x.lc)
 c7:w.cell? ⟨g,7,none⟩=some (.slice x.ea x.en x.ec)
theorem At.save {x:Ix} {g k:Nat} {w w':World} (h:At x g w) (hs:zF k w w') (hk:g≠k):At x g w' :=
 ⟨hs.cell hk h.c0,hs.cell hk h.c1,hs.cell hk h.c2,hs.cell hk h.c3,hs.cell hk h.c4,hs.cell hk h.c5,hs.cell hk h.c6,hs.cell hk h.c7⟩
theorem At.below {x:Ix} {g:Nat} {w w':World} (h:At x g w) (hb:Below w.heap.size w w'):At x g w' :=
 ⟨keep hb h.c0,keep hb h.c1,keep hb h.c2,keep hb h.c3,keep hb h.c4,keep hb h.c5,keep hb h.c6,keep hb h.c7⟩
theorem At.made (x:Ix) (w:World):At x w.heap.size (w.alloc (.cells x.vals 92)):=by
 constructor<;>simp[Ix.vals,go_sem]
structure Fil (w0:World) (x:Ix) (u:Int) (w:World):Prop where
 below:Below w0.heap.size w0 w
 at_:At x w0.heap.size w
 out:w.cell? ⟨w0.heap.size+1,0,none⟩=some (.int .u8 u)
 frozen:w.frozen? ⟨w0.heap.size+1,0,none⟩=false
theorem add_any (w0:World) (x:Ix) (b:Bool) (k:Int) (u:Int) (w:World) (h:Fil w0 x u w) :
  Calls Tryz.prog 329 #[.bool b,.int .u8 k,.pointer (some ⟨w0.heap.size+1,0,none⟩)] w fun e w'=>(∃v,e=.returned v)∧∃u',Hid ((if b then bits .or .u8 u k else u)=u')∧Fil w0 x u' w':=by
 obtain⟨hb,ha,hc,hf⟩:=h;obtain⟨g,hg⟩:∃g,w0.heap.size+1=g:=⟨_,rfl⟩;have HG:=hid hg;rw[hg] at hc hf ⊢;clear hg
 cases b
 ·go_enter Tryz.func329,Tryz.ntmps329
  go_wp2
  go_end0
  exact⟨⟨_,rfl⟩,u,rfl,hb,ha,by rw[HG.out];exact hc,by rw[HG.out];exact hf⟩
 ·go_enter Tryz.func329,Tryz.ntmps329
  go_wp2
  go_end0
  have hg:=HG.out;have hs:zF g w (w.setCell ⟨g,0,none⟩ (.int .u8 (bits .or .u8 u k))):=(zF.refl g w).setCell (.inl rfl) _;refine⟨⟨_,rfl⟩,bits .or .u8 u k,rfl,hb.trans (hs.below hb.size (by omega)),ha.save hs (by omega),?_,?_⟩
  ·rw[hg];simp[go_sem,hc]
  ·rw[hg];simp[go_sem,hf]
theorem zFW (b1 b2 b3 b4 b5 b6 b7:Bool):∀u1 u2 u3 u4 u5 u6:Int,(if b1 then bits .or .u8 0 1 else 0)=u1→(if b2 then bits .or .u8 u1 2 else u1)=u2→(if b3 then bits .or .u8 u2 4 else u2)=u3→(if b4 then bits .or .u8 u3 8 else u3)=u4 →
  (if b5 then bits .or .u8 u4 16 else u4)=u5→(if b6 then bits .or .u8 u5 32 else u5)=u6→(if b7 then bits .or .u8 u6 64 else u6)=bit b1 1+bit b2 2+bit b3 4+bit b4 8+bit b5 16+bit b6 32+bit b7 64:=by
 intro u1 u2 u3 u4 u5 u6 h1 h2 h3 h4 h5 h6;subst h1 h2 h3 h4 h5 h6
 cases b1<;>cases b2<;>cases b3<;>cases b4<;>cases b5<;>cases b6<;>cases b7<;>rfl
theorem zDk (x:Ix) (w:World):Calls Tryz.prog 300 #[.agg x.vals] w fun e w'=>e=.returned (.int .u8 (ZJ x))∧Below w.heap.size w w':=by
 have hmf:∀(fn:Fn) (first cap:Array Value) (w:World),(Instr.makeFunc fn first cap).run Tryz.prog w=.ok (.func fn first cap) w:=fun fn first cap w=>by simp[Instr.makeFunc,go_sem]
 obtain⟨u,hu⟩:∃u,ZJ x=u:=⟨_,rfl⟩;rw[hu];have HU:=hid hu;clear hu;unfold Ix.vals
 go_enter Tryz.func300,Tryz.ntmps300
 go_wp2_with fail
 have hF0:Fil w x 0 ((w.alloc (.cells x.vals 92)).alloc (.cells #[.int .u8 0] 359)):=by
  refine⟨zC (zC (Below.refl _ _) _) _,(At.made x w).below ((Below.refl _ _).alloc (Nat.le_refl _) _),?_,?_⟩<;>simp[go_sem]
 refine (add_any w x _ 1 _ _ hF0).mono ?_;clear hF0;rintro e w1 ⟨⟨v1,rfl⟩,u1,hu1,hF1⟩;obtain⟨ab1,at1,ao1,af1⟩:=hF1;have hF1:Fil w x u1 w1:=⟨ab1,at1,ao1,af1⟩;obtain⟨c0,c1,c2,c3,c4,c5,c6,c7⟩:=at1
 go_wp2_with fail
 clear c0 c1 c2 c3 c4 c5 c6 c7 ao1 af1;refine (add_any w x _ 2 _ _ hF1).mono ?_;clear hF1;rintro e w2 ⟨⟨v2,rfl⟩,u2,hu2,hF2⟩;obtain⟨ab2,at2,ao2,af2⟩:=hF2;have hF2:Fil w x u2 w2:=⟨ab2,at2,ao2,af2⟩;obtain⟨c0,c1,c2,c3,c4,c5,c6,c7⟩:=at2
 go_wp2_with fail
 clear c0 c1 c2 c3 c4 c5 c6 c7 ao2 af2;refine (add_any w x _ 4 _ _ hF2).mono ?_;clear hF2;rintro e w3 ⟨⟨v3,rfl⟩,u3,hu3,hF3⟩;obtain⟨ab3,at3,ao3,af3⟩:=hF3;have hF3:Fil w x u3 w3:=⟨ab3,at3,ao3,af3⟩;obtain⟨c0,c1,c2,c3,c4,c5,c6,c7⟩:=at3
 go_wp2_with fail
 clear c0 c1 c2 c3 c4 c5 c6 c7 ao3 af3;refine (add_any w x _ 8 _ _ hF3).mono ?_;clear hF3;rintro e w4 ⟨⟨v4,rfl⟩,u4,hu4,hF4⟩;obtain⟨ab4,at4,ao4,af4⟩:=hF4;have hF4:Fil w x u4 w4:=⟨ab4,at4,ao4,af4⟩;obtain⟨c0,c1,c2,c3,c4,c5,c6,c7⟩:=at4
 go_wp2_with fail
 clear c0 c1 c2 c3 c4 c5 c6 c7 ao4 af4;refine (add_any w x _ 16 _ _ hF4).mono ?_;clear hF4;rintro e w5 ⟨⟨v5,rfl⟩,u5,hu5,hF5⟩;obtain⟨ab5,at5,ao5,af5⟩:=hF5;have hF5:Fil w x u5 w5:=⟨ab5,at5,ao5,af5⟩;obtain⟨c0,c1,c2,c3,c4,c5,c6,c7⟩:=at5
 go_wp2_with fail
 clear c0 c1 c2 c3 c4 c5 c6 c7 ao5 af5;refine (add_any w x _ 32 _ _ hF5).mono ?_;clear hF5;rintro e w6 ⟨⟨v6,rfl⟩,u6,hu6,hF6⟩;obtain⟨ab6,at6,ao6,af6⟩:=hF6;have hF6:Fil w x u6 w6:=⟨ab6,at6,ao6,af6⟩;obtain⟨c0,c1,c2,c3,c4,c5,c6,c7⟩:=at6
 go_wp2_with fail
 clear c0 c1 c2 c3 c4 c5 c6 c7 ao6 af6;refine (add_any w x _ 64 _ _ hF6).mono ?_;clear hF6;rintro e w7 ⟨⟨v7,rfl⟩,u7,hu7,hF7⟩;obtain⟨ab7,at7,ao7,af7⟩:=hF7;have hF7:Fil w x u7 w7:=⟨ab7,at7,ao7,af7⟩;obtain⟨c0,c1,c2,c3,c4,c5,c6,c7⟩:=at7
 go_wp2_with fail
 go_ret;refine⟨zH ?_,ab7⟩;have:=zFW (x.res != 0) (x.a != 0) (x.b != 0) (x.n != 0) (decide (0<x.tags.length)) (decide (0<x.ln)) (decide (0<x.en)) _ _ _ _ _ _ hu1.out hu2.out hu3.out hu4.out hu5.out hu6.out;rw[←hu7.out,this,←HU.out,ZJ]
def zk (n₀:Nat) (w:World) (a:Option Addr) (zs:List Int):Prop :=
 zs=[]∨∃b off,a=some ⟨b,off,none⟩∧b<n₀∧∀i,i<zs.length→w.cell? ⟨b,off+i,none⟩=some (.int .u32 (zs.getD i 0))
def zg (n₀:Nat) (w:World):Nat→Nat→Il→Prop
 | _,_,.nil=>True
 | b,off,.cons x l e r =>
  b<n₀∧x.ok ∧
  (w.cell? ⟨b,off,none⟩=some (.int .i64 x.op)∧w.cell? ⟨b,off+1,none⟩=some (.int .i64 x.res)∧w.cell? ⟨b,off+2,none⟩=some (.int .u32 x.a)∧w.cell? ⟨b,off+3,none⟩=some (.int .u32 x.b) ∧
    w.cell? ⟨b,off+4,none⟩=some (.int .i32 x.n)∧w.cell? ⟨b,off+5,none⟩=some (.slice x.ta x.tags.length x.tc)∧w.cell? ⟨b,off+6,none⟩=some (.slice x.la x.ln x.lc)∧w.cell? ⟨b,off+7,none⟩=some (.slice x.ea x.en x.ec)) ∧
  zk n₀ w x.ta x.tags ∧
  (l.len=x.ln∧(l=.nil∨∃b' o',x.la=some ⟨b',o',none⟩∧zg n₀ w b' o' l)) ∧
  (e.len=x.en∧(e=.nil∨∃b' o',x.ea=some ⟨b',o',none⟩∧zg n₀ w b' o' e)) ∧
  zg n₀ w b (off+8) r
def zD (n₀:Nat) (w:World) (a:Option Addr) (n:Nat) (t:Il):Prop:=t.len=n∧(t=.nil∨∃b off,a=some ⟨b,off,none⟩∧zg n₀ w b off t)
theorem zk.below {n₀:Nat} {w w':World} {a:Option Addr} {zs:List Int} (hb:Below n₀ w w') (h:zk n₀ w a zs):zk n₀ w' a zs:=by
 rcases h with h|⟨b,off,ha,hl,hc⟩
 ·exact .inl h
 ·exact .inr ⟨b,off,ha,hl,fun i hi=>(hb.cell (p:=⟨b,off+i,none⟩) hl).trans (hc i hi)⟩
theorem zg.below {n₀:Nat} {w w':World} (hb:Below n₀ w w'):∀ {t:Il} {b off:Nat},zg n₀ w b off t→zg n₀ w' b off t
 | .nil,_,_,_=>trivial
 | .cons x l e r,b,off,⟨hl,hx,⟨c0,c1,c2,c3,c4,c5,c6,c7⟩,ht,⟨l1,l2⟩,⟨e1,e2⟩,hr⟩=>by
  have k:∀j v,w.cell? ⟨b,off+j,none⟩=some v→w'.cell? ⟨b,off+j,none⟩=some v:=fun j v h=>(hb.cell (p:=⟨b,off+j,none⟩) hl).trans h
  refine⟨hl,hx,⟨k 0 _ c0,k 1 _ c1,k 2 _ c2,k 3 _ c3,k 4 _ c4,k 5 _ c5,k 6 _ c6,k 7 _ c7⟩,ht.below hb,⟨l1,?_⟩,⟨e1,?_⟩,zg.below hb hr⟩
  ·rcases l2 with h|⟨b',o',ha,hi⟩
   ·exact .inl h
   ·exact .inr ⟨b',o',ha,zg.below hb hi⟩
  ·rcases e2 with h|⟨b',o',ha,hi⟩
   ·exact .inl h
   ·exact .inr ⟨b',o',ha,zg.below hb hi⟩
theorem zD.below {n₀:Nat} {w w':World} {a:Option Addr} {n:Nat} {t:Il} (hb:Below n₀ w w') (h:zD n₀ w a n t):zD n₀ w' a n t:=by
 refine⟨h.1,?_⟩
 rcases h.2 with h|⟨b',o',ha,hi⟩
 ·exact .inl h
 ·exact .inr ⟨b',o',ha,hi.below hb⟩
theorem zk.more {n₀ n₁:Nat} {w:World} {a:Option Addr} {zs:List Int} (hn:n₀≤n₁) (h:zk n₀ w a zs):zk n₁ w a zs:=by
 rcases h with h|⟨b,off,ha,hl,hc⟩
 ·exact .inl h
 ·exact .inr ⟨b,off,ha,by omega,hc⟩
theorem zg.more {n₀ n₁:Nat} {w:World} (hn:n₀≤n₁):∀ {t:Il} {b off:Nat},zg n₀ w b off t→zg n₁ w b off t
 | .nil,_,_,_=>trivial
 | .cons x l e r,b,off,⟨hl,hx,hc,ht,⟨l1,l2⟩,⟨e1,e2⟩,hr⟩=>by
  refine⟨by omega,hx,hc,ht.more hn,⟨l1,?_⟩,⟨e1,?_⟩,zg.more hn hr⟩
  ·rcases l2 with h|⟨b',o',ha,hi⟩
   ·exact .inl h
   ·exact .inr ⟨b',o',ha,zg.more hn hi⟩
  ·rcases e2 with h|⟨b',o',ha,hi⟩
   ·exact .inl h
   ·exact .inr ⟨b',o',ha,zg.more hn hi⟩
theorem zD.more {n₀ n₁:Nat} {w:World} {a:Option Addr} {n:Nat} {t:Il} (hn:n₀≤n₁) (h:zD n₀ w a n t):zD n₁ w a n t:=by
 refine⟨h.1,?_⟩
 rcases h.2 with h|⟨b',o',ha,hi⟩
 ·exact .inl h
 ·exact .inr ⟨b',o',ha,hi.more hn⟩
theorem zD.on {w w':World} {a:Option Addr} {n:Nat} {t:Il} (h:zD w.heap.size w a n t) (hb:Below w.heap.size w w'):zD w'.heap.size w' a n t:=(h.below hb).more hb.size
structure Kept (n₀ n₁:Nat) (w w':World):Prop where
 below:Below n₀ w w'
 cells:∀j o,w.heap[j]?=some o→o.isCells=true→n₁≤j→w'.heap[j]?=some o
theorem Kept.refl (n₀ n₁:Nat) (w:World):Kept n₀ n₁ w w:=⟨Below.refl _ _,fun _ _ h _ _=>h⟩
theorem Kept.trans {n₀ n₁:Nat} {a b c:World} (h:Kept n₀ n₁ a b) (g:Kept n₀ n₁ b c):Kept n₀ n₁ a c:=⟨h.below.trans g.below,fun j o hj ho hn=>g.cells j o (h.cells j o hj ho hn) ho hn⟩
theorem Kept.alloc {n₀ n₁:Nat} {a b:World} (h:Kept n₀ n₁ a b) (o:Obj) (hn:n₀≤b.heap.size):Kept n₀ n₁ a (b.alloc o) :=
 ⟨h.below.alloc hn o,fun j p hj hp hn=>((Below.refl b.heap.size b).alloc (Nat.le_refl _) o).block j (Array.getElem?_eq_some_iff.1 (h.cells j p hj hp hn)).1 |>.trans (h.cells j p hj hp hn)⟩
theorem Kept.of_below {n₀ n₁:Nat} {a b:World} (h:Below a.heap.size a b) (hn:n₀≤a.heap.size):Kept n₀ n₁ a b :=
 ⟨h.mono hn,fun j _ hj _ _=>(h.block j (Array.getElem?_eq_some_iff.1 hj).1).trans hj⟩
theorem Kept.setCell {n₀ n₁:Nat} {a b:World} (h:Kept n₀ n₁ a b) {p:Addr} (h0:n₀≤p.block) (h1:p.block<n₁) (v:Value):Kept n₀ n₁ a (b.setCell p v) :=
 ⟨h.below.setCell h0 v,fun j o hj ho hn=>(Below.heap_setCell b p v j (by omega)).trans (h.cells j o hj ho hn)⟩
theorem Kept.cell {n₀ n₁:Nat} {a b:World} (h:Kept n₀ n₁ a b) {p:Addr} {v:Value} (hp:n₁≤p.block) (hc:a.cell? p=some v):b.cell? p=some v:=by
 obtain⟨o,ho,hi⟩:=cells_of_cell hc;exact (World.cell?_of_block (w:=a) ((h.cells _ o ho hi hp).trans ho.symm)).trans hc
theorem At.kept {n₀ n₁ g:Nat} {x:Ix} {a b:World} (h:At x g a) (hk:Kept n₀ n₁ a b) (hg:n₁≤g):At x g b :=
 ⟨hk.cell hg h.c0,hk.cell hg h.c1,hk.cell hg h.c2,hk.cell hg h.c3,hk.cell hg h.c4,hk.cell hg h.c5,hk.cell hg h.c6,hk.cell hg h.c7⟩
theorem zIz {n₀ n₁:Nat} {w:World} (hn:n₀≤w.heap.size):∀(W:World) (l:Nat) (o o':Obj),w.heap.size≤l→W.heap[l]?=some o→o.isCells=false→o.isWalk=false→Kept n₀ n₁ W (W.putObj l o'):=fun W l o o' hl ho hi hw =>
 ⟨belowK_b hn W l o o' hl ho hi hw,fun j p hj hp _=>by
   have hne:j≠l:=by rintro rfl;rw[ho] at hj;cases hj;rw[hi] at hp;cases hp
   exact (World.putObj_heap_other hne).trans hj⟩
end Instr
namespace Mod
open Go.RowKit Instr
def Rows (n₀:Nat) (w:World) (a:Option Addr) (sz:Nat) (rs:List (List Value)):Prop :=
 rs=[]∨∃b off,a=some ⟨b,off,none⟩∧b<n₀∧∀i,i<rs.length→∀j,j<sz→∀v,(rs.getD i [])[j]?=some v→w.cell? ⟨b,off+i*sz+j,none⟩=some v
theorem Rows.below {n₀ sz:Nat} {w w':World} {a:Option Addr} {rs:List (List Value)} (hb:Below n₀ w w') (h:Rows n₀ w a sz rs):Rows n₀ w' a sz rs:=by
 rcases h with h|⟨b,off,ha,hl,hc⟩
 ·exact .inl h
 ·exact .inr ⟨b,off,ha,hl,fun i hi j hj v hv=>(hb.cell (p:=⟨b,off+i*sz+j,none⟩) hl).trans (hc i hi j hj v hv)⟩
theorem Rows.more {n₀ n₁ sz:Nat} {w:World} {a:Option Addr} {rs:List (List Value)} (hn:n₀≤n₁) (h:Rows n₀ w a sz rs):Rows n₁ w a sz rs:=by
 rcases h with h|⟨b,off,ha,hl,hc⟩
 ·exact .inl h
 ·exact .inr ⟨b,off,ha,by omega,hc⟩
theorem Rows.get {α:Type} {f:α→List Value} {l:List α} {n₀ sz:Nat} {w:World} {a:Option Addr} (h:Rows n₀ w a sz (l.map f)) {k:Nat} (hk:k<l.length) :
  ∃b off,a=some ⟨b,off,none⟩∧b<n₀∧∀j,j<sz→∀v,(f l[k])[j]?=some v→w.cell? ⟨b,off+k*sz+j,none⟩=some v:=by
 rcases h with h|⟨b,off,ha,hl,hc⟩
 ·rw[List.map_eq_nil_iff] at h;subst h;simp at hk
 ·refine⟨b,off,ha,hl,fun j hj v hv=>hc k (by simpa using hk) j hj v ?_⟩
  rw[List.getD_eq_getElem?_getD,List.getElem?_map,List.getElem?_eq_getElem hk];exact hv
def BytesAt (n₀:Nat) (w:World) (a:Option Addr) (zs:List Int):Prop :=
 zs=[]∨∃b off,a=some ⟨b,off,none⟩∧b<n₀∧∀i,i<zs.length→w.cell? ⟨b,off+i,none⟩=some (.int .u8 (zs.getD i 0))
theorem BytesAt.below {n₀:Nat} {w w':World} {a:Option Addr} {zs:List Int} (hb:Below n₀ w w') (h:BytesAt n₀ w a zs):BytesAt n₀ w' a zs:=by
 rcases h with h|⟨b,off,ha,hl,hc⟩
 ·exact .inl h
 ·exact .inr ⟨b,off,ha,hl,fun i hi=>(hb.cell (p:=⟨b,off+i,none⟩) hl).trans (hc i hi)⟩
theorem BytesAt.more {n₀ n₁:Nat} {w:World} {a:Option Addr} {zs:List Int} (hn:n₀≤n₁) (h:BytesAt n₀ w a zs):BytesAt n₁ w a zs:=by
 rcases h with h|⟨b,off,ha,hl,hc⟩
 ·exact .inl h
 ·exact .inr ⟨b,off,ha,by omega,hc⟩
structure zN (n₀:Nat) (w:World) (m:Md):Prop where
 ty:Rows n₀ w m.ty'.a 2 (m.ty.map tyV)
 im:Rows n₀ w m.im'.a 3 (m.im.map Imp.v)
 fu:Rows n₀ w m.fu'.a 3 (m.fu.map Fn.v)
 tb:Rows n₀ w m.tb'.a 3 (m.tb.map Li.v)
 me:Rows n₀ w m.me'.a 3 (m.me.map Li.v)
 gl:Rows n₀ w m.gl'.a 2 (m.gl.map Gl.v)
 ex:Rows n₀ w m.ex'.a 3 (m.ex.map Ex.v)
 el:Rows n₀ w m.el'.a 2 (m.el.map El.v)
 da:Rows n₀ w m.da'.a 2 (m.da.map Da.v)
 ls:∀l∈m.codes,zD n₀ w l.a l.t.len l.t
 fs:∀e∈m.el,zk n₀ w e.fa e.fs
 bs:∀d∈m.da,BytesAt n₀ w d.ba d.bs
theorem zN.below {n₀:Nat} {w w':World} {m:Md} (hb:Below n₀ w w') (h:zN n₀ w m):zN n₀ w' m :=
 ⟨h.ty.below hb,h.im.below hb,h.fu.below hb,h.tb.below hb,h.me.below hb,h.gl.below hb,h.ex.below hb,h.el.below hb,h.da.below hb,fun l hl=>(h.ls l hl).below hb,fun e he=>(h.fs e he).below hb,fun d hd=>(h.bs d hd).below hb⟩
theorem zN.more {n₀ n₁:Nat} {w:World} {m:Md} (hn:n₀≤n₁) (h:zN n₀ w m):zN n₁ w m :=
 ⟨h.ty.more hn,h.im.more hn,h.fu.more hn,h.tb.more hn,h.me.more hn,h.gl.more hn,h.ex.more hn,h.el.more hn,h.da.more hn,fun l hl=>(h.ls l hl).more hn,fun e he=>(h.fs e he).more hn,fun d hd=>(h.bs d hd).more hn⟩
theorem zN.on {w w':World} {m:Md} (h:zN w.heap.size w m) (hb:Below w.heap.size w w'):zN w'.heap.size w' m:=(h.below hb).more hb.size
structure Md.fits (m:Md):Prop where
 ty:m.ty.length≤140737488351232
 im:m.im.length≤140737488351232
 fu:m.fu.length≤140737488351232
 tb:m.tb.length≤140737488351232
 me:m.me.length≤140737488351232
 gl:m.gl.length≤140737488351232
 ex:m.ex.length≤140737488351232
 el:m.el.length≤140737488351232
 da:m.da.length≤140737488351232
 ls:∀l∈m.codes,l.t.len≤140737488351232
 fs:∀e∈m.el,e.fs.length≤140737488351232
 bs:∀d∈m.da,d.bs.length≤140737488351232
 iS:∀i∈m.im,i.mo.size≤140737488351232∧i.na.size≤140737488351232
 eS:∀e∈m.ex,e.na.size≤140737488351232
structure Md.few (m:Md):Prop where
 fit:m.fits
 cs:∀l∈m.codes,l.t.count≤1000000
 lens:m.ty.length≤1000000∧m.im.length≤1000000∧m.fu.length≤1000000∧m.tb.length≤1000000∧m.me.length≤1000000∧m.gl.length≤1000000∧m.ex.length≤1000000∧m.el.length≤1000000∧m.da.length≤1000000
def zB (w:World) (g:Nat) (v:Array Value):Prop:=∀j x,v[j]?=some x→w.cell? ⟨g,j,none⟩=some x
theorem zB.made (w:World) (v:Array Value) (t:TypeId):zB (w.alloc (.cells v t)) w.heap.size v:=by
 intro j x h;simp[go_sem,h]
theorem zB.keep {w w':World} {g:Nat} {v:Array Value} (hb:Below w.heap.size w w') (h:zB w g v):zB w' g v:=fun j x hj=>kP hb (h j x hj)
structure Md.caps (m:Md):Prop where
 ty:m.ty.length≤m.ty'.c
 im:m.im.length≤m.im'.c
 fu:m.fu.length≤m.fu'.c
 gl:m.gl.length≤m.gl'.c
 ex:m.ex.length≤m.ex'.c
 el:m.el.length≤m.el'.c
 da:m.da.length≤m.da'.c
end Mod
section
open Go.RowKit Go.Lib
theorem zJy:ownKnob Tryz.prog.godebug=none:=by kernel_rfl
theorem zFm:laidOutB Tryz.prog=true:=by kernel_rfl
theorem zFq:(Rows.laid_gimlet_instr_names:DataW Unit)=.agg (Instr.uF.map fun s=>.lit (.string (s.map fun z=>UInt8.ofNat z.toNat))):=by kernel_rfl
theorem zAQ {H:Type} {enc:TypeId×Value→H} {P:Program} {w:World} {base:Nat} {sp:Nat→Bool} {held:Bool} {fuel:Nat} {t e:TypeId} {n:Nat} {cs:List Value} {ss:List (List UInt8)} {p:List MemPlace}
  (ht:P.underlying t=some (.array n e)) (he:P.underlying e=some .string) (hce:P.cellsOf e=1) (hct:P.cellsOf t=n)
  (h:DataW.trod enc P w base sp held fuel t cs=some (.agg (ss.map fun s=>.lit (.string s)),p)):cs=ss.map fun s=>Value.string ⟨s.toArray⟩:=by
 cases fuel with
 | zero=>simp[DataW.trod] at h
 | succ fuel =>
  simp only[DataW.trod,ht,hce,hct,Nat.mul_one] at h
  split at h
  ·rename_i hl
   obtain⟨xs,hm,hx⟩:=Option.map_eq_some_iff.1 h
   have hxs:xs.map (·.1)=ss.map fun s=>(DataW.lit (.string s):DataW H):=by
    have:=congrArg Prod.fst hx;simpa using this
   have hxl:xs.length=n:=by simpa using mapM_length hm
   have hzl:ss.length=n:=by
    have:=congrArg List.length hxs;simp at this;omega
   apply List.ext_getElem?
   intro i
   by_cases hi:i<n
   ·obtain⟨b,hb,hf⟩:=mapM_at hm i i (by simp[hi])
    obtain⟨z,hc,rfl,_⟩:=DataW.trod_string he hf
    have h1:cs[i]?=some (.string z):=by
     have:=congrArg (·[0]?) hc;simpa[List.getElem?_take,List.getElem?_drop] using this
    have h2:(xs.map (·.1))[i]?=some (DataW.lit (.string z.data.toList):DataW H):=by simp[hb]
    rw[hxs] at h2;simp only[List.getElem?_map,Option.map_eq_some_iff,DataW.lit.injEq,Lit.string.injEq] at h2;obtain⟨z',hz',he'⟩:=h2;simp[h1,hz',he']
   ·rw[List.getElem?_eq_none (by omega),List.getElem?_eq_none (by simp;omega)]
  ·cases h
theorem zHE {W:World} {l:List (String×DataW Unit)} (hm:("gimlet/instr.names",Rows.laid_gimlet_instr_names)∈l) (hL:laidMet Tryz.prog l W):Instr.kC W:=by
 obtain⟨g,t,cs,fuel,p,hg,hty,hvar,hd⟩:=Lib.laidMet.reads hL hm;obtain rfl:=Option.some.inj ((show Tryz.prog.globalNamed "gimlet/instr.names"=some 1 by kernel_rfl).symm.trans hg)
 obtain rfl:=Option.some.inj ((show (Tryz.prog.globals[1]?).map (·.type)=some 384 by kernel_rfl).symm.trans hty);rw[zFq] at hd;have hcs:=zAQ (ss:=Instr.uF.map fun s=>s.map fun z=>UInt8.ofNat z.toNat) Tryz.underlying384 Tryz.underlying9 (by kernel_rfl) (by kernel_rfl) (by rw[List.map_map];exact hd);have hlen:Instr.uF.length=121:=by decide +kernel
 intro j hj;rw[World.var?_cell hg hvar j,←Array.getElem?_toList,hcs];simp[List.getD,hlen,hj,strOfNums]
end
namespace Instr
open Go.RowKit Go.ChangeShapes
theorem zIK:Tryz.prog.cellsOf 92=8:=by kernel_rfl
theorem uH:Tryz.prog.cellsOf 36=1:=by kernel_rfl
theorem yA:Tryz.prog.cellsOf 3=1∧Tryz.prog.cellsOf 21=1∧Tryz.prog.cellsOf 27=1∧Tryz.prog.cellsOf 22=1:=by
 refine⟨?_,?_,?_,?_⟩<;>kernel_rfl
theorem zI7:Tryz.prog.bytesOf 92=104:=by kernel_rfl
theorem zIL:Tryz.prog.bytesOf 36=4:=by kernel_rfl
theorem ZI {H:Type} {P:Program} {e:TypeId}:∀ {l:List (DataW H)} {i:Nat} {d:DataW H},l[i]?=some d→∀n∈d.weights P e,n∈DataW.weightsAll P e l
 | [],i,d,h,_,_=>by simp at h
 | d0::l,0,d,h,n,hn=>by
  simp only[List.getElem?_cons_zero,Option.some.injEq] at h;subst h;simp[DataW.weightsAll,hn]
 | d0::l,i+1,d,h,n,hn=>by
  have:=ZI (l:=l) (i:=i) (by simpa using h) n hn;simp[DataW.weightsAll,this]
def zGd (w:World) (a:Addr):Int:=match w.cell? a with|some (.int _ z)=>z|_=>0
theorem qu (b o i:Nat):(⟨b,o,none⟩:Addr).add i=⟨b,o+i,none⟩:=by unfold Addr.add;split<;>simp_all
theorem cells_one {w:World} {a:Addr} {cs:List Value} (h:w.cells? 0 a 1=some cs):∃v,cs=[v]∧w.cell? (a.add 0)=some v:=by
 unfold World.cells? at h;rw[if_pos (Nat.zero_le _)] at h;simp only[List.range_succ,List.range_zero,List.nil_append,List.mapM_cons,List.mapM_nil,Option.bind_eq_bind,Option.pure_def] at h;obtain⟨v,hv,h⟩:=Option.bind_eq_some_iff.1 h;simp at h;exact⟨v,h.symm,hv⟩
variable {H:Type} {enc:TypeId×Value→H} {W:World}
theorem zFR {fuel:Nat} {cs:List Value} {x:DataW H×List MemPlace} (h:DataW.trod enc Tryz.prog W 0 (fun _=>true) true fuel 27 cs=some x) (hw:∀n∈x.1.weights Tryz.prog 27,n≤reachBytes) :
  ∃(a:Option Addr) (c:Nat) (zs:List Int),cs=[.slice a zs.length c]∧zs.length≤140737488351232∧(∀z∈zs,0≤z∧z<4294967296)∧zk W.heap.size W a zs:=by
 rcases DataW.trod_slice Tryz.underlying27 h with ⟨rfl,_⟩|⟨a,len,cap,elems,rest,n,-,rfl,rfl,_,_,_,hlen,hel,_,_⟩
 ·exact⟨none,0,[],rfl,by simp,by simp,.inl rfl⟩
 have hbound:(elems.length+rest.length)*Tryz.prog.bytesOf 36≤reachBytes:=by
  refine hw _ ?_;simp[DataW.weights,Tryz.underlying27]
 rw[zIL] at hbound;simp only[reachBytes] at hbound
 have key:∀i,i<len→∃z,W.cell? (a.add i)=some (.int .u32 z)∧0≤z∧z<4294967296:=by
  intro i hi;have h1:=hel i hi;rw[List.getElem?_eq_getElem (by omega),uH,Nat.mul_one] at h1;obtain⟨cs',hc,ht⟩:=Option.bind_eq_some_iff.1 h1;obtain⟨v,rfl,hv⟩:=cells_one hc;obtain⟨z,hz,_,hwf⟩:=DataW.trod_int Tryz.underlying36 ht;simp only[List.cons.injEq,and_true] at hz;subst hz;have:=bounds_u32 hwf;have hp:=World.cell?_spot hv
  have e:(a.add i).add 0=a.add i:=by
   obtain⟨b,o,sp⟩:=a;unfold Addr.add at hp ⊢
   (repeat' split)<;>simp_all
  rw[e] at hv;exact⟨z,hv,by omega,by omega⟩
 refine⟨some a,cap,(List.range len).map fun i=>zGd W (a.add i),by simp,by simp;omega,?_,?_⟩
 ·intro z hz
  obtain⟨i,hi,rfl⟩:=List.mem_map.1 hz;obtain⟨z',h1,h2⟩:=key i (List.mem_range.1 hi);simpa[zGd,h1] using h2
 ·by_cases h0:len=0
  ·subst h0;exact .inl (by simp)
  ·obtain⟨b,o,sp⟩:=a
   obtain⟨z0,hz0,_⟩:=key 0 (by omega);have hsp:=World.cell?_spot hz0
   have hsp':sp=none:=by
    unfold Addr.add at hsp
    (repeat' split at hsp)<;>simp_all
   subst hsp';refine .inr ⟨b,o,rfl,?_,fun i hi=>?_⟩
   ·have:=World.block_lt_of_cell? W _ hz0
    rw[qu] at this;exact this
   ·have hi':i<len:=by simpa using hi
    obtain⟨z,h1,_⟩:=key i hi';rw[qu] at h1;rw[h1,getD_lt hi];simp[zGd,qu,h1]
theorem zGS (n₀:Nat) (b:Nat):∀(k off:Nat),(∀i,i<k→∃x l e,zg n₀ W b (off+i*8) (.cons x l e .nil))→∃t:Il,t.len=k∧zg n₀ W b off t
 | 0,_,_=>⟨.nil,rfl,trivial⟩
 | k+1,off,h=>by
  obtain⟨x,l,e,h1,h2,h3,h4,h5,h6,_⟩:=h 0 (by omega)
  obtain⟨t,ht,hi⟩:=zGS n₀ b k (off+8) (fun i hi=>by
    have:=h (i+1) (by omega);rw[show off+(i+1)*8=off+8+i*8 by omega] at this;exact this)
  rw[Nat.zero_mul,Nat.add_zero] at h3;exact⟨.cons x l e t,by simp[Il.len,ht],h1,h2,h3,h4,h5,h6,hi⟩
theorem Y3 {w:World} {a:Addr} {cs:List Value} (h:w.cells? 0 a 8=some cs):∃v0 v1 v2 v3 v4 v5 v6 v7,cs=[v0,v1,v2,v3,v4,v5,v6,v7]∧w.cell? (a.add 0)=some v0∧w.cell? (a.add 1)=some v1∧w.cell? (a.add 2)=some v2∧w.cell? (a.add 3)=some v3 ∧
  w.cell? (a.add 4)=some v4∧w.cell? (a.add 5)=some v5∧w.cell? (a.add 6)=some v6∧w.cell? (a.add 7)=some v7:=by
 unfold World.cells? at h;rw[if_pos (Nat.zero_le _)] at h;simp only[show List.range 8=[0,1,2,3,4,5,6,7] by decide,List.mapM_cons,List.mapM_nil,Option.bind_eq_bind,Option.pure_def] at h;obtain⟨v0,h0,h⟩:=Option.bind_eq_some_iff.1 h;obtain⟨r1,h,e1⟩:=Option.bind_eq_some_iff.1 h;obtain⟨v1,h1,h⟩:=Option.bind_eq_some_iff.1 h;obtain⟨r2,h,e2⟩:=Option.bind_eq_some_iff.1 h;obtain⟨v2,h2,h⟩:=Option.bind_eq_some_iff.1 h;obtain⟨r3,h,e3⟩:=Option.bind_eq_some_iff.1 h;obtain⟨v3,h3,h⟩:=Option.bind_eq_some_iff.1 h;obtain⟨r4,h,e4⟩:=Option.bind_eq_some_iff.1 h;obtain⟨v4,h4,h⟩:=Option.bind_eq_some_iff.1 h;obtain⟨r5,h,e5⟩:=Option.bind_eq_some_iff.1 h;obtain⟨v5,h5,h⟩:=Option.bind_eq_some_iff.1 h;obtain⟨r6,h,e6⟩:=Option.bind_eq_some_iff.1 h;obtain⟨v6,h6,h⟩:=Option.bind_eq_some_iff.1 h;obtain⟨r7,h,e7⟩:=Option.bind_eq_some_iff.1 h;obtain⟨v7,h7,h⟩:=Option.bind_eq_some_iff.1 h;simp only[Option.bind_some,Option.some.injEq] at *;subst h e7 e6 e5 e4 e3 e2 e1;exact⟨v0,v1,v2,v3,v4,v5,v6,v7,rfl,h0,h1,h2,h3,h4,h5,h6,h7⟩
def w8 (w:World) (a:Addr) (i:Nat):Option (List Value):=w.cells? 0 (a.add (i*8)) 8
theorem zHe:∀(fuel:Nat) (cs:List Value) (x:DataW H×List MemPlace),DataW.trod enc Tryz.prog W 0 (fun _=>true) true fuel 22 cs=some x→(∀n∈x.1.weights Tryz.prog 22,n≤reachBytes) →
  ∃(a:Option Addr) (len c:Nat) (t:Il),cs=[.slice a len c]∧len≤c∧len≤140737488351232∧zD W.heap.size W a len t:=by
 intro fuel
 induction fuel using Nat.strongRecOn with
 | ind fuel ih =>
  intro cs x h hw
  rcases DataW.trod_slice Tryz.underlying22 h with ⟨rfl,_⟩|⟨a,len,cap,elems,rest,n,hfu,rfl,rfl,_,hlc,_,hlen,hel,_,_⟩
  ·exact⟨none,0,0,.nil,rfl,by simp,by simp,rfl,.inl rfl⟩
  have hbound:(elems.length+rest.length)*Tryz.prog.bytesOf 92≤reachBytes:=by
   refine hw _ ?_;simp[DataW.weights,Tryz.underlying22]
  rw[zI7] at hbound;simp only[reachBytes] at hbound
  have hwe:∀(i:Nat) (y:DataW H×List MemPlace),elems[i]?=some y→∀m∈y.1.weights Tryz.prog 92,m≤reachBytes:=by
   intro i y hy m hm;refine hw m ?_;have:(elems.map (·.1))[i]?=some y.1:=by simp[hy]
   have:=ZI this m hm;simp only[DataW.weights,Tryz.underlying22,List.mem_cons,List.mem_append];exact .inr (.inl this)
  refine⟨some a,len,cap,?_⟩
  by_cases h0:len=0
  ·subst h0;exact⟨.nil,rfl,by omega,by omega,rfl,.inl rfl⟩
  have one:∀i,i<len→∃cs' y,w8 W a i=some cs'∧elems[i]?=some y∧DataW.trod enc Tryz.prog W 0 (fun _=>true) true n 92 cs'=some y:=by
   intro i hi;have h1:=hel i hi;rw[zIK] at h1;have h2:elems[i]?=some elems[i]:=List.getElem?_eq_getElem (by omega);rw[h2] at h1;obtain⟨cs',hc,ht⟩:=Option.bind_eq_some_iff.1 h1;exact⟨cs',_,hc,h2,ht⟩
  obtain⟨b,o,sp⟩:=a
  have hsp:sp=none:=by
   obtain⟨cs',y,hc,_,_⟩:=one 0 (by omega);obtain⟨v0,v1,v2,v3,v4,v5,v6,v7,_,hc0,_⟩:=Y3 hc;have hp:=World.cell?_spot hc0;unfold Addr.add at hp
   (repeat' split at hp)<;>simp_all
  subst hsp
  have each:∀i,i<len→∃x l e,zg W.heap.size W b (o+i*8) (.cons x l e .nil):=by
   intro i hi;obtain⟨cs',y,hc,hy,ht⟩:=one i hi;unfold w8 at hc;rw[qu] at hc;obtain⟨v0,v1,v2,v3,v4,v5,v6,v7,rfl,c0,c1,c2,c3,c4,c5,c6,c7⟩:=Y3 hc;simp only[qu] at c0 c1 c2 c3 c4 c5 c6 c7;have hwy:=hwe i y hy;obtain⟨xs,m,hnm,rfl,_,hxl,hf⟩:=DataW.trod_struct Tryz.underlying92 ht
   have hwx:∀(j:Nat) (tj:TypeId) (z:DataW H×List MemPlace),([3,3,36,36,21,27,22,22]:List TypeId)[j]?=some tj→xs[j]?=some z→∀q∈z.1.weights Tryz.prog tj,q≤reachBytes:=by
    intro j tj z htj hz q hq;refine hwy q ?_;simp only[DataW.weights,Tryz.underlying92];exact DataW.weights_mem_each htj (by simp[hz]) q hq
   have f0:DataW.trod enc Tryz.prog W 0 (fun _=>true) true m 3 [v0]=xs[0]?:=by have h:=hf 0 { name:="Op",type:=3,offset:=0,embedded:=false,tag:="",pkgPath:="",byteOffset:=0 } rfl;simpa only [yA.1,yA.2.1,yA.2.2.1,yA.2.2.2,uH,List.drop_zero,List.take_succ_cons,List.take_zero,List.drop_succ_cons] using h
   have f1:DataW.trod enc Tryz.prog W 0 (fun _=>true) true m 3 [v1]=xs[1]?:=by have h:=hf 1 { name:="Results",type:=3,offset:=1,embedded:=false,tag:="",pkgPath:="",byteOffset:=8 } rfl;simpa only [yA.1,yA.2.1,yA.2.2.1,yA.2.2.2,uH,List.drop_zero,List.take_succ_cons,List.take_zero,List.drop_succ_cons] using h
   have f2:DataW.trod enc Tryz.prog W 0 (fun _=>true) true m 36 [v2]=xs[2]?:=by have h:=hf 2 { name:="A",type:=36,offset:=2,embedded:=false,tag:="",pkgPath:="",byteOffset:=16 } rfl;simpa only [yA.1,yA.2.1,yA.2.2.1,yA.2.2.2,uH,List.drop_zero,List.take_succ_cons,List.take_zero,List.drop_succ_cons] using h
   have f3:DataW.trod enc Tryz.prog W 0 (fun _=>true) true m 36 [v3]=xs[3]?:=by have h:=hf 3 { name:="B",type:=36,offset:=3,embedded:=false,tag:="",pkgPath:="",byteOffset:=20 } rfl;simpa only [yA.1,yA.2.1,yA.2.2.1,yA.2.2.2,uH,List.drop_zero,List.take_succ_cons,List.take_zero,List.drop_succ_cons] using h
   have f4:DataW.trod enc Tryz.prog W 0 (fun _=>true) true m 21 [v4]=xs[4]?:=by have h:=hf 4 { name:="N",type:=21,offset:=4,embedded:=false,tag:="",pkgPath:="",byteOffset:=24 } rfl;simpa only [yA.1,yA.2.1,yA.2.2.1,yA.2.2.2,uH,List.drop_zero,List.take_succ_cons,List.take_zero,List.drop_succ_cons] using h
   have f5:DataW.trod enc Tryz.prog W 0 (fun _=>true) true m 27 [v5]=xs[5]?:=by have h:=hf 5 { name:="Tags",type:=27,offset:=5,embedded:=false,tag:="",pkgPath:="",byteOffset:=32 } rfl;simpa only [yA.1,yA.2.1,yA.2.2.1,yA.2.2.2,uH,List.drop_zero,List.take_succ_cons,List.take_zero,List.drop_succ_cons] using h
   have f6:DataW.trod enc Tryz.prog W 0 (fun _=>true) true m 22 [v6]=xs[6]?:=by have h:=hf 6 { name:="L",type:=22,offset:=6,embedded:=false,tag:="",pkgPath:="",byteOffset:=56 } rfl;simpa only [yA.1,yA.2.1,yA.2.2.1,yA.2.2.2,uH,List.drop_zero,List.take_succ_cons,List.take_zero,List.drop_succ_cons] using h
   have f7:DataW.trod enc Tryz.prog W 0 (fun _=>true) true m 22 [v7]=xs[7]?:=by have h:=hf 7 { name:="E",type:=22,offset:=7,embedded:=false,tag:="",pkgPath:="",byteOffset:=80 } rfl;simpa only [yA.1,yA.2.1,yA.2.2.1,yA.2.2.2,uH,List.drop_zero,List.take_succ_cons,List.take_zero,List.drop_succ_cons] using h
   have hxs:∀j,j<8→∃z,xs[j]?=some z:=fun j hj=>⟨_,List.getElem?_eq_getElem (by rw[hxl];exact hj)⟩
   obtain⟨z0,e0⟩:=hxs 0 (by omega);obtain⟨z1,e1⟩:=hxs 1 (by omega);obtain⟨z2,e2⟩:=hxs 2 (by omega);obtain⟨z3,e3⟩:=hxs 3 (by omega);obtain⟨z4,e4⟩:=hxs 4 (by omega);obtain⟨z5,e5⟩:=hxs 5 (by omega);obtain⟨z6,e6⟩:=hxs 6 (by omega);obtain⟨z7,e7⟩:=hxs 7 (by omega);rw[e0] at f0;rw[e1] at f1;rw[e2] at f2;rw[e3] at f3;rw[e4] at f4;rw[e5] at f5;rw[e6] at f6;rw[e7] at f7;obtain⟨n0,g0,-,w0⟩:=DataW.trod_int Tryz.underlying3 f0;obtain⟨n1,g1,-,w1⟩:=DataW.trod_int Tryz.underlying3 f1;obtain⟨n2,g2,-,w2⟩:=DataW.trod_int Tryz.underlying36 f2;obtain⟨n3,g3,-,w3⟩:=DataW.trod_int Tryz.underlying36 f3;obtain⟨n4,g4,-,w4⟩:=DataW.trod_int Tryz.underlying21 f4;obtain⟨a5,c5',z5',g5,b5,r5,t5⟩:=zFR f5 (hwx 5 _ _ rfl e5);obtain⟨a6,l6,c6',t6,g6,-,b6,L6⟩:=ih m (by omega) _ _ f6 (hwx 6 _ _ rfl e6);obtain⟨a7,l7,c7',t7,g7,-,b7,L7⟩:=ih m (by omega) _ _ f7 (hwx 7 _ _ rfl e7);simp only[List.cons.injEq,and_true] at g0 g1 g2 g3 g4 g5 g6 g7;subst g0 g1 g2 g3 g4 g5 g6 g7;have q0:=bounds_i64 w0;have q1:=bounds_i64 w1;have q2:=bounds_u32 w2;have q3:=bounds_u32 w3;have q4:=bounds_i32 w4;refine⟨⟨n0,n1,n2,n3,n4,z5',a5,c5',a6,l6,c6',a7,l7,c7'⟩,t6,t7,?_,⟨q0,q1,⟨q2.1,Int.lt_of_le_of_lt q2.2 (by decide)⟩,⟨q3.1,Int.lt_of_le_of_lt q3.2 (by decide)⟩,⟨q4.1,Int.lt_of_le_of_lt q4.2 (by decide)⟩,r5,b5,b6,b7⟩,⟨c0,c1,c2,c3,c4,c5,c6,c7⟩,t5,L6,L7,trivial⟩;have:=World.block_lt_of_cell? W _ c0;exact this
  obtain⟨t,ht,hi⟩:=zGS W.heap.size b len o each;exact⟨t,rfl,hlc,by omega,ht,.inr ⟨b,o,rfl,hi⟩⟩
end Instr
namespace Utf
open Go.Lib (decodeN decodeN_shape decode_N)
theorem zBY {l:List Int} (hb:∀z∈l,0≤z∧z<256) {n:Int} {k:Nat} (h:atL l=some (n,k)) :
  decodeN l.length (l.getD 0 0).toNat (l.getD 1 0).toNat (l.getD 2 0).toNat (l.getD 3 0).toNat=(n.toNat,k):=by
 obtain⟨⟨r0,r1,r2⟩,ht,hk,_,_,hkl⟩:=vh h;have hl:l=yt n++l.drop k:=by rw[←ht,List.take_append_drop]
 generalize l.drop k=r at hl
 subst hl;subst hk;clear ht hkl h;obtain⟨m,rfl⟩:=Int.eq_ofNat_of_zero_le r0;unfold yt
 by_cases a:(m:Int)<128
 ·rw[if_pos a]
  have c0:m<128:=by omega
  simp[decodeN,c0]
 by_cases b:(m:Int)<2048
 ·rw[if_neg a,if_pos b]
  have e0:(192+(m:Int) / 64).toNat=192+m / 64:=by omega
  have e1:(128+(m:Int) % 64).toNat=128+m % 64:=by omega
  simp only[List.cons_append,List.nil_append,List.length_cons,List.getD_cons_zero,List.getD_cons_succ,e0,e1,Int.toNat_natCast];unfold decodeN;rw[if_neg (by omega),if_pos (by omega),if_pos (by omega)];simp only[Prod.mk.injEq,List.length_nil];exact⟨by omega,trivial⟩
 by_cases d:(m:Int)<65536
 ·rw[if_neg a,if_neg b,if_pos d]
  have e0:(224+(m:Int) / 4096).toNat=224+m / 4096:=by omega
  have e1:(128+(m:Int) / 64 % 64).toNat=128+m / 64 % 64:=by omega
  have e2:(128+(m:Int) % 64).toNat=128+m % 64:=by omega
  simp only[List.cons_append,List.nil_append,List.length_cons,List.getD_cons_zero,List.getD_cons_succ,e0,e1,e2,Int.toNat_natCast];unfold decodeN;rw[if_neg (by omega),if_neg (by omega),if_pos (by omega),if_pos (by omega)];simp only[Prod.mk.injEq,List.length_nil];exact⟨by omega,trivial⟩
 ·rw[if_neg a,if_neg b,if_neg d]
  have e0:(240+(m:Int) / 262144).toNat=240+m / 262144:=by omega
  have e1:(128+(m:Int) / 4096 % 64).toNat=128+m / 4096 % 64:=by omega
  have e2:(128+(m:Int) / 64 % 64).toNat=128+m / 64 % 64:=by omega
  have e3:(128+(m:Int) % 64).toNat=128+m % 64:=by omega
  simp only[List.cons_append,List.nil_append,List.length_cons,List.getD_cons_zero,List.getD_cons_succ,e0,e1,e2,e3,Int.toNat_natCast];unfold decodeN;rw[if_neg (by omega),if_neg (by omega),if_neg (by omega),if_pos (by omega),if_pos (by omega)];simp only[Prod.mk.injEq,List.length_nil];exact⟨by omega,trivial⟩
theorem zBc {l:List Int} (hb:∀z∈l,0≤z∧z<256) (h0:l≠[]) (h:atL l=none) :
  decodeN l.length (l.getD 0 0).toNat (l.getD 1 0).toNat (l.getD 2 0).toNat (l.getD 3 0).toNat=(65533,1):=by
 have no:∀(n:Int) (r:List Int),Zl n→l=yt n++r→False:=fun n r hr hl=>by
  rw[hl,zHu hr] at h;cases h
 have hne:0<l.length:=List.length_pos_iff.2 h0
 have g:∀j,j<l.length→0≤l.getD j 0∧l.getD j 0<256:=fun j hj=>by
  have:l.getD j 0=l[j]:=by simp[hj]
  rw[this];exact hb _ (List.getElem_mem hj)
 have d:∀j,j<l.length→l.drop j=l.getD j 0::l.drop (j+1):=fun j hj=>by
  rw[List.drop_eq_getElem_cons hj];simp[hj]
 obtain⟨g0,g0'⟩:=g 0 hne;have d0:=d 0 hne;rw[List.drop_zero] at d0
 rcases decodeN_shape l.length (l.getD 0 0).toNat (l.getD 1 0).toNat (l.getD 2 0).toNat (l.getD 3 0).toNat with ⟨c,e⟩|⟨c1,c2,c3,cv,e⟩|⟨c1,c2,c3,c4,cv,cs,e⟩|⟨c1,c2,c3,c4,c5,cv,cw,e⟩|e
 ·refine (no (l.getD 0 0) (l.drop 1) ⟨by omega,by omega,by omega⟩ (d0.trans ?_)).elim
  generalize l.getD 0 0=x at *
  unfold yt;rw[if_pos (by omega)];rfl
 ·obtain⟨g1,g1'⟩:=g 1 c2
  have hl:=d0.trans (congrArg (l.getD 0 0::·) (d 1 c2));refine (no ((l.getD 0 0) % 32*64+(l.getD 1 0) % 64) (l.drop 2) ⟨by omega,by omega,by omega⟩ (hl.trans ?_)).elim
  generalize l.getD 0 0=x at *
  generalize l.getD 1 0=y at *
  unfold yt;rw[if_neg (by omega),if_pos (by omega)];simp only[List.cons_append,List.nil_append,List.cons.injEq];exact⟨by omega,by omega,trivial⟩
 ·obtain⟨g1,g1'⟩:=g 1 (by omega)
  obtain⟨g2,g2'⟩:=g 2 c2;have hl:=d0.trans (congrArg (l.getD 0 0::·) ((d 1 (by omega)).trans (congrArg (l.getD 1 0::·) (d 2 c2))));refine (no ((l.getD 0 0) % 16*4096+(l.getD 1 0) % 64*64+(l.getD 2 0) % 64) (l.drop 3) ⟨by omega,by omega,by omega⟩ (hl.trans ?_)).elim
  generalize l.getD 0 0=x at *
  generalize l.getD 1 0=y at *
  generalize l.getD 2 0=z at *
  unfold yt;rw[if_neg (by omega),if_neg (by omega),if_pos (by omega)];simp only[List.cons_append,List.nil_append,List.cons.injEq];exact⟨by omega,by omega,by omega,trivial⟩
 ·obtain⟨g1,g1'⟩:=g 1 (by omega)
  obtain⟨g2,g2'⟩:=g 2 (by omega);obtain⟨g3,g3'⟩:=g 3 c2;have hl:=d0.trans (congrArg (l.getD 0 0::·) ((d 1 (by omega)).trans (congrArg (l.getD 1 0::·) ((d 2 (by omega)).trans (congrArg (l.getD 2 0::·) (d 3 c2))))));refine (no ((l.getD 0 0) % 8*262144+(l.getD 1 0) % 64*4096+(l.getD 2 0) % 64*64+(l.getD 3 0) % 64) (l.drop 4) ⟨by omega,by omega,by omega⟩ (hl.trans ?_)).elim
  generalize l.getD 0 0=x at *
  generalize l.getD 1 0=y at *
  generalize l.getD 2 0=z at *
  generalize l.getD 3 0=u at *
  unfold yt;rw[if_neg (by omega),if_neg (by omega),if_neg (by omega)];simp only[List.cons_append,List.nil_append,List.cons.injEq];exact⟨by omega,by omega,by omega,by omega,trivial⟩
 ·exact e
theorem YW {zs:List Int} (hb:∀z∈zs,0≤z∧z<256) (j:Nat):((strOfNums zs).data.toList.getD j 0).toNat=(zs.getD j 0).toNat:=by
 rw[strOfNums_data]
 by_cases h:j<zs.length
 ·have:=hb _ (List.getElem_mem h)
  simp[h];omega
 ·simp[List.getD_eq_getElem?_getD,List.getElem?_eq_none (Nat.le_of_not_lt h)]
theorem uK (zs:List Int) (i j:Nat):zs.getD (i+j) 0=(zs.drop i).getD j 0:=by
 simp[List.getD_eq_getElem?_getD,List.getElem?_drop]
theorem ZO {zs:List Int} (hb:∀z∈zs,0≤z∧z<256) (i:Nat) :
  Utf8.decode (strOfNums zs) i=decodeN (zs.drop i).length ((zs.drop i).getD 0 0).toNat ((zs.drop i).getD 1 0).toNat ((zs.drop i).getD 2 0).toNat ((zs.drop i).getD 3 0).toNat:=by
 rw[decode_N,YW hb,YW hb,YW hb,YW hb,strOfNums_data,List.length_map,List.length_drop];rw[←uK,←uK,←uK,←uK];rfl
theorem kg {zs:List Int} (hb:∀z∈zs,0≤z∧z<256) (i:Nat):∀z∈zs.drop i,0≤z∧z<256:=fun z hz=>hb z (List.mem_of_mem_drop hz)
theorem zB1 {zs:List Int} (hb:∀z∈zs,0≤z∧z<256) {i:Nat} {n:Int} {k:Nat} (h:atL (zs.drop i)=some (n,k)):Utf8.decode (strOfNums zs) i=(n.toNat,k):=by
 rw[ZO hb];exact zBY (kg hb i) h
theorem zB4 {zs:List Int} (hb:∀z∈zs,0≤z∧z<256) {i:Nat} (hi:i<zs.length) (h:atL (zs.drop i)=none):Utf8.decode (strOfNums zs) i=(65533,1):=by
 rw[ZO hb];refine zBc (kg hb i) (fun h0=>?_) h;have:=congrArg List.length h0;simp at this;omega
theorem zCJ {l:List Int} {k:Nat} (h:atL l=some (65533,k)):k=3:=by
 obtain⟨_,_,hk,_⟩:=vh h;rw[hk];decide
end Utf
end Go.Proofs.YtdljneclfgneoaaGreatDoor
namespace Go.Proofs
open Go.Shelf
def Tryz.lays260_ren:Go.Shelf.Ren:=⟨fun|260=>341|n=>n,fun|9=>9|21=>21|3=>3|4=>4|5=>5|119=>410|0=>0|46=>336|139=>413|138=>412|n=>n,fun|3=>2|4=>3|n=>n⟩
theorem Tryz.lays260:Go.Proofs.Lays.n260 Tryz.prog Tryz.lays260_ren:={
  mixed:=by kernel_rfl
  f260:=Tryz.func341.trans (congrArg some (by kernel_rfl))
  t0:=Tryz.underlying0
  a0:=Tryz.isAgg0
  z0:=Tryz.sizeOf0
  v0:=Tryz.zeroValue0
  t3:=Tryz.underlying3
  a3:=Tryz.isAgg3
  z3:=Tryz.sizeOf3
  v3:=Tryz.zeroValue3
  t4:=Tryz.underlying4
  a4:=Tryz.isAgg4
  z4:=Tryz.sizeOf4
  v4:=Tryz.zeroValue4
  t5:=Tryz.underlying5
  a5:=Tryz.isAgg5
  z5:=Tryz.sizeOf5
  v5:=Tryz.zeroValue5
  t9:=Tryz.underlying9
  a9:=Tryz.isAgg9
  z9:=Tryz.sizeOf9
  v9:=Tryz.zeroValue9
  t21:=Tryz.underlying21
  a21:=Tryz.isAgg21
  z21:=Tryz.sizeOf21
  v21:=Tryz.zeroValue21
  t46:=Tryz.underlying336
  a46:=Tryz.isAgg336
  z46:=Tryz.sizeOf336
  v46:=Tryz.zeroValue336
  t119:=Tryz.underlying410
  a119:=Tryz.isAgg410
  z119:=Tryz.sizeOf410
  t138:=Tryz.underlying412
  a138:=Tryz.isAgg412
  z138:=Tryz.sizeOf412
  v138:=Tryz.zeroValue412
  t139:=Tryz.underlying413
  a139:=Tryz.isAgg413
  z139:=Tryz.sizeOf413
  v139:=Tryz.zeroValue413
  g3:=by kernel_rfl
  g4:=by kernel_rfl }
def Tryz.lays197_ren:Go.Shelf.Ren:=⟨fun|197=>317|260=>341|n=>n,fun|9=>9|21=>21|3=>3|4=>4|5=>5|105=>370|119=>410|0=>0|46=>336|139=>413|138=>412|n=>n,fun|3=>2|4=>3|n=>n⟩
theorem Tryz.lays197:Go.Proofs.Lays.n197 Tryz.prog Tryz.lays197_ren:={
  mixed:=by kernel_rfl
  f197:=Tryz.func317.trans (congrArg some (by kernel_rfl))
  f260:=Tryz.func341.trans (congrArg some (by kernel_rfl))
  t0:=Tryz.underlying0
  a0:=Tryz.isAgg0
  z0:=Tryz.sizeOf0
  v0:=Tryz.zeroValue0
  t3:=Tryz.underlying3
  a3:=Tryz.isAgg3
  z3:=Tryz.sizeOf3
  v3:=Tryz.zeroValue3
  t4:=Tryz.underlying4
  a4:=Tryz.isAgg4
  z4:=Tryz.sizeOf4
  v4:=Tryz.zeroValue4
  t5:=Tryz.underlying5
  a5:=Tryz.isAgg5
  z5:=Tryz.sizeOf5
  v5:=Tryz.zeroValue5
  t9:=Tryz.underlying9
  a9:=Tryz.isAgg9
  z9:=Tryz.sizeOf9
  v9:=Tryz.zeroValue9
  t21:=Tryz.underlying21
  a21:=Tryz.isAgg21
  z21:=Tryz.sizeOf21
  v21:=Tryz.zeroValue21
  t46:=Tryz.underlying336
  a46:=Tryz.isAgg336
  z46:=Tryz.sizeOf336
  v46:=Tryz.zeroValue336
  t105:=Tryz.underlying370
  a105:=Tryz.isAgg370
  z105:=Tryz.sizeOf370
  v105:=Tryz.zeroValue370
  t119:=Tryz.underlying410
  a119:=Tryz.isAgg410
  z119:=Tryz.sizeOf410
  t138:=Tryz.underlying412
  a138:=Tryz.isAgg412
  z138:=Tryz.sizeOf412
  v138:=Tryz.zeroValue412
  t139:=Tryz.underlying413
  a139:=Tryz.isAgg413
  z139:=Tryz.sizeOf413
  v139:=Tryz.zeroValue413
  g3:=by kernel_rfl
  g4:=by kernel_rfl }
open Go.RowKit Go.Lib in
theorem Tryz.utf8_DecodeRuneInString (s:ByteArray) (w:World) (hT:Lib.Utf8Tabs 2 3 w) :
  Calls Tryz.prog 317 #[.string s] w fun e w'=>e=.returned (.tuple #[.int .i32 (Lib.decodeGo s).1,.int .i64 (Lib.decodeGo s).2])∧Below w.heap.size w w':=Any.utf8_DecodeRuneInString Tryz.lays197 s w hT
end Go.Proofs
namespace Go.Proofs.YtdljneclfgneoaaGreatDoor
namespace Num
def arity (op:Int):Int:=if op=69∨(103≤op∧op≤105) then 1 else if (70≤op∧op≤79)∨(106≤op∧op≤120) then 2 else 0
end Num
namespace Mod
open Go.RowKit Instr
theorem yy {α:Type} {l:List α} {p:α→Bool} {k:Nat} (hk:k<l.length) (h:∀j (hj:j<l.length),j<k→p l[j]=false) (hx:p l[k]=false):∀j (hj:j<l.length),j<k+1→p l[j]=false:=by
 intro j hj hjk
 by_cases e:j=k
 ·subst e;exact hx
 ·exact h j hj (by omega)
theorem any_none {α:Type} {l:List α} {p:α→Bool} (h:∀j (hj:j<l.length),p l[j]=false):l.any p=false:=by
 rw[List.any_eq_false];intro x hx;obtain⟨j,hj,rfl⟩:=List.mem_iff_getElem.1 hx;rw[h j hj];simp
theorem any_some {α:Type} {l:List α} {p:α→Bool} {k:Nat} (hk:k<l.length) (h:p l[k]=true):l.any p=true:=List.any_eq_true.2 ⟨_,List.getElem_mem hk,h⟩
theorem jw {α:Type} (l:List α) (p:α→Bool):∀j (hj:j<l.length),j<0→p l[j]=false:=fun _ _ h=>absurd h (Nat.not_lt_zero _)
def Md.numbers (m:Md):Bool:=!(m.ty.any jS||(m.im.any jQ||m.fu.any yR))
end Mod
end Go.Proofs.YtdljneclfgneoaaGreatDoor
