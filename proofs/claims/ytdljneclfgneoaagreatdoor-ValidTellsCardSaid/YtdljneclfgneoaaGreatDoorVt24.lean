import Derived.Test.YtdljneclfgneoaaGreatDoorVt23
import Derived.Test.YtdljneclfgneoaaGreatDoorVt21
set_option linter.unusedVariables false
set_option linter.ambiguousOpen false
set_option maxRecDepth 100000
set_option maxHeartbeats 8000000
namespace Go.Proofs.YtdljneclfgneoaaGreatDoor
namespace Instr
end Instr
namespace Mod
end Mod
namespace Stk
end Stk
namespace Utf
open Go.RowKit
theorem zGo (n:Int) (w:World):Calls Tryz.prog 347 #[.int .i64 n] w fun e w'=>e=.returned (.bool (decide (Zl n)))∧w'=w:=by
 by_cases h:Zl n
 ·have hd:decide (Zl n)=true:=decide_eq_true h
  rw[hd];obtain⟨h0,h1,h2⟩:=h
  by_cases h3:n<55296
  ·go_enter Tryz.func347,Tryz.ntmps347
   go_wp2;go_ret;exact⟨rfl,rfl⟩
  ·have h4:57343<n:=by omega
   go_enter Tryz.func347,Tryz.ntmps347
   go_wp2;go_ret;exact⟨rfl,rfl⟩
 ·have hd:decide (Zl n)=false:=decide_eq_false h
  rw[hd];unfold Zl at h
  by_cases h0:n<0
  ·clear h hd
   go_enter Tryz.func347,Tryz.ntmps347
   go_wp2;go_ret;exact⟨rfl,rfl⟩
  by_cases h1:1114111<n
  ·clear h hd
   go_enter Tryz.func347,Tryz.ntmps347
   go_wp2;go_ret;exact⟨rfl,rfl⟩
  ·have h2:¬n<55296:=by omega
   have h3:¬57343<n:=by omega
   clear h hd
   go_enter Tryz.func347,Tryz.ntmps347
   go_wp2;go_ret;exact⟨rfl,rfl⟩
theorem zGK (w:World) (zs:List Int) (hl:zs.length≤140737488355328):Own w.heap.size (w.alloc (.cells (zs.map (Value.int .u8)).toArray 5)) (.slice (some ⟨w.heap.size,0,none⟩) zs.length zs.length) zs:=by
 refine⟨by simp,.inr ⟨w.heap.size,zs.length,(zs.map (Value.int .u8)).toArray,rfl,Nat.le_refl _,?_,Nat.le_refl _,by unfold maxLen;omega,by simp,?_⟩⟩
 ·simp[World.alloc,-World.alloc_eq]
 ·rw[List.take_of_length_le (by simp)]
theorem uW (w:World) (zs:List Int) (n:Nat) (hn:zs.length=n) (hl:n≤1000) (cs:Array Value) (hc:cs=(zs.map (Value.int .u8)).toArray):zIF w zs (.returned (.slice (some ⟨w.heap.size,0,none⟩) n n)) (w.alloc (.cells cs 5)):=by
 subst hn;subst hc;exact⟨_,rfl,zGK w zs (by omega),(Below.refl _ _).alloc (Nat.le_refl _) _⟩
theorem one_any (n:Int) (w:World) (h:Zl n):Calls Tryz.prog 348 #[.int .i64 n] w (zIF w (yt n)):=by
 obtain⟨h0,h1,_⟩:=h;have e1:Int.tdiv n 64=n / 64:=Int.tdiv_eq_ediv_of_nonneg h0;have e2:Int.tdiv n 4096=n / 4096:=Int.tdiv_eq_ediv_of_nonneg h0;have e3:Int.tdiv n 262144=n / 262144:=Int.tdiv_eq_ediv_of_nonneg h0;have e4:Int.tmod n 64=n % 64:=Int.tmod_eq_emod_of_nonneg h0;have e5:Int.tmod (n / 64) 64=n / 64 % 64:=Int.tmod_eq_emod_of_nonneg (by omega);have e6:Int.tmod (n / 4096) 64=n / 4096 % 64:=Int.tmod_eq_emod_of_nonneg (by omega)
 by_cases a:n<128
 ·have e:yt n=[n]:=by simp[yt,a]
  rw[e];clear e
  go_enter Tryz.func348,Tryz.ntmps348
  go_wp2;go_ret;exact uW w [n] 1 rfl (by omega) _ rfl
 by_cases b:n<2048
 ·have e:yt n=[192+n / 64,128+n % 64]:=by simp[yt,a,b]
  rw[e];clear e
  go_enter Tryz.func348,Tryz.ntmps348
  go_wp2;go_ret;exact uW w [192+n / 64,128+n % 64] 2 rfl (by omega) _ rfl
 by_cases d:n<65536
 ·have e:yt n=[224+n / 4096,128+n / 64 % 64,128+n % 64]:=by simp[yt,a,b,d]
  rw[e];clear e
  go_enter Tryz.func348,Tryz.ntmps348
  go_wp2;go_ret;exact uW w [224+n / 4096,128+n / 64 % 64,128+n % 64] 3 rfl (by omega) _ rfl
 ·have e:yt n=[240+n / 262144,128+n / 4096 % 64,128+n / 64 % 64,128+n % 64]:=by simp[yt,a,b,d]
  rw[e];clear e
  go_enter Tryz.func348,Tryz.ntmps348
  go_wp2;go_ret;exact uW w [240+n / 262144,128+n / 4096 % 64,128+n / 64 % 64,128+n % 64] 4 rfl (by omega) _ rfl
def qg:List Int→Int×Bool
 | []=>(0,false)
 | c::_=>if 128≤c∧c<192 then (c-128,true) else (0,false)
theorem zFo (a:Option Addr) (len cap:Nat) (zs:List Int) (p:Int) (w:World) (hlen:zs.length=len) (hz:Bytes w a zs) (hp:0≤p) :
  Calls Tryz.prog 346 #[.slice a len cap,.int .i64 p] w fun e w'=>e=.returned (.tuple #[.int .i64 (qg (zs.drop p.toNat)).1,.bool (qg (zs.drop p.toNat)).2])∧Below w.heap.size w w':=by
 by_cases hl:(len:Int)≤p
 ·have:zs.drop p.toNat=[]:=List.drop_eq_nil_of_le (by omega)
  rw[this];clear hlen this hz
  go_enter Tryz.func346,Tryz.ntmps346
  go_wp2;exact bodyPost_ret (v:=.tuple #[.int .i64 0,.bool false]) (by simp[results,Tryz.results346,go_sem]) rfl ⟨rfl,Below.refl _ _⟩
 obtain⟨i,rfl⟩:=Int.eq_ofNat_of_zero_le hp;have hi:i<zs.length:=by omega
 obtain⟨b,off,rfl,hcell⟩:=hz.at (by omega);have hc:=hcell i hi;obtain⟨c0,c1⟩:=hz.get hi;rw[Int.toNat_natCast,drop_at hi]
 generalize zs.getD i 0=c at *
 have hil:i<len:=by omega
 clear hcell hlen hi hz hp
 by_cases h1:128≤c
 ·by_cases h2:c<192
  ·have e:qg (c::zs.drop (i+1))=(c-128,true):=if_pos ⟨h1,h2⟩
   rw[e];clear e
   go_enter Tryz.func346,Tryz.ntmps346
   go_wp2;exact bodyPost_ret (v:=.tuple #[.int .i64 (c-128),.bool true]) (by simp[results,Tryz.results346,go_sem]) rfl ⟨rfl,Below.refl _ _⟩
  ·have e:qg (c::zs.drop (i+1))=(0,false):=if_neg (by omega)
   rw[e];clear e
   go_enter Tryz.func346,Tryz.ntmps346
   go_wp2;exact bodyPost_ret (v:=.tuple #[.int .i64 0,.bool false]) (by simp[results,Tryz.results346,go_sem]) rfl ⟨rfl,Below.refl _ _⟩
 ·have e:qg (c::zs.drop (i+1))=(0,false):=if_neg (by omega)
  rw[e];clear e
  go_enter Tryz.func346,Tryz.ntmps346
  go_wp2;exact bodyPost_ret (v:=.tuple #[.int .i64 0,.bool false]) (by simp[results,Tryz.results346,go_sem]) rfl ⟨rfl,Below.refl _ _⟩
def jA (c:Int):Int×Int×Bool:=match yx c with
 | some (n,k)=>(n,k,true)
 | none=>(0,0,false)
theorem first_any (c:Int) (w:World) (c0:0≤c) (c1:c<256) :
  Calls Tryz.prog 345 #[.int .u8 c] w fun e w'=>e=.returned (.tuple #[.int .i64 (jA c).1,.int .i64 (jA c).2.1,.bool (jA c).2.2])∧w'=w:=by
 by_cases h1:c<128
 ·have e:jA c=(c,0,true):=by unfold jA yx;rw[if_pos h1];rfl
  rw[e];clear e
  go_enter Tryz.func345,Tryz.ntmps345
  go_wp2;exact bodyPost_ret (v:=.tuple #[.int .i64 (c),.int .i64 0,.bool true]) (by simp[results,Tryz.results345,go_sem]) rfl ⟨rfl,rfl⟩
 by_cases h2:c<192
 ·have e:jA c=(0,0,false):=by unfold jA yx;rw[if_neg h1,if_neg (by omega),if_neg (by omega),if_neg (by omega)]
  rw[e];clear e
  go_enter Tryz.func345,Tryz.ntmps345
  go_wp2;exact bodyPost_ret (v:=.tuple #[.int .i64 (0),.int .i64 0,.bool false]) (by simp[results,Tryz.results345,go_sem]) rfl ⟨rfl,rfl⟩
 by_cases h3:c<224
 ·have e:jA c=(c-192,1,true):=by unfold jA yx;rw[if_neg h1,if_pos (by omega)];rfl
  rw[e];clear e
  go_enter Tryz.func345,Tryz.ntmps345
  go_wp2;exact bodyPost_ret (v:=.tuple #[.int .i64 (c-192),.int .i64 1,.bool true]) (by simp[results,Tryz.results345,go_sem]) rfl ⟨rfl,rfl⟩
 by_cases h4:c<240
 ·have e:jA c=(c-224,2,true):=by unfold jA yx;rw[if_neg h1,if_neg (by omega),if_pos (by omega)];rfl
  rw[e];clear e
  go_enter Tryz.func345,Tryz.ntmps345
  go_wp2;exact bodyPost_ret (v:=.tuple #[.int .i64 (c-224),.int .i64 2,.bool true]) (by simp[results,Tryz.results345,go_sem]) rfl ⟨rfl,rfl⟩
 by_cases h5:c<248
 ·have e:jA c=(c-240,3,true):=by unfold jA yx;rw[if_neg h1,if_neg (by omega),if_neg (by omega),if_pos (by omega)];rfl
  rw[e];clear e
  go_enter Tryz.func345,Tryz.ntmps345
  go_wp2;exact bodyPost_ret (v:=.tuple #[.int .i64 (c-240),.int .i64 3,.bool true]) (by simp[results,Tryz.results345,go_sem]) rfl ⟨rfl,rfl⟩
 ·have e:jA c=(0,0,false):=by unfold jA yx;rw[if_neg h1,if_neg (by omega),if_neg (by omega),if_neg (by omega)]
  rw[e];clear e
  go_enter Tryz.func345,Tryz.ntmps345
  go_wp2;exact bodyPost_ret (v:=.tuple #[.int .i64 (0),.int .i64 0,.bool false]) (by simp[results,Tryz.results345,go_sem]) rfl ⟨rfl,rfl⟩
def atR:List Int→Int×Int×Bool
 | []=>(0,0,false)
 | c::t=>match yx c with
  | none=>(0,0,false)
  | some (n0,more)=>match yB more n0 t with
   | none=>(0,0,false)
   | some n=>(n,(more+1:Nat),decide (Zl n∧(yt n).length=more+1))
theorem zFl {l:List Int} {n:Int} {k:Nat} (h:atL l=some (n,k)):atR l=(n,(k:Int),true):=by
 cases l with
 | nil=>cases h
 | cons c t =>
  simp only[atL] at h;simp only[atR]
  cases hf:yx c with
  | none=>rw[hf] at h;cases h
  | some q =>
   obtain⟨n0,more⟩:=q;rw[hf] at h;simp only at h ⊢
   cases ht:yB more n0 t with
   | none=>rw[ht] at h;cases h
   | some m =>
    rw[ht] at h;simp only at h ⊢
    split at h
    ·rename_i hr
     cases h
     rw[decide_eq_true hr]
    ·cases h
theorem zGR {l:List Int} (h:atL l=none):(atR l).2.2=false:=by
 cases l with
 | nil=>rfl
 | cons c t =>
  simp only[atL] at h;simp only[atR]
  cases hf:yx c with
  | none=>rfl
  | some q =>
   obtain⟨n0,more⟩:=q;rw[hf] at h;simp only at h ⊢
   cases ht:yB more n0 t with
   | none=>rfl
   | some m =>
    rw[ht] at h;simp only at h ⊢
    split at h
    ·cases h
    ·rename_i hr
     exact decide_eq_false hr
theorem zCy {c n:Int} {k:Nat} (h0:0≤c) (h:yx c=some (n,k)):0≤n∧n<128∧k≤3∧jA c=(n,(k:Int),true):=by
 have hr:jA c=(n,(k:Int),true):=by unfold jA;rw[h]
 refine⟨?_,?_,?_,hr⟩
 all_goals
  unfold yx at h
  repeat' split at h
  all_goals first|(cases h;omega)|(cases h)
theorem zCA {c:Int} (h:yx c=none):jA c=(0,0,false):=by unfold jA;rw[h]
theorem zCL {m:Nat} {n:Int} {l:List Int} (h:(qg l).2=true):yB (m+1) n l=yB m (64*n+(qg l).1) (l.drop 1)∧0≤(qg l).1∧(qg l).1<64:=by
 cases l with
 | nil=>cases h
 | cons c t =>
  unfold qg at h ⊢
  by_cases hc:128≤c∧c<192
  ·simp only[if_pos hc,yB,List.drop_one,List.tail_cons]
   exact⟨trivial,by omega,by omega⟩
  ·simp[if_neg hc] at h
theorem zCe {m:Nat} {n:Int} {l:List Int} (h:(qg l).2=false):yB (m+1) n l=none:=by
 cases l with
 | nil=>rfl
 | cons c t =>
  unfold qg at h
  by_cases hc:128≤c∧c<192
  ·simp[if_pos hc] at h
  ·simp only[yB,if_neg hc]
theorem zFu (a:Option Addr) (len cap:Nat) (zs:List Int) (i:Nat) (w:World) (hlen:zs.length=len) (hz:Bytes w a zs) (hi:i<len) :
  Calls Tryz.prog 327 #[.slice a len cap,.int .i64 i] w fun e w'=>e=.returned (.tuple #[.int .i64 (atR (zs.drop i)).1,.int .i64 (atR (zs.drop i)).2.1,.bool (atR (zs.drop i)).2.2])∧Below w.heap.size w w':=by
 have hil:i<zs.length:=by omega
 have hz0:=hz;obtain⟨b,off,rfl,hcell⟩:=hz.at (by omega);have hc:=hcell i hil;obtain⟨c0,c1⟩:=hz.get hil;have hmax:=hz.size;rw[hlen] at hmax;have HD:=hid (drop_at hil)
 generalize zs.getD i 0=c at *
 have HL:=hid hlen;clear hcell hlen hil hz
 cases hf:yx c with
 | none =>
  have HR:Hid (atR (zs.drop i)=(0,0,false)):=by
   show _=_
   rw[HD.out];simp only[atR,hf]
  have hfr:=hid (zCA hf);clear hf
  go_enter Tryz.func327,Tryz.ntmps327
  go_wp2_with fail
  refine (first_any c _ c0 c1).mono ?_;rw[hfr.out];rintro e w1 ⟨rfl,rfl⟩;go_wp2;exact bodyPost_ret (v:=.tuple #[.int .i64 0,.int .i64 0,.bool false]) (by simp[results,Tryz.results327,go_sem]) rfl ⟨by rw[HR.out],Below.refl _ _⟩
 | some q =>
  obtain⟨n0,more⟩:=q;obtain⟨hn0,hn1,hm3,hfr⟩:=zCy c0 hf;have HF:=hid hfr
  have HA:Hid (atR (zs.drop i)=match yB more n0 (zs.drop (i+1)) with
    | none=>(0,0,false)
    | some n=>(n,(more+1:Nat),decide (Zl n∧(yt n).length=more+1))):=by
   show _=_
   rw[HD.out];simp only[atR,hf]
  clear hf hfr
  go_enter Tryz.func327,Tryz.ntmps327
  go_wp2_with fail
  refine (first_any c _ c0 c1).mono ?_;rw[HF.out];rintro e w1 ⟨rfl,rfl⟩;clear HF;go_wp2
  go_loopw [7,10] (fun vn vi wr=>∃(j:Nat) (acc:Int),vi=.int .i64 (j+1:Nat)∧vn=.int .i64 acc∧j≤more∧0≤acc∧acc<128*64 ^ j∧yB more n0 (zs.drop (i+1))=yB (more-j) acc (zs.drop (i+1+j))∧Below w1.heap.size w1 wr)
   (fun _ vi _=>more+1-(intOf vi).toNat)
  case atStart=>exact⟨0,n0,rfl,rfl,Nat.zero_le _,hn0,by simpa using hn1,rfl,Below.refl _ _⟩
  case round =>
   obtain⟨j,acc,rfl,rfl,hj,ha0,ha1,hT,hb⟩:=hrel;have HT:=hid hT;clear hT
   have ha2:acc<33554432:=by
    have h4:j=0∨j=1∨j=2∨j=3:=by omega
    rcases h4 with rfl|rfl|rfl|rfl<;>simp at ha1<;>omega
   have HP:=hid ha1;clear ha1
   by_cases hjm:j<more
   ·go_wp2_with fail
    refine (zFo _ len cap zs _ _ HL.out (hz0.below hb) (by omega)).mono ?_;have hX:((i:Int)+((j:Int)+1)).toNat=i+1+j:=by omega
    rw[hX];rintro e w2 ⟨rfl,hb2⟩;have hb':=zM hb hb2;obtain⟨k,hk⟩:∃k,more-j=k+1:=⟨more-j-1,by omega⟩
    cases ht:(qg (zs.drop (i+1+j))).2 with
    | false =>
     have HN:Hid (yB more n0 (zs.drop (i+1))=none):=by
      show _=_
      rw[HT.out,hk];exact zCe ht
     clear HT hb2 hX hk
     generalize (qg (zs.drop (i+1+j))).1=t1 at *
     generalize (qg (zs.drop (i+1+j))).2=t2 at *
     subst ht;go_wp2;exact bodyPost_ret (v:=.tuple #[.int .i64 0,.int .i64 0,.bool false]) (by simp[results,Tryz.results327,go_sem]) rfl ⟨by rw[HA.out,HN.out],hb'⟩
    | true =>
     obtain⟨hs1,hs2,hs3⟩:=zCL (m:=k) (n:=acc) ht
     have HN:Hid (yB more n0 (zs.drop (i+1))=yB (more-(j+1)) (64*acc+(qg (zs.drop (i+1+j))).1) (zs.drop (i+1+(j+1)))):=by
      show _=_
      rw[HT.out,hk,hs1,List.drop_drop];exact congr (congr (congrArg yB (by omega)) rfl) rfl
     clear HT hb2 hX hk hs1
     generalize (qg (zs.drop (i+1+j))).1=t1 at *
     generalize (qg (zs.drop (i+1+j))).2=t2 at *
     subst ht
     have hpw:64*acc+t1<128*64 ^ (j+1):=by
      have:=HP.out;rw[Int.pow_succ];omega
     have HPW:=hid hpw;clear hpw;go_wp2
     go_roundw
     case rel=>exact⟨j+1,64*acc+t1,by go_num,rfl,by omega,by omega,HPW.out,HN.out,hb'⟩
     case measure=>simp[intOf];omega
   ·obtain rfl:j=more:=by omega
    have HN:Hid (yB j n0 (zs.drop (i+1))=some acc):=by
     show _=_
     rw[HT.out,Nat.sub_self];rfl
    clear HT
    go_wp2_with fail
    refine (zGo acc _).mono ?_
    by_cases hr:Zl acc
    ·rw[decide_eq_true hr]
     rintro e w2 ⟨rfl,rfl⟩;have HR:=hid hr
     go_wp2_with fail
     refine (one_any acc _ HR.out).mono ?_;rintro e w3 ⟨v,rfl,ho,hb3⟩;obtain⟨a4,c4,rfl⟩:=ho.slice;have hb':=zM hb hb3;have hol:=zCi acc;clear ho hb3 hr
     by_cases hm:(yt acc).length=j+1
     ·have HO:Hid (atR (zs.drop i)=(acc,(j:Int)+1,true)):=by
       show _=_
       rw[HA.out,HN.out];simp only[Prod.mk.injEq,true_and,decide_eq_true_eq];exact⟨by omega,HR.out,hm⟩
      generalize (yt acc).length=m at *
      subst hm;go_wp2;exact bodyPost_ret (v:=.tuple #[.int .i64 acc,.int .i64 ((j:Int)+1),.bool true]) (by simp[results,Tryz.results327,go_sem]) rfl ⟨by rw[HO.out],hb'⟩
     ·have HO:Hid (atR (zs.drop i)=(acc,(j:Int)+1,false)):=by
       show _=_
       rw[HA.out,HN.out];simp only[Prod.mk.injEq,true_and,decide_eq_false_iff_not];exact⟨by omega,fun h=>hm h.2⟩
      have hm':¬((yt acc).length:Int)=(j:Int)+1:=by omega
      generalize (yt acc).length=m at *
      go_wp2;exact bodyPost_ret (v:=.tuple #[.int .i64 acc,.int .i64 ((j:Int)+1),.bool false]) (by simp[results,Tryz.results327,go_sem,hm']) rfl ⟨by rw[HO.out],hb'⟩
    ·rw[decide_eq_false hr]
     rintro e w2 ⟨rfl,rfl⟩
     have HO:Hid (atR (zs.drop i)=(acc,(j:Int)+1,false)):=by
      show _=_
      rw[HA.out,HN.out];simp only[Prod.mk.injEq,true_and,decide_eq_false_iff_not];exact⟨by omega,fun h=>hr h.1⟩
     clear hr;go_wp2;exact bodyPost_ret (v:=.tuple #[.int .i64 acc,.int .i64 ((j:Int)+1),.bool false]) (by simp[results,Tryz.results327,go_sem]) rfl ⟨by rw[HO.out],hb⟩
theorem zBZ (a:Option Addr) (len cap:Nat) (zs:List Int) (w:World) (hlen:zs.length=len) (hz:Bytes w a zs) (hbig:zs.length≤8796093022208) :
  Calls Tryz.prog 289 #[.slice a len cap] w (zF8 w zs):=by
 have HL:=hid hlen;have hz1:=hz.alloc (.cells #[.int .i64 0,.int .i64 0] 350);have c0:(w.alloc (.cells #[.int .i64 0,.int .i64 0] 350)).cell? ⟨w.heap.size,0,none⟩=some (.int .i64 0):=by go_simp
 have c1:(w.alloc (.cells #[.int .i64 0,.int .i64 0] 350)).cell? ⟨w.heap.size,1,none⟩=some (.int .i64 0):=by go_simp
 have f0:(w.alloc (.cells #[.int .i64 0,.int .i64 0] 350)).frozen? ⟨w.heap.size,0,none⟩=false:=by go_simp
 have f1:(w.alloc (.cells #[.int .i64 0,.int .i64 0] 350)).frozen? ⟨w.heap.size,1,none⟩=false:=by go_simp
 have hA:Below w.heap.size w (w.alloc (.cells #[.int .i64 0,.int .i64 0] 350)):=(Below.refl _ _).alloc (Nat.le_refl _) _;have hlt:w.heap.size<(w.alloc (.cells #[.int .i64 0,.int .i64 0] 350)).heap.size:=by simp
 rw[hlen] at hbig;clear hlen hz
 go_enter Tryz.func289,Tryz.ntmps289
 go_wp2
 generalize w.alloc (.cells #[.int .i64 0,.int .i64 0] 350)=wa at *
 go_loopw [4,5] (fun v vi wr=>∃(pos:Nat) (acc:List Int),vi=.int .i64 pos∧qR 3 .i64 wa.heap.size wr v acc∧Below wa.heap.size wa wr∧wa.heap.size≤wr.heap.size∧pos≤len∧acc.length≤pos ∧
     scan zs=(acc++(scan (zs.drop pos)).1,pos+(scan (zs.drop pos)).2)) (fun _ vi _=>len-(intOf vi).toNat)
 case atStart=>exact⟨0,[],rfl,JE _ _ _ _,Below.refl _ _,Nat.le_refl _,Nat.zero_le _,by simp,by simp⟩
 case round =>
  obtain⟨pos,acc,rfl,hown,hbw,hsw,hpos,hacc,hsc⟩:=hrel;have HS:=hid hsc;clear hsc;obtain⟨av,cv,rfl⟩:=hown.sliceN rfl;have hAw:=hA.trans (hbw.mono (by omega))
  by_cases hp:pos<len
  ·cases ha:atL (zs.drop pos) with
   | none =>
    have HF:Hid (vY zs=(4,(pos:Int))):=by
     have h:=congrArg Prod.snd HS.out;rw[Yb ha] at h;simp only[Nat.add_zero] at h
     show _=_
     unfold vY;rw[h,if_neg (by have:=HL.out;omega)]
    have HR:Hid (runesL zs=[]):=by
     have h:=congrArg Prod.snd HS.out;rw[Yb ha] at h;simp only[Nat.add_zero] at h
     show _=_
     unfold runesL;rw[h,if_neg (by have:=HL.out;omega)]
    have hr:=hid (zGR ha);clear ha HS
    go_wp2_with fail
    refine (zFu a len cap zs pos _ HL.out (hz1.below hbw) hp).mono ?_
    generalize atR (zs.drop pos)=r at *
    obtain⟨r1,r2,r3⟩:=r;obtain rfl:r3=false:=hr.out;rintro e w2 ⟨rfl,hb2⟩;have c0:=keep hb2 ((hbw.cell (p:=⟨w.heap.size,0,none⟩) hlt).trans c0);have c1:=keep hb2 ((hbw.cell (p:=⟨w.heap.size,1,none⟩) hlt).trans c1);have f0:=(hb2.frozen (p:=⟨w.heap.size,0,none⟩) (by show w.heap.size<_;omega)).trans ((hbw.frozen (p:=⟨w.heap.size,0,none⟩) hlt).trans f0);have f1:=(hb2.frozen (p:=⟨w.heap.size,1,none⟩) (by show w.heap.size<_;omega)).trans ((hbw.frozen (p:=⟨w.heap.size,1,none⟩) hlt).trans f1);have hA2:=zM hAw hb2;clear hA hAw hbw hb2 hown hz1;go_wp2;refine bodyPost_ret (v:=.tuple #[.slice none 0 0,.agg #[.int .i64 4,.int .i64 pos]]) (by simp[results,Tryz.results289,go_sem,c0,c1]) rfl ⟨_,by rw[HF.out],?_,?_⟩
    ·rw[HR.out];exact JE _ _ _ _
    ·exact (hA2.setCell (Nat.le_refl _) _).setCell (Nat.le_refl _) _
   | some q =>
    obtain⟨n,k⟩:=q;obtain⟨hn,_,_,hk1,hk4,hkl⟩:=vh ha
    have HF:Hid (scan zs=((acc++[n])++(scan (zs.drop (pos+k))).1,(pos+k)+(scan (zs.drop (pos+k))).2)):=by
     have h:=HS.out;rw[zAg ha,List.drop_drop] at h
     show _=_
     rw[h];simp[Nat.add_assoc]
    have hlk:pos+k≤len:=by simp at hkl;have:=HL.out;omega
    have HLL:Hid ((acc++[n]).length≤pos+k):=by show _≤_;simp;omega
    have hr:=hid (zFl ha);obtain⟨h0,h1,_⟩:=hn;clear ha HS hkl
    go_wp2_with fail
    refine (zFu a len cap zs pos _ HL.out (hz1.below hbw) hp).mono ?_;rw[hr.out];rintro e w2 ⟨rfl,hb2⟩;have hown2:=hown.below hb2;have hbw2:=hbw.trans (hb2.mono hsw);have hsw2:wa.heap.size≤w2.heap.size:=by have:=hb2.size;omega
    clear hr hAw hbw hb2 hown
    go_wp2_with (first|(at_builtin;refine zDh Jc Tryz.underlying79 rfl (.tmp 24) (.tmp 26) rfl n rfl hown2 hbw2 hsw2 rfl (by omega) (by omega) ?_;intro v' w5 hown5 hb5 hs5 _))
    go_roundw
    case rel=>exact⟨pos+k,acc++[n],by go_num,hown5,hb5,hs5,hlk,HLL.out,HF.out⟩
    case measure=>simp[intOf];omega
  ·have HF:Hid (vY zs=(0,0)):=by
    have h:=congrArg Prod.snd HS.out;rw[List.drop_eq_nil_of_le (by have:=HL.out;omega),zAD] at h;simp only[Nat.add_zero] at h
    show _=_
    unfold vY;rw[h,if_pos (by have:=HL.out;omega)]
   have HR:Hid (runesL zs=acc):=by
    have h:=HS.out;rw[List.drop_eq_nil_of_le (by have:=HL.out;omega),zAD] at h;simp only[Nat.add_zero,List.append_nil] at h
    show _=_
    unfold runesL;rw[h,if_pos (by have:=HL.out;omega)]
   have c0:=(hbw.cell (p:=⟨w.heap.size,0,none⟩) hlt).trans c0;have c1:=(hbw.cell (p:=⟨w.heap.size,1,none⟩) hlt).trans c1;have f0:=(hbw.frozen (p:=⟨w.heap.size,0,none⟩) hlt).trans f0;have f1:=(hbw.frozen (p:=⟨w.heap.size,1,none⟩) hlt).trans f1;clear hA hbw hz1 HS;go_wp2;refine bodyPost_ret (v:=.tuple #[.slice av acc.length cv,.agg #[.int .i64 0,.int .i64 0]]) (by simp[results,Tryz.results289,go_sem,c0,c1]) rfl ⟨_,by rw[HF.out],?_,?_⟩
   ·rw[HR.out]
    exact ((hown.setCell (p:=⟨w.heap.size,0,none⟩) hlt _).setCell (p:=⟨w.heap.size,1,none⟩) hlt _).mono (by omega)
   ·exact (hAw.setCell (Nat.le_refl _) _).setCell (Nat.le_refl _) _
theorem zDc (zs:List Int):jK zs=if (vY zs).1≠0 then (vY zs).2 else -1:=by
 unfold jK vY
 by_cases h:(scan zs).2=zs.length
 ·simp[h]
 ·simp[h]
theorem zDV (a:Option Addr) (len cap:Nat) (zs:List Int) (w:World) (hlen:zs.length=len) (hz:Bytes w a zs) (hbig:zs.length≤8796093022208) :
  Calls Tryz.prog 247 #[.slice a len cap] w fun e w'=>e=.returned (.int .i64 (jK zs))∧Below w.heap.size w w':=by
 have HB:=hid (zDc zs);have HL:=hid hlen;clear hlen
 go_enter Tryz.func247,Tryz.ntmps247
 go_wp2_with fail
 refine (zBZ a len cap zs _ HL.out hz hbig).mono ?_;rintro e w1 ⟨v,rfl,_,hb⟩
 generalize vY zs=r at *
 obtain⟨r1,r2⟩:=r;clear hz hbig
 by_cases h:r1=0
 ·subst h
  go_wp2;go_ret;exact⟨zH (by rw[HB.out];simp),zC hb _⟩
 ·go_wp2
  go_ret;exact⟨zH (by rw[HB.out];simp[h]),zC hb _⟩
end Utf
namespace Mod
open Go.RowKit Instr
def Md.rest (m:Md):Bool:=!(m.names.any yZ)&&(!(m.tb.any (beyond 1048576))&&(!(m.me.any (beyond 65536))&&(!(m.ex.any yP)&&((m.st||decide (m.sn=0))&&!m.has 2))))
theorem zHr {m:Md} {k:Nat} (hk:k<m.names.length) (h:yZ m.names[k]=true):m.rest=false:=by unfold Md.rest;rw[any_some hk h];rfl
theorem zH1 {m:Md} {k:Nat} (hk:k<m.tb.length) (h:beyond 1048576 m.tb[k]=true):m.rest=false:=by unfold Md.rest;rw[any_some hk h];simp
theorem zG7 {m:Md} {k:Nat} (hk:k<m.me.length) (h:beyond 65536 m.me[k]=true):m.rest=false:=by unfold Md.rest;rw[any_some hk h];simp
theorem zHK {m:Md} {k:Nat} (hk:k<m.ex.length) (h:yP m.ex[k]=true):m.rest=false:=by unfold Md.rest;rw[any_some hk h];simp
theorem rest_end {m:Md} (h1:m.names.any yZ=false) (h2:m.tb.any (beyond 1048576)=false) (h3:m.me.any (beyond 65536)=false) (h4:m.ex.any yP=false):m.rest=((m.st||decide (m.sn=0))&&!m.has 2):=by unfold Md.rest;rw[h1,h2,h3,h4];rfl
theorem zCk (m:Md) (w:World) (hm:zN w.heap.size w m) (hf:m.few) (hna:∀s∈m.names,s.size≤1000000) :
  Calls Tryz.prog 181 #[.agg m.v] w fun x w'=>x=.returned (.bool m.rest)∧Below w.heap.size w w':=by
 have hb0:=(Below.refl w.heap.size w).alloc (Nat.le_refl _) (.cells m.v 40);have HB:=hid hb0;have HM:=hid (hm.on hb0);have HX:=hid (zB.made w m.v 40);have C:=hid (YH m _ (hm.on hb0) hf);have D:=hid (fun (W:World) (h:zN W.heap.size W m)=>Ze m 2 W h hf);have HLF:=hid (zA0 hf);have HLS:=hid hna;have HEND:=hid (fun h1 h2 h3 h4=>rest_end (m:=m) h1 h2 h3 h4);have TNA:=hid (fun k hk h=>zHr (m:=m) (k:=k) hk h);have TTB:=hid (fun k hk h=>zH1 (m:=m) (k:=k) hk h);have TME:=hid (fun k hk h=>zG7 (m:=m) (k:=k) hk h);have TEX:=hid (fun k hk h=>zHK (m:=m) (k:=k) hk h);have btb:=hf.fit.tb;have bme:=hf.fit.me;have bex:=hf.fit.ex;have X0:=(zB.made w m.v 40);unfold Md.v at HB HX HM X0 C D ⊢;clear hm hf hb0 hna;obtain⟨x0,x1,x2,x3,x4,x5,x6,x7,x8,x9,x10⟩:=Mod.jr X0;clear X0
 go_enter Tryz.func181,Tryz.ntmps181
 go_wp2_with fail
 refine C.out.mono ?_;rintro e w1 ⟨a,c,rfl,hr,hb1⟩;have HX1:=hid (HX.out.keep hb1);have HB1:=hid (HB.out.trans (hb1.mono HB.out.size));have HM1:=hid (HM.out.on hb1);have RN:=hid hr;clear C hr hb1 HX HB HM x0 x1 x2 x3 x4 x5 x6 x7 x8 x9 x10;obtain⟨ln,hln⟩:∃n,m.names.length=n:=⟨_,rfl⟩;have Lln:=hid hln;have bln:ln≤3000000:=by have:=HLF.out;omega
 rw[hln];clear HLF hln;obtain⟨lb,hlb⟩:∃n,m.tb.length=n:=⟨_,rfl⟩;have Llb:=hid hlb;rw[hlb] at btb D HX1;have Rtb:=hid HM1.out.tb;have Xtb:=hid (HX1.out 3 _ rfl);clear hlb;obtain⟨lm,hlm⟩:∃n,m.me.length=n:=⟨_,rfl⟩;have Llm:=hid hlm;rw[hlm] at bme D HX1;have Rme:=hid HM1.out.me;have Xme:=hid (HX1.out 4 _ rfl);clear hlm;obtain⟨lx,hlx⟩:∃n,m.ex.length=n:=⟨_,rfl⟩;have Llx:=hid hlx;rw[hlx] at bex D HX1;have Rex:=hid HM1.out.ex;have Xex:=hid (HX1.out 6 _ rfl);clear hlx;go_wp2
 go_loopw [4] (fun vi wr=>∃k:Nat,vi=.int .i64 k∧k≤ln∧Hid (∀j (hj:j<m.names.length),j<k→yZ m.names[j]=false)∧Hid (Below w1.heap.size w1 wr)) (fun vi _=>ln-(intOf vi).toNat)
 case atStart=>exact⟨0,rfl,Nat.zero_le _,jw _ _,Below.refl _ _⟩
 case round =>
  obtain⟨k,rfl,hk,HQ,HW⟩:=hrel
  by_cases hlt:k<ln
  ·have hkl:k<m.names.length:=by rw[Lln.out];exact hlt
   obtain⟨b,off,rfl,hb,hc⟩:=zGh RN.out hkl;have hsz:=HLS.out m.names[k] (List.getElem_mem hkl);obtain⟨x,hxe⟩:∃x,m.names[k]=x:=⟨_,rfl⟩;have HXE:=hid hxe;rw[hxe] at hc hsz;have hki:(k:Int)<(ln:Int):=by omega
   have HT:=hid (fun (h:yZ x=true)=>TNA.out k hkl (show yZ m.names[k]=true by rw[HXE.out];exact h));have HO:=hid (fun (h:yZ x=false)=>yy (p:=yZ) hkl HQ.out (show yZ m.names[k]=false by rw[HXE.out];exact h));have c0:=kP HW.out hc;obtain⟨b2,c2,w2,e2,hz,hb2⟩:=zCN (numsOf x) (YV x) (by rw[numsOf_length];omega) wr;rw[Jf] at e2;have C:=hid (Utf.zDV _ _ c2 (numsOf x) w2 rfl hz (by rw[numsOf_length];omega));have HWT:Hid (yZ x=decide (0≤Utf.jK (numsOf x))):=rfl;obtain⟨q,hq⟩:∃q,Utf.jK (numsOf x)=q:=⟨_,rfl⟩;rw[hq] at C HWT;obtain⟨l2,hl2⟩:∃n,(numsOf x).length=n:=⟨_,rfl⟩;rw[hl2] at C e2;have HW2:=hid (HW.out.trans (hb2.mono HW.out.size));clear hc hq hl2 hkl hxe HXE hz hb2 hb hsz HQ
   by_cases g:0≤q
   ·have HE:=hid (HT.out (by rw[HWT.out];simp[g]))
    clear HT HO HWT
    go_wp2_with fail
    refine C.out.mono ?_;rintro e1 w3 ⟨rfl,hb3⟩;have HW1:=hid (HW2.out.trans (hb3.mono HW2.out.size));clear C e2 hb3;go_wp2;go_ret;exact⟨zA HE.out.symm,HB1.out.trans (HW1.out.mono HB1.out.size)⟩
   ·have HE:=hid (HO.out (by rw[HWT.out];simp[g]))
    clear HT HO HWT
    go_wp2_with fail
    refine C.out.mono ?_;rintro e1 w3 ⟨rfl,hb3⟩;have HW1:=hid (HW2.out.trans (hb3.mono HW2.out.size));clear C e2 hb3;go_wp2
    go_roundw
    case rel=>exact⟨k+1,by go_num,by omega,HE,HW1⟩
    case measure=>simp[intOf];omega
  ·obtain rfl:k=ln:=by omega
   have HBL:=HW;have HAna:=hid (any_none (p:=yZ) (l:=m.names) (fun j hj=>HQ.out j hj (by rw[←Lln.out];exact hj)));clear HQ HW hlt hk;go_wp2
   go_loopw [5] (fun vi wr=>∃k:Nat,vi=.int .i64 k∧k≤lb∧Hid (∀j (hj:j<m.tb.length),j<k→beyond 1048576 m.tb[j]=false)∧Hid (Below w1.heap.size w1 wr)) (fun vi _=>lb-(intOf vi).toNat)
   case atStart=>exact⟨0,rfl,Nat.zero_le _,jw _ _,HBL⟩
   case round =>
    clear HBL;obtain⟨k,rfl,hk,HQ,HW⟩:=hrel;have hbx:=kP HW.out Xtb.out
    by_cases hlt:k<lb
    ·have hkl:k<m.tb.length:=by rw[Llb.out];exact hlt
     obtain⟨b,off,ha,hb,hc⟩:=Rows.get Rtb.out hkl;rw[ha] at hbx;obtain⟨x,hxe⟩:∃x,m.tb[k]=x:=⟨_,rfl⟩;have HXE:=hid hxe;rw[hxe] at hc;have hki:(k:Int)<(lb:Int):=by omega
     have HT:=hid (fun (h:beyond 1048576 x=true)=>TTB.out k hkl (show beyond 1048576 m.tb[k]=true by rw[HXE.out];exact h));have HO:=hid (fun (h:beyond 1048576 x=false)=>yy (p:=beyond 1048576) hkl HQ.out (show beyond 1048576 m.tb[k]=false by rw[HXE.out];exact h));have cc:∀j,j<3→∀v,(x.v)[j]?=some v→wr.cell? ⟨b,off+k*3+j,none⟩=some v:=fun j hj v hv=>(HW.out.cell (p:=⟨b,off+k*3+j,none⟩) hb).trans (hc j hj v hv)
     have c0:wr.cell? ⟨b,off+k*3,none⟩=some (.int .u32 x.n):=cc 0 (by omega) _ rfl;have c1:wr.cell? ⟨b,off+k*3+1,none⟩=some (.int .u32 x.x):=cc 1 (by omega) _ rfl;have c2:wr.cell? ⟨b,off+k*3+2,none⟩=some (.bool x.c):=cc 2 (by omega) _ rfl;have C:=hid (Kind.kX x.n x.x x.c 1048576 wr);have HWT:Hid (beyond 1048576 x=!Kind.qG x.n x.x x.c 1048576):=rfl;have HCT:Hid (Kind.yC x.n x.x x.c 1048576=if Kind.qG x.n x.x x.c 1048576=true then 0 else 2):=rfl;obtain⟨q,hq⟩:∃q,Kind.qG x.n x.x x.c 1048576=q:=⟨_,rfl⟩;rw[hq] at HWT HCT;clear hc cc hb ha hq hkl hxe HXE
     cases q with
     | true =>
      have HE:=hid (HO.out (by rw[HWT.out];rfl));have hct:Kind.yC x.n x.x x.c 1048576=0:=by rw[HCT.out];rfl
      rw[hct] at C;clear HT HO HWT HCT hct HQ
      go_wp2_with fail
      refine C.out.mono ?_;rintro e1 w3 ⟨rfl,hb1⟩;have HW1:=hid (HW.out.trans (hb1.mono HW.out.size));clear C hb1;go_wp2
      go_roundw
      case rel=>exact⟨k+1,by go_num,by omega,HE,HW1⟩
      case measure=>simp[intOf];omega
     | false =>
      have HE:=hid (HT.out (by rw[HWT.out];rfl));have hct:Kind.yC x.n x.x x.c 1048576=2:=by rw[HCT.out];rfl
      rw[hct] at C;clear HT HO HWT HCT hct HQ
      go_wp2_with fail
      refine C.out.mono ?_;rintro e1 w3 ⟨rfl,hb1⟩;have HW1:=hid (HW.out.trans (hb1.mono HW.out.size));clear C hb1;go_wp2;go_ret;exact⟨zA HE.out.symm,HB1.out.trans (HW1.out.mono HB1.out.size)⟩
    ·obtain rfl:k=lb:=by omega
     have HBL:=HW;have HAtb:=hid (any_none (p:=beyond 1048576) (l:=m.tb) (fun j hj=>HQ.out j hj (by rw[←Llb.out];exact hj)));clear HQ HW hlt hk;go_wp2;clear hbx
     go_loopw [6] (fun vi wr=>∃k:Nat,vi=.int .i64 k∧k≤lm∧Hid (∀j (hj:j<m.me.length),j<k→beyond 65536 m.me[j]=false)∧Hid (Below w1.heap.size w1 wr)) (fun vi _=>lm-(intOf vi).toNat)
     case atStart=>exact⟨0,rfl,Nat.zero_le _,jw _ _,HBL⟩
     case round =>
      clear HBL;obtain⟨k,rfl,hk,HQ,HW⟩:=hrel;have hbx:=kP HW.out Xme.out
      by_cases hlt:k<lm
      ·have hkl:k<m.me.length:=by rw[Llm.out];exact hlt
       obtain⟨b,off,ha,hb,hc⟩:=Rows.get Rme.out hkl;rw[ha] at hbx;obtain⟨x,hxe⟩:∃x,m.me[k]=x:=⟨_,rfl⟩;have HXE:=hid hxe;rw[hxe] at hc;have hki:(k:Int)<(lm:Int):=by omega
       have HT:=hid (fun (h:beyond 65536 x=true)=>TME.out k hkl (show beyond 65536 m.me[k]=true by rw[HXE.out];exact h));have HO:=hid (fun (h:beyond 65536 x=false)=>yy (p:=beyond 65536) hkl HQ.out (show beyond 65536 m.me[k]=false by rw[HXE.out];exact h));have cc:∀j,j<3→∀v,(x.v)[j]?=some v→wr.cell? ⟨b,off+k*3+j,none⟩=some v:=fun j hj v hv=>(HW.out.cell (p:=⟨b,off+k*3+j,none⟩) hb).trans (hc j hj v hv)
       have c0:wr.cell? ⟨b,off+k*3,none⟩=some (.int .u32 x.n):=cc 0 (by omega) _ rfl;have c1:wr.cell? ⟨b,off+k*3+1,none⟩=some (.int .u32 x.x):=cc 1 (by omega) _ rfl;have c2:wr.cell? ⟨b,off+k*3+2,none⟩=some (.bool x.c):=cc 2 (by omega) _ rfl;have C:=hid (Kind.kX x.n x.x x.c 65536 wr);have HWT:Hid (beyond 65536 x=!Kind.qG x.n x.x x.c 65536):=rfl;have HCT:Hid (Kind.yC x.n x.x x.c 65536=if Kind.qG x.n x.x x.c 65536=true then 0 else 2):=rfl;obtain⟨q,hq⟩:∃q,Kind.qG x.n x.x x.c 65536=q:=⟨_,rfl⟩;rw[hq] at HWT HCT;clear hc cc hb ha hq hkl hxe HXE
       cases q with
       | true =>
        have HE:=hid (HO.out (by rw[HWT.out];rfl));have hct:Kind.yC x.n x.x x.c 65536=0:=by rw[HCT.out];rfl
        rw[hct] at C;clear HT HO HWT HCT hct HQ
        go_wp2_with fail
        refine C.out.mono ?_;rintro e1 w3 ⟨rfl,hb1⟩;have HW1:=hid (HW.out.trans (hb1.mono HW.out.size));clear C hb1;go_wp2
        go_roundw
        case rel=>exact⟨k+1,by go_num,by omega,HE,HW1⟩
        case measure=>simp[intOf];omega
       | false =>
        have HE:=hid (HT.out (by rw[HWT.out];rfl));have hct:Kind.yC x.n x.x x.c 65536=2:=by rw[HCT.out];rfl
        rw[hct] at C;clear HT HO HWT HCT hct HQ
        go_wp2_with fail
        refine C.out.mono ?_;rintro e1 w3 ⟨rfl,hb1⟩;have HW1:=hid (HW.out.trans (hb1.mono HW.out.size));clear C hb1;go_wp2;go_ret;exact⟨zA HE.out.symm,HB1.out.trans (HW1.out.mono HB1.out.size)⟩
      ·obtain rfl:k=lm:=by omega
       have HBL:=HW;have HAme:=hid (any_none (p:=beyond 65536) (l:=m.me) (fun j hj=>HQ.out j hj (by rw[←Llm.out];exact hj)));clear HQ HW hlt hk;go_wp2;clear hbx
       go_loopw [7] (fun vi wr=>∃k:Nat,vi=.int .i64 k∧k≤lx∧Hid (∀j (hj:j<m.ex.length),j<k→yP m.ex[j]=false)∧Hid (Below w1.heap.size w1 wr)) (fun vi _=>lx-(intOf vi).toNat)
       case atStart=>exact⟨0,rfl,Nat.zero_le _,jw _ _,HBL⟩
       case round =>
        clear HBL;obtain⟨k,rfl,hk,HQ,HW⟩:=hrel;have hbx:=kP HW.out Xex.out
        by_cases hlt:k<lx
        ·have hkl:k<m.ex.length:=by rw[Llx.out];exact hlt
         obtain⟨b,off,ha,hb,hc⟩:=Rows.get Rex.out hkl;rw[ha] at hbx;obtain⟨x,hxe⟩:∃x,m.ex[k]=x:=⟨_,rfl⟩;have HXE:=hid hxe;rw[hxe] at hc;have hki:(k:Int)<(lx:Int):=by omega
         have HT:=hid (fun (h:yP x=true)=>TEX.out k hkl (show yP m.ex[k]=true by rw[HXE.out];exact h));have HO:=hid (fun (h:yP x=false)=>yy (p:=yP) hkl HQ.out (show yP m.ex[k]=false by rw[HXE.out];exact h));have cc:∀j,j<3→∀v,(x.v)[j]?=some v→wr.cell? ⟨b,off+k*3+j,none⟩=some v:=fun j hj v hv=>(HW.out.cell (p:=⟨b,off+k*3+j,none⟩) hb).trans (hc j hj v hv)
         have c1:wr.cell? ⟨b,off+k*3+1,none⟩=some (.int .i64 x.k):=cc 1 (by omega) _ rfl;have HWT:Hid (yP x=(decide (x.k<0)||decide (3<x.k))):=rfl;obtain⟨t,ht⟩:∃t,x.k=t:=⟨_,rfl⟩;rw[ht] at HWT c1;clear hc cc hb ha ht hkl hxe HXE
         by_cases g1:t<0
         ·have HE:=hid (HT.out (by rw[HWT.out];simp[g1]))
          clear HT HO HWT HQ;go_wp2;go_ret;exact⟨zA HE.out.symm,HB1.out.trans (HW.out.mono HB1.out.size)⟩
         ·by_cases g2:3<t
          ·have HE:=hid (HT.out (by rw[HWT.out];simp[g2]))
           clear HT HO HWT HQ;go_wp2;go_ret;exact⟨zA HE.out.symm,HB1.out.trans (HW.out.mono HB1.out.size)⟩
          ·have HE:=hid (HO.out (by rw[HWT.out];simp[g1,g2]))
           clear HT HO HWT HQ;go_wp2
           go_roundw
           case rel=>exact⟨k+1,by go_num,by omega,HE,HW⟩
           case measure=>simp[intOf];omega
        ·obtain rfl:k=lx:=by omega
         have HBL:=HW;have HAex:=hid (any_none (p:=yP) (l:=m.ex) (fun j hj=>HQ.out j hj (by rw[←Llx.out];exact hj)));clear HQ HW hlt hk;have HE:=hid (HEND.out HAna.out HAtb.out HAme.out HAex.out);have HX2:=hid (fun j v h=>kP HBL.out (HX1.out j v h));obtain⟨y0,y1,y2,y3,y4,y5,y6,y7,y8,y9,y10⟩:=Mod.jr HX2.out;have C:=hid (D.out wr (HM1.out.on HBL.out));clear HX2 HX1 HM1 D TNA TTB TME TEX HEND hbx;obtain⟨st,hst⟩:∃b,m.st=b:=⟨_,rfl⟩;obtain⟨sn,hsn⟩:∃b,m.sn=b:=⟨_,rfl⟩;rw[hst,hsn] at HE C;rw[hst] at y7;rw[hsn] at y8;clear hst hsn
         cases st with
         | true =>
          go_wp2_with fail
          refine C.out.mono ?_;rintro e1 w3 ⟨rfl,hb3⟩;have HW1:=hid (HBL.out.trans (hb3.mono HBL.out.size));clear C hb3;go_wp2;go_ret;exact⟨zA (by rw[HE.out];simp),HB1.out.trans (HW1.out.mono HB1.out.size)⟩
         | false =>
          by_cases g:sn=0
          ·subst g
           go_wp2_with fail
           refine C.out.mono ?_;rintro e1 w3 ⟨rfl,hb3⟩;have HW1:=hid (HBL.out.trans (hb3.mono HBL.out.size));clear C hb3;go_wp2;go_ret;exact⟨zA (by rw[HE.out];simp),HB1.out.trans (HW1.out.mono HB1.out.size)⟩
          ·have HE2:=hid (show m.rest=false by rw[HE.out];simp[g])
           clear C HE;go_wp2;go_ret;exact⟨zA HE2.out.symm,HB1.out.trans (HBL.out.mono HB1.out.size)⟩
theorem zAM {w w':World} (h:Below w.heap.size w w') (v:Array Value) (t:TypeId):Below w.heap.size w (w'.alloc (.cells v t)):=zC h _
theorem Jv (m:Md) (w:World) (hm:zN w.heap.size w m) (hf:m.fits) :
  Calls Tryz.prog 180 #[.agg m.v] w fun x w'=>x=.returned (.bool m.numbers)∧Below w.heap.size w w':=by
 have hb0:=(Below.refl w.heap.size w).alloc (Nat.le_refl _) (.cells m.v 40);have HB:=hid hb0;have HM:=hid (hm.on hb0);have HX:=hid (zB.made w m.v 40);have HF:=hid hf;unfold Md.v at HB HX HM ⊢;clear hm hf hb0
 go_enter Tryz.func180,Tryz.ntmps180
 go_wp2
 generalize w.alloc (.cells #[.slice m.ty'.a m.ty.length m.ty'.c,.slice m.im'.a m.im.length m.im'.c,.slice m.fu'.a m.fu.length m.fu'.c,.slice m.tb'.a m.tb.length m.tb'.c,.slice m.me'.a m.me.length m.me'.c,.slice m.gl'.a m.gl.length m.gl'.c,.slice m.ex'.a m.ex.length m.ex'.c,.bool m.st,.int .u32 m.sn,.slice m.el'.a m.el.length m.el'.c,.slice m.da'.a m.da.length m.da'.c] 40)=W0 at HB HM HX ⊢
 obtain⟨lt,hlt⟩:∃n,m.ty.length=n:=⟨_,rfl⟩;have Llt:=hid hlt;have blt:lt≤140737488351232:=by have:=HF.out.ty;omega
 have Xty:=hid (show W0.cell? ⟨w.heap.size,0,none⟩=some (.slice m.ty'.a lt m.ty'.c) by rw[←hlt];exact HX.out 0 _ rfl);have Rty:=hid HM.out.ty;clear hlt;obtain⟨li,hli⟩:∃n,m.im.length=n:=⟨_,rfl⟩;have Lli:=hid hli;have bli:li≤140737488351232:=by have:=HF.out.im;omega
 have Xim:=hid (show W0.cell? ⟨w.heap.size,1,none⟩=some (.slice m.im'.a li m.im'.c) by rw[←hli];exact HX.out 1 _ rfl);have Rim:=hid HM.out.im;clear hli;obtain⟨lf,hlf⟩:∃n,m.fu.length=n:=⟨_,rfl⟩;have Llf:=hid hlf;have blf:lf≤140737488351232:=by have:=HF.out.fu;omega
 have Xfu:=hid (show W0.cell? ⟨w.heap.size,2,none⟩=some (.slice m.fu'.a lf m.fu'.c) by rw[←hlf];exact HX.out 2 _ rfl);have Rfu:=hid HM.out.fu;clear hlf;clear HX
 go_loopw [3] (fun vi wr=>∃k:Nat,vi=.int .i64 k∧k≤lt∧Hid (∀j (hj:j<m.ty.length),j<k→jS m.ty[j]=false)∧Hid (Below W0.heap.size W0 wr)) (fun vi _=>lt-(intOf vi).toNat)
 case atStart=>exact⟨0,rfl,Nat.zero_le _,jw _ _,Below.refl _ _⟩
 case round =>
  obtain⟨k,rfl,hk,HQ,HW⟩:=hrel;have hbx:=kP HW.out Xty.out
  by_cases hlt:k<lt
  ·have hkl:k<m.ty.length:=by rw[Llt.out];exact hlt
   obtain⟨b,off,ha,hb,hc⟩:=Rows.get Rty.out hkl;rw[ha] at hbx;obtain⟨x,hxe⟩:∃x,m.ty[k]=x:=⟨_,rfl⟩;have HXE:=hid hxe;rw[hxe] at hc;have cc:∀j,j<2→∀v,(tyV x)[j]?=some v→wr.cell? ⟨b,off+k*2+j,none⟩=some v:=fun j hj v hv=>(HW.out.cell (p:=⟨b,off+k*2+j,none⟩) hb).trans (hc j hj v hv)
   have hki:(k:Int)<(lt:Int):=by omega
   have HT:=hid (fun (h:jS x=true)=>show m.numbers=false by unfold Md.numbers;rw[any_some hkl (show jS m.ty[k]=true by rw[HXE.out];exact h)];simp);have HO:=hid (fun (h:jS x=false)=>yy hkl HQ.out (show jS m.ty[k]=false by rw[HXE.out];exact h));have c0:wr.cell? ⟨b,off+k*2,none⟩=some (.int .i64 x.1):=cc 0 (by omega) _ rfl;have c1:wr.cell? ⟨b,off+k*2+1,none⟩=some (.int .i64 x.2):=cc 1 (by omega) _ rfl;have C:=hid (Kind.zBl x.1 x.2 wr);have HWT:Hid (jS x=!Kind.jJ x.1 x.2):=rfl;have HCT:Hid (Kind.yF x.1 x.2=if Kind.jJ x.1 x.2=true then 0 else 2):=rfl;obtain⟨q,hq⟩:∃q,Kind.jJ x.1 x.2=q:=⟨_,rfl⟩;rw[hq] at HWT HCT;clear hc cc hb ha hq hkl hxe HXE
   cases q with
   | true =>
    have HE:=hid (HO.out (by rw[HWT.out];rfl));have hct:Kind.yF x.1 x.2=0:=by rw[HCT.out];rfl
    rw[hct] at C;clear HT HO HWT HCT hct HQ
    go_wp2_with fail
    refine C.out.mono ?_;rintro e1 w1 ⟨rfl,hb1⟩;have HW1:=hid (HW.out.trans (hb1.mono HW.out.size));clear C hb1;go_wp2
    go_roundw
    case rel=>exact⟨k+1,by go_num,by omega,HE,HW1⟩
    case measure=>simp[intOf];omega
   | false =>
    have HE:=hid (HT.out (by rw[HWT.out];rfl));have hct:Kind.yF x.1 x.2=2:=by rw[HCT.out];rfl
    rw[hct] at C;clear HT HO HWT HCT hct HQ
    go_wp2_with fail
    refine C.out.mono ?_;rintro e1 w1 ⟨rfl,hb1⟩;have HW1:=hid (HW.out.trans (hb1.mono HW.out.size));clear C hb1;go_wp2;go_ret;exact⟨zA HE.out.symm,HB.out.trans (HW1.out.mono HB.out.size)⟩
  ·obtain rfl:k=lt:=by omega
   have HBL:=HW;have HAty:=hid (any_none (p:=jS) (l:=m.ty) (fun j hj=>HQ.out j hj (by rw[←Llt.out];exact hj)));clear HQ HW hlt hk;go_wp2;clear hbx
   go_loopw [4] (fun vi wr=>∃k:Nat,vi=.int .i64 k∧k≤li∧Hid (∀j (hj:j<m.im.length),j<k→jQ m.im[j]=false)∧Hid (Below W0.heap.size W0 wr)) (fun vi _=>li-(intOf vi).toNat)
   case atStart=>exact⟨0,rfl,Nat.zero_le _,jw _ _,HBL⟩
   case round =>
    clear HBL;obtain⟨k,rfl,hk,HQ,HW⟩:=hrel;have hbx:=kP HW.out Xim.out
    by_cases hlt:k<li
    ·have hkl:k<m.im.length:=by rw[Lli.out];exact hlt
     obtain⟨b,off,ha,hb,hc⟩:=Rows.get Rim.out hkl;rw[ha] at hbx;obtain⟨x,hxe⟩:∃x,m.im[k]=x:=⟨_,rfl⟩;have HXE:=hid hxe;rw[hxe] at hc;have cc:∀j,j<3→∀v,(x.v)[j]?=some v→wr.cell? ⟨b,off+k*3+j,none⟩=some v:=fun j hj v hv=>(HW.out.cell (p:=⟨b,off+k*3+j,none⟩) hb).trans (hc j hj v hv)
     have hki:(k:Int)<(li:Int):=by omega
     have HT:=hid (fun (h:jQ x=true)=>show m.numbers=false by unfold Md.numbers;rw[any_some hkl (show jQ m.im[k]=true by rw[HXE.out];exact h)];simp);have HO:=hid (fun (h:jQ x=false)=>yy hkl HQ.out (show jQ m.im[k]=false by rw[HXE.out];exact h));have c2:wr.cell? ⟨b,off+k*3+2,none⟩=some (.int .i64 x.ty):=cc 2 (by omega) _ rfl;have HWT:Hid (jQ x=(decide (x.ty<0)||decide (2147483647<x.ty))):=rfl;obtain⟨t,ht⟩:∃t,x.ty=t:=⟨_,rfl⟩;rw[ht] at HWT c2;clear hc cc hb ha ht hkl hxe HXE
     by_cases g1:t<0
     ·have HE:=hid (HT.out (by rw[HWT.out];simp[g1]))
      clear HT HO HWT HQ;go_wp2;go_ret;exact⟨zA HE.out.symm,HB.out.trans (HW.out.mono HB.out.size)⟩
     ·by_cases g2:2147483647<t
      ·have HE:=hid (HT.out (by rw[HWT.out];simp[g2]))
       clear HT HO HWT HQ;go_wp2;go_ret;exact⟨zA HE.out.symm,HB.out.trans (HW.out.mono HB.out.size)⟩
      ·have HE:=hid (HO.out (by rw[HWT.out];simp[g1,g2]))
       clear HT HO HWT HQ;go_wp2
       go_roundw
       case rel=>exact⟨k+1,by go_num,by omega,HE,HW⟩
       case measure=>simp[intOf];omega
    ·obtain rfl:k=li:=by omega
     have HBL:=HW;have HAim:=hid (any_none (p:=jQ) (l:=m.im) (fun j hj=>HQ.out j hj (by rw[←Lli.out];exact hj)));clear HQ HW hlt hk;go_wp2;clear hbx
     go_loopw [5] (fun vi wr=>∃k:Nat,vi=.int .i64 k∧k≤lf∧Hid (∀j (hj:j<m.fu.length),j<k→yR m.fu[j]=false)∧Hid (Below W0.heap.size W0 wr)) (fun vi _=>lf-(intOf vi).toNat)
     case atStart=>exact⟨0,rfl,Nat.zero_le _,jw _ _,HBL⟩
     case round =>
      clear HBL;obtain⟨k,rfl,hk,HQ,HW⟩:=hrel;have hbx:=kP HW.out Xfu.out
      by_cases hlt:k<lf
      ·have hkl:k<m.fu.length:=by rw[Llf.out];exact hlt
       obtain⟨b,off,ha,hb,hc⟩:=Rows.get Rfu.out hkl;rw[ha] at hbx;obtain⟨x,hxe⟩:∃x,m.fu[k]=x:=⟨_,rfl⟩;have HXE:=hid hxe;rw[hxe] at hc;have cc:∀j,j<3→∀v,(x.v)[j]?=some v→wr.cell? ⟨b,off+k*3+j,none⟩=some v:=fun j hj v hv=>(HW.out.cell (p:=⟨b,off+k*3+j,none⟩) hb).trans (hc j hj v hv)
       have hki:(k:Int)<(lf:Int):=by omega
       have HT:=hid (fun (h:yR x=true)=>show m.numbers=false by unfold Md.numbers;rw[any_some hkl (show yR m.fu[k]=true by rw[HXE.out];exact h)];simp);have HO:=hid (fun (h:yR x=false)=>yy hkl HQ.out (show yR m.fu[k]=false by rw[HXE.out];exact h));have c0:wr.cell? ⟨b,off+k*3,none⟩=some (.int .i64 x.ty):=cc 0 (by omega) _ rfl;have c1:wr.cell? ⟨b,off+k*3+1,none⟩=some (.int .i64 x.lo):=cc 1 (by omega) _ rfl;have c2:wr.cell? ⟨b,off+k*3+2,none⟩=some (.slice x.l.a x.l.t.len x.l.c):=cc 2 (by omega) _ rfl;have HWT:Hid (yR x=((decide (x.ty<0)||decide (2147483647<x.ty))||(decide (x.lo<0)||decide (50000<x.lo)))):=rfl;obtain⟨t,ht⟩:∃t,x.ty=t:=⟨_,rfl⟩;obtain⟨u,hu⟩:∃u,x.lo=u:=⟨_,rfl⟩;rw[ht,hu] at HWT;rw[ht] at c0;rw[hu] at c1;clear hc cc hb ha ht hu hkl hxe HXE
       skip
       by_cases g0:t<0
       ·have HE:=hid (HT.out (by rw[HWT.out];simp[g0]))
        clear HT HO HWT HQ;go_wp2
        try go_wp2
        go_ret;exact⟨zA HE.out.symm,HB.out.trans ((zAM HW.out _ _).mono HB.out.size)⟩
       ·skip
        by_cases g1:2147483647<t
        ·have HE:=hid (HT.out (by rw[HWT.out];simp[g1]))
         clear HT HO HWT HQ;go_wp2
         try go_wp2
         go_ret;exact⟨zA HE.out.symm,HB.out.trans ((zAM HW.out _ _).mono HB.out.size)⟩
        ·skip
         by_cases g2:u<0
         ·have HE:=hid (HT.out (by rw[HWT.out];simp[g2]))
          clear HT HO HWT HQ;go_wp2
          try go_wp2
          go_ret;exact⟨zA HE.out.symm,HB.out.trans ((zAM HW.out _ _).mono HB.out.size)⟩
         ·skip
          by_cases g3:50000<u
          ·have HE:=hid (HT.out (by rw[HWT.out];simp[g3]))
           clear HT HO HWT HQ;go_wp2
           try go_wp2
           go_ret;exact⟨zA HE.out.symm,HB.out.trans ((zAM HW.out _ _).mono HB.out.size)⟩
          ·have HE:=hid (HO.out (by rw[HWT.out];simp[g0,g1,g2,g3]))
           clear HT HO HWT HQ;go_wp2
           try go_wp2
           go_roundw
           case rel=>exact⟨k+1,by go_num,by omega,HE,zAM HW.out _ _⟩
           case measure=>simp[intOf];omega
      ·obtain rfl:k=lf:=by omega
       have HBL:=HW;have HAfu:=hid (any_none (p:=yR) (l:=m.fu) (fun j hj=>HQ.out j hj (by rw[←Llf.out];exact hj)));clear HQ HW hlt hk;have HE:=hid (show m.numbers=true by unfold Md.numbers;rw[HAty.out,HAim.out,HAfu.out];rfl);go_wp2;go_ret;exact⟨zA HE.out.symm,HB.out.trans (HBL.out.mono HB.out.size)⟩
theorem zAy (m:Md) (e:Int):m.has e=m.codes.any (fun l=>zJ l.t==e):=by
 unfold Md.has Md.codes;simp[List.any_append,List.any_map,Function.comp_def]
theorem zFj (m:Md):m.has 141=decide (zu m.codes=141):=by
 rw[zAy]
 by_cases h:zu m.codes=141
 ·obtain⟨y,hy,h1⟩:=Zc _ h
  rw[List.any_eq_true.2 ⟨y,hy,by simp[h1]⟩];simp[h]
 ·have:(m.codes.any fun l=>zJ l.t==141)=false:=by
   rw[List.any_eq_false];intro y hy hh;exact h (uY _ y hy (by simpa using hh))
  rw[this];simp[h]
theorem zHc (m:Md) (h:zu m.codes≠141):m.has 2=decide (zu m.codes=2):=by
 rw[zAy]
 by_cases h0:zu m.codes=0
 ·have hz:=(kU _).1 h0
  have:(m.codes.any fun l=>zJ l.t==2)=false:=by
   rw[List.any_eq_false];intro y hy hh;rw[hz y hy] at hh;simp at hh
  rw[this];simp[h0]
 ·have h2:zu m.codes=2:=by have:=qx m.codes;omega
  have:(m.codes.any fun l=>zJ l.t==2)=true:=by
   cases hh:(m.codes.any fun l=>zJ l.t==2)
   ·exfalso
    refine h0 ((kU _).2 fun y hy=>?_);rw[List.any_eq_false] at hh;have n2:=hh y hy;have n1:zJ y.t≠141:=fun e=>h (uY _ y hy e)
    have:=kK y.t;have n3:zJ y.t≠2:=by simpa using n2
    omega
   ·rfl
  rw[this];simp[h2]
theorem zAp (m:Md) (p:ByteArray→Bool):m.names.any p=m.anyName p:=by
 unfold Md.names Md.anyName Zm;rw[List.any_append,List.any_flatMap,List.any_map];simp[Function.comp_def]
def J6 (m:Md):Int:=if m.many=true then 141 else if m.long=true then 3 else if m.numbers=true then (if m.rest=true then 0 else 2) else 2
theorem zFP (m:Md):J6 m=m.check:=by
 unfold J6 Md.check Md.many Md.long;rw[zFj,zAp]
 by_cases h1:m.crowded=true
 ·simp[h1]
 by_cases h2:zu m.codes=141
 ·simp[h2]
 have h1':m.crowded=false:=by simpa using h1
 rw[h1',decide_eq_false h2];simp only[Bool.or_self,Bool.false_eq_true,if_false,h2]
 by_cases h3:m.anyName qa=true
 ·simp[h3]
 have h3':m.anyName qa=false:=by simpa using h3
 by_cases h4:m.heavy=true
 ·simp[h4]
 have h4':m.heavy=false:=by simpa using h4
 rw[h3',h4'];simp only[Bool.or_self,Bool.false_eq_true,if_false];unfold Md.numbers Md.rest Md.wrong;rw[zHc m h2,zAp]
 by_cases h5:zu m.codes=2
 ·simp[h5]
 rw[decide_eq_false h5,if_neg h5]
 by_cases h6:m.sn=0
 ·rw[decide_eq_true h6]
  cases m.anyName yZ<;>cases m.ty.any jS<;>cases m.im.any jQ<;>cases m.fu.any yR<;>cases m.ex.any yP<;>cases m.tb.any (beyond 1048576)<;>cases m.me.any (beyond 65536)<;>cases m.st<;>simp[h6]
 ·rw[decide_eq_false h6]
  cases m.anyName yZ<;>cases m.ty.any jS<;>cases m.im.any jQ<;>cases m.fu.any yR<;>cases m.ex.any yP<;>cases m.tb.any (beyond 1048576)<;>cases m.me.any (beyond 65536)<;>cases m.st<;>simp[h6]
theorem zAA (m:Md) (w:World) (hm:zN w.heap.size w m) (hf:m.few) (hna:∀s∈m.names,s.size≤1000000) :
  Calls Tryz.prog 94 #[.agg m.v] w fun x w'=>x=.returned (.int .i64 m.check)∧Below w.heap.size w w':=by
 have hb0:=(Below.refl w.heap.size w).alloc (Nat.le_refl _) (.cells m.v 40);have HB:=hid hb0;have HM:=hid (hm.on hb0);have HX:=hid (zB.made w m.v 40);have HD:=hid (zFP m);have HDD:Hid (J6 m=if m.many=true then 141 else if m.long=true then 3 else if m.numbers=true then (if m.rest=true then 0 else 2) else 2):=rfl;have K1:=hid (fun (W:World) (h:zN W.heap.size W m)=>zCO m W h hf);have K2:=hid (fun (W:World) (h:zN W.heap.size W m)=>zCh m W h hf);have K3:=hid (fun (W:World) (h:zN W.heap.size W m)=>Jv m W h hf.fit);have K4:=hid (fun (W:World) (h:zN W.heap.size W m)=>zCk m W h hf hna);have X0:=(zB.made w m.v 40);have C:=hid (K1.out _ HM.out);obtain⟨q1,h1⟩:∃q,m.many=q:=⟨_,rfl⟩;obtain⟨q2,h2⟩:∃q,m.long=q:=⟨_,rfl⟩;obtain⟨q3,h3⟩:∃q,m.numbers=q:=⟨_,rfl⟩;obtain⟨q4,h4⟩:∃q,m.rest=q:=⟨_,rfl⟩;obtain⟨z,hz⟩:∃z,m.check=z:=⟨_,rfl⟩;rw[hz];rw[h1,h2,h3,h4] at HDD;rw[hz] at HD;rw[h1] at C;rw[h2] at K2;rw[h3] at K3;rw[h4] at K4;unfold Md.v at HB HX HM X0 C K2 K3 K4 ⊢;clear hm hf hb0 hna K1 h1 h2 h3 h4 hz;obtain⟨x0,x1,x2,x3,x4,x5,x6,x7,x8,x9,x10⟩:=Mod.jr X0;clear X0
 go_enter Tryz.func94,Tryz.ntmps94
 cases q1 with
 | true =>
  go_wp2_with fail
  refine C.out.mono ?_;rintro e1 w1 ⟨rfl,hb1⟩;have HB1:=hid (HB.out.trans (hb1.mono HB.out.size));have HM1:=hid (HM.out.on hb1);have HX1:=hid (HX.out.keep hb1);clear C hb1 x0 x1 x2 x3 x4 x5 x6 x7 x8 x9 x10;have HE:=hid (show z=141 by rw[←HD.out,HDD.out];rfl);go_wp2;go_ret;exact⟨zH HE.out.symm,HB1.out⟩
 | false =>
  go_wp2_with fail
  refine C.out.mono ?_;rintro e1 w1 ⟨rfl,hb1⟩;have HB1:=hid (HB.out.trans (hb1.mono HB.out.size));have HM1:=hid (HM.out.on hb1);have HX1:=hid (HX.out.keep hb1);clear C hb1 x0 x1 x2 x3 x4 x5 x6 x7 x8 x9 x10;have C:=hid (K2.out _ HM1.out);obtain⟨x0,x1,x2,x3,x4,x5,x6,x7,x8,x9,x10⟩:=Mod.jr HX1.out
  cases q2 with
  | true =>
   go_wp2_with fail
   refine C.out.mono ?_;rintro e2 w2 ⟨rfl,hb2⟩;have HB2:=hid (HB1.out.trans (hb2.mono HB1.out.size));have HM2:=hid (HM1.out.on hb2);have HX2:=hid (HX1.out.keep hb2);clear C hb2 x0 x1 x2 x3 x4 x5 x6 x7 x8 x9 x10;have HE:=hid (show z=3 by rw[←HD.out,HDD.out];rfl);go_wp2;go_ret;exact⟨zH HE.out.symm,HB2.out⟩
  | false =>
   go_wp2_with fail
   refine C.out.mono ?_;rintro e2 w2 ⟨rfl,hb2⟩;have HB2:=hid (HB1.out.trans (hb2.mono HB1.out.size));have HM2:=hid (HM1.out.on hb2);have HX2:=hid (HX1.out.keep hb2);clear C hb2 x0 x1 x2 x3 x4 x5 x6 x7 x8 x9 x10;have C:=hid (K3.out _ HM2.out);obtain⟨x0,x1,x2,x3,x4,x5,x6,x7,x8,x9,x10⟩:=Mod.jr HX2.out
   cases q3 with
   | false =>
    go_wp2_with fail
    refine C.out.mono ?_;rintro e3 w3 ⟨rfl,hb3⟩;have HB3:=hid (HB2.out.trans (hb3.mono HB2.out.size));have HM3:=hid (HM2.out.on hb3);have HX3:=hid (HX2.out.keep hb3);clear C hb3 x0 x1 x2 x3 x4 x5 x6 x7 x8 x9 x10;have HE:=hid (show z=2 by rw[←HD.out,HDD.out];rfl);go_wp2;go_ret;exact⟨zH HE.out.symm,HB3.out⟩
   | true =>
    go_wp2_with fail
    refine C.out.mono ?_;rintro e3 w3 ⟨rfl,hb3⟩;have HB3:=hid (HB2.out.trans (hb3.mono HB2.out.size));have HM3:=hid (HM2.out.on hb3);have HX3:=hid (HX2.out.keep hb3);clear C hb3 x0 x1 x2 x3 x4 x5 x6 x7 x8 x9 x10;have C:=hid (K4.out _ HM3.out);obtain⟨x0,x1,x2,x3,x4,x5,x6,x7,x8,x9,x10⟩:=Mod.jr HX3.out
    cases q4 with
    | false =>
     go_wp2_with fail
     refine C.out.mono ?_;rintro e4 w4 ⟨rfl,hb4⟩;have HB4:=hid (HB3.out.trans (hb4.mono HB3.out.size));have HM4:=hid (HM3.out.on hb4);have HX4:=hid (HX3.out.keep hb4);clear C hb4 x0 x1 x2 x3 x4 x5 x6 x7 x8 x9 x10;have HE:=hid (show z=2 by rw[←HD.out,HDD.out];rfl);go_wp2;go_ret;exact⟨zH HE.out.symm,HB4.out⟩
    | true =>
     go_wp2_with fail
     refine C.out.mono ?_;rintro e4 w4 ⟨rfl,hb4⟩;have HB4:=hid (HB3.out.trans (hb4.mono HB3.out.size));have HM4:=hid (HM3.out.on hb4);have HX4:=hid (HX3.out.keep hb4);clear C hb4 x0 x1 x2 x3 x4 x5 x6 x7 x8 x9 x10;have HE:=hid (show z=0 by rw[←HD.out,HDD.out];rfl);go_wp2;go_ret;exact⟨zH HE.out.symm,HB4.out⟩
theorem YT {α β:Type} {f:α→β} {l r:List α} (h:l.map f=r.map f) {x:α} (hx:x∈l):∃y∈r,f y=f x:=by
 have:f x∈r.map f:=by rw[←h];exact List.mem_map_of_mem hx
 obtain⟨y,hy,e⟩:=List.mem_map.1 this;exact⟨y,hy,e⟩
theorem vG {α β:Type} {f:α→β} {l r:List α} (h:l.map f=r.map f):l.length=r.length:=by
 have:=congrArg List.length h;simpa using this
theorem zAJ {a b:Md} (h:b.bare=a.bare) {l:Lst} (hl:l∈b.codes):∃r∈a.codes,r.t.bare=l.t.bare:=by
 have e:b.codes.map Lst.bare=a.codes.map Lst.bare:=by rw[←Zw,←Zw,h]
 obtain⟨r,hr,he⟩:=YT e hl;unfold Lst.bare at he;simp only[Lst.mk.injEq,true_and] at he;exact⟨r,hr,he⟩
theorem zAe {a b:Md} (h:b.bare=a.bare) (f:a.fits):b.fits:=by
 have S:=same_iff.1 h;refine⟨by rw[S.ty];exact f.ty,by rw[S.im];exact f.im,by rw[vG S.fu];exact f.fu,by rw[S.tb];exact f.tb,by rw[S.me];exact f.me,by rw[vG S.gl];exact f.gl,by rw[S.ex];exact f.ex,by rw[vG S.el];exact f.el,by rw[vG S.da];exact f.da,fun l hl=>?_,fun e he=>?_,fun d hd=>?_,by rw[S.im];exact f.iS,by rw[S.ex];exact f.eS⟩
 ·obtain⟨r,hr,e⟩:=zAJ h hl
  rw[←qX,←e,qX];exact f.ls r hr
 ·obtain⟨x,hx,e⟩:=YT S.el he
  unfold El.bare at e;simp only[El.mk.injEq,true_and] at e;rw[←e.2];exact f.fs x hx
 ·obtain⟨x,hx,e⟩:=YT S.da hd
  unfold Da.bare at e;simp only[Da.mk.injEq,true_and] at e;rw[←e.2];exact f.bs x hx
theorem zGs {a b:Md} (h:b.bare=a.bare) (f:a.few):b.few:=by
 have S:=same_iff.1 h;refine⟨zAe h f.fit,fun l hl=>?_,?_⟩
 ·obtain⟨r,hr,e⟩:=zAJ h hl
  rw[←bare_count,←e,bare_count];exact f.cs r hr
 ·rw[S.ty,S.im,vG S.fu,S.tb,S.me,vG S.gl,S.ex,vG S.el,vG S.da]
  exact f.lens
theorem zB9 {a b:Md} (h:b.bare=a.bare) (f:a.ranged):b.ranged:=by
 have S:=same_iff.1 h;refine⟨by rw[S.tb,S.me];exact f.n0,by rw[S.ex];exact f.ei,fun e he=>?_,fun d hd=>?_,by rw[S.sn];exact f.sn⟩
 ·obtain⟨x,hx,e⟩:=YT S.el he
  unfold El.bare at e;simp only[El.mk.injEq,true_and] at e;rw[←e.2];exact f.ef x hx
 ·obtain⟨x,hx,e⟩:=YT S.da hd
  unfold Da.bare at e;simp only[Da.mk.injEq,true_and] at e;rw[←e.2];exact f.db x hx
theorem zGY {m:Md} (hf:m.fits) (hs:m.small 5000):m.few:=by
 have hl:=hs.lens;refine⟨hf,fun l h=>?_,by omega,by omega,by omega,by omega,by omega,by omega,by omega,by omega,by omega⟩;have h1:=kG l.t;have h2:=hs.ls l h;omega
theorem zCj {m:Md} (hs:m.small 5000):∀s∈m.names,s.size≤1000000:=by
 intro s h;unfold Md.names at h
 rcases List.mem_append.1 h with h|h
 ·unfold Zm at h
  obtain⟨i,hi,h⟩:=List.mem_flatMap.1 h;have:=hs.iS i hi;simp only[List.mem_cons,List.not_mem_nil,or_false] at h
  rcases h with rfl|rfl<;>omega
 ·obtain⟨e,he,rfl⟩:=List.mem_map.1 h
  have:=hs.eS e he;omega
end Mod
namespace Val
open Go.RowKit Instr Mod
open Stk (Fr R ji vP qM yu yl yW vT valid zl without yD opens)
structure J where
 cnt:Int
 e:Int
 at_:Int
structure Hv where
 n:Int
 d:Bool
def J.fault (er a:Int) (j:J):J:=if j.e=0 then ⟨j.cnt,er,a⟩ else j
def zO (n a:Int) (p:Hv×J):Hv×J:=(⟨max (p.1.n-n) 0,p.1.d⟩,if p.1.n<n∧p.1.d=false then p.2.fault 200 a else p.2)
def yX (n:Int) (p:Hv×J):Hv×J:=(⟨p.1.n+n,p.1.d⟩,p.2)
def zI (ls:List Int) (n a:Int) (j:J):Int×J:=if (ls.length:Int)≤n then (0,j.fault 6 a) else (ls.getD (ls.length-1-n.toNat) 0,j)
def jG (ls:List Int) (a:Int):List Int→J→J
 | [],j=>j
 | t::r,j=>jG ls a r (zI ls t a j).2
def yO (ls:List Int) (k a:Int):List Int→J→J
 | [],j=>j
 | t::r,j=>if j.e=0 then yO ls k a r (if (zI ls t a j).1=k then (zI ls t a j).2 else (zI ls t a j).2.fault 214 a) else j
def vV (ls tags:List Int) (last a:Int) (p:Hv×J):Hv×J :=
 (⟨0,true⟩,(zO (zI ls last a (jG ls a tags p.2)).1 a (zO 1 a (p.1,yO ls (zI ls last a (jG ls a tags p.2)).1 a tags (zI ls last a (jG ls a tags p.2)).2))).2)
def vq (m:Md) (x:Ix) (a:Int) (p:Hv×J):Hv×J :=
 if (zT m x).2=false then (p.1,p.2.fault 6 a)
 else yX (zT m x).1.2 (zO (zT m x).1.1 a (if x.op=17 then zO 1 a p else p))
def jc (m:Md) (lo:Int) (x:Ix) (a:Int) (j:J):J:=if zP m lo x=0 then j else j.fault (zP m lo x) a
def ifJ (res a:Int) (L E:Int→J→J) (p:Hv×J):Hv×J :=
 let p1:=zO 1 a p
 let j2:=if p1.2.e=0 then L res p1.2 else p1.2
 let j3:=if j2.e=0 then E res j2 else j2
 yX res (p1.1,j3)
def qH (m:Md) (lo tr:Int) (ls:List Int) (x:Ix) (L E:Int→J→J) (a:Int) (p:Hv×J):Hv×J :=
 if x.op=0 then (⟨0,true⟩,p.2)
 else if x.op=2 then yX x.res (p.1,L x.res p.2)
 else if x.op=3 then yX x.res (p.1,L 0 p.2)
 else if x.op=4 then ifJ x.res a L E p
 else if x.op=14 then vV ls x.tags x.a a p
 else if x.op=12 then (⟨0,true⟩,(zO (zI ls x.a a p.2).1 a (p.1,(zI ls x.a a p.2).2)).2)
 else if x.op=13 then yX (zI ls x.a a p.2).1 (zO (zI ls x.a a p.2).1 a (zO 1 a (p.1,(zI ls x.a a p.2).2)))
 else if x.op=15 then (⟨0,true⟩,(zO tr a p).2)
 else if x.op=16∨x.op=17 then vq m x a p
 else yX (yg x.op) (zO (yc x.op) a (p.1,jc m lo x a p.2))
def J.next (j:J):J:=⟨j.cnt+1,j.e,j.at_⟩
def Yf (results a:Int) (p:Hv×J):J :=
 if p.2.e=0 then (if 0<(zO results a p).1.n then (zO results a p).2.fault 201 a else (zO results a p).2) else p.2
def ZH (m:Md) (lo tr:Int):Il→List Int→Hv×J→Hv×J
 | .nil,_,p=>p
 | .cons x l e r,ls,p =>
  if p.2.e=0 then
   ZH m lo tr r ls (qH m lo tr ls x (fun label j=>Yf x.res (p.2.cnt+1) (ZH m lo tr l (ls++[label]) (⟨0,false⟩,j))) (fun label j=>Yf x.res (p.2.cnt+1) (ZH m lo tr e (ls++[label]) (⟨0,false⟩,j))) (p.2.cnt+1) (p.1,p.2.next))
  else p
def yE (m:Md) (lo tr:Int) (ls:List Int) (t:Il) (label results a:Int) (j:J):J:=Yf results a (ZH m lo tr t (ls++[label]) (⟨0,false⟩,j))
theorem vv (m:Md) (lo tr:Int) (x:Ix) (l e r:Il) (ls:List Int) (p:Hv×J):ZH m lo tr (.cons x l e r) ls p =
  if p.2.e=0 then ZH m lo tr r ls (qH m lo tr ls x (fun label=>yE m lo tr ls l label x.res (p.2.cnt+1)) (fun label=>yE m lo tr ls e label x.res (p.2.cnt+1)) (p.2.cnt+1) (p.1,p.2.next)) else p:=rfl
def Md.bodyJ (m:Md) (n:Nat):Int×Int :=
 let f:=m.fu.getD n ⟨0,0,⟨none,0,.nil⟩⟩
 let t:=m.ty.getD f.ty.toNat (0,0)
 let j:=yE m (t.1+f.lo) t.2 [] f.l.t t.2 t.2 0 ⟨0,0,0⟩
 (j.e,j.at_)
def zAa (f:Fr):Int:=if f.op=3 then 0 else f.re
def Out (s:St) (j:J):Prop:=j.e≠0∧s.er=j.e∧s.at_=j.at_
structure Rel (a b:Int) (ls:List Int) (fs:List Fr) (op ba re:Int) (s:St) (p:Hv×J):Prop where
 er:s.er=0
 e:p.2.e=0
 cnt:s.cnt=p.2.cnt
 l:s.l=fs++[⟨op,ba,re,p.1.d⟩]
 h:s.h=ba+p.1.n
 n0:0≤p.1.n
 v:valid s.h s.l=true
 labs:ls=s.l.map zAa
 at_:s.at_=a
 hb:s.h≤b
 z:p.2.at_=0
theorem Rel.re {a b:Int} {ls:List Int} {fs:List Fr} {op ba re:Int} {s:St} {p:Hv×J} (r:Rel a b ls fs op ba re s p):0≤re∧re≤1∧0≤ba:=by
 have:=Stk.ki r.v;rw[r.l,Stk.qP] at this;exact⟨this.2.2.1,this.2.2.2,this.1⟩
theorem Rel.base {a b:Int} {ls:List Int} {fs:List Fr} {op ba re:Int} {s:St} {p:Hv×J} (r:Rel a b ls fs op ba re s p):∀f∈s.l,f.ba≤ba:=by
 have:=Stk.J4 r.v;rw[r.l,Stk.qP] at this;rw[r.l];exact this
theorem Rel.fail {a b:Int} {ls:List Int} {fs:List Fr} {op ba re:Int} {s:St} {p:Hv×J} (r:Rel a b ls fs op ba re s p) {e:Int} (he:e≠0):Out (zv e s) (p.2.fault e a):=by
 unfold zv J.fault Out;rw[if_pos r.er,if_pos r.e];exact⟨he,rfl,r.at_⟩
theorem Yd {j:J} {e a:Int} (h:j.e≠0):j.fault e a=j:=by unfold J.fault;rw[if_neg h]
theorem Rel.pop {a b:Int} {ls:List Int} {fs:List Fr} {op ba re:Int} {s:St} {p:Hv×J} (r:Rel a b ls fs op ba re s p) {n:Int} (hn:0≤n) :
  Out (zx n s) (zO n a p).2∨Rel a b ls fs op ba re (zx n s) (zO n a p):=by
 have hl:zl s.l=⟨op,ba,re,p.1.d⟩:=by rw[r.l,Stk.qP]
 have hh:=r.h;have hn0:=r.n0;have hba:=r.re.2.2;unfold zx;rw[if_pos r.er];unfold vP;rw[if_neg (by rw[r.v];simp),if_neg (by omega),hl]
 by_cases h1:p.1.n<n∧p.1.d=false
 ·left
  have hw:without s.h n ⟨op,ba,re,p.1.d⟩=(0,200):=by unfold without;rw[if_pos ⟨by simp only;omega,h1.2⟩]
  rw[hw,if_neg (by simp)];unfold zO Out;rw[if_pos h1];unfold J.fault;rw[if_pos r.e];exact⟨by simp,rfl,r.at_⟩
 ·right
  have hw:without s.h n ⟨op,ba,re,p.1.d⟩=(if ba≤s.h-n then s.h-n else ba,0):=by
   unfold without;rw[if_neg (fun h=>h1 ⟨by have:=h.1;simp only at this;omega,h.2⟩)]
  rw[hw,if_pos rfl];have hb:=r.hb;have hv1:=(Stk.yK r.v).2.1;have hle:(if ba≤s.h-n then s.h-n else ba)≤s.h:=by split<;>omega
  have hge:ba≤(if ba≤s.h-n then s.h-n else ba):=by split<;>omega
  refine⟨rfl,?_,r.cnt.trans ?_,r.l,?_,?_,Stk.vI r.v (by simp only[St.put];omega) (by simp only[St.put];omega) (fun f hf=>Int.le_trans (r.base f hf) hge),r.labs,r.at_,by simp only[St.put];omega,?_⟩
  ·unfold zO;rw[if_neg h1];exact r.e
  ·unfold zO;rw[if_neg h1]
  ·unfold zO;simp only[St.put];split<;>omega
  ·unfold zO;simp only;omega
  ·unfold zO;rw[if_neg h1];exact r.z
theorem zHj {h k:Int} {l:List Fr} (hv:valid h l=true) (h0:0≤k) (h1:h+k≤1073741824):ji h l k=⟨h+k,l,0⟩:=by
 unfold ji;rw[if_neg (by rw[hv];simp),if_neg (by omega),if_neg (by omega)]
theorem Rel.push {a b:Int} {ls:List Int} {fs:List Fr} {op ba re:Int} {s:St} {p:Hv×J} (r:Rel a b ls fs op ba re s p) {n c:Int} (hn:0≤n) (h1:s.h+n≤c) (h2:c≤1073741824) :
  Rel a c ls fs op ba re (qL n s) (yX n p):=by
 have hh:=r.h;have hn0:=r.n0;have hba:=r.re.2.2;unfold qL;rw[if_pos r.er,zHj r.v hn (by omega)];refine⟨rfl,r.e,r.cnt,r.l,?_,?_,Stk.vI r.v (by simp only[St.put];omega) (by simp only[St.put];omega) (fun f hf=>by have:=r.base f hf;simp only[St.put];omega),r.labs,r.at_,by simp only[St.put];omega,r.z⟩
 ·simp only[St.put,yX];omega
 ·simp only[yX];omega
theorem zFt {h ba re op:Int} {d:Bool} {fs:List Fr} (hv:valid h (fs++[⟨op,ba,re,d⟩])=true):qM h (fs++[⟨op,ba,re,d⟩])=⟨ba,fs++[⟨op,ba,re,true⟩],0⟩:=by
 unfold qM;rw[if_neg (by rw[hv];simp),Stk.qP];simp
theorem zAC {h ba re op:Int} {d:Bool} {fs:List Fr} (hv:valid h (fs++[⟨op,ba,re,d⟩])=true):valid h (fs++[⟨op,ba,re,true⟩])=true:=by
 obtain⟨g,r,hl,h1,h2,h3,h4,h5⟩:=Stk.vE hv
 cases fs with
 | nil =>
  simp only[List.nil_append,List.cons.injEq] at hl;obtain⟨rfl,rfl⟩:=hl;exact Stk.uy h1 h2 (by simp) h4 rfl
 | cons g' fs' =>
  simp only[List.cons_append,List.cons.injEq] at hl;obtain⟨rfl,rfl⟩:=hl;rw[List.cons_append];refine Stk.uy h1 h2 (by simpa using h3) h4 ?_
  have hz:g'.ba=0:=by
   have:=h4;simp only[Stk.jU,Bool.or_eq_false_iff,decide_eq_false_iff_not,ne_eq,Decidable.not_not] at this;exact this.1.2
  have e0:(0:Int)=g'.ba:=hz.symm;rw[e0,Stk.Yh] at h5 ⊢;exact h5
theorem Rel.dead {a b:Int} {ls:List Int} {fs:List Fr} {op ba re:Int} {s:St} {p:Hv×J} (r:Rel a b ls fs op ba re s p):Rel a b ls fs op ba re (jl s) (⟨0,true⟩,p.2):=by
 have hh:=r.h;have hn0:=r.n0;have hv:=r.v;rw[r.l] at hv;have hb:=r.hb;have hv1:=(Stk.yK r.v).2.1;unfold jl;rw[if_pos r.er,r.l,zFt hv];refine⟨rfl,r.e,r.cnt,rfl,by simp[St.put],Int.le_refl _,Stk.vI (zAC hv) r.re.2.2 (by simp only[St.put];omega) (fun f hf=>?_),?_,r.at_,by simp only[St.put];omega,r.z⟩
 ·have:=Stk.J4 (zAC hv) f hf
  rw[Stk.qP] at this;exact this
 ·rw[r.labs,r.l];simp[St.put,zAa]
theorem Rel.fine0 {a b:Int} {ls:List Int} {fs:List Fr} {op ba re:Int} {s:St} {p:Hv×J} (r:Rel a b ls fs op ba re s p):zv 0 s=s:=by
 unfold zv;rw[if_pos r.er];have:=r.er
 cases s;simp only at this;subst this;rfl
theorem Rel.labelIn {a b:Int} {ls:List Int} {fs:List Fr} {op ba re:Int} {s:St} {p:Hv×J} (r:Rel a b ls fs op ba re s p) {n:Int} (hn:0≤n) (hl:n<(ls.length:Int)) :
  ze n s=((zI ls n a p.2).1,s)∧(zI ls n a p.2).2=p.2∧0≤(zI ls n a p.2).1∧(zI ls n a p.2).1≤1:=by
 have hlen:ls.length=s.l.length:=by rw[r.labs];simp
 have hk:s.l.length-1-n.toNat<s.l.length:=by omega
 have hg:s.l.getD (s.l.length-1-n.toNat) Fr.none=s.l[s.l.length-1-n.toNat]:=by simp[hk]
 have hg2:ls.getD (ls.length-1-n.toNat) 0=zAa s.l[s.l.length-1-n.toNat]:=by
  rw[hlen,r.labs];simp[hk]
 have hf:=Stk.uM r.v _ (List.getElem_mem hk)
 have e:yW s.h s.l n=(zAa s.l[s.l.length-1-n.toNat],0):=by
  unfold yW;rw[if_neg (by rw[r.v];simp),if_neg (by omega),hg];unfold zAa
  split<;>rfl
 unfold ze zI;rw[if_pos r.er,if_neg (by omega),hg2,e];refine⟨by rw[r.fine0],rfl,?_,?_⟩
 ·unfold zAa;split;· exact Int.le_refl _
  exact hf.2.2.1
 ·unfold zAa;split;· simp
  exact hf.2.2.2
theorem Rel.labelOut {a b:Int} {ls:List Int} {fs:List Fr} {op ba re:Int} {s:St} {p:Hv×J} (r:Rel a b ls fs op ba re s p) {n:Int} (hl:(ls.length:Int)≤n) :
  ze n s=(0,zv 6 s)∧zI ls n a p.2=(0,p.2.fault 6 a):=by
 have hlen:ls.length=s.l.length:=by rw[r.labs];simp
 unfold ze zI yW;rw[if_pos r.er,if_neg (by rw[r.v];simp),if_pos (.inr (by omega)),if_pos hl];exact⟨rfl,rfl⟩
theorem Yq {e:Int} {s:St} (h:s.er≠0):zv e s=s:=by unfold zv;rw[if_neg h]
theorem vu {n:Int} {s:St} (h:s.er≠0):zx n s=s:=by unfold zx;rw[if_neg h]
theorem zAk {n:Int} {s:St} (h:s.er≠0):qL n s=s:=by unfold qL;rw[if_neg h]
theorem Yo {s:St} (h:s.er≠0):jl s=s:=by unfold jl;rw[if_neg h]
theorem Zy {o e:Int} {s:St} (h:s.er≠0):yI o e s=s:=by unfold yI;rw[if_neg h]
theorem Zz {o:Int} {s:St} (h:s.er≠0):jo o s=s:=by unfold jo;rw[if_neg h]
theorem Z5 {n:Int} {s:St} (h:s.er≠0):ze n s=(0,s):=by unfold ze;rw[if_neg h]
theorem ZT (k:Int):∀(l:List Int) (b:Bool) {s:St},s.er≠0→(j0 k l b s).2=s
 | [],_,_,_=>rfl
 | t::r,b,s,h=>by rw[j0,Z5 h];exact ZT k r _ h
theorem zEg {t:Int×Int} {s:St} (h:s.er≠0):Zd t s=s:=by unfold Zd;rw[vu h,zAk h]
theorem zAi {m:Md} {lo re:Int} {t:Il} {s:St} (h:s.er≠0):zK m lo re t s=s:=by unfold zK;rw[zBk _ _ _ _ _ h,Zz h]
theorem ZC {n a:Int} {p:Hv×J} (h:p.2.e≠0):(zO n a p).2=p.2:=by
 unfold zO;simp only;split
 ·exact Yd h
 ·rfl
theorem Zp {ls:List Int} {n a:Int} {j:J} (h:j.e≠0):(zI ls n a j).2=j:=by
 unfold zI;split
 ·exact Yd h
 ·rfl
theorem zAq (ls:List Int) (a:Int):∀(l:List Int) {j:J},j.e≠0→jG ls a l j=j
 | [],_,_=>rfl
 | t::r,j,h=>by rw[jG,Zp h];exact zAq ls a r h
theorem qw (ls:List Int) (k a:Int) (l:List Int) {j:J} (h:j.e≠0):yO ls k a l j=j:=by
 cases l with
 | nil=>rfl
 | cons t r=>rw[yO,if_neg h]
theorem uj {j:J} {e a:Int} (h:e≠0):(j.fault e a).e≠0:=by unfold J.fault;split<;>assumption
theorem YQ {e:Int} {s:St} (h:e≠0):(zv e s).er≠0:=by unfold zv;split<;>assumption
end Val
namespace Instr
open Go.RowKit Num
theorem zBh (op:Int) (w:World):Calls Tryz.prog 314 #[.int .i64 op] w fun e w'=>e=.returned (.int .i64 (arity op))∧w=w':=by
 have hh:op<69∨op=69∨(70≤op∧op≤79)∨(80≤op∧op≤102)∨(103≤op∧op≤105)∨(106≤op∧op≤120)∨120<op:=by omega
 have H:Hid (arity op=if op=69∨(103≤op∧op≤105) then 1 else if (70≤op∧op≤79)∨(106≤op∧op≤120) then 2 else 0):=hid rfl
 rcases hh with h|h|⟨h,h'⟩|⟨h,h'⟩|⟨h,h'⟩|⟨h,h'⟩|h
 ·rw[H.out,if_neg (by omega),if_neg (by omega)]
  clear H
  go_enter Tryz.func314,Tryz.ntmps314
  go_wp2;go_ret;exact⟨rfl,rfl⟩
 ·subst h
  clear H
  go_enter Tryz.func314,Tryz.ntmps314
  go_wp2;go_ret;exact⟨rfl,rfl⟩
 ·rw[H.out,if_neg (by omega),if_pos (by omega)]
  clear H
  go_enter Tryz.func314,Tryz.ntmps314
  go_wp2;go_ret;exact⟨rfl,rfl⟩
 ·rw[H.out,if_neg (by omega),if_neg (by omega)]
  clear H
  go_enter Tryz.func314,Tryz.ntmps314
  go_wp2;go_ret;exact⟨rfl,rfl⟩
 ·rw[H.out,if_pos (by omega)]
  clear H
  go_enter Tryz.func314,Tryz.ntmps314
  go_wp2;go_ret;exact⟨rfl,rfl⟩
 ·rw[H.out,if_neg (by omega),if_pos (by omega)]
  clear H;have e1:decide (op≤105)=false:=by simp;omega
  have e2:(op==69)=false:=by simp;omega
  go_enter Tryz.func314,Tryz.ntmps314
  go_wp2;go_ret;exact⟨rfl,rfl⟩
 ·rw[H.out,if_neg (by omega),if_neg (by omega)]
  clear H;have e1:decide (op≤105)=false:=by simp;omega
  have e2:(op==69)=false:=by simp;omega
  have e3:decide (op≤79)=false:=by simp;omega
  have e4:decide (op≤120)=false:=by simp;omega
  go_enter Tryz.func314,Tryz.ntmps314
  go_wp2;go_ret;exact⟨rfl,rfl⟩
theorem zD4:∀j:Fin 66,(j.val≠1∧j.val≠26∧j.val≠27∧j.val≠32∧j.val≠33∧j.val≠34∧j.val≠35∧j.val≠36∧j.val≠40∧j.val≠44∧j.val≠45∧j.val≠46∧j.val≠47∧j.val≠54∧j.val≠58∧j.val≠59∧j.val≠63∧j.val≠64∧j.val≠65)→qW.getD j.val 0=0∧qT.getD j.val 0=0∧vz.getD j.val false=false:=by decide +kernel
theorem zCM (op:Int) (h:op≠1∧op≠26∧op≠27∧op≠32∧op≠33∧op≠34∧op≠35∧op≠36∧op≠40∧op≠44∧op≠45∧op≠46∧op≠47∧op≠54∧op≠58∧op≠59∧op≠63∧op≠64∧op≠65):vO op=0∧kJ op=0∧Yr op=false:=by
 unfold vO kJ Yr
 split
 ·exact zD4 ⟨op.toNat,by omega⟩ (by simp only;omega)
 ·exact⟨rfl,rfl,rfl⟩
theorem zBi (op:Int) (w:World):Calls Tryz.prog 293 #[.int .i64 op] w fun e w'=>e=.returned (.tuple #[.int .i64 (yc op),.int .i64 (yg op),.bool (Jt op)])∧w=w':=by
 have CN:=zBh op w;have CA:=zi op w;unfold yc yg Jt
 by_cases hp:0<Num.arity op
 ·rw[if_pos hp,if_pos hp,if_pos hp]
  obtain⟨n,hn⟩:∃n,Num.arity op=n:=⟨_,rfl⟩;rw[hn] at CN hp ⊢;clear hn CA;have C:=hid CN;clear CN
  go_enter Tryz.func293,Tryz.ntmps293
  go_wp2_with fail
  refine C.out.mono ?_;clear C;rintro e w1 ⟨rfl,rfl⟩;go_wp2
  go_ret3
  exact⟨rfl,rfl⟩
 ·rw[if_neg hp,if_neg hp,if_neg hp]
  have h0:Num.arity op=0:=by have:=uq op;omega
  rw[h0] at CN;clear hp
  by_cases hin:op≠1∧op≠26∧op≠27∧op≠32∧op≠33∧op≠34∧op≠35∧op≠36∧op≠40∧op≠44∧op≠45∧op≠46∧op≠47∧op≠54∧op≠58∧op≠59∧op≠63∧op≠64∧op≠65
  ·obtain⟨t1,t2,t3⟩:=zCM op hin
   have hs:zS op=false:=by unfold zS;simp;omega
   rw[hs] at CA;rw[t1,t2,t3];obtain⟨u,hu⟩:∃u,zf op=u:=⟨_,rfl⟩;rw[hu] at CA;clear hu hs t1 t2 t3 h0;have C:=hid CN;have D:=hid CA;clear CN CA;obtain⟨n1,n26,n27,n32,n33,n34,n35,n36,n40,n44,n45,n46,n47,n54,n58,n59,n63,n64,n65⟩:=hin;have e1:(op==1)=false:=by simpa using n1
   have e26:(op==26)=false:=by simpa using n26
   have e27:(op==27)=false:=by simpa using n27
   have e32:(op==32)=false:=by simpa using n32
   have e33:(op==33)=false:=by simpa using n33
   have e34:(op==34)=false:=by simpa using n34
   have e35:(op==35)=false:=by simpa using n35
   have e36:(op==36)=false:=by simpa using n36
   have e40:(op==40)=false:=by simpa using n40
   have e44:(op==44)=false:=by simpa using n44
   have e45:(op==45)=false:=by simpa using n45
   have e46:(op==46)=false:=by simpa using n46
   have e47:(op==47)=false:=by simpa using n47
   have e54:(op==54)=false:=by simpa using n54
   have e58:(op==58)=false:=by simpa using n58
   have e59:(op==59)=false:=by simpa using n59
   have e63:(op==63)=false:=by simpa using n63
   have e64:(op==64)=false:=by simpa using n64
   have e65:(op==65)=false:=by simpa using n65
   go_enter Tryz.func293,Tryz.ntmps293
   go_wp2_with fail
   refine C.out.mono ?_;clear C;rintro e w1 ⟨rfl,rfl⟩
   go_wp2_with fail
   refine D.out.mono ?_;clear D;rintro e w1 ⟨rfl,rfl⟩;go_wp2
   go_ret3
   exact⟨rfl,rfl⟩
  ·have hor:op=1∨op=26∨op=27∨op=32∨op=33∨op=34∨op=35∨op=36∨op=40∨op=44∨op=45∨op=46∨op=47∨op=54∨op=58∨op=59∨op=63∨op=64∨op=65:=by omega
   clear hin h0
   rcases hor with rfl|rfl|rfl|rfl|rfl|rfl|rfl|rfl|rfl|rfl|rfl|rfl|rfl|rfl|rfl|rfl|rfl|rfl|rfl
   all_goals
    have C:=hid CN;have D:=hid CA;clear CN CA
    go_enter Tryz.func293,Tryz.ntmps293
    go_wp2_with fail
    refine C.out.mono ?_;clear C;rintro e w1 ⟨rfl,rfl⟩
    go_wp2_with fail
    refine D.out.mono ?_;clear D;rintro e w1 ⟨rfl,rfl⟩;go_wp2
    go_ret3
    exact⟨by kernel_rfl,rfl⟩
end Instr
end Go.Proofs.YtdljneclfgneoaaGreatDoor
