import Derived.Test.YtdljneclfgneoaaGreatDoorVt02
import Derived.Shelf.Abstract
import Derived.Shelf.RegionOpen
set_option linter.unusedVariables false
set_option linter.ambiguousOpen false
set_option maxRecDepth 100000
set_option maxHeartbeats 8000000
namespace Go.Proofs.YtdljneclfgneoaaGreatDoor
namespace Instr
end Instr
namespace Mod
open Go.RowKit Go.Shelf Instr
theorem zIj (l:List (Int×Int)) (a:Option Addr) (n c:Nat) (w:World) (hn:l.length=n) (hr:Rows w.heap.size w a 2 (l.map tyV)) (hlen:n≤140737488351232) (g:Nat) (lb:Array Value)
  (eg:∀args w,(callFunc g args).run Tryz.prog w=.ok (.enter g args) w) (p:(Int×Int)→Bool)
  (hp:∀W x,x∈l→Below w.heap.size w W→Calls Tryz.prog g (#[.agg #[.int .i64 x.1,.int .i64 x.2]]++lb) W fun e w'=>e=.returned (.bool (p x))∧Below W.heap.size W w') :
  Calls Tryz.prog 234 #[.slice a n c,.func (.func g) #[] lb] w fun e w'=>e=.returned (.int .i64 (vB p l))∧Below w.heap.size w w':=by
 have HR:=hid hr;have HP:=hid hp;have HN:=hid hn;clear hr hp hn
 go_enter Tryz.func234,Tryz.ntmps234
 go_wp2
 go_loopw [5,8] (fun _ vi wr=>∃k:Nat,vi=.int .i64 k∧k≤n∧Hid (Below w.heap.size w wr)∧Hid (∀j (hj:j<l.length),j<k→p l[j]=false)) (fun _ vi _=>n-(intOf vi).toNat)
 case atStart=>exact⟨0,rfl,Nat.zero_le _,Below.refl _ _,fun j _ h=>absurd h (Nat.not_lt_zero _)⟩
 case round =>
  obtain⟨k,rfl,hk,HB,HA⟩:=hrel
  by_cases hlt:k<n
  ·have hkl:k<l.length:=by rw[HN.out];exact hlt
   obtain⟨b,off,rfl,hb,hc⟩:=Rows.get HR.out hkl;have hx:l[k]∈l:=List.getElem_mem hkl;have C:=hid (HP.out wr l[k] hx HB.out);obtain⟨x,hxe⟩:∃x,l[k]=x:=⟨_,rfl⟩;rw[hxe] at hc C;have HX:=hid hxe;have cc:∀j,j<2→∀v,(tyV x)[j]?=some v→wr.cell? ⟨b,off+k*2+j,none⟩=some v:=fun j hj v hv=>(HB.out.cell (p:=⟨b,off+k*2+j,none⟩) hb).trans (hc j hj v hv)
   have c0:wr.cell? ⟨b,off+k*2,none⟩=some (.int .i64 x.1):=cc 0 (by omega) _ rfl;have c1:wr.cell? ⟨b,off+k*2+1,none⟩=some (.int .i64 x.2):=cc 1 (by omega) _ rfl;have hki:(k:Int)<(n:Int):=by omega
   obtain⟨q,hq⟩:∃q,p x=q:=⟨_,rfl⟩;rw[hq] at C;have HQ:=hid hq;clear hq hxe hx hc cc hb HR HP
   cases q with
   | true =>
    go_wp2_with (go_at_fn g;refine C.out.mono ?_;rintro e w' ⟨rfl,hb'⟩)
    go_ret;exact⟨zH (vm hkl (by rw[HX.out];exact HQ.out) HA.out).symm,HB.out.trans (hb'.mono HB.out.size)⟩
   | false =>
    go_wp2_with (go_at_fn g;refine C.out.mono ?_;rintro e w' ⟨rfl,hb'⟩)
    go_roundw
    case rel =>
     refine⟨k+1,by go_num,by omega,HB.out.trans (hb'.mono HB.out.size),hid fun j hj hjk=>?_⟩
     by_cases e:j=k
     ·subst e;rw[HX.out];exact HQ.out
     ·exact HA.out j hj (by omega)
    case measure=>simp[intOf];omega
  ·obtain rfl:k=n:=by omega
   go_wp2;go_ret;exact⟨zH (kN (fun j hj=>HA.out j hj (by rw[←HN.out];exact hj))).symm,HB.out⟩
theorem zIZ (l:List (Int×Int)) (a:Option Addr) (n c:Nat) (w:World) (hn:l.length=n) (hr:Rows w.heap.size w a 2 (l.map tyV)) (hlen:n≤140737488351232) (g:Nat) (lb:Array Value)
  (eg:∀args w,(callFunc g args).run Tryz.prog w=.ok (.enter g args) w) (p:(Int×Int)→Bool)
  (hp:∀W x,x∈l→Below w.heap.size w W→Calls Tryz.prog g (#[.agg #[.int .i64 x.1,.int .i64 x.2]]++lb) W fun e w'=>e=.returned (.bool (p x))∧Below W.heap.size W w') :
  Calls Tryz.prog 161 #[.slice a n c,.func (.func g) #[] lb] w fun e w'=>e=.returned (.bool (l.any p))∧Below w.heap.size w w':=by
 have C:=hid (zIj l a n c w hn hr hlen g lb eg p hp);rw[←vf];have hb:=qU p l;obtain⟨i,hi⟩:∃i,vB p l=i:=⟨_,rfl⟩;rw[hi] at C hb ⊢;have HB:=hid hb;clear hi hb hn hr hp
 go_enter Tryz.func161,Tryz.ntmps161
 go_wp2_with fail
 refine C.out.mono ?_;rintro e w1 ⟨rfl,hb1⟩;go_wp2;go_ret;exact⟨rfl,hb1⟩
theorem zIs (l:List (Imp)) (a:Option Addr) (n c:Nat) (w:World) (hn:l.length=n) (hr:Rows w.heap.size w a 3 (l.map Imp.v)) (hlen:n≤140737488351232) (g:Nat) (lb:Array Value)
  (eg:∀args w,(callFunc g args).run Tryz.prog w=.ok (.enter g args) w) (p:(Imp)→Bool)
  (hp:∀W x,x∈l→Below w.heap.size w W→Calls Tryz.prog g (#[.agg #[.string x.mo,.string x.na,.int .i64 x.ty]]++lb) W fun e w'=>e=.returned (.bool (p x))∧Below W.heap.size W w') :
  Calls Tryz.prog 236 #[.slice a n c,.func (.func g) #[] lb] w fun e w'=>e=.returned (.int .i64 (vB p l))∧Below w.heap.size w w':=by
 have HR:=hid hr;have HP:=hid hp;have HN:=hid hn;clear hr hp hn
 go_enter Tryz.func236,Tryz.ntmps236
 go_wp2
 go_loopw [5,8] (fun _ vi wr=>∃k:Nat,vi=.int .i64 k∧k≤n∧Hid (Below w.heap.size w wr)∧Hid (∀j (hj:j<l.length),j<k→p l[j]=false)) (fun _ vi _=>n-(intOf vi).toNat)
 case atStart=>exact⟨0,rfl,Nat.zero_le _,Below.refl _ _,fun j _ h=>absurd h (Nat.not_lt_zero _)⟩
 case round =>
  obtain⟨k,rfl,hk,HB,HA⟩:=hrel
  by_cases hlt:k<n
  ·have hkl:k<l.length:=by rw[HN.out];exact hlt
   obtain⟨b,off,rfl,hb,hc⟩:=Rows.get HR.out hkl;have hx:l[k]∈l:=List.getElem_mem hkl;have C:=hid (HP.out wr l[k] hx HB.out);obtain⟨x,hxe⟩:∃x,l[k]=x:=⟨_,rfl⟩;rw[hxe] at hc C;have HX:=hid hxe;have cc:∀j,j<3→∀v,(Imp.v x)[j]?=some v→wr.cell? ⟨b,off+k*3+j,none⟩=some v:=fun j hj v hv=>(HB.out.cell (p:=⟨b,off+k*3+j,none⟩) hb).trans (hc j hj v hv)
   have c0:wr.cell? ⟨b,off+k*3,none⟩=some (.string x.mo):=cc 0 (by omega) _ rfl;have c1:wr.cell? ⟨b,off+k*3+1,none⟩=some (.string x.na):=cc 1 (by omega) _ rfl;have c2:wr.cell? ⟨b,off+k*3+2,none⟩=some (.int .i64 x.ty):=cc 2 (by omega) _ rfl;have hki:(k:Int)<(n:Int):=by omega
   obtain⟨q,hq⟩:∃q,p x=q:=⟨_,rfl⟩;rw[hq] at C;have HQ:=hid hq;clear hq hxe hx hc cc hb HR HP
   cases q with
   | true =>
    go_wp2_with (go_at_fn g;refine C.out.mono ?_;rintro e w' ⟨rfl,hb'⟩)
    go_ret;exact⟨zH (vm hkl (by rw[HX.out];exact HQ.out) HA.out).symm,HB.out.trans (hb'.mono HB.out.size)⟩
   | false =>
    go_wp2_with (go_at_fn g;refine C.out.mono ?_;rintro e w' ⟨rfl,hb'⟩)
    go_roundw
    case rel =>
     refine⟨k+1,by go_num,by omega,HB.out.trans (hb'.mono HB.out.size),hid fun j hj hjk=>?_⟩
     by_cases e:j=k
     ·subst e;rw[HX.out];exact HQ.out
     ·exact HA.out j hj (by omega)
    case measure=>simp[intOf];omega
  ·obtain rfl:k=n:=by omega
   go_wp2;go_ret;exact⟨zH (kN (fun j hj=>HA.out j hj (by rw[←HN.out];exact hj))).symm,HB.out⟩
theorem zGl (l:List (Imp)) (a:Option Addr) (n c:Nat) (w:World) (hn:l.length=n) (hr:Rows w.heap.size w a 3 (l.map Imp.v)) (hlen:n≤140737488351232) (g:Nat) (lb:Array Value)
  (eg:∀args w,(callFunc g args).run Tryz.prog w=.ok (.enter g args) w) (p:(Imp)→Bool)
  (hp:∀W x,x∈l→Below w.heap.size w W→Calls Tryz.prog g (#[.agg #[.string x.mo,.string x.na,.int .i64 x.ty]]++lb) W fun e w'=>e=.returned (.bool (p x))∧Below W.heap.size W w') :
  Calls Tryz.prog 164 #[.slice a n c,.func (.func g) #[] lb] w fun e w'=>e=.returned (.bool (l.any p))∧Below w.heap.size w w':=by
 have C:=hid (zIs l a n c w hn hr hlen g lb eg p hp);rw[←vf];have hb:=qU p l;obtain⟨i,hi⟩:∃i,vB p l=i:=⟨_,rfl⟩;rw[hi] at C hb ⊢;have HB:=hid hb;clear hi hb hn hr hp
 go_enter Tryz.func164,Tryz.ntmps164
 go_wp2_with fail
 refine C.out.mono ?_;rintro e w1 ⟨rfl,hb1⟩;go_wp2;go_ret;exact⟨rfl,hb1⟩
theorem zIX (l:List (Fn)) (a:Option Addr) (n c:Nat) (w:World) (hn:l.length=n) (hr:Rows w.heap.size w a 3 (l.map Fn.v)) (hlen:n≤140737488351232) (g:Nat) (lb:Array Value)
  (eg:∀args w,(callFunc g args).run Tryz.prog w=.ok (.enter g args) w) (p:(Fn)→Bool)
  (hp:∀W x,x∈l→Below w.heap.size w W→Calls Tryz.prog g (#[.agg #[.int .i64 x.ty,.int .i64 x.lo,.slice x.l.a x.l.t.len x.l.c]]++lb) W fun e w'=>e=.returned (.bool (p x))∧Below W.heap.size W w') :
  Calls Tryz.prog 238 #[.slice a n c,.func (.func g) #[] lb] w fun e w'=>e=.returned (.int .i64 (vB p l))∧Below w.heap.size w w':=by
 have HR:=hid hr;have HP:=hid hp;have HN:=hid hn;clear hr hp hn
 go_enter Tryz.func238,Tryz.ntmps238
 go_wp2
 go_loopw [5,8] (fun _ vi wr=>∃k:Nat,vi=.int .i64 k∧k≤n∧Hid (Below w.heap.size w wr)∧Hid (∀j (hj:j<l.length),j<k→p l[j]=false)) (fun _ vi _=>n-(intOf vi).toNat)
 case atStart=>exact⟨0,rfl,Nat.zero_le _,Below.refl _ _,fun j _ h=>absurd h (Nat.not_lt_zero _)⟩
 case round =>
  obtain⟨k,rfl,hk,HB,HA⟩:=hrel
  by_cases hlt:k<n
  ·have hkl:k<l.length:=by rw[HN.out];exact hlt
   obtain⟨b,off,rfl,hb,hc⟩:=Rows.get HR.out hkl;have hx:l[k]∈l:=List.getElem_mem hkl;have C:=hid (HP.out wr l[k] hx HB.out);obtain⟨x,hxe⟩:∃x,l[k]=x:=⟨_,rfl⟩;rw[hxe] at hc C;have HX:=hid hxe;have cc:∀j,j<3→∀v,(Fn.v x)[j]?=some v→wr.cell? ⟨b,off+k*3+j,none⟩=some v:=fun j hj v hv=>(HB.out.cell (p:=⟨b,off+k*3+j,none⟩) hb).trans (hc j hj v hv)
   have c0:wr.cell? ⟨b,off+k*3,none⟩=some (.int .i64 x.ty):=cc 0 (by omega) _ rfl;have c1:wr.cell? ⟨b,off+k*3+1,none⟩=some (.int .i64 x.lo):=cc 1 (by omega) _ rfl;have c2:wr.cell? ⟨b,off+k*3+2,none⟩=some (.slice x.l.a x.l.t.len x.l.c):=cc 2 (by omega) _ rfl;have hki:(k:Int)<(n:Int):=by omega
   obtain⟨q,hq⟩:∃q,p x=q:=⟨_,rfl⟩;rw[hq] at C;have HQ:=hid hq;clear hq hxe hx hc cc hb HR HP
   cases q with
   | true =>
    go_wp2_with (go_at_fn g;refine C.out.mono ?_;rintro e w' ⟨rfl,hb'⟩)
    go_ret;exact⟨zH (vm hkl (by rw[HX.out];exact HQ.out) HA.out).symm,HB.out.trans (hb'.mono HB.out.size)⟩
   | false =>
    go_wp2_with (go_at_fn g;refine C.out.mono ?_;rintro e w' ⟨rfl,hb'⟩)
    go_roundw
    case rel =>
     refine⟨k+1,by go_num,by omega,HB.out.trans (hb'.mono HB.out.size),hid fun j hj hjk=>?_⟩
     by_cases e:j=k
     ·subst e;rw[HX.out];exact HQ.out
     ·exact HA.out j hj (by omega)
    case measure=>simp[intOf];omega
  ·obtain rfl:k=n:=by omega
   go_wp2;go_ret;exact⟨zH (kN (fun j hj=>HA.out j hj (by rw[←HN.out];exact hj))).symm,HB.out⟩
theorem zI2 (l:List (Fn)) (a:Option Addr) (n c:Nat) (w:World) (hn:l.length=n) (hr:Rows w.heap.size w a 3 (l.map Fn.v)) (hlen:n≤140737488351232) (g:Nat) (lb:Array Value)
  (eg:∀args w,(callFunc g args).run Tryz.prog w=.ok (.enter g args) w) (p:(Fn)→Bool)
  (hp:∀W x,x∈l→Below w.heap.size w W→Calls Tryz.prog g (#[.agg #[.int .i64 x.ty,.int .i64 x.lo,.slice x.l.a x.l.t.len x.l.c]]++lb) W fun e w'=>e=.returned (.bool (p x))∧Below W.heap.size W w') :
  Calls Tryz.prog 167 #[.slice a n c,.func (.func g) #[] lb] w fun e w'=>e=.returned (.bool (l.any p))∧Below w.heap.size w w':=by
 have C:=hid (zIX l a n c w hn hr hlen g lb eg p hp);rw[←vf];have hb:=qU p l;obtain⟨i,hi⟩:∃i,vB p l=i:=⟨_,rfl⟩;rw[hi] at C hb ⊢;have HB:=hid hb;clear hi hb hn hr hp
 go_enter Tryz.func167,Tryz.ntmps167
 go_wp2_with fail
 refine C.out.mono ?_;rintro e w1 ⟨rfl,hb1⟩;go_wp2;go_ret;exact⟨rfl,hb1⟩
theorem zIh (l:List (Ex)) (a:Option Addr) (n c:Nat) (w:World) (hn:l.length=n) (hr:Rows w.heap.size w a 3 (l.map Ex.v)) (hlen:n≤140737488351232) (g:Nat) (lb:Array Value)
  (eg:∀args w,(callFunc g args).run Tryz.prog w=.ok (.enter g args) w) (p:(Ex)→Bool)
  (hp:∀W x,x∈l→Below w.heap.size w W→Calls Tryz.prog g (#[.agg #[.string x.na,.int .i64 x.k,.int .u32 x.i]]++lb) W fun e w'=>e=.returned (.bool (p x))∧Below W.heap.size W w') :
  Calls Tryz.prog 127 #[.slice a n c,.func (.func g) #[] lb] w fun e w'=>e=.returned (.int .i64 (vB p l))∧Below w.heap.size w w':=by
 have HR:=hid hr;have HP:=hid hp;have HN:=hid hn;clear hr hp hn
 go_enter Tryz.func127,Tryz.ntmps127
 go_wp2
 go_loopw [5,8] (fun _ vi wr=>∃k:Nat,vi=.int .i64 k∧k≤n∧Hid (Below w.heap.size w wr)∧Hid (∀j (hj:j<l.length),j<k→p l[j]=false)) (fun _ vi _=>n-(intOf vi).toNat)
 case atStart=>exact⟨0,rfl,Nat.zero_le _,Below.refl _ _,fun j _ h=>absurd h (Nat.not_lt_zero _)⟩
 case round =>
  obtain⟨k,rfl,hk,HB,HA⟩:=hrel
  by_cases hlt:k<n
  ·have hkl:k<l.length:=by rw[HN.out];exact hlt
   obtain⟨b,off,rfl,hb,hc⟩:=Rows.get HR.out hkl;have hx:l[k]∈l:=List.getElem_mem hkl;have C:=hid (HP.out wr l[k] hx HB.out);obtain⟨x,hxe⟩:∃x,l[k]=x:=⟨_,rfl⟩;rw[hxe] at hc C;have HX:=hid hxe;have cc:∀j,j<3→∀v,(Ex.v x)[j]?=some v→wr.cell? ⟨b,off+k*3+j,none⟩=some v:=fun j hj v hv=>(HB.out.cell (p:=⟨b,off+k*3+j,none⟩) hb).trans (hc j hj v hv)
   have c0:wr.cell? ⟨b,off+k*3,none⟩=some (.string x.na):=cc 0 (by omega) _ rfl;have c1:wr.cell? ⟨b,off+k*3+1,none⟩=some (.int .i64 x.k):=cc 1 (by omega) _ rfl;have c2:wr.cell? ⟨b,off+k*3+2,none⟩=some (.int .u32 x.i):=cc 2 (by omega) _ rfl;have hki:(k:Int)<(n:Int):=by omega
   obtain⟨q,hq⟩:∃q,p x=q:=⟨_,rfl⟩;rw[hq] at C;have HQ:=hid hq;clear hq hxe hx hc cc hb HR HP
   cases q with
   | true =>
    go_wp2_with (go_at_fn g;refine C.out.mono ?_;rintro e w' ⟨rfl,hb'⟩)
    go_ret;exact⟨zH (vm hkl (by rw[HX.out];exact HQ.out) HA.out).symm,HB.out.trans (hb'.mono HB.out.size)⟩
   | false =>
    go_wp2_with (go_at_fn g;refine C.out.mono ?_;rintro e w' ⟨rfl,hb'⟩)
    go_roundw
    case rel =>
     refine⟨k+1,by go_num,by omega,HB.out.trans (hb'.mono HB.out.size),hid fun j hj hjk=>?_⟩
     by_cases e:j=k
     ·subst e;rw[HX.out];exact HQ.out
     ·exact HA.out j hj (by omega)
    case measure=>simp[intOf];omega
  ·obtain rfl:k=n:=by omega
   go_wp2;go_ret;exact⟨zH (kN (fun j hj=>HA.out j hj (by rw[←HN.out];exact hj))).symm,HB.out⟩
theorem zGZ (l:List (Ex)) (a:Option Addr) (n c:Nat) (w:World) (hn:l.length=n) (hr:Rows w.heap.size w a 3 (l.map Ex.v)) (hlen:n≤140737488351232) (g:Nat) (lb:Array Value)
  (eg:∀args w,(callFunc g args).run Tryz.prog w=.ok (.enter g args) w) (p:(Ex)→Bool)
  (hp:∀W x,x∈l→Below w.heap.size w W→Calls Tryz.prog g (#[.agg #[.string x.na,.int .i64 x.k,.int .u32 x.i]]++lb) W fun e w'=>e=.returned (.bool (p x))∧Below W.heap.size W w') :
  Calls Tryz.prog 170 #[.slice a n c,.func (.func g) #[] lb] w fun e w'=>e=.returned (.bool (l.any p))∧Below w.heap.size w w':=by
 have C:=hid (zIh l a n c w hn hr hlen g lb eg p hp);rw[←vf];have hb:=qU p l;obtain⟨i,hi⟩:∃i,vB p l=i:=⟨_,rfl⟩;rw[hi] at C hb ⊢;have HB:=hid hb;clear hi hb hn hr hp
 go_enter Tryz.func170,Tryz.ntmps170
 go_wp2_with fail
 refine C.out.mono ?_;rintro e w1 ⟨rfl,hb1⟩;go_wp2;go_ret;exact⟨rfl,hb1⟩
theorem zI0 (l:List (Li)) (a:Option Addr) (n c:Nat) (w:World) (hn:l.length=n) (hr:Rows w.heap.size w a 3 (l.map Li.v)) (hlen:n≤140737488351232) (g:Nat) (lb:Array Value)
  (eg:∀args w,(callFunc g args).run Tryz.prog w=.ok (.enter g args) w) (p:(Li)→Bool)
  (hp:∀W x,x∈l→Below w.heap.size w W→Calls Tryz.prog g (#[.agg #[.int .u32 x.n,.int .u32 x.x,.bool x.c]]++lb) W fun e w'=>e=.returned (.bool (p x))∧Below W.heap.size W w') :
  Calls Tryz.prog 275 #[.slice a n c,.func (.func g) #[] lb] w fun e w'=>e=.returned (.int .i64 (vB p l))∧Below w.heap.size w w':=by
 have HR:=hid hr;have HP:=hid hp;have HN:=hid hn;clear hr hp hn
 go_enter Tryz.func275,Tryz.ntmps275
 go_wp2
 go_loopw [5,8] (fun _ vi wr=>∃k:Nat,vi=.int .i64 k∧k≤n∧Hid (Below w.heap.size w wr)∧Hid (∀j (hj:j<l.length),j<k→p l[j]=false)) (fun _ vi _=>n-(intOf vi).toNat)
 case atStart=>exact⟨0,rfl,Nat.zero_le _,Below.refl _ _,fun j _ h=>absurd h (Nat.not_lt_zero _)⟩
 case round =>
  obtain⟨k,rfl,hk,HB,HA⟩:=hrel
  by_cases hlt:k<n
  ·have hkl:k<l.length:=by rw[HN.out];exact hlt
   obtain⟨b,off,rfl,hb,hc⟩:=Rows.get HR.out hkl;have hx:l[k]∈l:=List.getElem_mem hkl;have C:=hid (HP.out wr l[k] hx HB.out);obtain⟨x,hxe⟩:∃x,l[k]=x:=⟨_,rfl⟩;rw[hxe] at hc C;have HX:=hid hxe;have cc:∀j,j<3→∀v,(Li.v x)[j]?=some v→wr.cell? ⟨b,off+k*3+j,none⟩=some v:=fun j hj v hv=>(HB.out.cell (p:=⟨b,off+k*3+j,none⟩) hb).trans (hc j hj v hv)
   have c0:wr.cell? ⟨b,off+k*3,none⟩=some (.int .u32 x.n):=cc 0 (by omega) _ rfl;have c1:wr.cell? ⟨b,off+k*3+1,none⟩=some (.int .u32 x.x):=cc 1 (by omega) _ rfl;have c2:wr.cell? ⟨b,off+k*3+2,none⟩=some (.bool x.c):=cc 2 (by omega) _ rfl;have hki:(k:Int)<(n:Int):=by omega
   obtain⟨q,hq⟩:∃q,p x=q:=⟨_,rfl⟩;rw[hq] at C;have HQ:=hid hq;clear hq hxe hx hc cc hb HR HP
   cases q with
   | true =>
    go_wp2_with (go_at_fn g;refine C.out.mono ?_;rintro e w' ⟨rfl,hb'⟩)
    go_ret;exact⟨zH (vm hkl (by rw[HX.out];exact HQ.out) HA.out).symm,HB.out.trans (hb'.mono HB.out.size)⟩
   | false =>
    go_wp2_with (go_at_fn g;refine C.out.mono ?_;rintro e w' ⟨rfl,hb'⟩)
    go_roundw
    case rel =>
     refine⟨k+1,by go_num,by omega,HB.out.trans (hb'.mono HB.out.size),hid fun j hj hjk=>?_⟩
     by_cases e:j=k
     ·subst e;rw[HX.out];exact HQ.out
     ·exact HA.out j hj (by omega)
    case measure=>simp[intOf];omega
  ·obtain rfl:k=n:=by omega
   go_wp2;go_ret;exact⟨zH (kN (fun j hj=>HA.out j hj (by rw[←HN.out];exact hj))).symm,HB.out⟩
theorem zIw (l:List (Li)) (a:Option Addr) (n c:Nat) (w:World) (hn:l.length=n) (hr:Rows w.heap.size w a 3 (l.map Li.v)) (hlen:n≤140737488351232) (g:Nat) (lb:Array Value)
  (eg:∀args w,(callFunc g args).run Tryz.prog w=.ok (.enter g args) w) (p:(Li)→Bool)
  (hp:∀W x,x∈l→Below w.heap.size w W→Calls Tryz.prog g (#[.agg #[.int .u32 x.n,.int .u32 x.x,.bool x.c]]++lb) W fun e w'=>e=.returned (.bool (p x))∧Below W.heap.size W w') :
  Calls Tryz.prog 239 #[.slice a n c,.func (.func g) #[] lb] w fun e w'=>e=.returned (.bool (l.any p))∧Below w.heap.size w w':=by
 have C:=hid (zI0 l a n c w hn hr hlen g lb eg p hp);rw[←vf];have hb:=qU p l;obtain⟨i,hi⟩:∃i,vB p l=i:=⟨_,rfl⟩;rw[hi] at C hb ⊢;have HB:=hid hb;clear hi hb hn hr hp
 go_enter Tryz.func239,Tryz.ntmps239
 go_wp2_with fail
 refine C.out.mono ?_;rintro e w1 ⟨rfl,hb1⟩;go_wp2;go_ret;exact⟨rfl,hb1⟩
end Mod
end Go.Proofs.YtdljneclfgneoaaGreatDoor
