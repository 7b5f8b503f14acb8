import Derived.Test.YtepbjkkakfpjgaaGreatDoorBun16
import Derived.Test.YtepbjkkakfpjgaaGreatDoorBun01
import Derived.Test.YtepbjkkakfpjgaaGreatDoorBun12
/-
  NAME: Put by contract.
-/
namespace Go.Proofs.YtepbjkkakfpjgaaGreatDoor.Utf
open Go.RowKit Leb

set_option maxHeartbeats 800000 in
theorem Put_long (zs : List Int) (w : World) (hlong : 1048576 < zs.length) :
    Calls Tryz.prog 195 #[.string (strOfNums zs)] w fun e w' => e = .returned (.tuple #[.slice none 0 0, .int .i64 3]) ∧ Below w.heap.size w w' := by
  have hs : (strOfNums zs).size = zs.length := strOfNums_size zs
  generalize strOfNums zs = s at *
  go_enter Tryz.func195, Tryz.ntmps195
  go_wp2
  exact bodyPost_ret (v := .tuple #[.slice none 0 0, .int .i64 3]) (by simp [results, Tryz.results195, go_sem]) rfl ⟨rfl, Below.refl _ _⟩

set_option maxHeartbeats 800000 in
theorem Put_bad (zs : List Int) (hz : ∀ z ∈ zs, 0 ≤ z ∧ z < 256) (w : World) (hT : Tabs w) (hlong : zs.length ≤ 1048576) (hbad : (scan zs).2 ≠ zs.length) :
    Calls Tryz.prog 195 #[.string (strOfNums zs)] w fun e w' => e = .returned (.tuple #[.slice none 0 0, .int .i64 4]) ∧ Below w.heap.size w w' := by
  have hs : (strOfNums zs).size = zs.length := strOfNums_size zs
  have HB := hid (bad_any zs hz w hT)
  have HL := hid (badL_some hbad)
  generalize strOfNums zs = s at *
  clear hz hT hbad
  go_enter Tryz.func195, Tryz.ntmps195
  go_wp2_with fail
  refine HB.out.mono ?_
  rw [HL.out]
  rintro e w1 ⟨rfl, hb1⟩
  go_wp2
  exact bodyPost_ret (v := .tuple #[.slice none 0 0, .int .i64 4]) (by simp [results, Tryz.results195, go_sem]) rfl ⟨rfl, hb1⟩

set_option maxHeartbeats 1600000 in
theorem Put_good (zs : List Int) (hz : ∀ z ∈ zs, 0 ≤ z ∧ z < 256) (w : World) (hT : Tabs w) (hlong : zs.length ≤ 1048576) (hgood : (scan zs).2 = zs.length) :
    Calls Tryz.prog 195 #[.string (strOfNums zs)] w fun e w' => ∃ v, e = .returned (.tuple #[v, .int .i64 0]) ∧ Own w.heap.size w' v (encU zs.length ++ zs) ∧ Below w.heap.size w w' := by
  have hs : (strOfNums zs).size = zs.length := strOfNums_size zs
  have HB := hid (bad_any zs hz w hT)
  have HL := hid (badL_none hgood)
  have hw : wrap64 (zs.length : Int) = zs.length := by unfold wrap64; omega
  have HZ := hid hz
  have hsu := sizeU_pos zs.length
  clear hz hT hgood
  go_enter Tryz.func195, Tryz.ntmps195
  go_wp2_with fail
  refine HB.out.mono ?_
  rw [HL.out]
  rintro e w1 ⟨rfl, hb1⟩
  go_wp2_with fail
  refine (putU_any zs.length _ (by omega) (by omega)).mono ?_
  rintro e w2 ⟨v, rfl, ho, hb2⟩
  obtain ⟨a3, c3, rfl⟩ := ho.sliceN (encU_length zs.length)
  have hs2 := hb2.size
  clear HB HL
  go_wp2_with (first | (at_builtin; refine append_str rfl (.tmp 13) (.tmp 14) rfl rfl ho hb2 hs2 rfl HZ.out (by rw [encU_length]; omega) ?_; intro v' w3 ho3 hb3 hs3))
  exact bodyPost_ret (v := .tuple #[v', .int .i64 0]) (by simp [results, Tryz.results195, go_sem]) rfl ⟨v', rfl, ho3.mono (by have := hb1.size; omega), thenB hb1 hb3⟩
end Go.Proofs.YtepbjkkakfpjgaaGreatDoor.Utf

/-
  ENCODE: what the lower layers hand to the buffer: bytes without an error.
-/
namespace Go.Proofs.YtepbjkkakfpjgaaGreatDoor.Enc
open Go.RowKit Go.Proofs.YtepbjkkakfpjgaaGreatDoor.Leb Go.Proofs.YtepbjkkakfpjgaaGreatDoor.Instr Go.Proofs.YtepbjkkakfpjgaaGreatDoor.Mod
open Go.Proofs.YtepbjkkakfpjgaaGreatDoor.Body (encL codeL PutP)

/-- Bytes, as many as n, and no error. -/
def GotB (w : World) (zs : List Int) (n : Nat) (e : Ending) (w' : World) : Prop := ∃ a c, e = .returned (.tuple #[.slice a n c, .int .i64 0]) ∧ Bytes w' a zs ∧ Below w.heap.size w w' ∧ zs.length = n
theorem got_own {w w' : World} {zs : List Int} {n : Nat} {e : Ending} (hn : zs.length = n) (hz : ∀ z ∈ zs, 0 ≤ z ∧ z < 256) (hl : zs.length ≤ 140737488351232) (h : ∃ v, e = .returned (.tuple #[v, .int .i64 0]) ∧ Own w.heap.size w' v zs ∧ Below w.heap.size w w') : GotB w zs n e w' := by
  obtain ⟨v, rfl, ho, hb⟩ := h
  obtain ⟨a, c, rfl⟩ := ho.sliceN hn
  exact ⟨a, c, rfl, ho.bytes hz hl, hb, hn⟩
theorem type_got (x : Int × Int) (h : Kind.okType x.1 x.2 = true) (n : Nat) (hn : (tyB x).length = n) (w : World) : Calls Tryz.prog 194 #[.agg #[.int .i64 x.1, .int .i64 x.2]] w (GotB w (tyB x) n) := by
  have e1 : Kind.putZ x.1 x.2 = tyB x := by unfold Kind.putZ tyB; rw [if_pos h]
  have e2 : Kind.codeType x.1 x.2 = 0 := by unfold Kind.codeType; rw [if_pos h]
  have := Kind.put_any x.1 x.2 n (by rw [e1]; exact hn) w
  rw [e1, e2] at this
  exact this.mono fun e w' ⟨a, q, he, hb, _, hB⟩ => ⟨a, q, he, hb, hB, hn⟩
theorem lim_got (l : Li) (most : Int) (h : Kind.okLim l.n l.x l.c most = true) (h0 : 0 ≤ l.n ∧ l.n ≤ 4294967295) (h1 : 0 ≤ l.x ∧ l.x ≤ 4294967295) (n : Nat) (hn : (meB l).length = n) (w : World) :
    Calls Tryz.prog 196 #[.agg #[.int .u32 l.n, .int .u32 l.x, .bool l.c], .int .u32 most] w (GotB w (meB l) n) := by
  have e1 : Kind.limZ l.n l.x l.c most = meB l := by unfold Kind.limZ meB; rw [if_pos h]
  have e2 : Kind.codeLim l.n l.x l.c most = 0 := by unfold Kind.codeLim; rw [if_pos h]
  have := Kind.putLim_any l.n l.x l.c most n (by rw [e1]; exact hn) h0 h1 w
  rw [e1, e2] at this
  exact this.mono fun e w' ⟨a, q, he, hb, _, hB⟩ => ⟨a, q, he, hb, hB, hn⟩
theorem nameB_bytes (s : ByteArray) : ∀ z ∈ nameB s, 0 ≤ z ∧ z < 256 := by
  intro z hz
  unfold nameB at hz
  rcases List.mem_append.1 hz with h | h
  · exact encU_bytes _ z h
  · exact numsOf_bytes s z h
theorem nameB_len (s : ByteArray) : (nameB s).length ≤ s.size + 5 := by
  unfold nameB
  rw [List.length_append, encU_length, numsOf_length]
  have := (sizeU_pos s.size).2
  omega
theorem name_got (s : ByteArray) (w : World) (hU : Utf.Tabs w) (hs : s.size ≤ 1048576) (ht : noText s = false) (n : Nat) (hn : (nameB s).length = n) : Calls Tryz.prog 195 #[.string s] w (GotB w (nameB s) n) := by
  have hb : (Utf.scan (numsOf s)).2 = (numsOf s).length := (Utf.badL_neg _).1 (by
    unfold noText at ht
    have := of_decide_eq_false ht
    omega)
  have := Utf.Put_good (numsOf s) (numsOf_bytes s) w hU (by rw [numsOf_length]; exact hs) hb
  rw [str_numsOf, numsOf_length] at this
  have hl := nameB_len s
  exact this.mono fun e w' h => got_own hn (nameB_bytes s) (by omega) h
theorem insB_bytes {n₀ : Nat} {w : World} {l : Lst} (hL : ListAt n₀ w l.a l.t.len l.t) (h : checkP l.t = 0) : ∀ z ∈ insB l, 0 ≤ z ∧ z < 256 := Go.Proofs.YtepbjkkakfpjgaaGreatDoor.Body.encP_bytesC (Go.Proofs.YtepbjkkakfpjgaaGreatDoor.Body.mayT_list hL h)
theorem ins_got (l : Lst) (w : World) (hL : ListAt w.heap.size w l.a l.t.len l.t) (hl : l.t.len ≤ 140737488351232) (hT : Nams w) (hc : l.t.count ≤ 1000000) (hx : (encL l.t).length ≤ 90000) (h : checkP l.t = 0) (n : Nat) (hn : (insB l).length = n) :
    Calls Tryz.prog 197 #[.slice l.a l.t.len l.c] w (GotB w (insB l) n) := by
  have := Go.Proofs.YtepbjkkakfpjgaaGreatDoor.Body.Put_any l.t l.a l.t.len l.c w hL hl hT (by omega) (by omega)
  have e : Go.Proofs.YtepbjkkakfpjgaaGreatDoor.Body.putB l.t = insB l := by unfold Go.Proofs.YtepbjkkakfpjgaaGreatDoor.Body.putB insB; rw [if_pos h]
  rw [e, h] at this
  refine this.mono fun e w' h' => got_own hn (insB_bytes hL h) ?_ h'
  show (encL l.t ++ [11]).length ≤ _
  simp; omega
theorem code_got (f : Mod.Fn) (w : World) (hL : ListAt w.heap.size w f.l.a f.l.t.len f.l.t) (hl : f.l.t.len ≤ 140737488351232) (hT : Nams w) (hc : f.l.t.count ≤ 1000000) (hx : (encL f.l.t).length ≤ 90000) (h : checkP f.l.t = 0) (h0 : 0 ≤ f.lo) (h1 : f.lo ≤ 50000) (n : Nat) (hn : (codeL f.lo f.l.t).length = n) :
    Calls Tryz.prog 198 #[.agg #[.int .i64 f.lo, .slice f.l.a f.l.t.len f.l.c]] w (fun e w' => GotB w (codeL f.lo f.l.t) n e w' ∧ ∀ a c, e = .returned (.tuple #[.slice a n c, .int .i64 0]) → ∀ b off, a = some ⟨b, off, none⟩ → w.heap.size ≤ b) := by
  have := Go.Proofs.YtepbjkkakfpjgaaGreatDoor.Body.PutCode_any f.lo f.l.t f.l.a f.l.t.len f.l.c w hL hl hT (by omega) hx
  have e0 : Go.Proofs.YtepbjkkakfpjgaaGreatDoor.Body.checkC f.lo f.l.t = 0 := by unfold Go.Proofs.YtepbjkkakfpjgaaGreatDoor.Body.checkC; rw [if_neg (by omega)]; exact h
  have e : Go.Proofs.YtepbjkkakfpjgaaGreatDoor.Body.putC f.lo f.l.t = codeL f.lo f.l.t := by unfold Go.Proofs.YtepbjkkakfpjgaaGreatDoor.Body.putC; rw [if_pos e0]
  rw [e, e0] at this
  have hby : ∀ z ∈ codeL f.lo f.l.t, 0 ≤ z ∧ z < 256 := by
    intro z hz
    rcases List.mem_append.1 hz with hz | hz
    · exact Go.Proofs.YtepbjkkakfpjgaaGreatDoor.Body.loc_bytes f.lo z hz
    · exact Go.Proofs.YtepbjkkakfpjgaaGreatDoor.Body.encP_bytesC (Go.Proofs.YtepbjkkakfpjgaaGreatDoor.Body.mayT_list hL h) z hz
  have hle : (codeL f.lo f.l.t).length ≤ 140737488351232 := by
    have := (Go.Proofs.YtepbjkkakfpjgaaGreatDoor.Body.loc_len f.lo).1
    unfold codeL
    rw [List.length_append]
    show _ + (encL f.l.t ++ [11]).length ≤ _
    simp; omega
  refine this.mono fun e w' h' => ⟨got_own hn hby hle h', ?_⟩
  obtain ⟨v, rfl, ho, hb⟩ := h'
  intro a c hE b off ha
  subst ha
  have hv : v = .slice (some ⟨b, off, none⟩) n c := by simpa using hE
  subst hv
  exact (World.ownsRow.lt ho b rfl).1
end Go.Proofs.YtepbjkkakfpjgaaGreatDoor.Enc

/-
  ENCODE: what the buffer appends of each item, by contract (tools/gen_encitems.py).
-/
namespace Go.Proofs.YtepbjkkakfpjgaaGreatDoor.Enc
open Go.RowKit Go.Proofs.YtepbjkkakfpjgaaGreatDoor.Leb Go.Proofs.YtepbjkkakfpjgaaGreatDoor.Instr Go.Proofs.YtepbjkkakfpjgaaGreatDoor.Mod
open Go.Proofs.YtepbjkkakfpjgaaGreatDoor.Body (encL codeL)

theorem u32_id (n : Int) (h0 : 0 ≤ n) (h1 : n ≤ 2147483647) : IntKind.u32.wrap n = n := by rw [IntKind.wrap_u32]; omega
theorem u8_id (n : Int) (h0 : 0 ≤ n) (h1 : n ≤ 3) : IntKind.u8.wrap n = n := by rw [IntKind.wrap_u8]; omega
theorem Buf.apart {g B : Nat} {v : Value} {xs : List Int} {w : World} (h : Buf g B v w v xs w) : ¬ (w.heap.size = g ∨ v.ownBlock = some w.heap.size) := by
  rintro (e | e)
  · have := h.lt; omega
  · have := (World.ownsRow.lt h.own _ e).2; omega
/-- What lies below the buffer is as it was. -/
theorem Buf.deep {g B : Nat} {v v' : Value} {xs zs : List Int} {w w' W W0 : World} (h : Buf g B v w v' zs w') (hv : Own B W v xs) (hB : Below W0.heap.size W0 w) (hg : W0.heap.size < g) : Below W0.heap.size W0 w' :=
  hB.trans (h.below (Nat.le_of_lt hg) (fun q hq => by have := (World.ownsRow.lt hv q hq).1; have := h.low; omega))
theorem flat_five : ∀ l : List Int, (l.flatMap encU).length ≤ 5 * l.length
  | [] => by simp
  | n :: r => by
    rw [List.flatMap_cons, List.length_append, List.length_cons, encU_length]
    have := (sizeU_pos n).2
    have := flat_five r
    omega
theorem type_few {x : Int × Int} (h : Kind.okType x.1 x.2 = true) : (tyB x).length ≤ 100000000 := by
  obtain ⟨a, b, ha, hb, h1, h2⟩ := Kind.okType_nat h
  unfold tyB
  rw [ha, hb]
  have := Kind.typeL_le a b h1 h2
  omega
theorem bytes_at {n₀ : Nat} {w : World} {a : Option Addr} {zs : List Int} (h : BytesAt n₀ w a zs) (hz : ∀ z ∈ zs, 0 ≤ z ∧ z < 256) (hl : zs.length ≤ 140737488351232) : Bytes w a zs := by
  refine ⟨hz, hl, ?_⟩
  rcases h with h | ⟨b, off, rfl, _, hc⟩
  · exact .inl h
  · exact .inr ⟨b, off, rfl, hc⟩
set_option maxRecDepth 100000 in
set_option maxHeartbeats 2000000 in
theorem funcType_any (g B : Nat) (v : Value) (xs : List Int) (x : Int × Int) (w0 w : World) (h : Buf g B v w v xs w) (hB : Below w0.heap.size w0 w) (hg : w0.heap.size < g) (hl : xs.length ≤ 1000000000)
    (hx : Kind.okType x.1 x.2 = true) :
    Calls Tryz.prog 158 #[.pointer (some ⟨g, 0, none⟩), .agg #[.int .i64 x.1, .int .i64 x.2]] w (Puts g B v w (xs ++ tyB x)) := by
  have H := hid h
  have H1 := hid (h.lit (.cells #[.int .i64 x.1, .int .i64 x.2] 50))
  have HA0 := hid (h.lit (.cells #[.int .i64 x.1, .int .i64 x.2] 50)).again
  have HS := hid h.apart
  have HL := hid hl
  have HG := hid hg
  have HW0 := hid (hB.trans (((Below.refl w.heap.size w).alloc (Nat.le_refl _) (.cells #[.int .i64 x.1, .int .i64 x.2] 50)).mono hB.size))
  have X0 := BoxAt.made w #[.int .i64 x.1, .int .i64 x.2] 50
  have X0H := hid (X0 0 _ rfl)
  have X1H := hid (X0 1 _ rfl)
  have x0 := X0H.out
  have x1 := X1H.out
  have HX := hid hx
  have e : xs ++ tyB x = xs ++ tyB x := by rfl
  rw [e]
  have Bp := hid (show (tyB x).length ≤ 100000000 from by exact type_few hx)
  obtain ⟨p, hp⟩ : ∃ p, tyB x = p := ⟨_, rfl⟩
  have Ep := hid hp
  rw [hp] at Bp ⊢
  clear h hB hg hl X0 e hp
  skip
  go_enter Tryz.func158, Tryz.ntmps158
  clear hx
  obtain ⟨n0, hn0⟩ : ∃ n, p.length = n := ⟨_, rfl⟩
  have C := hid (type_got x HX.out n0 (by rw [Ep.out]; exact hn0) (w.alloc (.cells #[.int .i64 x.1, .int .i64 x.2] 50)))
  rw [Ep.out] at C
  go_wp2_with fail
  refine C.out.mono ?_
  rintro e1 w1 ⟨a1, c1, rfl, hy, hb, hm⟩
  have HA1 := hid (HA0.out.on hb)
  have HW1 := hid (HW0.out.trans (hb.mono HW0.out.size))
  have HY := hid hy
  have HN := hid hm
  clear C hb hy hm x0 x1
  have x0 := HA1.out.touch.cell (p := ⟨w.heap.size, 0, none⟩) HS.out X0H.out
  have x1 := HA1.out.touch.cell (p := ⟨w.heap.size, 1, none⟩) HS.out X1H.out
  have C := hid (put_anyE g B v (xs) p a1 n0 c1 0 w1 HA1.out.again HN.out HY.out (by have := HL.out; have := Bp.out; first | omega | (simp; omega)))
  go_wp2_with fail
  refine C.out.mono ?_
  rintro e1 w2 ⟨rfl, v2, hb⟩
  have HA2 := hid (HA1.out.trans hb)
  have HW2 := hid (HA2.out.deep H.out.own HW0.out HG.out)
  clear C hb x0 x1
  have x0 := HA2.out.touch.cell (p := ⟨w.heap.size, 0, none⟩) HS.out X0H.out
  have x1 := HA2.out.touch.cell (p := ⟨w.heap.size, 1, none⟩) HS.out X1H.out
  clear x0 x1
  go_wp2
  go_end0
  exact ⟨rfl, v2, H1.out.trans HA2.out⟩
set_option maxRecDepth 100000 in
set_option maxHeartbeats 2000000 in
theorem imported_any (g B : Nat) (v : Value) (xs : List Int) (x : Imp) (w0 w : World) (h : Buf g B v w v xs w) (hB : Below w0.heap.size w0 w) (hg : w0.heap.size < g) (hl : xs.length ≤ 1000000000)
    (hU : Utf.Tabs w0) (h1 : x.mo.size ≤ 1048576) (h2 : x.na.size ≤ 1048576) (h3 : noText x.mo = false) (h4 : noText x.na = false) (h5 : 0 ≤ x.ty) (h6 : x.ty ≤ 2147483647) :
    Calls Tryz.prog 160 #[.pointer (some ⟨g, 0, none⟩), .agg #[.string x.mo, .string x.na, .int .i64 x.ty]] w (Puts g B v w (xs ++ impB x)) := by
  have H := hid h
  have H1 := hid (h.lit (.cells #[.string x.mo, .string x.na, .int .i64 x.ty] 73))
  have HA0 := hid (h.lit (.cells #[.string x.mo, .string x.na, .int .i64 x.ty] 73)).again
  have HS := hid h.apart
  have HL := hid hl
  have HG := hid hg
  have HW0 := hid (hB.trans (((Below.refl w.heap.size w).alloc (Nat.le_refl _) (.cells #[.string x.mo, .string x.na, .int .i64 x.ty] 73)).mono hB.size))
  have X0 := BoxAt.made w #[.string x.mo, .string x.na, .int .i64 x.ty] 73
  have X0H := hid (X0 0 _ rfl)
  have X1H := hid (X0 1 _ rfl)
  have X2H := hid (X0 2 _ rfl)
  have x0 := X0H.out
  have x1 := X1H.out
  have x2 := X2H.out
  have HU := hid hU
  have H1a := hid h1
  have H2a := hid h2
  have H3a := hid h3
  have H4a := hid h4
  have hw := u32_id x.ty h5 h6
  have H5 := hid h5
  have H7 := hid (show x.ty < 4294967296 by omega)
  have e : xs ++ impB x = xs ++ nameB x.mo ++ nameB x.na ++ [0] ++ encU x.ty := by unfold impB; simp
  rw [e]
  have Bp := hid (show (nameB x.mo).length ≤ 100000000 from by have := nameB_len x.mo; omega)
  have Bq := hid (show (nameB x.na).length ≤ 100000000 from by have := nameB_len x.na; omega)
  have Br := hid (show (encU x.ty).length ≤ 100000000 from by rw [encU_length]; have := (sizeU_pos x.ty).2; omega)
  obtain ⟨p, hp⟩ : ∃ p, nameB x.mo = p := ⟨_, rfl⟩
  have Ep := hid hp
  rw [hp] at Bp ⊢
  obtain ⟨q, hq⟩ : ∃ p, nameB x.na = p := ⟨_, rfl⟩
  have Eq := hid hq
  rw [hq] at Bq ⊢
  obtain ⟨r, hr⟩ : ∃ p, encU x.ty = p := ⟨_, rfl⟩
  have Er := hid hr
  rw [hr] at Br ⊢
  clear h hB hg hl X0 e hp hq hr
  skip
  go_enter Tryz.func160, Tryz.ntmps160
  clear hU h1 h2 h3 h4 h5 h6
  obtain ⟨n0, hn0⟩ : ∃ n, p.length = n := ⟨_, rfl⟩
  have C := hid (name_got x.mo (w.alloc (.cells #[.string x.mo, .string x.na, .int .i64 x.ty] 73)) (HU.out.below HW0.out) H1a.out H3a.out n0 (by rw [Ep.out]; exact hn0))
  rw [Ep.out] at C
  go_wp2_with fail
  refine C.out.mono ?_
  rintro e1 w1 ⟨a1, c1, rfl, hy, hb, hm⟩
  have HA1 := hid (HA0.out.on hb)
  have HW1 := hid (HW0.out.trans (hb.mono HW0.out.size))
  have HY := hid hy
  have HN := hid hm
  clear C hb hy hm x0 x1 x2
  have x0 := HA1.out.touch.cell (p := ⟨w.heap.size, 0, none⟩) HS.out X0H.out
  have x1 := HA1.out.touch.cell (p := ⟨w.heap.size, 1, none⟩) HS.out X1H.out
  have x2 := HA1.out.touch.cell (p := ⟨w.heap.size, 2, none⟩) HS.out X2H.out
  have C := hid (put_anyE g B v (xs) p a1 n0 c1 0 w1 HA1.out.again HN.out HY.out (by have := HL.out; have := Bp.out; have := Bq.out; have := Br.out; first | omega | (simp; omega)))
  go_wp2_with fail
  refine C.out.mono ?_
  rintro e1 w2 ⟨rfl, v2, hb⟩
  have HA2 := hid (HA1.out.trans hb)
  have HW2 := hid (HA2.out.deep H.out.own HW0.out HG.out)
  clear C hb x0 x1 x2
  have x0 := HA2.out.touch.cell (p := ⟨w.heap.size, 0, none⟩) HS.out X0H.out
  have x1 := HA2.out.touch.cell (p := ⟨w.heap.size, 1, none⟩) HS.out X1H.out
  have x2 := HA2.out.touch.cell (p := ⟨w.heap.size, 2, none⟩) HS.out X2H.out
  obtain ⟨n2, hn2⟩ : ∃ n, q.length = n := ⟨_, rfl⟩
  have C := hid (name_got x.na w2 (HU.out.below HW2.out) H2a.out H4a.out n2 (by rw [Eq.out]; exact hn2))
  rw [Eq.out] at C
  go_wp2_with fail
  refine C.out.mono ?_
  rintro e1 w3 ⟨a3, c3, rfl, hy, hb, hm⟩
  have HA3 := hid (HA2.out.on hb)
  have HW3 := hid (HW2.out.trans (hb.mono HW2.out.size))
  have HY := hid hy
  have HN := hid hm
  clear C hb hy hm x0 x1 x2
  have x0 := HA3.out.touch.cell (p := ⟨w.heap.size, 0, none⟩) HS.out X0H.out
  have x1 := HA3.out.touch.cell (p := ⟨w.heap.size, 1, none⟩) HS.out X1H.out
  have x2 := HA3.out.touch.cell (p := ⟨w.heap.size, 2, none⟩) HS.out X2H.out
  have C := hid (put_anyE g B v2 (xs ++ p) q a3 n2 c3 0 w3 HA3.out.again HN.out HY.out (by have := HL.out; have := Bp.out; have := Bq.out; have := Br.out; first | omega | (simp; omega)))
  go_wp2_with fail
  refine C.out.mono ?_
  rintro e1 w4 ⟨rfl, v4, hb⟩
  have HA4 := hid (HA3.out.trans hb)
  have HW4 := hid (HA4.out.deep H.out.own HW0.out HG.out)
  clear C hb x0 x1 x2
  have x0 := HA4.out.touch.cell (p := ⟨w.heap.size, 0, none⟩) HS.out X0H.out
  have x1 := HA4.out.touch.cell (p := ⟨w.heap.size, 1, none⟩) HS.out X1H.out
  have x2 := HA4.out.touch.cell (p := ⟨w.heap.size, 2, none⟩) HS.out X2H.out
  have C := hid (byte_any g B v4 (xs ++ p ++ q) 0 w4 HA4.out.again (by omega) (by have := HL.out; have := Bp.out; have := Bq.out; have := Br.out; first | omega | (simp; omega)))
  go_wp2_with fail
  refine C.out.mono ?_
  rintro e1 w5 ⟨rfl, v5, hb⟩
  have HA5 := hid (HA4.out.trans hb)
  have HW5 := hid (HA5.out.deep H.out.own HW0.out HG.out)
  clear C hb x0 x1 x2
  have x0 := HA5.out.touch.cell (p := ⟨w.heap.size, 0, none⟩) HS.out X0H.out
  have x1 := HA5.out.touch.cell (p := ⟨w.heap.size, 1, none⟩) HS.out X1H.out
  have x2 := HA5.out.touch.cell (p := ⟨w.heap.size, 2, none⟩) HS.out X2H.out
  have C := hid (number_any g B v5 (xs ++ p ++ q ++ [0]) x.ty w5 HA5.out.again H5.out H7.out (by have := HL.out; have := Bp.out; have := Bq.out; have := Br.out; first | omega | (simp; omega)))
  rw [Er.out] at C
  go_wp2_with fail
  refine C.out.mono ?_
  rintro e1 w6 ⟨rfl, v6, hb⟩
  have HA6 := hid (HA5.out.trans hb)
  have HW6 := hid (HA6.out.deep H.out.own HW0.out HG.out)
  clear C hb x0 x1 x2
  have x0 := HA6.out.touch.cell (p := ⟨w.heap.size, 0, none⟩) HS.out X0H.out
  have x1 := HA6.out.touch.cell (p := ⟨w.heap.size, 1, none⟩) HS.out X1H.out
  have x2 := HA6.out.touch.cell (p := ⟨w.heap.size, 2, none⟩) HS.out X2H.out
  clear x0 x1 x2
  go_wp2
  go_end0
  exact ⟨rfl, v6, H1.out.trans HA6.out⟩
set_option maxRecDepth 100000 in
set_option maxHeartbeats 2000000 in
theorem typeOf_any (g B : Nat) (v : Value) (xs : List Int) (x : Mod.Fn) (w0 w : World) (h : Buf g B v w v xs w) (hB : Below w0.heap.size w0 w) (hg : w0.heap.size < g) (hl : xs.length ≤ 1000000000)
    (h5 : 0 ≤ x.ty) (h6 : x.ty ≤ 2147483647) :
    Calls Tryz.prog 162 #[.pointer (some ⟨g, 0, none⟩), .agg #[.int .i64 x.ty, .int .i64 x.lo, x.l.val]] w (Puts g B v w (xs ++ fnB x)) := by
  have H := hid h
  have H1 := hid (h.lit (.cells #[.int .i64 x.ty, .int .i64 x.lo, x.l.val] 66))
  have HA0 := hid (h.lit (.cells #[.int .i64 x.ty, .int .i64 x.lo, x.l.val] 66)).again
  have HS := hid h.apart
  have HL := hid hl
  have HG := hid hg
  have HW0 := hid (hB.trans (((Below.refl w.heap.size w).alloc (Nat.le_refl _) (.cells #[.int .i64 x.ty, .int .i64 x.lo, x.l.val] 66)).mono hB.size))
  have X0 := BoxAt.made w #[.int .i64 x.ty, .int .i64 x.lo, x.l.val] 66
  have X0H := hid (X0 0 _ rfl)
  have X1H := hid (X0 1 _ rfl)
  have X2H := hid (X0 2 _ rfl)
  have x0 := X0H.out
  have x1 := X1H.out
  have x2 := X2H.out
  have hw := u32_id x.ty h5 h6
  have H5 := hid h5
  have H7 := hid (show x.ty < 4294967296 by omega)
  have e : xs ++ fnB x = xs ++ encU x.ty := by rfl
  rw [e]
  have Br := hid (show (encU x.ty).length ≤ 100000000 from by rw [encU_length]; have := (sizeU_pos x.ty).2; omega)
  obtain ⟨r, hr⟩ : ∃ p, encU x.ty = p := ⟨_, rfl⟩
  have Er := hid hr
  rw [hr] at Br ⊢
  clear h hB hg hl X0 e hr
  skip
  go_enter Tryz.func162, Tryz.ntmps162
  clear h5 h6
  have C := hid (number_any g B v (xs) x.ty (w.alloc (.cells #[.int .i64 x.ty, .int .i64 x.lo, x.l.val] 66)) HA0.out.again H5.out H7.out (by have := HL.out; have := Br.out; first | omega | (simp; omega)))
  rw [Er.out] at C
  go_wp2_with fail
  refine C.out.mono ?_
  rintro e1 w1 ⟨rfl, v1, hb⟩
  have HA1 := hid (HA0.out.trans hb)
  have HW1 := hid (HA1.out.deep H.out.own HW0.out HG.out)
  clear C hb x0 x1 x2
  have x0 := HA1.out.touch.cell (p := ⟨w.heap.size, 0, none⟩) HS.out X0H.out
  have x1 := HA1.out.touch.cell (p := ⟨w.heap.size, 1, none⟩) HS.out X1H.out
  have x2 := HA1.out.touch.cell (p := ⟨w.heap.size, 2, none⟩) HS.out X2H.out
  clear x0 x1 x2
  go_wp2
  go_end0
  exact ⟨rfl, v1, H1.out.trans HA1.out⟩
set_option maxRecDepth 100000 in
set_option maxHeartbeats 2000000 in
theorem table_any (g B : Nat) (v : Value) (xs : List Int) (x : Li) (w0 w : World) (h : Buf g B v w v xs w) (hB : Below w0.heap.size w0 w) (hg : w0.heap.size < g) (hl : xs.length ≤ 1000000000)
    (hx : Kind.okLim x.n x.x x.c 1048576 = true) (ha : 0 ≤ x.n ∧ x.n ≤ 4294967295) (hb2 : 0 ≤ x.x ∧ x.x ≤ 4294967295) :
    Calls Tryz.prog 164 #[.pointer (some ⟨g, 0, none⟩), .agg #[.int .u32 x.n, .int .u32 x.x, .bool x.c]] w (Puts g B v w (xs ++ tbB x)) := by
  have H := hid h
  have H1 := hid (h.lit (.cells #[.int .u32 x.n, .int .u32 x.x, .bool x.c] 60))
  have HA0 := hid (h.lit (.cells #[.int .u32 x.n, .int .u32 x.x, .bool x.c] 60)).again
  have HS := hid h.apart
  have HL := hid hl
  have HG := hid hg
  have HW0 := hid (hB.trans (((Below.refl w.heap.size w).alloc (Nat.le_refl _) (.cells #[.int .u32 x.n, .int .u32 x.x, .bool x.c] 60)).mono hB.size))
  have X0 := BoxAt.made w #[.int .u32 x.n, .int .u32 x.x, .bool x.c] 60
  have X0H := hid (X0 0 _ rfl)
  have X1H := hid (X0 1 _ rfl)
  have X2H := hid (X0 2 _ rfl)
  have x0 := X0H.out
  have x1 := X1H.out
  have x2 := X2H.out
  have HX := hid hx
  have HA := hid ha
  have HC := hid hb2
  have e : xs ++ tbB x = xs ++ [112] ++ meB x := by unfold tbB meB; simp
  rw [e]
  have Bp := hid (show (meB x).length ≤ 100000000 from by have := Kind.limL_le x.n x.x x.c; unfold meB; omega)
  obtain ⟨p, hp⟩ : ∃ p, meB x = p := ⟨_, rfl⟩
  have Ep := hid hp
  rw [hp] at Bp ⊢
  clear h hB hg hl X0 e hp
  skip
  go_enter Tryz.func164, Tryz.ntmps164
  clear hx ha hb2
  have C := hid (byte_any g B v (xs) 112 (w.alloc (.cells #[.int .u32 x.n, .int .u32 x.x, .bool x.c] 60)) HA0.out.again (by omega) (by have := HL.out; have := Bp.out; first | omega | (simp; omega)))
  go_wp2_with fail
  refine C.out.mono ?_
  rintro e1 w1 ⟨rfl, v1, hb⟩
  have HA1 := hid (HA0.out.trans hb)
  have HW1 := hid (HA1.out.deep H.out.own HW0.out HG.out)
  clear C hb x0 x1 x2
  have x0 := HA1.out.touch.cell (p := ⟨w.heap.size, 0, none⟩) HS.out X0H.out
  have x1 := HA1.out.touch.cell (p := ⟨w.heap.size, 1, none⟩) HS.out X1H.out
  have x2 := HA1.out.touch.cell (p := ⟨w.heap.size, 2, none⟩) HS.out X2H.out
  obtain ⟨n1, hn1⟩ : ∃ n, p.length = n := ⟨_, rfl⟩
  have C := hid (lim_got x 1048576 HX.out HA.out HC.out n1 (by rw [Ep.out]; exact hn1) w1)
  rw [Ep.out] at C
  go_wp2_with fail
  refine C.out.mono ?_
  rintro e1 w2 ⟨a2, c2, rfl, hy, hb, hm⟩
  have HA2 := hid (HA1.out.on hb)
  have HW2 := hid (HW1.out.trans (hb.mono HW1.out.size))
  have HY := hid hy
  have HN := hid hm
  clear C hb hy hm x0 x1 x2
  have x0 := HA2.out.touch.cell (p := ⟨w.heap.size, 0, none⟩) HS.out X0H.out
  have x1 := HA2.out.touch.cell (p := ⟨w.heap.size, 1, none⟩) HS.out X1H.out
  have x2 := HA2.out.touch.cell (p := ⟨w.heap.size, 2, none⟩) HS.out X2H.out
  have C := hid (put_anyE g B v1 (xs ++ [112]) p a2 n1 c2 0 w2 HA2.out.again HN.out HY.out (by have := HL.out; have := Bp.out; first | omega | (simp; omega)))
  go_wp2_with fail
  refine C.out.mono ?_
  rintro e1 w3 ⟨rfl, v3, hb⟩
  have HA3 := hid (HA2.out.trans hb)
  have HW3 := hid (HA3.out.deep H.out.own HW0.out HG.out)
  clear C hb x0 x1 x2
  have x0 := HA3.out.touch.cell (p := ⟨w.heap.size, 0, none⟩) HS.out X0H.out
  have x1 := HA3.out.touch.cell (p := ⟨w.heap.size, 1, none⟩) HS.out X1H.out
  have x2 := HA3.out.touch.cell (p := ⟨w.heap.size, 2, none⟩) HS.out X2H.out
  clear x0 x1 x2
  go_wp2
  go_end0
  exact ⟨rfl, v3, H1.out.trans HA3.out⟩
set_option maxRecDepth 100000 in
set_option maxHeartbeats 2000000 in
theorem memory_any (g B : Nat) (v : Value) (xs : List Int) (x : Li) (w0 w : World) (h : Buf g B v w v xs w) (hB : Below w0.heap.size w0 w) (hg : w0.heap.size < g) (hl : xs.length ≤ 1000000000)
    (hx : Kind.okLim x.n x.x x.c 65536 = true) (ha : 0 ≤ x.n ∧ x.n ≤ 4294967295) (hb2 : 0 ≤ x.x ∧ x.x ≤ 4294967295) :
    Calls Tryz.prog 165 #[.pointer (some ⟨g, 0, none⟩), .agg #[.int .u32 x.n, .int .u32 x.x, .bool x.c]] w (Puts g B v w (xs ++ meB x)) := by
  have H := hid h
  have H1 := hid (h.lit (.cells #[.int .u32 x.n, .int .u32 x.x, .bool x.c] 60))
  have HA0 := hid (h.lit (.cells #[.int .u32 x.n, .int .u32 x.x, .bool x.c] 60)).again
  have HS := hid h.apart
  have HL := hid hl
  have HG := hid hg
  have HW0 := hid (hB.trans (((Below.refl w.heap.size w).alloc (Nat.le_refl _) (.cells #[.int .u32 x.n, .int .u32 x.x, .bool x.c] 60)).mono hB.size))
  have X0 := BoxAt.made w #[.int .u32 x.n, .int .u32 x.x, .bool x.c] 60
  have X0H := hid (X0 0 _ rfl)
  have X1H := hid (X0 1 _ rfl)
  have X2H := hid (X0 2 _ rfl)
  have x0 := X0H.out
  have x1 := X1H.out
  have x2 := X2H.out
  have HX := hid hx
  have HA := hid ha
  have HC := hid hb2
  have e : xs ++ meB x = xs ++ meB x := by rfl
  rw [e]
  have Bp := hid (show (meB x).length ≤ 100000000 from by have := Kind.limL_le x.n x.x x.c; unfold meB; omega)
  obtain ⟨p, hp⟩ : ∃ p, meB x = p := ⟨_, rfl⟩
  have Ep := hid hp
  rw [hp] at Bp ⊢
  clear h hB hg hl X0 e hp
  skip
  go_enter Tryz.func165, Tryz.ntmps165
  clear hx ha hb2
  obtain ⟨n0, hn0⟩ : ∃ n, p.length = n := ⟨_, rfl⟩
  have C := hid (lim_got x 65536 HX.out HA.out HC.out n0 (by rw [Ep.out]; exact hn0) (w.alloc (.cells #[.int .u32 x.n, .int .u32 x.x, .bool x.c] 60)))
  rw [Ep.out] at C
  go_wp2_with fail
  refine C.out.mono ?_
  rintro e1 w1 ⟨a1, c1, rfl, hy, hb, hm⟩
  have HA1 := hid (HA0.out.on hb)
  have HW1 := hid (HW0.out.trans (hb.mono HW0.out.size))
  have HY := hid hy
  have HN := hid hm
  clear C hb hy hm x0 x1 x2
  have x0 := HA1.out.touch.cell (p := ⟨w.heap.size, 0, none⟩) HS.out X0H.out
  have x1 := HA1.out.touch.cell (p := ⟨w.heap.size, 1, none⟩) HS.out X1H.out
  have x2 := HA1.out.touch.cell (p := ⟨w.heap.size, 2, none⟩) HS.out X2H.out
  have C := hid (put_anyE g B v (xs) p a1 n0 c1 0 w1 HA1.out.again HN.out HY.out (by have := HL.out; have := Bp.out; first | omega | (simp; omega)))
  go_wp2_with fail
  refine C.out.mono ?_
  rintro e1 w2 ⟨rfl, v2, hb⟩
  have HA2 := hid (HA1.out.trans hb)
  have HW2 := hid (HA2.out.deep H.out.own HW0.out HG.out)
  clear C hb x0 x1 x2
  have x0 := HA2.out.touch.cell (p := ⟨w.heap.size, 0, none⟩) HS.out X0H.out
  have x1 := HA2.out.touch.cell (p := ⟨w.heap.size, 1, none⟩) HS.out X1H.out
  have x2 := HA2.out.touch.cell (p := ⟨w.heap.size, 2, none⟩) HS.out X2H.out
  clear x0 x1 x2
  go_wp2
  go_end0
  exact ⟨rfl, v2, H1.out.trans HA2.out⟩
set_option maxRecDepth 100000 in
set_option maxHeartbeats 2000000 in
theorem global1_any (g B : Nat) (v : Value) (xs : List Int) (x : Gl) (w0 w : World) (h : Buf g B v w v xs w) (hB : Below w0.heap.size w0 w) (hg : w0.heap.size < g) (hl : xs.length ≤ 1000000000)
    (hLs : ListAt w0.heap.size w0 x.l.a x.l.t.len x.l.t) (hT : Nams w0) (hck : checkP x.l.t = 0) (hln : x.l.t.len ≤ 140737488351232) (hct : x.l.t.count ≤ 1000000) (hel : (encL x.l.t).length ≤ 90000) :
    Calls Tryz.prog 167 #[.pointer (some ⟨g, 0, none⟩), .agg #[.bool true, x.l.val]] w (Puts g B v w (xs ++ (127 :: 1 :: insB x.l))) := by
  have H := hid h
  have H1 := hid (h.lit (.cells #[.bool true, x.l.val] 68))
  have HA0 := hid (h.lit (.cells #[.bool true, x.l.val] 68)).again
  have HS := hid h.apart
  have HL := hid hl
  have HG := hid hg
  have HW0 := hid (hB.trans (((Below.refl w.heap.size w).alloc (Nat.le_refl _) (.cells #[.bool true, x.l.val] 68)).mono hB.size))
  have X0 := BoxAt.made w #[.bool true, x.l.val] 68
  have X0H := hid (X0 0 _ rfl)
  have X1H := hid (X0 1 _ rfl)
  have x0 := X0H.out
  have x1 := X1H.out
  have HLs := hid hLs
  have HT := hid hT
  have HCK := hid hck
  have HLN := hid hln
  have HCT := hid hct
  have HEL := hid hel
  have e : xs ++ (127 :: 1 :: insB x.l) = xs ++ [127] ++ [1] ++ insB x.l := by simp
  rw [e]
  have Bp := hid (show (insB x.l).length ≤ 100000000 from by show (encL x.l.t ++ [11]).length ≤ _; simp; omega)
  obtain ⟨p, hp⟩ : ∃ p, insB x.l = p := ⟨_, rfl⟩
  have Ep := hid hp
  rw [hp] at Bp ⊢
  clear h hB hg hl X0 e hp
  skip
  go_enter Tryz.func167, Tryz.ntmps167
  clear hLs hT hck hln hct hel
  unfold Lst.val at *
  have C := hid (byte_any g B v (xs) 127 (w.alloc (.cells #[.bool true, x.l.val] 68)) HA0.out.again (by omega) (by have := HL.out; have := Bp.out; first | omega | (simp; omega)))
  go_wp2_with fail
  refine C.out.mono ?_
  rintro e1 w1 ⟨rfl, v1, hb⟩
  have HA1 := hid (HA0.out.trans hb)
  have HW1 := hid (HA1.out.deep H.out.own HW0.out HG.out)
  clear C hb x0 x1
  have x0 := HA1.out.touch.cell (p := ⟨w.heap.size, 0, none⟩) HS.out X0H.out
  have x1 := HA1.out.touch.cell (p := ⟨w.heap.size, 1, none⟩) HS.out X1H.out
  have C := hid (byte_any g B v1 (xs ++ [127]) 1 w1 HA1.out.again (by omega) (by have := HL.out; have := Bp.out; first | omega | (simp; omega)))
  go_wp2_with fail
  refine C.out.mono ?_
  rintro e1 w2 ⟨rfl, v2, hb⟩
  have HA2 := hid (HA1.out.trans hb)
  have HW2 := hid (HA2.out.deep H.out.own HW0.out HG.out)
  clear C hb x0 x1
  have x0 := HA2.out.touch.cell (p := ⟨w.heap.size, 0, none⟩) HS.out X0H.out
  have x1 := HA2.out.touch.cell (p := ⟨w.heap.size, 1, none⟩) HS.out X1H.out
  obtain ⟨n2, hn2⟩ : ∃ n, p.length = n := ⟨_, rfl⟩
  have C := hid (ins_got x.l w2 ((HLs.out.below HW2.out).more HW2.out.size) HLN.out (HT.out.below HW2.out) HCT.out HEL.out HCK.out n2 (by rw [Ep.out]; exact hn2))
  rw [Ep.out] at C
  go_wp2_with fail
  refine C.out.mono ?_
  rintro e1 w3 ⟨a3, c3, rfl, hy, hb, hm⟩
  have HA3 := hid (HA2.out.on hb)
  have HW3 := hid (HW2.out.trans (hb.mono HW2.out.size))
  have HY := hid hy
  have HN := hid hm
  clear C hb hy hm x0 x1
  have x0 := HA3.out.touch.cell (p := ⟨w.heap.size, 0, none⟩) HS.out X0H.out
  have x1 := HA3.out.touch.cell (p := ⟨w.heap.size, 1, none⟩) HS.out X1H.out
  have C := hid (put_anyE g B v2 (xs ++ [127] ++ [1]) p a3 n2 c3 0 w3 HA3.out.again HN.out HY.out (by have := HL.out; have := Bp.out; first | omega | (simp; omega)))
  go_wp2_with fail
  refine C.out.mono ?_
  rintro e1 w4 ⟨rfl, v4, hb⟩
  have HA4 := hid (HA3.out.trans hb)
  have HW4 := hid (HA4.out.deep H.out.own HW0.out HG.out)
  clear C hb x0 x1
  have x0 := HA4.out.touch.cell (p := ⟨w.heap.size, 0, none⟩) HS.out X0H.out
  have x1 := HA4.out.touch.cell (p := ⟨w.heap.size, 1, none⟩) HS.out X1H.out
  clear x0 x1
  go_wp2
  go_end0
  exact ⟨rfl, v4, H1.out.trans HA4.out⟩
set_option maxRecDepth 100000 in
set_option maxHeartbeats 2000000 in
theorem global0_any (g B : Nat) (v : Value) (xs : List Int) (x : Gl) (w0 w : World) (h : Buf g B v w v xs w) (hB : Below w0.heap.size w0 w) (hg : w0.heap.size < g) (hl : xs.length ≤ 1000000000)
    (hLs : ListAt w0.heap.size w0 x.l.a x.l.t.len x.l.t) (hT : Nams w0) (hck : checkP x.l.t = 0) (hln : x.l.t.len ≤ 140737488351232) (hct : x.l.t.count ≤ 1000000) (hel : (encL x.l.t).length ≤ 90000) :
    Calls Tryz.prog 167 #[.pointer (some ⟨g, 0, none⟩), .agg #[.bool false, x.l.val]] w (Puts g B v w (xs ++ (127 :: 0 :: insB x.l))) := by
  have H := hid h
  have H1 := hid (h.lit (.cells #[.bool false, x.l.val] 68))
  have HA0 := hid (h.lit (.cells #[.bool false, x.l.val] 68)).again
  have HS := hid h.apart
  have HL := hid hl
  have HG := hid hg
  have HW0 := hid (hB.trans (((Below.refl w.heap.size w).alloc (Nat.le_refl _) (.cells #[.bool false, x.l.val] 68)).mono hB.size))
  have X0 := BoxAt.made w #[.bool false, x.l.val] 68
  have X0H := hid (X0 0 _ rfl)
  have X1H := hid (X0 1 _ rfl)
  have x0 := X0H.out
  have x1 := X1H.out
  have HLs := hid hLs
  have HT := hid hT
  have HCK := hid hck
  have HLN := hid hln
  have HCT := hid hct
  have HEL := hid hel
  have e : xs ++ (127 :: 0 :: insB x.l) = xs ++ [127] ++ [0] ++ insB x.l := by simp
  rw [e]
  have Bp := hid (show (insB x.l).length ≤ 100000000 from by show (encL x.l.t ++ [11]).length ≤ _; simp; omega)
  obtain ⟨p, hp⟩ : ∃ p, insB x.l = p := ⟨_, rfl⟩
  have Ep := hid hp
  rw [hp] at Bp ⊢
  clear h hB hg hl X0 e hp
  skip
  go_enter Tryz.func167, Tryz.ntmps167
  clear hLs hT hck hln hct hel
  unfold Lst.val at *
  have C := hid (byte_any g B v (xs) 127 (w.alloc (.cells #[.bool false, x.l.val] 68)) HA0.out.again (by omega) (by have := HL.out; have := Bp.out; first | omega | (simp; omega)))
  go_wp2_with fail
  refine C.out.mono ?_
  rintro e1 w1 ⟨rfl, v1, hb⟩
  have HA1 := hid (HA0.out.trans hb)
  have HW1 := hid (HA1.out.deep H.out.own HW0.out HG.out)
  clear C hb x0 x1
  have x0 := HA1.out.touch.cell (p := ⟨w.heap.size, 0, none⟩) HS.out X0H.out
  have x1 := HA1.out.touch.cell (p := ⟨w.heap.size, 1, none⟩) HS.out X1H.out
  have C := hid (byte_any g B v1 (xs ++ [127]) 0 w1 HA1.out.again (by omega) (by have := HL.out; have := Bp.out; first | omega | (simp; omega)))
  go_wp2_with fail
  refine C.out.mono ?_
  rintro e1 w2 ⟨rfl, v2, hb⟩
  have HA2 := hid (HA1.out.trans hb)
  have HW2 := hid (HA2.out.deep H.out.own HW0.out HG.out)
  clear C hb x0 x1
  have x0 := HA2.out.touch.cell (p := ⟨w.heap.size, 0, none⟩) HS.out X0H.out
  have x1 := HA2.out.touch.cell (p := ⟨w.heap.size, 1, none⟩) HS.out X1H.out
  obtain ⟨n2, hn2⟩ : ∃ n, p.length = n := ⟨_, rfl⟩
  have C := hid (ins_got x.l w2 ((HLs.out.below HW2.out).more HW2.out.size) HLN.out (HT.out.below HW2.out) HCT.out HEL.out HCK.out n2 (by rw [Ep.out]; exact hn2))
  rw [Ep.out] at C
  go_wp2_with fail
  refine C.out.mono ?_
  rintro e1 w3 ⟨a3, c3, rfl, hy, hb, hm⟩
  have HA3 := hid (HA2.out.on hb)
  have HW3 := hid (HW2.out.trans (hb.mono HW2.out.size))
  have HY := hid hy
  have HN := hid hm
  clear C hb hy hm x0 x1
  have x0 := HA3.out.touch.cell (p := ⟨w.heap.size, 0, none⟩) HS.out X0H.out
  have x1 := HA3.out.touch.cell (p := ⟨w.heap.size, 1, none⟩) HS.out X1H.out
  have C := hid (put_anyE g B v2 (xs ++ [127] ++ [0]) p a3 n2 c3 0 w3 HA3.out.again HN.out HY.out (by have := HL.out; have := Bp.out; first | omega | (simp; omega)))
  go_wp2_with fail
  refine C.out.mono ?_
  rintro e1 w4 ⟨rfl, v4, hb⟩
  have HA4 := hid (HA3.out.trans hb)
  have HW4 := hid (HA4.out.deep H.out.own HW0.out HG.out)
  clear C hb x0 x1
  have x0 := HA4.out.touch.cell (p := ⟨w.heap.size, 0, none⟩) HS.out X0H.out
  have x1 := HA4.out.touch.cell (p := ⟨w.heap.size, 1, none⟩) HS.out X1H.out
  clear x0 x1
  go_wp2
  go_end0
  exact ⟨rfl, v4, H1.out.trans HA4.out⟩
set_option maxRecDepth 100000 in
set_option maxHeartbeats 2000000 in
theorem exported_any (g B : Nat) (v : Value) (xs : List Int) (x : Ex) (w0 w : World) (h : Buf g B v w v xs w) (hB : Below w0.heap.size w0 w) (hg : w0.heap.size < g) (hl : xs.length ≤ 1000000000)
    (hU : Utf.Tabs w0) (h1 : x.na.size ≤ 1048576) (h3 : noText x.na = false) (h5 : 0 ≤ x.k) (h6 : x.k ≤ 3) (h7 : 0 ≤ x.i) (h8 : x.i < 4294967296) :
    Calls Tryz.prog 169 #[.pointer (some ⟨g, 0, none⟩), .agg #[.string x.na, .int .i64 x.k, .int .u32 x.i]] w (Puts g B v w (xs ++ exB x)) := by
  have H := hid h
  have H1 := hid (h.lit (.cells #[.string x.na, .int .i64 x.k, .int .u32 x.i] 75))
  have HA0 := hid (h.lit (.cells #[.string x.na, .int .i64 x.k, .int .u32 x.i] 75)).again
  have HS := hid h.apart
  have HL := hid hl
  have HG := hid hg
  have HW0 := hid (hB.trans (((Below.refl w.heap.size w).alloc (Nat.le_refl _) (.cells #[.string x.na, .int .i64 x.k, .int .u32 x.i] 75)).mono hB.size))
  have X0 := BoxAt.made w #[.string x.na, .int .i64 x.k, .int .u32 x.i] 75
  have X0H := hid (X0 0 _ rfl)
  have X1H := hid (X0 1 _ rfl)
  have X2H := hid (X0 2 _ rfl)
  have x0 := X0H.out
  have x1 := X1H.out
  have x2 := X2H.out
  have HU := hid hU
  have H1a := hid h1
  have H3a := hid h3
  have hw := u8_id x.k h5 h6
  have H5 := hid (show 0 ≤ x.k ∧ x.k < 256 by omega)
  have H7 := hid h7
  have H8 := hid h8
  have e : xs ++ exB x = xs ++ nameB x.na ++ [x.k] ++ encU x.i := by unfold exB; simp
  rw [e]
  have Bp := hid (show (nameB x.na).length ≤ 100000000 from by have := nameB_len x.na; omega)
  have Br := hid (show (encU x.i).length ≤ 100000000 from by rw [encU_length]; have := (sizeU_pos x.i).2; omega)
  obtain ⟨p, hp⟩ : ∃ p, nameB x.na = p := ⟨_, rfl⟩
  have Ep := hid hp
  rw [hp] at Bp ⊢
  obtain ⟨r, hr⟩ : ∃ p, encU x.i = p := ⟨_, rfl⟩
  have Er := hid hr
  rw [hr] at Br ⊢
  clear h hB hg hl X0 e hp hr
  skip
  go_enter Tryz.func169, Tryz.ntmps169
  clear hU h1 h3 h5 h6 h7 h8
  obtain ⟨n0, hn0⟩ : ∃ n, p.length = n := ⟨_, rfl⟩
  have C := hid (name_got x.na (w.alloc (.cells #[.string x.na, .int .i64 x.k, .int .u32 x.i] 75)) (HU.out.below HW0.out) H1a.out H3a.out n0 (by rw [Ep.out]; exact hn0))
  rw [Ep.out] at C
  go_wp2_with fail
  refine C.out.mono ?_
  rintro e1 w1 ⟨a1, c1, rfl, hy, hb, hm⟩
  have HA1 := hid (HA0.out.on hb)
  have HW1 := hid (HW0.out.trans (hb.mono HW0.out.size))
  have HY := hid hy
  have HN := hid hm
  clear C hb hy hm x0 x1 x2
  have x0 := HA1.out.touch.cell (p := ⟨w.heap.size, 0, none⟩) HS.out X0H.out
  have x1 := HA1.out.touch.cell (p := ⟨w.heap.size, 1, none⟩) HS.out X1H.out
  have x2 := HA1.out.touch.cell (p := ⟨w.heap.size, 2, none⟩) HS.out X2H.out
  have C := hid (put_anyE g B v (xs) p a1 n0 c1 0 w1 HA1.out.again HN.out HY.out (by have := HL.out; have := Bp.out; have := Br.out; first | omega | (simp; omega)))
  go_wp2_with fail
  refine C.out.mono ?_
  rintro e1 w2 ⟨rfl, v2, hb⟩
  have HA2 := hid (HA1.out.trans hb)
  have HW2 := hid (HA2.out.deep H.out.own HW0.out HG.out)
  clear C hb x0 x1 x2
  have x0 := HA2.out.touch.cell (p := ⟨w.heap.size, 0, none⟩) HS.out X0H.out
  have x1 := HA2.out.touch.cell (p := ⟨w.heap.size, 1, none⟩) HS.out X1H.out
  have x2 := HA2.out.touch.cell (p := ⟨w.heap.size, 2, none⟩) HS.out X2H.out
  have C := hid (byte_any g B v2 (xs ++ p) x.k w2 HA2.out.again H5.out (by have := HL.out; have := Bp.out; have := Br.out; first | omega | (simp; omega)))
  go_wp2_with fail
  refine C.out.mono ?_
  rintro e1 w3 ⟨rfl, v3, hb⟩
  have HA3 := hid (HA2.out.trans hb)
  have HW3 := hid (HA3.out.deep H.out.own HW0.out HG.out)
  clear C hb x0 x1 x2
  have x0 := HA3.out.touch.cell (p := ⟨w.heap.size, 0, none⟩) HS.out X0H.out
  have x1 := HA3.out.touch.cell (p := ⟨w.heap.size, 1, none⟩) HS.out X1H.out
  have x2 := HA3.out.touch.cell (p := ⟨w.heap.size, 2, none⟩) HS.out X2H.out
  have C := hid (number_any g B v3 (xs ++ p ++ [x.k]) x.i w3 HA3.out.again H7.out H8.out (by have := HL.out; have := Bp.out; have := Br.out; first | omega | (simp; omega)))
  rw [Er.out] at C
  go_wp2_with fail
  refine C.out.mono ?_
  rintro e1 w4 ⟨rfl, v4, hb⟩
  have HA4 := hid (HA3.out.trans hb)
  have HW4 := hid (HA4.out.deep H.out.own HW0.out HG.out)
  clear C hb x0 x1 x2
  have x0 := HA4.out.touch.cell (p := ⟨w.heap.size, 0, none⟩) HS.out X0H.out
  have x1 := HA4.out.touch.cell (p := ⟨w.heap.size, 1, none⟩) HS.out X1H.out
  have x2 := HA4.out.touch.cell (p := ⟨w.heap.size, 2, none⟩) HS.out X2H.out
  clear x0 x1 x2
  go_wp2
  go_end0
  exact ⟨rfl, v4, H1.out.trans HA4.out⟩
set_option maxRecDepth 100000 in
set_option maxHeartbeats 2000000 in
theorem code_any (g B : Nat) (v : Value) (xs : List Int) (x : Mod.Fn) (w0 w : World) (h : Buf g B v w v xs w) (hB : Below w0.heap.size w0 w) (hg : w0.heap.size < g) (hl : xs.length ≤ 1000000000)
    (hLs : ListAt w0.heap.size w0 x.l.a x.l.t.len x.l.t) (hT : Nams w0) (hck : checkP x.l.t = 0) (hln : x.l.t.len ≤ 140737488351232) (hct : x.l.t.count ≤ 1000000) (hel : (encL x.l.t).length ≤ 90000) (hlo : 0 ≤ x.lo ∧ x.lo ≤ 50000) :
    Calls Tryz.prog 172 #[.pointer (some ⟨g, 0, none⟩), .agg #[.int .i64 x.ty, .int .i64 x.lo, x.l.val]] w (Puts g B v w (xs ++ coB x)) := by
  have H := hid h
  have H1 := hid (h.lit (.cells #[.int .i64 x.ty, .int .i64 x.lo, x.l.val] 66))
  have HA0 := hid (h.lit (.cells #[.int .i64 x.ty, .int .i64 x.lo, x.l.val] 66)).again
  have HS := hid h.apart
  have HL := hid hl
  have HG := hid hg
  have HW0 := hid (hB.trans (((Below.refl w.heap.size w).alloc (Nat.le_refl _) (.cells #[.int .i64 x.ty, .int .i64 x.lo, x.l.val] 66)).mono hB.size))
  have X0 := BoxAt.made w #[.int .i64 x.ty, .int .i64 x.lo, x.l.val] 66
  have X0H := hid (X0 0 _ rfl)
  have X1H := hid (X0 1 _ rfl)
  have X2H := hid (X0 2 _ rfl)
  have x0 := X0H.out
  have x1 := X1H.out
  have x2 := X2H.out
  have HLs := hid hLs
  have HT := hid hT
  have HCK := hid hck
  have HLN := hid hln
  have HCT := hid hct
  have HEL := hid hel
  have HL0 := hid hlo
  have e : xs ++ coB x = xs ++ (encU (codeL x.lo x.l.t).length ++ codeL x.lo x.l.t) := by rfl
  rw [e]
  have Bp := hid (show (codeL x.lo x.l.t).length ≤ 100000000 from by have := (Go.Proofs.YtepbjkkakfpjgaaGreatDoor.Body.loc_len x.lo).1; unfold codeL; rw [List.length_append]; show _ + (encL x.l.t ++ [11]).length ≤ _; simp; omega)
  obtain ⟨p, hp⟩ : ∃ p, codeL x.lo x.l.t = p := ⟨_, rfl⟩
  have Ep := hid hp
  rw [hp] at Bp ⊢
  clear h hB hg hl X0 e hp
  skip
  go_enter Tryz.func172, Tryz.ntmps172
  clear hLs hT hck hln hct hel hlo
  unfold Lst.val at *
  obtain ⟨n0, hn0⟩ : ∃ n, p.length = n := ⟨_, rfl⟩
  have C := hid (code_got x _ ((HLs.out.below HW0.out).more HW0.out.size) HLN.out (HT.out.below HW0.out) HCT.out HEL.out HCK.out HL0.out.1 HL0.out.2 n0 (by rw [Ep.out]; exact hn0))
  rw [Ep.out] at C
  rw [hn0]
  go_wp2_with fail
  refine C.out.mono ?_
  rintro e1 w1 ⟨⟨a1, c1, rfl, hy, hb, hm⟩, hfr⟩
  have HA1 := hid (HA0.out.on hb)
  have HW1 := hid (HW0.out.trans (hb.mono HW0.out.size))
  have HY := hid hy
  have HN := hid hm
  have HF := hid (fun b off (ha : a1 = some ⟨b, off, none⟩) => hfr a1 c1 rfl b off ha)
  clear C hb hy hm hfr hn0 x0 x1 x2
  have C := hid (sized_any g B v xs p a1 n0 c1 w1 HA1.out.again HN.out HY.out (by have := HL.out; have := Bp.out; omega) (fun b off ha _ hs => by
    have h1 := HF.out b off ha
    simp only [World.size_alloc] at h1
    rcases hs with rfl | e
    · have := H.out.lt; omega
    · have := (World.ownsRow.lt H.out.own b e).2; omega))
  go_wp2_with fail
  refine C.out.mono ?_
  rintro e1 w2 ⟨rfl, v2, hb⟩
  have HA2 := hid (HA1.out.trans hb)
  clear C hb
  have x0 := X0H.out
  have x1 := X1H.out
  have x2 := X2H.out
  clear x0 x1 x2
  go_wp2
  go_end0
  exact ⟨rfl, v2, H1.out.trans HA2.out⟩
set_option maxRecDepth 100000 in
set_option maxHeartbeats 2000000 in
theorem data_any (g B : Nat) (v : Value) (xs : List Int) (x : Da) (w0 w : World) (h : Buf g B v w v xs w) (hB : Below w0.heap.size w0 w) (hg : w0.heap.size < g) (hl : xs.length ≤ 1000000000)
    (hLs : ListAt w0.heap.size w0 x.l.a x.l.t.len x.l.t) (hT : Nams w0) (hck : checkP x.l.t = 0) (hln : x.l.t.len ≤ 140737488351232) (hct : x.l.t.count ≤ 1000000) (hel : (encL x.l.t).length ≤ 90000) (hbs : BytesAt w0.heap.size w0 x.ba x.bs) (hby : ∀ z ∈ x.bs, 0 ≤ z ∧ z < 256) (hbl : x.bs.length ≤ 100000000) :
    Calls Tryz.prog 174 #[.pointer (some ⟨g, 0, none⟩), .agg #[x.l.val, .slice x.ba x.bs.length x.bc]] w (Puts g B v w (xs ++ daB x)) := by
  have H := hid h
  have H1 := hid (h.lit (.cells #[x.l.val, .slice x.ba x.bs.length x.bc] 47))
  have HA0 := hid (h.lit (.cells #[x.l.val, .slice x.ba x.bs.length x.bc] 47)).again
  have HS := hid h.apart
  have HL := hid hl
  have HG := hid hg
  have HW0 := hid (hB.trans (((Below.refl w.heap.size w).alloc (Nat.le_refl _) (.cells #[x.l.val, .slice x.ba x.bs.length x.bc] 47)).mono hB.size))
  have X0 := BoxAt.made w #[x.l.val, .slice x.ba x.bs.length x.bc] 47
  have X0H := hid (X0 0 _ rfl)
  have X1H := hid (X0 1 _ rfl)
  have x0 := X0H.out
  have x1 := X1H.out
  have HLs := hid hLs
  have HT := hid hT
  have HCK := hid hck
  have HLN := hid hln
  have HCT := hid hct
  have HEL := hid hel
  have HBS := hid hbs
  have HBY := hid hby
  have HBL := hid hbl
  have e : xs ++ daB x = xs ++ [0] ++ insB x.l ++ (encU x.bs.length ++ x.bs) := by unfold daB; simp
  rw [e]
  have Bp := hid (show (insB x.l).length ≤ 100000000 from by show (encL x.l.t ++ [11]).length ≤ _; simp; omega)
  obtain ⟨p, hp⟩ : ∃ p, insB x.l = p := ⟨_, rfl⟩
  have Ep := hid hp
  rw [hp] at Bp ⊢
  clear h hB hg hl X0 e hp
  skip
  go_enter Tryz.func174, Tryz.ntmps174
  clear hLs hT hck hln hct hel hbs hby hbl
  unfold Lst.val at *
  have C := hid (byte_any g B v (xs) 0 (w.alloc (.cells #[x.l.val, .slice x.ba x.bs.length x.bc] 47)) HA0.out.again (by omega) (by have := HL.out; have := Bp.out; first | omega | (simp; omega)))
  go_wp2_with fail
  refine C.out.mono ?_
  rintro e1 w1 ⟨rfl, v1, hb⟩
  have HA1 := hid (HA0.out.trans hb)
  have HW1 := hid (HA1.out.deep H.out.own HW0.out HG.out)
  clear C hb x0 x1
  have x0 := HA1.out.touch.cell (p := ⟨w.heap.size, 0, none⟩) HS.out X0H.out
  have x1 := HA1.out.touch.cell (p := ⟨w.heap.size, 1, none⟩) HS.out X1H.out
  obtain ⟨n1, hn1⟩ : ∃ n, p.length = n := ⟨_, rfl⟩
  have C := hid (ins_got x.l w1 ((HLs.out.below HW1.out).more HW1.out.size) HLN.out (HT.out.below HW1.out) HCT.out HEL.out HCK.out n1 (by rw [Ep.out]; exact hn1))
  rw [Ep.out] at C
  go_wp2_with fail
  refine C.out.mono ?_
  rintro e1 w2 ⟨a2, c2, rfl, hy, hb, hm⟩
  have HA2 := hid (HA1.out.on hb)
  have HW2 := hid (HW1.out.trans (hb.mono HW1.out.size))
  have HY := hid hy
  have HN := hid hm
  clear C hb hy hm x0 x1
  have x0 := HA2.out.touch.cell (p := ⟨w.heap.size, 0, none⟩) HS.out X0H.out
  have x1 := HA2.out.touch.cell (p := ⟨w.heap.size, 1, none⟩) HS.out X1H.out
  have C := hid (put_anyE g B v1 (xs ++ [0]) p a2 n1 c2 0 w2 HA2.out.again HN.out HY.out (by have := HL.out; have := Bp.out; first | omega | (simp; omega)))
  go_wp2_with fail
  refine C.out.mono ?_
  rintro e1 w3 ⟨rfl, v3, hb⟩
  have HA3 := hid (HA2.out.trans hb)
  have HW3 := hid (HA3.out.deep H.out.own HW0.out HG.out)
  clear C hb x0 x1
  have x0 := HA3.out.touch.cell (p := ⟨w.heap.size, 0, none⟩) HS.out X0H.out
  have x1 := HA3.out.touch.cell (p := ⟨w.heap.size, 1, none⟩) HS.out X1H.out
  obtain ⟨nb, hnb⟩ : ∃ n, x.bs.length = n := ⟨_, rfl⟩
  have HNB := hid hnb
  have C := hid (sized_any g B v3 (xs ++ [0] ++ p) x.bs x.ba nb x.bc w3 HA3.out.again HNB.out (bytes_at (HBS.out.below HW3.out) HBY.out (by have := HBL.out; omega)) (by have := HL.out; have := Bp.out; have := HBL.out; simp; omega) (fun b off ha hne hs => by
    have hlt : b < w0.heap.size := by
      rcases HBS.out with h | ⟨b1, off1, h, hl, _⟩
      · exact absurd h hne
      · rw [h] at ha; simp only [Option.some.injEq, Addr.mk.injEq] at ha; omega
    have h2 := HG.out
    rcases hs with e | e
    · omega
    · have := (World.ownsRow.lt HA3.out.own b e).1; have := H.out.low; omega))
  rw [hnb] at x1
  rw [hnb]
  clear hnb
  go_wp2_with fail
  refine C.out.mono ?_
  rintro e1 w4 ⟨rfl, v4, hb⟩
  rw [← HNB.out] at hb
  have HA4 := hid (HA3.out.trans hb)
  clear C hb
  clear x0 x1
  go_wp2
  go_end0
  exact ⟨rfl, v4, H1.out.trans HA4.out⟩
set_option maxRecDepth 100000 in
set_option maxHeartbeats 2000000 in
theorem elem_any (g B : Nat) (v : Value) (xs : List Int) (x : El) (w0 w : World) (h : Buf g B v w v xs w) (hB : Below w0.heap.size w0 w) (hg : w0.heap.size < g) (hl : xs.length ≤ 1000000000)
    (hLs : ListAt w0.heap.size w0 x.l.a x.l.t.len x.l.t) (hT : Nams w0) (hck : checkP x.l.t = 0) (hln : x.l.t.len ≤ 140737488351232) (hct : x.l.t.count ≤ 1000000) (hel : (encL x.l.t).length ≤ 90000) (hfs : TagsAt w0.heap.size w0 x.fa x.fs) (hfz : ∀ z ∈ x.fs, 0 ≤ z ∧ z < 4294967296) (hfl : x.fs.length ≤ 16384) :
    Calls Tryz.prog 171 #[.pointer (some ⟨g, 0, none⟩), .agg #[x.l.val, .slice x.fa x.fs.length x.fc]] w (Puts g B v w (xs ++ elB x)) := by
  have H := hid h
  have H1 := hid (h.lit (.cells #[x.l.val, .slice x.fa x.fs.length x.fc] 71))
  have HA0 := hid (h.lit (.cells #[x.l.val, .slice x.fa x.fs.length x.fc] 71)).again
  have HS := hid h.apart
  have HL := hid hl
  have HG := hid hg
  have HW0 := hid (hB.trans (((Below.refl w.heap.size w).alloc (Nat.le_refl _) (.cells #[x.l.val, .slice x.fa x.fs.length x.fc] 71)).mono hB.size))
  have X0 := BoxAt.made w #[x.l.val, .slice x.fa x.fs.length x.fc] 71
  have X0H := hid (X0 0 _ rfl)
  have X1H := hid (X0 1 _ rfl)
  have x0 := X0H.out
  have x1 := X1H.out
  have HLs := hid hLs
  have HT := hid hT
  have HCK := hid hck
  have HLN := hid hln
  have HCT := hid hct
  have HEL := hid hel
  have HFS := hid hfs
  have HFZ := hid hfz
  have HFL := hid hfl
  have hw := u32_id x.fs.length (by omega) (by omega)
  have e : xs ++ elB x = xs ++ [0] ++ insB x.l ++ encU x.fs.length ++ x.fs.flatMap encU := by unfold elB; simp
  rw [e]
  have Bp := hid (show (insB x.l).length ≤ 100000000 from by show (encL x.l.t ++ [11]).length ≤ _; simp; omega)
  have Br := hid (show (encU x.fs.length).length ≤ 100000000 from by rw [encU_length]; have := (sizeU_pos x.fs.length).2; omega)
  obtain ⟨p, hp⟩ : ∃ p, insB x.l = p := ⟨_, rfl⟩
  have Ep := hid hp
  rw [hp] at Bp ⊢
  obtain ⟨r, hr⟩ : ∃ p, encU x.fs.length = p := ⟨_, rfl⟩
  have Er := hid hr
  rw [hr] at Br ⊢
  clear h hB hg hl X0 e hp hr
  skip
  go_enter Tryz.func171, Tryz.ntmps171
  clear hLs hT hck hln hct hel hfs hfz hfl
  unfold Lst.val at *
  skip
  skip
  have C := hid (byte_any g B v (xs) 0 (w.alloc (.cells #[x.l.val, .slice x.fa x.fs.length x.fc] 71)) HA0.out.again (by omega) (by have := HL.out; have := Bp.out; have := Br.out; first | omega | (simp; omega)))
  go_wp2_with fail
  refine C.out.mono ?_
  rintro e1 w1 ⟨rfl, v1, hb⟩
  have HA1 := hid (HA0.out.trans hb)
  have HW1 := hid (HA1.out.deep H.out.own HW0.out HG.out)
  clear C hb x0 x1
  have x0 := HA1.out.touch.cell (p := ⟨w.heap.size, 0, none⟩) HS.out X0H.out
  have x1 := HA1.out.touch.cell (p := ⟨w.heap.size, 1, none⟩) HS.out X1H.out
  obtain ⟨n1, hn1⟩ : ∃ n, p.length = n := ⟨_, rfl⟩
  have C := hid (ins_got x.l w1 ((HLs.out.below HW1.out).more HW1.out.size) HLN.out (HT.out.below HW1.out) HCT.out HEL.out HCK.out n1 (by rw [Ep.out]; exact hn1))
  rw [Ep.out] at C
  go_wp2_with fail
  refine C.out.mono ?_
  rintro e1 w2 ⟨a2, c2, rfl, hy, hb, hm⟩
  have HA2 := hid (HA1.out.on hb)
  have HW2 := hid (HW1.out.trans (hb.mono HW1.out.size))
  have HY := hid hy
  have HN := hid hm
  clear C hb hy hm x0 x1
  have x0 := HA2.out.touch.cell (p := ⟨w.heap.size, 0, none⟩) HS.out X0H.out
  have x1 := HA2.out.touch.cell (p := ⟨w.heap.size, 1, none⟩) HS.out X1H.out
  have C := hid (put_anyE g B v1 (xs ++ [0]) p a2 n1 c2 0 w2 HA2.out.again HN.out HY.out (by have := HL.out; have := Bp.out; have := Br.out; first | omega | (simp; omega)))
  go_wp2_with fail
  refine C.out.mono ?_
  rintro e1 w3 ⟨rfl, v3, hb⟩
  have HA3 := hid (HA2.out.trans hb)
  have HW3 := hid (HA3.out.deep H.out.own HW0.out HG.out)
  clear C hb x0 x1
  have x0 := HA3.out.touch.cell (p := ⟨w.heap.size, 0, none⟩) HS.out X0H.out
  have x1 := HA3.out.touch.cell (p := ⟨w.heap.size, 1, none⟩) HS.out X1H.out
  obtain ⟨nf, hnf⟩ : ∃ n, x.fs.length = n := ⟨_, rfl⟩
  have LN := hid hnf
  have C := hid (number_any g B v3 (xs ++ [0] ++ p) (nf : Int) w3 HA3.out.again (by omega) (by have := HFL.out; omega) (by have := HL.out; have := Bp.out; have := Br.out; first | omega | (simp; omega)))
  rw [← hnf, Er.out] at C
  rw [hnf] at C x1 hw
  go_wp2_with fail
  refine C.out.mono ?_
  rintro e1 w4 ⟨rfl, v4, hb⟩
  have HA4 := hid (HA3.out.trans hb)
  have HW4 := hid (HA4.out.deep H.out.own HW0.out HG.out)
  clear C hb x0 x1
  have x0 := HA4.out.touch.cell (p := ⟨w.heap.size, 0, none⟩) HS.out X0H.out
  have x1 := HA4.out.touch.cell (p := ⟨w.heap.size, 1, none⟩) HS.out X1H.out
  rw [hnf] at x1
  clear hnf hw
  go_wp2
  obtain ⟨fa, hfa9⟩ : ∃ a, x.fa = a := ⟨_, rfl⟩
  have HFT := HFS
  rw [hfa9] at HFT ⊢
  clear hfa9
  have hnf2 : nf ≤ 16384 := by have := LN.out; have := HFL.out; omega
  go_loopw [24] (fun vi wr => ∃ (j : Nat) (v9 : Value), vi = .int .i64 j ∧ j ≤ nf ∧ Hid (Buf g B v (w.alloc (.cells #[.slice x.l.a x.l.t.len x.l.c, .slice x.fa x.fs.length x.fc] 71)) v9 (xs ++ [0] ++ p ++ r ++ (x.fs.take j).flatMap encU) wr) ∧ Hid (Below w0.heap.size w0 wr)) (fun vi _ => nf - (intOf vi).toNat)
  case atStart => exact ⟨0, v4, rfl, Nat.zero_le _, hid (by simpa using HA4.out), HW4⟩
  case round =>
    clear HA4 HW4 x0 x1
    obtain ⟨j, v9, rfl, hj, HA, HW⟩ := hrel
    by_cases hlt : j < nf
    · have hjl : j < x.fs.length := by rw [LN.out]; exact hlt
      have hji : (j : Int) < (nf : Int) := by omega
      rcases HFT.out with h0 | ⟨b, off, rfl, hbl, hc⟩
      · rw [h0] at hjl; simp at hjl
      have hcj := HW.out.cell (p := ⟨b, off + j, none⟩) hbl |>.trans (hc j hjl)
      have HST := hid (flat_step encU hjl)
      have hfz := HFZ.out _ (List.getElem_mem hjl)
      rw [getD_lt hjl] at hcj
      obtain ⟨f, hf⟩ : ∃ f, x.fs[j] = f := ⟨_, rfl⟩
      rw [hf] at hcj HST hfz
      have hlen : (xs ++ [0] ++ p ++ r ++ (x.fs.take j).flatMap encU).length ≤ 2000000000 := by
        have h1 := flat_five (x.fs.take j)
        have h2 := HFL.out
        have h3 : (x.fs.take j).length ≤ x.fs.length := by rw [List.length_take]; omega
        have := HL.out; have := Bp.out; have := Br.out
        rw [List.length_append]
        simp only [List.length_append, List.length_cons, List.length_nil]
        omega
      have C := hid (number_any g B v9 (xs ++ [0] ++ p ++ r ++ (x.fs.take j).flatMap encU) f wr HA.out.again hfz.1 hfz.2 hlen)
      clear hf hc hbl hjl hfz hlen hlt
      go_wp2_with fail
      refine C.out.mono ?_
      rintro e1 w9 ⟨rfl, v8, hb⟩
      have HA8 := hid (HA.out.trans hb)
      have HW8 := hid (HA8.out.deep H1.out.own HW0.out HG.out)
      clear C hb hcj
      go_wp2
      go_roundw
      case rel => exact ⟨j + 1, v8, by go_num, by omega, hid (by rw [HST.out, ← List.append_assoc]; exact HA8.out), HW8⟩
      case measure => simp [intOf]; omega
    · obtain rfl : nf = j := by omega
      have HE := hid (show x.fs.take nf = x.fs from List.take_of_length_le (by rw [LN.out]; exact Nat.le_refl _))
      go_wp2
      go_end0
      exact ⟨rfl, v9, H1.out.trans (by have := HA.out; rw [HE.out] at this; exact this)⟩
end Go.Proofs.YtepbjkkakfpjgaaGreatDoor.Enc
