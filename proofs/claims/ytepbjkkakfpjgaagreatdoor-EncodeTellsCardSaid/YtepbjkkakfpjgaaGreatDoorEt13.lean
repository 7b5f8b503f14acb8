import Derived.Test.YtepbjkkakfpjgaaGreatDoorEt09
import Derived.Test.YtepbjkkakfpjgaaGreatDoorEt06
import Derived.Laws.EntriesVeiled
namespace Go.Proofs.YtepbjkkakfpjgaaGreatDoor.Enc
open Go.RowKit Leb Go.Proofs.YtepbjkkakfpjgaaGreatDoor.Instr Go.Proofs.YtepbjkkakfpjgaaGreatDoor.Mod
open Go.Proofs.YtepbjkkakfpjgaaGreatDoor.Body (encL codeL)
theorem u32_id (n : Int) (h0 : 0 ≤ n) (h1 : n ≤ 2147483647) : IntKind.u32.wrap n = n := by rw [IntKind.wrap_u32]; omega
theorem u8_id (n : Int) (h0 : 0 ≤ n) (h1 : n ≤ 3) : IntKind.u8.wrap n = n := by rw [IntKind.wrap_u8]; omega
theorem Buf.apart {g B : Nat} {v : Value} {xs : List Int} {w : World} (h : Buf g B v w v xs w) : ¬ (w.heap.size = g ∨ v.ownBlock = some w.heap.size) := by
 rintro (e | e)
 ·have := h.lt; omega
 ·have := (World.ownsRow.lt h.own _ e).2; omega
theorem Buf.deep {g B : Nat} {v v' : Value} {xs zs : List Int} {w w' W W0 : World} (h : Buf g B v w v' zs w') (hv : Own B W v xs) (hB : Below W0.heap.size W0 w) (hg : W0.heap.size < g) : Below W0.heap.size W0 w' :=
 hB.trans (h.below (Nat.le_of_lt hg) (fun q hq => by have := (World.ownsRow.lt hv q hq).1; have := h.low; omega))
theorem flat_five : ∀ l : List Int, (l.flatMap encU).length ≤ 5 * l.length
 | [] => by simp
 | n :: r => by
  rw [List.flatMap_cons, List.length_append, List.length_cons, encU_length]
  have := (sizeU_pos n).2
  have := flat_five r
  omega
theorem type_few {x : Int × Int} (h : Kind.okType x.1 x.2 = true) : (tyB x).length ≤ 100000000 := by
 obtain ⟨a, b, ha, hb, h1, h2⟩ := Kind.okType_nat h
 unfold tyB
 rw [ha, hb]
 have := Kind.typeL_le a b h1 h2
 omega
theorem bytes_at {n₀ : Nat} {w : World} {a : Option Addr} {zs : List Int} (h : BytesAt n₀ w a zs) (hz : ∀ z ∈ zs, 0 ≤ z ∧ z < 256) (hl : zs.length ≤ 140737488351232) : Bytes w a zs := by
 refine ⟨hz, hl, ?_⟩
 rcases h with h | ⟨b, off, rfl, _, hc⟩
 ·exact .inl h
 ·exact .inr ⟨b, off, rfl, hc⟩
set_option maxRecDepth 100000 in
set_option maxHeartbeats 2000000 in
theorem funcType_any (g B : Nat) (v : Value) (xs : List Int) (x : Int × Int) (w0 w : World) (h : Buf g B v w v xs w) (hB : Below w0.heap.size w0 w) (hg : w0.heap.size < g) (hl : xs.length ≤ 1000000000)
  (hx : Kind.okType x.1 x.2 = true) :
  Calls Tryz.prog 158 #[.pointer (some ⟨g, 0, none⟩), .agg #[.int .i64 x.1, .int .i64 x.2]] w (Puts g B v w (xs ++ tyB x)) := by
 have H := hid h
 have H1 := hid (h.lit (.cells #[.int .i64 x.1, .int .i64 x.2] 50))
 have HA0 := hid (h.lit (.cells #[.int .i64 x.1, .int .i64 x.2] 50)).again
 have HS := hid h.apart
 have HL := hid hl
 have HG := hid hg
 have HW0 := hid (hB.trans (((Below.refl w.heap.size w).alloc (Nat.le_refl _) (.cells #[.int .i64 x.1, .int .i64 x.2] 50)).mono hB.size))
 have X0 := BoxAt.made w #[.int .i64 x.1, .int .i64 x.2] 50
 have X0H := hid (X0 0 _ rfl)
 have X1H := hid (X0 1 _ rfl)
 have x0 := X0H.out
 have x1 := X1H.out
 have HX := hid hx
 have e : xs ++ tyB x = xs ++ tyB x := by rfl
 rw [e]
 have Bp := hid (show (tyB x).length ≤ 100000000 from by exact type_few hx)
 obtain ⟨p, hp⟩ : ∃ p, tyB x = p := ⟨_, rfl⟩
 have Ep := hid hp
 rw [hp] at Bp ⊢
 clear h hB hg hl X0 e hp
 skip
 go_enter Tryz.func158, Tryz.ntmps158
 clear hx
 obtain ⟨n0, hn0⟩ : ∃ n, p.length = n := ⟨_, rfl⟩
 have C := hid (type_got x HX.out n0 (by rw [Ep.out]; exact hn0) (w.alloc (.cells #[.int .i64 x.1, .int .i64 x.2] 50)))
 rw [Ep.out] at C
 go_wp2_with fail
 refine C.out.mono ?_
 rintro e1 w1 ⟨a1, c1, rfl, hy, hb, hm⟩
 have HA1 := hid (HA0.out.on hb)
 have HW1 := hid (HW0.out.trans (hb.mono HW0.out.size))
 have HY := hid hy
 have HN := hid hm
 clear C hb hy hm x0 x1
 have x0 := HA1.out.touch.cell (p := ⟨w.heap.size, 0, none⟩) HS.out X0H.out
 have x1 := HA1.out.touch.cell (p := ⟨w.heap.size, 1, none⟩) HS.out X1H.out
 have C := hid (put_anyE g B v (xs) p a1 n0 c1 0 w1 HA1.out.again HN.out HY.out (by have := HL.out; have := Bp.out; first | omega | (simp; omega)))
 go_wp2_with fail
 refine C.out.mono ?_
 rintro e1 w2 ⟨rfl, v2, hb⟩
 have HA2 := hid (HA1.out.trans hb)
 have HW2 := hid (HA2.out.deep H.out.own HW0.out HG.out)
 clear C hb x0 x1
 have x0 := HA2.out.touch.cell (p := ⟨w.heap.size, 0, none⟩) HS.out X0H.out
 have x1 := HA2.out.touch.cell (p := ⟨w.heap.size, 1, none⟩) HS.out X1H.out
 clear x0 x1
 go_wp2
 go_end0
 exact ⟨rfl, v2, H1.out.trans HA2.out⟩
set_option maxRecDepth 100000 in
set_option maxHeartbeats 2000000 in
theorem imported_any (g B : Nat) (v : Value) (xs : List Int) (x : Imp) (w0 w : World) (h : Buf g B v w v xs w) (hB : Below w0.heap.size w0 w) (hg : w0.heap.size < g) (hl : xs.length ≤ 1000000000)
  (hU : Utf.Tabs w0) (h1 : x.mo.size ≤ 1048576) (h2 : x.na.size ≤ 1048576) (h3 : noText x.mo = false) (h4 : noText x.na = false) (h5 : 0 ≤ x.ty) (h6 : x.ty ≤ 2147483647) :
  Calls Tryz.prog 160 #[.pointer (some ⟨g, 0, none⟩), .agg #[.string x.mo, .string x.na, .int .i64 x.ty]] w (Puts g B v w (xs ++ impB x)) := by
 have H := hid h
 have H1 := hid (h.lit (.cells #[.string x.mo, .string x.na, .int .i64 x.ty] 73))
 have HA0 := hid (h.lit (.cells #[.string x.mo, .string x.na, .int .i64 x.ty] 73)).again
 have HS := hid h.apart
 have HL := hid hl
 have HG := hid hg
 have HW0 := hid (hB.trans (((Below.refl w.heap.size w).alloc (Nat.le_refl _) (.cells #[.string x.mo, .string x.na, .int .i64 x.ty] 73)).mono hB.size))
 have X0 := BoxAt.made w #[.string x.mo, .string x.na, .int .i64 x.ty] 73
 have X0H := hid (X0 0 _ rfl)
 have X1H := hid (X0 1 _ rfl)
 have X2H := hid (X0 2 _ rfl)
 have x0 := X0H.out
 have x1 := X1H.out
 have x2 := X2H.out
 have HU := hid hU
 have H1a := hid h1
 have H2a := hid h2
 have H3a := hid h3
 have H4a := hid h4
 have hw := u32_id x.ty h5 h6
 have H5 := hid h5
 have H7 := hid (show x.ty < 4294967296 by omega)
 have e : xs ++ impB x = xs ++ nameB x.mo ++ nameB x.na ++ [0] ++ encU x.ty := by unfold impB; simp
 rw [e]
 have Bp := hid (show (nameB x.mo).length ≤ 100000000 from by have := nameB_len x.mo; omega)
 have Bq := hid (show (nameB x.na).length ≤ 100000000 from by have := nameB_len x.na; omega)
 have Br := hid (show (encU x.ty).length ≤ 100000000 from by rw [encU_length]; have := (sizeU_pos x.ty).2; omega)
 obtain ⟨p, hp⟩ : ∃ p, nameB x.mo = p := ⟨_, rfl⟩
 have Ep := hid hp
 rw [hp] at Bp ⊢
 obtain ⟨q, hq⟩ : ∃ p, nameB x.na = p := ⟨_, rfl⟩
 have Eq := hid hq
 rw [hq] at Bq ⊢
 obtain ⟨r, hr⟩ : ∃ p, encU x.ty = p := ⟨_, rfl⟩
 have Er := hid hr
 rw [hr] at Br ⊢
 clear h hB hg hl X0 e hp hq hr
 skip
 go_enter Tryz.func160, Tryz.ntmps160
 clear hU h1 h2 h3 h4 h5 h6
 obtain ⟨n0, hn0⟩ : ∃ n, p.length = n := ⟨_, rfl⟩
 have C := hid (name_got x.mo (w.alloc (.cells #[.string x.mo, .string x.na, .int .i64 x.ty] 73)) (HU.out.below HW0.out) H1a.out H3a.out n0 (by rw [Ep.out]; exact hn0))
 rw [Ep.out] at C
 go_wp2_with fail
 refine C.out.mono ?_
 rintro e1 w1 ⟨a1, c1, rfl, hy, hb, hm⟩
 have HA1 := hid (HA0.out.on hb)
 have HW1 := hid (HW0.out.trans (hb.mono HW0.out.size))
 have HY := hid hy
 have HN := hid hm
 clear C hb hy hm x0 x1 x2
 have x0 := HA1.out.touch.cell (p := ⟨w.heap.size, 0, none⟩) HS.out X0H.out
 have x1 := HA1.out.touch.cell (p := ⟨w.heap.size, 1, none⟩) HS.out X1H.out
 have x2 := HA1.out.touch.cell (p := ⟨w.heap.size, 2, none⟩) HS.out X2H.out
 have C := hid (put_anyE g B v (xs) p a1 n0 c1 0 w1 HA1.out.again HN.out HY.out (by have := HL.out; have := Bp.out; have := Bq.out; have := Br.out; first | omega | (simp; omega)))
 go_wp2_with fail
 refine C.out.mono ?_
 rintro e1 w2 ⟨rfl, v2, hb⟩
 have HA2 := hid (HA1.out.trans hb)
 have HW2 := hid (HA2.out.deep H.out.own HW0.out HG.out)
 clear C hb x0 x1 x2
 have x0 := HA2.out.touch.cell (p := ⟨w.heap.size, 0, none⟩) HS.out X0H.out
 have x1 := HA2.out.touch.cell (p := ⟨w.heap.size, 1, none⟩) HS.out X1H.out
 have x2 := HA2.out.touch.cell (p := ⟨w.heap.size, 2, none⟩) HS.out X2H.out
 obtain ⟨n2, hn2⟩ : ∃ n, q.length = n := ⟨_, rfl⟩
 have C := hid (name_got x.na w2 (HU.out.below HW2.out) H2a.out H4a.out n2 (by rw [Eq.out]; exact hn2))
 rw [Eq.out] at C
 go_wp2_with fail
 refine C.out.mono ?_
 rintro e1 w3 ⟨a3, c3, rfl, hy, hb, hm⟩
 have HA3 := hid (HA2.out.on hb)
 have HW3 := hid (HW2.out.trans (hb.mono HW2.out.size))
 have HY := hid hy
 have HN := hid hm
 clear C hb hy hm x0 x1 x2
 have x0 := HA3.out.touch.cell (p := ⟨w.heap.size, 0, none⟩) HS.out X0H.out
 have x1 := HA3.out.touch.cell (p := ⟨w.heap.size, 1, none⟩) HS.out X1H.out
 have x2 := HA3.out.touch.cell (p := ⟨w.heap.size, 2, none⟩) HS.out X2H.out
 have C := hid (put_anyE g B v2 (xs ++ p) q a3 n2 c3 0 w3 HA3.out.again HN.out HY.out (by have := HL.out; have := Bp.out; have := Bq.out; have := Br.out; first | omega | (simp; omega)))
 go_wp2_with fail
 refine C.out.mono ?_
 rintro e1 w4 ⟨rfl, v4, hb⟩
 have HA4 := hid (HA3.out.trans hb)
 have HW4 := hid (HA4.out.deep H.out.own HW0.out HG.out)
 clear C hb x0 x1 x2
 have x0 := HA4.out.touch.cell (p := ⟨w.heap.size, 0, none⟩) HS.out X0H.out
 have x1 := HA4.out.touch.cell (p := ⟨w.heap.size, 1, none⟩) HS.out X1H.out
 have x2 := HA4.out.touch.cell (p := ⟨w.heap.size, 2, none⟩) HS.out X2H.out
 have C := hid (byte_any g B v4 (xs ++ p ++ q) 0 w4 HA4.out.again (by omega) (by have := HL.out; have := Bp.out; have := Bq.out; have := Br.out; first | omega | (simp; omega)))
 go_wp2_with fail
 refine C.out.mono ?_
 rintro e1 w5 ⟨rfl, v5, hb⟩
 have HA5 := hid (HA4.out.trans hb)
 have HW5 := hid (HA5.out.deep H.out.own HW0.out HG.out)
 clear C hb x0 x1 x2
 have x0 := HA5.out.touch.cell (p := ⟨w.heap.size, 0, none⟩) HS.out X0H.out
 have x1 := HA5.out.touch.cell (p := ⟨w.heap.size, 1, none⟩) HS.out X1H.out
 have x2 := HA5.out.touch.cell (p := ⟨w.heap.size, 2, none⟩) HS.out X2H.out
 have C := hid (number_any g B v5 (xs ++ p ++ q ++ [0]) x.ty w5 HA5.out.again H5.out H7.out (by have := HL.out; have := Bp.out; have := Bq.out; have := Br.out; first | omega | (simp; omega)))
 rw [Er.out] at C
 go_wp2_with fail
 refine C.out.mono ?_
 rintro e1 w6 ⟨rfl, v6, hb⟩
 have HA6 := hid (HA5.out.trans hb)
 have HW6 := hid (HA6.out.deep H.out.own HW0.out HG.out)
 clear C hb x0 x1 x2
 have x0 := HA6.out.touch.cell (p := ⟨w.heap.size, 0, none⟩) HS.out X0H.out
 have x1 := HA6.out.touch.cell (p := ⟨w.heap.size, 1, none⟩) HS.out X1H.out
 have x2 := HA6.out.touch.cell (p := ⟨w.heap.size, 2, none⟩) HS.out X2H.out
 clear x0 x1 x2
 go_wp2
 go_end0
 exact ⟨rfl, v6, H1.out.trans HA6.out⟩
set_option maxRecDepth 100000 in
set_option maxHeartbeats 2000000 in
theorem typeOf_any (g B : Nat) (v : Value) (xs : List Int) (x : Mod.Fn) (w0 w : World) (h : Buf g B v w v xs w) (hB : Below w0.heap.size w0 w) (hg : w0.heap.size < g) (hl : xs.length ≤ 1000000000)
  (h5 : 0 ≤ x.ty) (h6 : x.ty ≤ 2147483647) :
  Calls Tryz.prog 162 #[.pointer (some ⟨g, 0, none⟩), .agg #[.int .i64 x.ty, .int .i64 x.lo, x.l.val]] w (Puts g B v w (xs ++ fnB x)) := by
 have H := hid h
 have H1 := hid (h.lit (.cells #[.int .i64 x.ty, .int .i64 x.lo, x.l.val] 66))
 have HA0 := hid (h.lit (.cells #[.int .i64 x.ty, .int .i64 x.lo, x.l.val] 66)).again
 have HS := hid h.apart
 have HL := hid hl
 have HG := hid hg
 have HW0 := hid (hB.trans (((Below.refl w.heap.size w).alloc (Nat.le_refl _) (.cells #[.int .i64 x.ty, .int .i64 x.lo, x.l.val] 66)).mono hB.size))
 have X0 := BoxAt.made w #[.int .i64 x.ty, .int .i64 x.lo, x.l.val] 66
 have X0H := hid (X0 0 _ rfl)
 have X1H := hid (X0 1 _ rfl)
 have X2H := hid (X0 2 _ rfl)
 have x0 := X0H.out
 have x1 := X1H.out
 have x2 := X2H.out
 have hw := u32_id x.ty h5 h6
 have H5 := hid h5
 have H7 := hid (show x.ty < 4294967296 by omega)
 have e : xs ++ fnB x = xs ++ encU x.ty := by rfl
 rw [e]
 have Br := hid (show (encU x.ty).length ≤ 100000000 from by rw [encU_length]; have := (sizeU_pos x.ty).2; omega)
 obtain ⟨r, hr⟩ : ∃ p, encU x.ty = p := ⟨_, rfl⟩
 have Er := hid hr
 rw [hr] at Br ⊢
 clear h hB hg hl X0 e hr
 skip
 go_enter Tryz.func162, Tryz.ntmps162
 clear h5 h6
 have C := hid (number_any g B v (xs) x.ty (w.alloc (.cells #[.int .i64 x.ty, .int .i64 x.lo, x.l.val] 66)) HA0.out.again H5.out H7.out (by have := HL.out; have := Br.out; first | omega | (simp; omega)))
 rw [Er.out] at C
 go_wp2_with fail
 refine C.out.mono ?_
 rintro e1 w1 ⟨rfl, v1, hb⟩
 have HA1 := hid (HA0.out.trans hb)
 have HW1 := hid (HA1.out.deep H.out.own HW0.out HG.out)
 clear C hb x0 x1 x2
 have x0 := HA1.out.touch.cell (p := ⟨w.heap.size, 0, none⟩) HS.out X0H.out
 have x1 := HA1.out.touch.cell (p := ⟨w.heap.size, 1, none⟩) HS.out X1H.out
 have x2 := HA1.out.touch.cell (p := ⟨w.heap.size, 2, none⟩) HS.out X2H.out
 clear x0 x1 x2
 go_wp2
 go_end0
 exact ⟨rfl, v1, H1.out.trans HA1.out⟩
set_option maxRecDepth 100000 in
set_option maxHeartbeats 2000000 in
theorem table_any (g B : Nat) (v : Value) (xs : List Int) (x : Li) (w0 w : World) (h : Buf g B v w v xs w) (hB : Below w0.heap.size w0 w) (hg : w0.heap.size < g) (hl : xs.length ≤ 1000000000)
  (hx : Kind.okLim x.n x.x x.c 1048576 = true) (ha : 0 ≤ x.n ∧ x.n ≤ 4294967295) (hb2 : 0 ≤ x.x ∧ x.x ≤ 4294967295) :
  Calls Tryz.prog 164 #[.pointer (some ⟨g, 0, none⟩), .agg #[.int .u32 x.n, .int .u32 x.x, .bool x.c]] w (Puts g B v w (xs ++ tbB x)) := by
 have H := hid h
 have H1 := hid (h.lit (.cells #[.int .u32 x.n, .int .u32 x.x, .bool x.c] 60))
 have HA0 := hid (h.lit (.cells #[.int .u32 x.n, .int .u32 x.x, .bool x.c] 60)).again
 have HS := hid h.apart
 have HL := hid hl
 have HG := hid hg
 have HW0 := hid (hB.trans (((Below.refl w.heap.size w).alloc (Nat.le_refl _) (.cells #[.int .u32 x.n, .int .u32 x.x, .bool x.c] 60)).mono hB.size))
 have X0 := BoxAt.made w #[.int .u32 x.n, .int .u32 x.x, .bool x.c] 60
 have X0H := hid (X0 0 _ rfl)
 have X1H := hid (X0 1 _ rfl)
 have X2H := hid (X0 2 _ rfl)
 have x0 := X0H.out
 have x1 := X1H.out
 have x2 := X2H.out
 have HX := hid hx
 have HA := hid ha
 have HC := hid hb2
 have e : xs ++ tbB x = xs ++ [112] ++ meB x := by unfold tbB meB; simp
 rw [e]
 have Bp := hid (show (meB x).length ≤ 100000000 from by have := Kind.limL_le x.n x.x x.c; unfold meB; omega)
 obtain ⟨p, hp⟩ : ∃ p, meB x = p := ⟨_, rfl⟩
 have Ep := hid hp
 rw [hp] at Bp ⊢
 clear h hB hg hl X0 e hp
 skip
 go_enter Tryz.func164, Tryz.ntmps164
 clear hx ha hb2
 have C := hid (byte_any g B v (xs) 112 (w.alloc (.cells #[.int .u32 x.n, .int .u32 x.x, .bool x.c] 60)) HA0.out.again (by omega) (by have := HL.out; have := Bp.out; first | omega | (simp; omega)))
 go_wp2_with fail
 refine C.out.mono ?_
 rintro e1 w1 ⟨rfl, v1, hb⟩
 have HA1 := hid (HA0.out.trans hb)
 have HW1 := hid (HA1.out.deep H.out.own HW0.out HG.out)
 clear C hb x0 x1 x2
 have x0 := HA1.out.touch.cell (p := ⟨w.heap.size, 0, none⟩) HS.out X0H.out
 have x1 := HA1.out.touch.cell (p := ⟨w.heap.size, 1, none⟩) HS.out X1H.out
 have x2 := HA1.out.touch.cell (p := ⟨w.heap.size, 2, none⟩) HS.out X2H.out
 obtain ⟨n1, hn1⟩ : ∃ n, p.length = n := ⟨_, rfl⟩
 have C := hid (lim_got x 1048576 HX.out HA.out HC.out n1 (by rw [Ep.out]; exact hn1) w1)
 rw [Ep.out] at C
 go_wp2_with fail
 refine C.out.mono ?_
 rintro e1 w2 ⟨a2, c2, rfl, hy, hb, hm⟩
 have HA2 := hid (HA1.out.on hb)
 have HW2 := hid (HW1.out.trans (hb.mono HW1.out.size))
 have HY := hid hy
 have HN := hid hm
 clear C hb hy hm x0 x1 x2
 have x0 := HA2.out.touch.cell (p := ⟨w.heap.size, 0, none⟩) HS.out X0H.out
 have x1 := HA2.out.touch.cell (p := ⟨w.heap.size, 1, none⟩) HS.out X1H.out
 have x2 := HA2.out.touch.cell (p := ⟨w.heap.size, 2, none⟩) HS.out X2H.out
 have C := hid (put_anyE g B v1 (xs ++ [112]) p a2 n1 c2 0 w2 HA2.out.again HN.out HY.out (by have := HL.out; have := Bp.out; first | omega | (simp; omega)))
 go_wp2_with fail
 refine C.out.mono ?_
 rintro e1 w3 ⟨rfl, v3, hb⟩
 have HA3 := hid (HA2.out.trans hb)
 have HW3 := hid (HA3.out.deep H.out.own HW0.out HG.out)
 clear C hb x0 x1 x2
 have x0 := HA3.out.touch.cell (p := ⟨w.heap.size, 0, none⟩) HS.out X0H.out
 have x1 := HA3.out.touch.cell (p := ⟨w.heap.size, 1, none⟩) HS.out X1H.out
 have x2 := HA3.out.touch.cell (p := ⟨w.heap.size, 2, none⟩) HS.out X2H.out
 clear x0 x1 x2
 go_wp2
 go_end0
 exact ⟨rfl, v3, H1.out.trans HA3.out⟩
set_option maxRecDepth 100000 in
set_option maxHeartbeats 2000000 in
theorem memory_any (g B : Nat) (v : Value) (xs : List Int) (x : Li) (w0 w : World) (h : Buf g B v w v xs w) (hB : Below w0.heap.size w0 w) (hg : w0.heap.size < g) (hl : xs.length ≤ 1000000000)
  (hx : Kind.okLim x.n x.x x.c 65536 = true) (ha : 0 ≤ x.n ∧ x.n ≤ 4294967295) (hb2 : 0 ≤ x.x ∧ x.x ≤ 4294967295) :
  Calls Tryz.prog 165 #[.pointer (some ⟨g, 0, none⟩), .agg #[.int .u32 x.n, .int .u32 x.x, .bool x.c]] w (Puts g B v w (xs ++ meB x)) := by
 have H := hid h
 have H1 := hid (h.lit (.cells #[.int .u32 x.n, .int .u32 x.x, .bool x.c] 60))
 have HA0 := hid (h.lit (.cells #[.int .u32 x.n, .int .u32 x.x, .bool x.c] 60)).again
 have HS := hid h.apart
 have HL := hid hl
 have HG := hid hg
 have HW0 := hid (hB.trans (((Below.refl w.heap.size w).alloc (Nat.le_refl _) (.cells #[.int .u32 x.n, .int .u32 x.x, .bool x.c] 60)).mono hB.size))
 have X0 := BoxAt.made w #[.int .u32 x.n, .int .u32 x.x, .bool x.c] 60
 have X0H := hid (X0 0 _ rfl)
 have X1H := hid (X0 1 _ rfl)
 have X2H := hid (X0 2 _ rfl)
 have x0 := X0H.out
 have x1 := X1H.out
 have x2 := X2H.out
 have HX := hid hx
 have HA := hid ha
 have HC := hid hb2
 have e : xs ++ meB x = xs ++ meB x := by rfl
 rw [e]
 have Bp := hid (show (meB x).length ≤ 100000000 from by have := Kind.limL_le x.n x.x x.c; unfold meB; omega)
 obtain ⟨p, hp⟩ : ∃ p, meB x = p := ⟨_, rfl⟩
 have Ep := hid hp
 rw [hp] at Bp ⊢
 clear h hB hg hl X0 e hp
 skip
 go_enter Tryz.func165, Tryz.ntmps165
 clear hx ha hb2
 obtain ⟨n0, hn0⟩ : ∃ n, p.length = n := ⟨_, rfl⟩
 have C := hid (lim_got x 65536 HX.out HA.out HC.out n0 (by rw [Ep.out]; exact hn0) (w.alloc (.cells #[.int .u32 x.n, .int .u32 x.x, .bool x.c] 60)))
 rw [Ep.out] at C
 go_wp2_with fail
 refine C.out.mono ?_
 rintro e1 w1 ⟨a1, c1, rfl, hy, hb, hm⟩
 have HA1 := hid (HA0.out.on hb)
 have HW1 := hid (HW0.out.trans (hb.mono HW0.out.size))
 have HY := hid hy
 have HN := hid hm
 clear C hb hy hm x0 x1 x2
 have x0 := HA1.out.touch.cell (p := ⟨w.heap.size, 0, none⟩) HS.out X0H.out
 have x1 := HA1.out.touch.cell (p := ⟨w.heap.size, 1, none⟩) HS.out X1H.out
 have x2 := HA1.out.touch.cell (p := ⟨w.heap.size, 2, none⟩) HS.out X2H.out
 have C := hid (put_anyE g B v (xs) p a1 n0 c1 0 w1 HA1.out.again HN.out HY.out (by have := HL.out; have := Bp.out; first | omega | (simp; omega)))
 go_wp2_with fail
 refine C.out.mono ?_
 rintro e1 w2 ⟨rfl, v2, hb⟩
 have HA2 := hid (HA1.out.trans hb)
 have HW2 := hid (HA2.out.deep H.out.own HW0.out HG.out)
 clear C hb x0 x1 x2
 have x0 := HA2.out.touch.cell (p := ⟨w.heap.size, 0, none⟩) HS.out X0H.out
 have x1 := HA2.out.touch.cell (p := ⟨w.heap.size, 1, none⟩) HS.out X1H.out
 have x2 := HA2.out.touch.cell (p := ⟨w.heap.size, 2, none⟩) HS.out X2H.out
 clear x0 x1 x2
 go_wp2
 go_end0
 exact ⟨rfl, v2, H1.out.trans HA2.out⟩
set_option maxRecDepth 100000 in
set_option maxHeartbeats 2000000 in
theorem global1_any (g B : Nat) (v : Value) (xs : List Int) (x : Gl) (w0 w : World) (h : Buf g B v w v xs w) (hB : Below w0.heap.size w0 w) (hg : w0.heap.size < g) (hl : xs.length ≤ 1000000000)
  (hLs : ListAt w0.heap.size w0 x.l.a x.l.t.len x.l.t) (hT : Nams w0) (hck : checkP x.l.t = 0) (hln : x.l.t.len ≤ 140737488351232) (hct : x.l.t.count ≤ 1000000) (hel : (encL x.l.t).length ≤ 90000) :
  Calls Tryz.prog 167 #[.pointer (some ⟨g, 0, none⟩), .agg #[.bool true, x.l.val]] w (Puts g B v w (xs ++ (127 :: 1 :: insB x.l))) := by
 have H := hid h
 have H1 := hid (h.lit (.cells #[.bool true, x.l.val] 68))
 have HA0 := hid (h.lit (.cells #[.bool true, x.l.val] 68)).again
 have HS := hid h.apart
 have HL := hid hl
 have HG := hid hg
 have HW0 := hid (hB.trans (((Below.refl w.heap.size w).alloc (Nat.le_refl _) (.cells #[.bool true, x.l.val] 68)).mono hB.size))
 have X0 := BoxAt.made w #[.bool true, x.l.val] 68
 have X0H := hid (X0 0 _ rfl)
 have X1H := hid (X0 1 _ rfl)
 have x0 := X0H.out
 have x1 := X1H.out
 have HLs := hid hLs
 have HT := hid hT
 have HCK := hid hck
 have HLN := hid hln
 have HCT := hid hct
 have HEL := hid hel
 have e : xs ++ (127 :: 1 :: insB x.l) = xs ++ [127] ++ [1] ++ insB x.l := by simp
 rw [e]
 have Bp := hid (show (insB x.l).length ≤ 100000000 from by show (encL x.l.t ++ [11]).length ≤ _; simp; omega)
 obtain ⟨p, hp⟩ : ∃ p, insB x.l = p := ⟨_, rfl⟩
 have Ep := hid hp
 rw [hp] at Bp ⊢
 clear h hB hg hl X0 e hp
 skip
 go_enter Tryz.func167, Tryz.ntmps167
 clear hLs hT hck hln hct hel
 unfold Lst.val at *
 have C := hid (byte_any g B v (xs) 127 (w.alloc (.cells #[.bool true, x.l.val] 68)) HA0.out.again (by omega) (by have := HL.out; have := Bp.out; first | omega | (simp; omega)))
 go_wp2_with fail
 refine C.out.mono ?_
 rintro e1 w1 ⟨rfl, v1, hb⟩
 have HA1 := hid (HA0.out.trans hb)
 have HW1 := hid (HA1.out.deep H.out.own HW0.out HG.out)
 clear C hb x0 x1
 have x0 := HA1.out.touch.cell (p := ⟨w.heap.size, 0, none⟩) HS.out X0H.out
 have x1 := HA1.out.touch.cell (p := ⟨w.heap.size, 1, none⟩) HS.out X1H.out
 have C := hid (byte_any g B v1 (xs ++ [127]) 1 w1 HA1.out.again (by omega) (by have := HL.out; have := Bp.out; first | omega | (simp; omega)))
 go_wp2_with fail
 refine C.out.mono ?_
 rintro e1 w2 ⟨rfl, v2, hb⟩
 have HA2 := hid (HA1.out.trans hb)
 have HW2 := hid (HA2.out.deep H.out.own HW0.out HG.out)
 clear C hb x0 x1
 have x0 := HA2.out.touch.cell (p := ⟨w.heap.size, 0, none⟩) HS.out X0H.out
 have x1 := HA2.out.touch.cell (p := ⟨w.heap.size, 1, none⟩) HS.out X1H.out
 obtain ⟨n2, hn2⟩ : ∃ n, p.length = n := ⟨_, rfl⟩
 have C := hid (ins_got x.l w2 ((HLs.out.below HW2.out).more HW2.out.size) HLN.out (HT.out.below HW2.out) HCT.out HEL.out HCK.out n2 (by rw [Ep.out]; exact hn2))
 rw [Ep.out] at C
 go_wp2_with fail
 refine C.out.mono ?_
 rintro e1 w3 ⟨a3, c3, rfl, hy, hb, hm⟩
 have HA3 := hid (HA2.out.on hb)
 have HW3 := hid (HW2.out.trans (hb.mono HW2.out.size))
 have HY := hid hy
 have HN := hid hm
 clear C hb hy hm x0 x1
 have x0 := HA3.out.touch.cell (p := ⟨w.heap.size, 0, none⟩) HS.out X0H.out
 have x1 := HA3.out.touch.cell (p := ⟨w.heap.size, 1, none⟩) HS.out X1H.out
 have C := hid (put_anyE g B v2 (xs ++ [127] ++ [1]) p a3 n2 c3 0 w3 HA3.out.again HN.out HY.out (by have := HL.out; have := Bp.out; first | omega | (simp; omega)))
 go_wp2_with fail
 refine C.out.mono ?_
 rintro e1 w4 ⟨rfl, v4, hb⟩
 have HA4 := hid (HA3.out.trans hb)
 have HW4 := hid (HA4.out.deep H.out.own HW0.out HG.out)
 clear C hb x0 x1
 have x0 := HA4.out.touch.cell (p := ⟨w.heap.size, 0, none⟩) HS.out X0H.out
 have x1 := HA4.out.touch.cell (p := ⟨w.heap.size, 1, none⟩) HS.out X1H.out
 clear x0 x1
 go_wp2
 go_end0
 exact ⟨rfl, v4, H1.out.trans HA4.out⟩
set_option maxRecDepth 100000 in
set_option maxHeartbeats 2000000 in
theorem global0_any (g B : Nat) (v : Value) (xs : List Int) (x : Gl) (w0 w : World) (h : Buf g B v w v xs w) (hB : Below w0.heap.size w0 w) (hg : w0.heap.size < g) (hl : xs.length ≤ 1000000000)
  (hLs : ListAt w0.heap.size w0 x.l.a x.l.t.len x.l.t) (hT : Nams w0) (hck : checkP x.l.t = 0) (hln : x.l.t.len ≤ 140737488351232) (hct : x.l.t.count ≤ 1000000) (hel : (encL x.l.t).length ≤ 90000) :
  Calls Tryz.prog 167 #[.pointer (some ⟨g, 0, none⟩), .agg #[.bool false, x.l.val]] w (Puts g B v w (xs ++ (127 :: 0 :: insB x.l))) := by
 have H := hid h
 have H1 := hid (h.lit (.cells #[.bool false, x.l.val] 68))
 have HA0 := hid (h.lit (.cells #[.bool false, x.l.val] 68)).again
 have HS := hid h.apart
 have HL := hid hl
 have HG := hid hg
 have HW0 := hid (hB.trans (((Below.refl w.heap.size w).alloc (Nat.le_refl _) (.cells #[.bool false, x.l.val] 68)).mono hB.size))
 have X0 := BoxAt.made w #[.bool false, x.l.val] 68
 have X0H := hid (X0 0 _ rfl)
 have X1H := hid (X0 1 _ rfl)
 have x0 := X0H.out
 have x1 := X1H.out
 have HLs := hid hLs
 have HT := hid hT
 have HCK := hid hck
 have HLN := hid hln
 have HCT := hid hct
 have HEL := hid hel
 have e : xs ++ (127 :: 0 :: insB x.l) = xs ++ [127] ++ [0] ++ insB x.l := by simp
 rw [e]
 have Bp := hid (show (insB x.l).length ≤ 100000000 from by show (encL x.l.t ++ [11]).length ≤ _; simp; omega)
 obtain ⟨p, hp⟩ : ∃ p, insB x.l = p := ⟨_, rfl⟩
 have Ep := hid hp
 rw [hp] at Bp ⊢
 clear h hB hg hl X0 e hp
 skip
 go_enter Tryz.func167, Tryz.ntmps167
 clear hLs hT hck hln hct hel
 unfold Lst.val at *
 have C := hid (byte_any g B v (xs) 127 (w.alloc (.cells #[.bool false, x.l.val] 68)) HA0.out.again (by omega) (by have := HL.out; have := Bp.out; first | omega | (simp; omega)))
 go_wp2_with fail
 refine C.out.mono ?_
 rintro e1 w1 ⟨rfl, v1, hb⟩
 have HA1 := hid (HA0.out.trans hb)
 have HW1 := hid (HA1.out.deep H.out.own HW0.out HG.out)
 clear C hb x0 x1
 have x0 := HA1.out.touch.cell (p := ⟨w.heap.size, 0, none⟩) HS.out X0H.out
 have x1 := HA1.out.touch.cell (p := ⟨w.heap.size, 1, none⟩) HS.out X1H.out
 have C := hid (byte_any g B v1 (xs ++ [127]) 0 w1 HA1.out.again (by omega) (by have := HL.out; have := Bp.out; first | omega | (simp; omega)))
 go_wp2_with fail
 refine C.out.mono ?_
 rintro e1 w2 ⟨rfl, v2, hb⟩
 have HA2 := hid (HA1.out.trans hb)
 have HW2 := hid (HA2.out.deep H.out.own HW0.out HG.out)
 clear C hb x0 x1
 have x0 := HA2.out.touch.cell (p := ⟨w.heap.size, 0, none⟩) HS.out X0H.out
 have x1 := HA2.out.touch.cell (p := ⟨w.heap.size, 1, none⟩) HS.out X1H.out
 obtain ⟨n2, hn2⟩ : ∃ n, p.length = n := ⟨_, rfl⟩
 have C := hid (ins_got x.l w2 ((HLs.out.below HW2.out).more HW2.out.size) HLN.out (HT.out.below HW2.out) HCT.out HEL.out HCK.out n2 (by rw [Ep.out]; exact hn2))
 rw [Ep.out] at C
 go_wp2_with fail
 refine C.out.mono ?_
 rintro e1 w3 ⟨a3, c3, rfl, hy, hb, hm⟩
 have HA3 := hid (HA2.out.on hb)
 have HW3 := hid (HW2.out.trans (hb.mono HW2.out.size))
 have HY := hid hy
 have HN := hid hm
 clear C hb hy hm x0 x1
 have x0 := HA3.out.touch.cell (p := ⟨w.heap.size, 0, none⟩) HS.out X0H.out
 have x1 := HA3.out.touch.cell (p := ⟨w.heap.size, 1, none⟩) HS.out X1H.out
 have C := hid (put_anyE g B v2 (xs ++ [127] ++ [0]) p a3 n2 c3 0 w3 HA3.out.again HN.out HY.out (by have := HL.out; have := Bp.out; first | omega | (simp; omega)))
 go_wp2_with fail
 refine C.out.mono ?_
 rintro e1 w4 ⟨rfl, v4, hb⟩
 have HA4 := hid (HA3.out.trans hb)
 have HW4 := hid (HA4.out.deep H.out.own HW0.out HG.out)
 clear C hb x0 x1
 have x0 := HA4.out.touch.cell (p := ⟨w.heap.size, 0, none⟩) HS.out X0H.out
 have x1 := HA4.out.touch.cell (p := ⟨w.heap.size, 1, none⟩) HS.out X1H.out
 clear x0 x1
 go_wp2
 go_end0
 exact ⟨rfl, v4, H1.out.trans HA4.out⟩
set_option maxRecDepth 100000 in
set_option maxHeartbeats 2000000 in
theorem exported_any (g B : Nat) (v : Value) (xs : List Int) (x : Ex) (w0 w : World) (h : Buf g B v w v xs w) (hB : Below w0.heap.size w0 w) (hg : w0.heap.size < g) (hl : xs.length ≤ 1000000000)
  (hU : Utf.Tabs w0) (h1 : x.na.size ≤ 1048576) (h3 : noText x.na = false) (h5 : 0 ≤ x.k) (h6 : x.k ≤ 3) (h7 : 0 ≤ x.i) (h8 : x.i < 4294967296) :
  Calls Tryz.prog 169 #[.pointer (some ⟨g, 0, none⟩), .agg #[.string x.na, .int .i64 x.k, .int .u32 x.i]] w (Puts g B v w (xs ++ exB x)) := by
 have H := hid h
 have H1 := hid (h.lit (.cells #[.string x.na, .int .i64 x.k, .int .u32 x.i] 75))
 have HA0 := hid (h.lit (.cells #[.string x.na, .int .i64 x.k, .int .u32 x.i] 75)).again
 have HS := hid h.apart
 have HL := hid hl
 have HG := hid hg
 have HW0 := hid (hB.trans (((Below.refl w.heap.size w).alloc (Nat.le_refl _) (.cells #[.string x.na, .int .i64 x.k, .int .u32 x.i] 75)).mono hB.size))
 have X0 := BoxAt.made w #[.string x.na, .int .i64 x.k, .int .u32 x.i] 75
 have X0H := hid (X0 0 _ rfl)
 have X1H := hid (X0 1 _ rfl)
 have X2H := hid (X0 2 _ rfl)
 have x0 := X0H.out
 have x1 := X1H.out
 have x2 := X2H.out
 have HU := hid hU
 have H1a := hid h1
 have H3a := hid h3
 have hw := u8_id x.k h5 h6
 have H5 := hid (show 0 ≤ x.k ∧ x.k < 256 by omega)
 have H7 := hid h7
 have H8 := hid h8
 have e : xs ++ exB x = xs ++ nameB x.na ++ [x.k] ++ encU x.i := by unfold exB; simp
 rw [e]
 have Bp := hid (show (nameB x.na).length ≤ 100000000 from by have := nameB_len x.na; omega)
 have Br := hid (show (encU x.i).length ≤ 100000000 from by rw [encU_length]; have := (sizeU_pos x.i).2; omega)
 obtain ⟨p, hp⟩ : ∃ p, nameB x.na = p := ⟨_, rfl⟩
 have Ep := hid hp
 rw [hp] at Bp ⊢
 obtain ⟨r, hr⟩ : ∃ p, encU x.i = p := ⟨_, rfl⟩
 have Er := hid hr
 rw [hr] at Br ⊢
 clear h hB hg hl X0 e hp hr
 skip
 go_enter Tryz.func169, Tryz.ntmps169
 clear hU h1 h3 h5 h6 h7 h8
 obtain ⟨n0, hn0⟩ : ∃ n, p.length = n := ⟨_, rfl⟩
 have C := hid (name_got x.na (w.alloc (.cells #[.string x.na, .int .i64 x.k, .int .u32 x.i] 75)) (HU.out.below HW0.out) H1a.out H3a.out n0 (by rw [Ep.out]; exact hn0))
 rw [Ep.out] at C
 go_wp2_with fail
 refine C.out.mono ?_
 rintro e1 w1 ⟨a1, c1, rfl, hy, hb, hm⟩
 have HA1 := hid (HA0.out.on hb)
 have HW1 := hid (HW0.out.trans (hb.mono HW0.out.size))
 have HY := hid hy
 have HN := hid hm
 clear C hb hy hm x0 x1 x2
 have x0 := HA1.out.touch.cell (p := ⟨w.heap.size, 0, none⟩) HS.out X0H.out
 have x1 := HA1.out.touch.cell (p := ⟨w.heap.size, 1, none⟩) HS.out X1H.out
 have x2 := HA1.out.touch.cell (p := ⟨w.heap.size, 2, none⟩) HS.out X2H.out
 have C := hid (put_anyE g B v (xs) p a1 n0 c1 0 w1 HA1.out.again HN.out HY.out (by have := HL.out; have := Bp.out; have := Br.out; first | omega | (simp; omega)))
 go_wp2_with fail
 refine C.out.mono ?_
 rintro e1 w2 ⟨rfl, v2, hb⟩
 have HA2 := hid (HA1.out.trans hb)
 have HW2 := hid (HA2.out.deep H.out.own HW0.out HG.out)
 clear C hb x0 x1 x2
 have x0 := HA2.out.touch.cell (p := ⟨w.heap.size, 0, none⟩) HS.out X0H.out
 have x1 := HA2.out.touch.cell (p := ⟨w.heap.size, 1, none⟩) HS.out X1H.out
 have x2 := HA2.out.touch.cell (p := ⟨w.heap.size, 2, none⟩) HS.out X2H.out
 have C := hid (byte_any g B v2 (xs ++ p) x.k w2 HA2.out.again H5.out (by have := HL.out; have := Bp.out; have := Br.out; first | omega | (simp; omega)))
 go_wp2_with fail
 refine C.out.mono ?_
 rintro e1 w3 ⟨rfl, v3, hb⟩
 have HA3 := hid (HA2.out.trans hb)
 have HW3 := hid (HA3.out.deep H.out.own HW0.out HG.out)
 clear C hb x0 x1 x2
 have x0 := HA3.out.touch.cell (p := ⟨w.heap.size, 0, none⟩) HS.out X0H.out
 have x1 := HA3.out.touch.cell (p := ⟨w.heap.size, 1, none⟩) HS.out X1H.out
 have x2 := HA3.out.touch.cell (p := ⟨w.heap.size, 2, none⟩) HS.out X2H.out
 have C := hid (number_any g B v3 (xs ++ p ++ [x.k]) x.i w3 HA3.out.again H7.out H8.out (by have := HL.out; have := Bp.out; have := Br.out; first | omega | (simp; omega)))
 rw [Er.out] at C
 go_wp2_with fail
 refine C.out.mono ?_
 rintro e1 w4 ⟨rfl, v4, hb⟩
 have HA4 := hid (HA3.out.trans hb)
 have HW4 := hid (HA4.out.deep H.out.own HW0.out HG.out)
 clear C hb x0 x1 x2
 have x0 := HA4.out.touch.cell (p := ⟨w.heap.size, 0, none⟩) HS.out X0H.out
 have x1 := HA4.out.touch.cell (p := ⟨w.heap.size, 1, none⟩) HS.out X1H.out
 have x2 := HA4.out.touch.cell (p := ⟨w.heap.size, 2, none⟩) HS.out X2H.out
 clear x0 x1 x2
 go_wp2
 go_end0
 exact ⟨rfl, v4, H1.out.trans HA4.out⟩
set_option maxRecDepth 100000 in
set_option maxHeartbeats 2000000 in
theorem code_any (g B : Nat) (v : Value) (xs : List Int) (x : Mod.Fn) (w0 w : World) (h : Buf g B v w v xs w) (hB : Below w0.heap.size w0 w) (hg : w0.heap.size < g) (hl : xs.length ≤ 1000000000)
  (hLs : ListAt w0.heap.size w0 x.l.a x.l.t.len x.l.t) (hT : Nams w0) (hck : checkP x.l.t = 0) (hln : x.l.t.len ≤ 140737488351232) (hct : x.l.t.count ≤ 1000000) (hel : (encL x.l.t).length ≤ 90000) (hlo : 0 ≤ x.lo ∧ x.lo ≤ 50000) :
  Calls Tryz.prog 172 #[.pointer (some ⟨g, 0, none⟩), .agg #[.int .i64 x.ty, .int .i64 x.lo, x.l.val]] w (Puts g B v w (xs ++ coB x)) := by
 have H := hid h
 have H1 := hid (h.lit (.cells #[.int .i64 x.ty, .int .i64 x.lo, x.l.val] 66))
 have HA0 := hid (h.lit (.cells #[.int .i64 x.ty, .int .i64 x.lo, x.l.val] 66)).again
 have HS := hid h.apart
 have HL := hid hl
 have HG := hid hg
 have HW0 := hid (hB.trans (((Below.refl w.heap.size w).alloc (Nat.le_refl _) (.cells #[.int .i64 x.ty, .int .i64 x.lo, x.l.val] 66)).mono hB.size))
 have X0 := BoxAt.made w #[.int .i64 x.ty, .int .i64 x.lo, x.l.val] 66
 have X0H := hid (X0 0 _ rfl)
 have X1H := hid (X0 1 _ rfl)
 have X2H := hid (X0 2 _ rfl)
 have x0 := X0H.out
 have x1 := X1H.out
 have x2 := X2H.out
 have HLs := hid hLs
 have HT := hid hT
 have HCK := hid hck
 have HLN := hid hln
 have HCT := hid hct
 have HEL := hid hel
 have HL0 := hid hlo
 have e : xs ++ coB x = xs ++ (encU (codeL x.lo x.l.t).length ++ codeL x.lo x.l.t) := by rfl
 rw [e]
 have Bp := hid (show (codeL x.lo x.l.t).length ≤ 100000000 from by have := (Body.loc_len x.lo).1; unfold codeL; rw [List.length_append]; show _ + (encL x.l.t ++ [11]).length ≤ _; simp; omega)
 obtain ⟨p, hp⟩ : ∃ p, codeL x.lo x.l.t = p := ⟨_, rfl⟩
 have Ep := hid hp
 rw [hp] at Bp ⊢
 clear h hB hg hl X0 e hp
 skip
 go_enter Tryz.func172, Tryz.ntmps172
 clear hLs hT hck hln hct hel hlo
 unfold Lst.val at *
 obtain ⟨n0, hn0⟩ : ∃ n, p.length = n := ⟨_, rfl⟩
 have C := hid (code_got x _ ((HLs.out.below HW0.out).more HW0.out.size) HLN.out (HT.out.below HW0.out) HCT.out HEL.out HCK.out HL0.out.1 HL0.out.2 n0 (by rw [Ep.out]; exact hn0))
 rw [Ep.out] at C
 rw [hn0]
 go_wp2_with fail
 refine C.out.mono ?_
 rintro e1 w1 ⟨⟨a1, c1, rfl, hy, hb, hm⟩, hfr⟩
 have HA1 := hid (HA0.out.on hb)
 have HW1 := hid (HW0.out.trans (hb.mono HW0.out.size))
 have HY := hid hy
 have HN := hid hm
 have HF := hid (fun b off (ha : a1 = some ⟨b, off, none⟩) => hfr a1 c1 rfl b off ha)
 clear C hb hy hm hfr hn0 x0 x1 x2
 have C := hid (sized_any g B v xs p a1 n0 c1 w1 HA1.out.again HN.out HY.out (by have := HL.out; have := Bp.out; omega) (fun b off ha _ hs => by
   have h1 := HF.out b off ha
   simp only [World.size_alloc] at h1
   rcases hs with rfl | e
   · have := H.out.lt; omega
   · have := (World.ownsRow.lt H.out.own b e).2; omega))
 go_wp2_with fail
 refine C.out.mono ?_
 rintro e1 w2 ⟨rfl, v2, hb⟩
 have HA2 := hid (HA1.out.trans hb)
 clear C hb
 have x0 := X0H.out
 have x1 := X1H.out
 have x2 := X2H.out
 clear x0 x1 x2
 go_wp2
 go_end0
 exact ⟨rfl, v2, H1.out.trans HA2.out⟩
set_option maxRecDepth 100000 in
set_option maxHeartbeats 2000000 in
theorem data_any (g B : Nat) (v : Value) (xs : List Int) (x : Da) (w0 w : World) (h : Buf g B v w v xs w) (hB : Below w0.heap.size w0 w) (hg : w0.heap.size < g) (hl : xs.length ≤ 1000000000)
  (hLs : ListAt w0.heap.size w0 x.l.a x.l.t.len x.l.t) (hT : Nams w0) (hck : checkP x.l.t = 0) (hln : x.l.t.len ≤ 140737488351232) (hct : x.l.t.count ≤ 1000000) (hel : (encL x.l.t).length ≤ 90000) (hbs : BytesAt w0.heap.size w0 x.ba x.bs) (hby : ∀ z ∈ x.bs, 0 ≤ z ∧ z < 256) (hbl : x.bs.length ≤ 100000000) :
  Calls Tryz.prog 174 #[.pointer (some ⟨g, 0, none⟩), .agg #[x.l.val, .slice x.ba x.bs.length x.bc]] w (Puts g B v w (xs ++ daB x)) := by
 have H := hid h
 have H1 := hid (h.lit (.cells #[x.l.val, .slice x.ba x.bs.length x.bc] 47))
 have HA0 := hid (h.lit (.cells #[x.l.val, .slice x.ba x.bs.length x.bc] 47)).again
 have HS := hid h.apart
 have HL := hid hl
 have HG := hid hg
 have HW0 := hid (hB.trans (((Below.refl w.heap.size w).alloc (Nat.le_refl _) (.cells #[x.l.val, .slice x.ba x.bs.length x.bc] 47)).mono hB.size))
 have X0 := BoxAt.made w #[x.l.val, .slice x.ba x.bs.length x.bc] 47
 have X0H := hid (X0 0 _ rfl)
 have X1H := hid (X0 1 _ rfl)
 have x0 := X0H.out
 have x1 := X1H.out
 have HLs := hid hLs
 have HT := hid hT
 have HCK := hid hck
 have HLN := hid hln
 have HCT := hid hct
 have HEL := hid hel
 have HBS := hid hbs
 have HBY := hid hby
 have HBL := hid hbl
 have e : xs ++ daB x = xs ++ [0] ++ insB x.l ++ (encU x.bs.length ++ x.bs) := by unfold daB; simp
 rw [e]
 have Bp := hid (show (insB x.l).length ≤ 100000000 from by show (encL x.l.t ++ [11]).length ≤ _; simp; omega)
 obtain ⟨p, hp⟩ : ∃ p, insB x.l = p := ⟨_, rfl⟩
 have Ep := hid hp
 rw [hp] at Bp ⊢
 clear h hB hg hl X0 e hp
 skip
 go_enter Tryz.func174, Tryz.ntmps174
 clear hLs hT hck hln hct hel hbs hby hbl
 unfold Lst.val at *
 have C := hid (byte_any g B v (xs) 0 (w.alloc (.cells #[x.l.val, .slice x.ba x.bs.length x.bc] 47)) HA0.out.again (by omega) (by have := HL.out; have := Bp.out; first | omega | (simp; omega)))
 go_wp2_with fail
 refine C.out.mono ?_
 rintro e1 w1 ⟨rfl, v1, hb⟩
 have HA1 := hid (HA0.out.trans hb)
 have HW1 := hid (HA1.out.deep H.out.own HW0.out HG.out)
 clear C hb x0 x1
 have x0 := HA1.out.touch.cell (p := ⟨w.heap.size, 0, none⟩) HS.out X0H.out
 have x1 := HA1.out.touch.cell (p := ⟨w.heap.size, 1, none⟩) HS.out X1H.out
 obtain ⟨n1, hn1⟩ : ∃ n, p.length = n := ⟨_, rfl⟩
 have C := hid (ins_got x.l w1 ((HLs.out.below HW1.out).more HW1.out.size) HLN.out (HT.out.below HW1.out) HCT.out HEL.out HCK.out n1 (by rw [Ep.out]; exact hn1))
 rw [Ep.out] at C
 go_wp2_with fail
 refine C.out.mono ?_
 rintro e1 w2 ⟨a2, c2, rfl, hy, hb, hm⟩
 have HA2 := hid (HA1.out.on hb)
 have HW2 := hid (HW1.out.trans (hb.mono HW1.out.size))
 have HY := hid hy
 have HN := hid hm
 clear C hb hy hm x0 x1
 have x0 := HA2.out.touch.cell (p := ⟨w.heap.size, 0, none⟩) HS.out X0H.out
 have x1 := HA2.out.touch.cell (p := ⟨w.heap.size, 1, none⟩) HS.out X1H.out
 have C := hid (put_anyE g B v1 (xs ++ [0]) p a2 n1 c2 0 w2 HA2.out.again HN.out HY.out (by have := HL.out; have := Bp.out; first | omega | (simp; omega)))
 go_wp2_with fail
 refine C.out.mono ?_
 rintro e1 w3 ⟨rfl, v3, hb⟩
 have HA3 := hid (HA2.out.trans hb)
 have HW3 := hid (HA3.out.deep H.out.own HW0.out HG.out)
 clear C hb x0 x1
 have x0 := HA3.out.touch.cell (p := ⟨w.heap.size, 0, none⟩) HS.out X0H.out
 have x1 := HA3.out.touch.cell (p := ⟨w.heap.size, 1, none⟩) HS.out X1H.out
 obtain ⟨nb, hnb⟩ : ∃ n, x.bs.length = n := ⟨_, rfl⟩
 have HNB := hid hnb
 have C := hid (sized_any g B v3 (xs ++ [0] ++ p) x.bs x.ba nb x.bc w3 HA3.out.again HNB.out (bytes_at (HBS.out.below HW3.out) HBY.out (by have := HBL.out; omega)) (by have := HL.out; have := Bp.out; have := HBL.out; simp; omega) (fun b off ha hne hs => by
   have hlt : b < w0.heap.size := by
     rcases HBS.out with h | ⟨b1, off1, h, hl, _⟩
     · exact absurd h hne
     · rw [h] at ha; simp only [Option.some.injEq, Addr.mk.injEq] at ha; omega
   have h2 := HG.out
   rcases hs with e | e
   · omega
   · have := (World.ownsRow.lt HA3.out.own b e).1; have := H.out.low; omega))
 rw [hnb] at x1
 rw [hnb]
 clear hnb
 go_wp2_with fail
 refine C.out.mono ?_
 rintro e1 w4 ⟨rfl, v4, hb⟩
 rw [← HNB.out] at hb
 have HA4 := hid (HA3.out.trans hb)
 clear C hb
 clear x0 x1
 go_wp2
 go_end0
 exact ⟨rfl, v4, H1.out.trans HA4.out⟩
set_option maxRecDepth 100000 in
set_option maxHeartbeats 2000000 in
theorem elem_any (g B : Nat) (v : Value) (xs : List Int) (x : El) (w0 w : World) (h : Buf g B v w v xs w) (hB : Below w0.heap.size w0 w) (hg : w0.heap.size < g) (hl : xs.length ≤ 1000000000)
  (hLs : ListAt w0.heap.size w0 x.l.a x.l.t.len x.l.t) (hT : Nams w0) (hck : checkP x.l.t = 0) (hln : x.l.t.len ≤ 140737488351232) (hct : x.l.t.count ≤ 1000000) (hel : (encL x.l.t).length ≤ 90000) (hfs : TagsAt w0.heap.size w0 x.fa x.fs) (hfz : ∀ z ∈ x.fs, 0 ≤ z ∧ z < 4294967296) (hfl : x.fs.length ≤ 16384) :
  Calls Tryz.prog 171 #[.pointer (some ⟨g, 0, none⟩), .agg #[x.l.val, .slice x.fa x.fs.length x.fc]] w (Puts g B v w (xs ++ elB x)) := by
 have H := hid h
 have H1 := hid (h.lit (.cells #[x.l.val, .slice x.fa x.fs.length x.fc] 71))
 have HA0 := hid (h.lit (.cells #[x.l.val, .slice x.fa x.fs.length x.fc] 71)).again
 have HS := hid h.apart
 have HL := hid hl
 have HG := hid hg
 have HW0 := hid (hB.trans (((Below.refl w.heap.size w).alloc (Nat.le_refl _) (.cells #[x.l.val, .slice x.fa x.fs.length x.fc] 71)).mono hB.size))
 have X0 := BoxAt.made w #[x.l.val, .slice x.fa x.fs.length x.fc] 71
 have X0H := hid (X0 0 _ rfl)
 have X1H := hid (X0 1 _ rfl)
 have x0 := X0H.out
 have x1 := X1H.out
 have HLs := hid hLs
 have HT := hid hT
 have HCK := hid hck
 have HLN := hid hln
 have HCT := hid hct
 have HEL := hid hel
 have HFS := hid hfs
 have HFZ := hid hfz
 have HFL := hid hfl
 have hw := u32_id x.fs.length (by omega) (by omega)
 have e : xs ++ elB x = xs ++ [0] ++ insB x.l ++ encU x.fs.length ++ x.fs.flatMap encU := by unfold elB; simp
 rw [e]
 have Bp := hid (show (insB x.l).length ≤ 100000000 from by show (encL x.l.t ++ [11]).length ≤ _; simp; omega)
 have Br := hid (show (encU x.fs.length).length ≤ 100000000 from by rw [encU_length]; have := (sizeU_pos x.fs.length).2; omega)
 obtain ⟨p, hp⟩ : ∃ p, insB x.l = p := ⟨_, rfl⟩
 have Ep := hid hp
 rw [hp] at Bp ⊢
 obtain ⟨r, hr⟩ : ∃ p, encU x.fs.length = p := ⟨_, rfl⟩
 have Er := hid hr
 rw [hr] at Br ⊢
 clear h hB hg hl X0 e hp hr
 skip
 go_enter Tryz.func171, Tryz.ntmps171
 clear hLs hT hck hln hct hel hfs hfz hfl
 unfold Lst.val at *
 skip
 skip
 have C := hid (byte_any g B v (xs) 0 (w.alloc (.cells #[x.l.val, .slice x.fa x.fs.length x.fc] 71)) HA0.out.again (by omega) (by have := HL.out; have := Bp.out; have := Br.out; first | omega | (simp; omega)))
 go_wp2_with fail
 refine C.out.mono ?_
 rintro e1 w1 ⟨rfl, v1, hb⟩
 have HA1 := hid (HA0.out.trans hb)
 have HW1 := hid (HA1.out.deep H.out.own HW0.out HG.out)
 clear C hb x0 x1
 have x0 := HA1.out.touch.cell (p := ⟨w.heap.size, 0, none⟩) HS.out X0H.out
 have x1 := HA1.out.touch.cell (p := ⟨w.heap.size, 1, none⟩) HS.out X1H.out
 obtain ⟨n1, hn1⟩ : ∃ n, p.length = n := ⟨_, rfl⟩
 have C := hid (ins_got x.l w1 ((HLs.out.below HW1.out).more HW1.out.size) HLN.out (HT.out.below HW1.out) HCT.out HEL.out HCK.out n1 (by rw [Ep.out]; exact hn1))
 rw [Ep.out] at C
 go_wp2_with fail
 refine C.out.mono ?_
 rintro e1 w2 ⟨a2, c2, rfl, hy, hb, hm⟩
 have HA2 := hid (HA1.out.on hb)
 have HW2 := hid (HW1.out.trans (hb.mono HW1.out.size))
 have HY := hid hy
 have HN := hid hm
 clear C hb hy hm x0 x1
 have x0 := HA2.out.touch.cell (p := ⟨w.heap.size, 0, none⟩) HS.out X0H.out
 have x1 := HA2.out.touch.cell (p := ⟨w.heap.size, 1, none⟩) HS.out X1H.out
 have C := hid (put_anyE g B v1 (xs ++ [0]) p a2 n1 c2 0 w2 HA2.out.again HN.out HY.out (by have := HL.out; have := Bp.out; have := Br.out; first | omega | (simp; omega)))
 go_wp2_with fail
 refine C.out.mono ?_
 rintro e1 w3 ⟨rfl, v3, hb⟩
 have HA3 := hid (HA2.out.trans hb)
 have HW3 := hid (HA3.out.deep H.out.own HW0.out HG.out)
 clear C hb x0 x1
 have x0 := HA3.out.touch.cell (p := ⟨w.heap.size, 0, none⟩) HS.out X0H.out
 have x1 := HA3.out.touch.cell (p := ⟨w.heap.size, 1, none⟩) HS.out X1H.out
 obtain ⟨nf, hnf⟩ : ∃ n, x.fs.length = n := ⟨_, rfl⟩
 have LN := hid hnf
 have C := hid (number_any g B v3 (xs ++ [0] ++ p) (nf : Int) w3 HA3.out.again (by omega) (by have := HFL.out; omega) (by have := HL.out; have := Bp.out; have := Br.out; first | omega | (simp; omega)))
 rw [← hnf, Er.out] at C
 rw [hnf] at C x1 hw
 go_wp2_with fail
 refine C.out.mono ?_
 rintro e1 w4 ⟨rfl, v4, hb⟩
 have HA4 := hid (HA3.out.trans hb)
 have HW4 := hid (HA4.out.deep H.out.own HW0.out HG.out)
 clear C hb x0 x1
 have x0 := HA4.out.touch.cell (p := ⟨w.heap.size, 0, none⟩) HS.out X0H.out
 have x1 := HA4.out.touch.cell (p := ⟨w.heap.size, 1, none⟩) HS.out X1H.out
 rw [hnf] at x1
 clear hnf hw
 go_wp2
 obtain ⟨fa, hfa9⟩ : ∃ a, x.fa = a := ⟨_, rfl⟩
 have HFT := HFS
 rw [hfa9] at HFT ⊢
 clear hfa9
 have hnf2 : nf ≤ 16384 := by have := LN.out; have := HFL.out; omega
 go_loopw [24] (fun vi wr => ∃ (j : Nat) (v9 : Value), vi = .int .i64 j ∧ j ≤ nf ∧ Hid (Buf g B v (w.alloc (.cells #[.slice x.l.a x.l.t.len x.l.c, .slice x.fa x.fs.length x.fc] 71)) v9 (xs ++ [0] ++ p ++ r ++ (x.fs.take j).flatMap encU) wr) ∧ Hid (Below w0.heap.size w0 wr)) (fun vi _ => nf - (intOf vi).toNat)
 case atStart => exact ⟨0, v4, rfl, Nat.zero_le _, hid (by simpa using HA4.out), HW4⟩
 case round =>
  clear HA4 HW4 x0 x1
  obtain ⟨j, v9, rfl, hj, HA, HW⟩ := hrel
  by_cases hlt : j < nf
  ·have hjl : j < x.fs.length := by rw [LN.out]; exact hlt
   have hji : (j : Int) < (nf : Int) := by omega
   rcases HFT.out with h0 | ⟨b, off, rfl, hbl, hc⟩
   ·rw [h0] at hjl; simp at hjl
   have hcj := HW.out.cell (p := ⟨b, off + j, none⟩) hbl |>.trans (hc j hjl)
   have HST := hid (flat_step encU hjl)
   have hfz := HFZ.out _ (List.getElem_mem hjl)
   rw [getD_lt hjl] at hcj
   obtain ⟨f, hf⟩ : ∃ f, x.fs[j] = f := ⟨_, rfl⟩
   rw [hf] at hcj HST hfz
   have hlen : (xs ++ [0] ++ p ++ r ++ (x.fs.take j).flatMap encU).length ≤ 2000000000 := by
    have h1 := flat_five (x.fs.take j)
    have h2 := HFL.out
    have h3 : (x.fs.take j).length ≤ x.fs.length := by rw [List.length_take]; omega
    have := HL.out; have := Bp.out; have := Br.out
    rw [List.length_append]
    simp only [List.length_append, List.length_cons, List.length_nil]
    omega
   have C := hid (number_any g B v9 (xs ++ [0] ++ p ++ r ++ (x.fs.take j).flatMap encU) f wr HA.out.again hfz.1 hfz.2 hlen)
   clear hf hc hbl hjl hfz hlen hlt
   go_wp2_with fail
   refine C.out.mono ?_
   rintro e1 w9 ⟨rfl, v8, hb⟩
   have HA8 := hid (HA.out.trans hb)
   have HW8 := hid (HA8.out.deep H1.out.own HW0.out HG.out)
   clear C hb hcj
   go_wp2
   go_roundw
   case rel => exact ⟨j + 1, v8, by go_num, by omega, hid (by rw [HST.out, ← List.append_assoc]; exact HA8.out), HW8⟩
   case measure => simp [intOf]; omega
  ·obtain rfl : nf = j := by omega
   have HE := hid (show x.fs.take nf = x.fs from List.take_of_length_le (by rw [LN.out]; exact Nat.le_refl _))
   go_wp2
   go_end0
   exact ⟨rfl, v9, H1.out.trans (by have := HA.out; rw [HE.out] at this; exact this)⟩
end Go.Proofs.YtepbjkkakfpjgaaGreatDoor.Enc
namespace Go.Proofs.YtepbjkkakfpjgaaGreatDoor.Mod
open Go.RowKit Go.Shelf Go.Proofs.YtepbjkkakfpjgaaGreatDoor.Instr
theorem BoxAt.all {W : World} {g : Nat} {m : Md} (h : BoxAt W g m.v) : W.cell? ⟨g, 0, none⟩ = some (.slice m.ty'.a m.ty.length m.ty'.c) ∧ W.cell? ⟨g, 1, none⟩ = some (.slice m.im'.a m.im.length m.im'.c) ∧ W.cell? ⟨g, 2, none⟩ = some (.slice m.fu'.a m.fu.length m.fu'.c) ∧
  W.cell? ⟨g, 3, none⟩ = some (.slice m.tb'.a m.tb.length m.tb'.c) ∧ W.cell? ⟨g, 4, none⟩ = some (.slice m.me'.a m.me.length m.me'.c) ∧ W.cell? ⟨g, 5, none⟩ = some (.slice m.gl'.a m.gl.length m.gl'.c) ∧ W.cell? ⟨g, 6, none⟩ = some (.slice m.ex'.a m.ex.length m.ex'.c) ∧
  W.cell? ⟨g, 7, none⟩ = some (.bool m.st) ∧ W.cell? ⟨g, 8, none⟩ = some (.int .u32 m.sn) ∧ W.cell? ⟨g, 9, none⟩ = some (.slice m.el'.a m.el.length m.el'.c) ∧ W.cell? ⟨g, 10, none⟩ = some (.slice m.da'.a m.da.length m.da'.c) :=
 ⟨h 0 _ rfl, h 1 _ rfl, h 2 _ rfl, h 3 _ rfl, h 4 _ rfl, h 5 _ rfl, h 6 _ rfl, h 7 _ rfl, h 8 _ rfl, h 9 _ rfl, h 10 _ rfl⟩
theorem cells11 {W : World} {g : Nat} {v0 v1 v2 v3 v4 v5 v6 v7 v8 v9 v10 : Value} (h : BoxAt W g #[v0, v1, v2, v3, v4, v5, v6, v7, v8, v9, v10]) : W.cell? ⟨g, 0, none⟩ = some v0 ∧ W.cell? ⟨g, 1, none⟩ = some v1 ∧ W.cell? ⟨g, 2, none⟩ = some v2 ∧ W.cell? ⟨g, 3, none⟩ = some v3 ∧ W.cell? ⟨g, 4, none⟩ = some v4 ∧ W.cell? ⟨g, 5, none⟩ = some v5 ∧ W.cell? ⟨g, 6, none⟩ = some v6 ∧ W.cell? ⟨g, 7, none⟩ = some v7 ∧ W.cell? ⟨g, 8, none⟩ = some v8 ∧ W.cell? ⟨g, 9, none⟩ = some v9 ∧ W.cell? ⟨g, 10, none⟩ = some v10 := ⟨h 0 _ rfl, h 1 _ rfl, h 2 _ rfl, h 3 _ rfl, h 4 _ rfl, h 5 _ rfl, h 6 _ rfl, h 7 _ rfl, h 8 _ rfl, h 9 _ rfl, h 10 _ rfl⟩
set_option maxHeartbeats 1000000 in
theorem chk1 (m : Md) (g : Nat) (W : World) (hx : BoxAt W g m.v) (hm : ModAt W.heap.size W m) (hf : m.few) : Calls Tryz.prog 48 #[.pointer (some ⟨g, 0, none⟩)] W fun e w' => e = .returned (.int .i64 (errI (m.crowded) 141)) ∧ Below W.heap.size W w' := by
 have C := hid (crowded_any m W hm hf.fit)
 obtain ⟨q, hq⟩ : ∃ q, m.crowded = q := ⟨_, rfl⟩
 rw [hq] at C ⊢
 have E := hid (fun w => errIf_any q 141 w)
 unfold Md.v at C
 obtain ⟨c0,c1,c2,c3,c4,c5,c6,c7,c8,c9,c10⟩ := hx.all
 clear hx hm hf hq
 go_enter Tryz.func48, Tryz.ntmps48
 go_wp2_with fail
 refine C.out.mono ?_
 rintro e w1 ⟨rfl, hb1⟩
 clear C c0 c1 c2 c3 c4 c5 c6 c7 c8 c9 c10
 go_wp2_with fail
 refine (E.out _).mono ?_
 rintro e w2 ⟨rfl, rfl⟩
 go_wp2
 go_ret
 exact ⟨rfl, hb1⟩
set_option maxHeartbeats 1000000 in
theorem chk3 (m : Md) (g : Nat) (W : World) (hx : BoxAt W g m.v) (hm : ModAt W.heap.size W m) (hf : m.few) : Calls Tryz.prog 53 #[.pointer (some ⟨g, 0, none⟩)] W fun e w' => e = .returned (.int .i64 (errI (m.anyName longS) 3)) ∧ Below W.heap.size W w' := by
 have C := hid (anyName_any m 55 longS W hm hf.fit (asks_long W))
 obtain ⟨q, hq⟩ : ∃ q, m.anyName longS = q := ⟨_, rfl⟩
 rw [hq] at C ⊢
 have E := hid (fun w => errIf_any q 3 w)
 unfold Md.v at C
 obtain ⟨c0,c1,c2,c3,c4,c5,c6,c7,c8,c9,c10⟩ := hx.all
 clear hx hm hf hq
 go_enter Tryz.func53, Tryz.ntmps53
 go_wp2_with fail
 refine C.out.mono ?_
 rintro e w1 ⟨rfl, hb1⟩
 clear C c0 c1 c2 c3 c4 c5 c6 c7 c8 c9 c10
 go_wp2_with fail
 refine (E.out _).mono ?_
 rintro e w2 ⟨rfl, rfl⟩
 go_wp2
 go_ret
 exact ⟨rfl, hb1⟩
set_option maxHeartbeats 1000000 in
theorem chk4 (m : Md) (g : Nat) (W : World) (hx : BoxAt W g m.v) (hm : ModAt W.heap.size W m) (hf : m.few) : Calls Tryz.prog 56 #[.pointer (some ⟨g, 0, none⟩)] W fun e w' => e = .returned (.int .i64 (errI (m.heavy) 3)) ∧ Below W.heap.size W w' := by
 have C := hid (heavy_any m.da m.da'.a m.da.length m.da'.c W rfl hm.da hf.fit.da)
 unfold Md.heavy
 obtain ⟨q, hq⟩ : ∃ q, decide (1048576 < sumB m.da) = q := ⟨_, rfl⟩
 rw [hq] at C ⊢
 have E := hid (fun w => errIf_any q 3 w)
 obtain ⟨c0,c1,c2,c3,c4,c5,c6,c7,c8,c9,c10⟩ := hx.all
 clear hx hm hf hq
 go_enter Tryz.func56, Tryz.ntmps56
 go_wp2_with fail
 refine C.out.mono ?_
 rintro e w1 ⟨rfl, hb1⟩
 clear C c0 c1 c2 c3 c4 c5 c6 c7 c8 c9 c10
 go_wp2_with fail
 refine (E.out _).mono ?_
 rintro e w2 ⟨rfl, rfl⟩
 go_wp2
 go_ret
 exact ⟨rfl, hb1⟩
set_option maxHeartbeats 1000000 in
theorem chk6 (m : Md) (g : Nat) (W : World) (hx : BoxAt W g m.v) (hm : ModAt W.heap.size W m) (hf : m.few) (hU : Utf.Tabs W) : Calls Tryz.prog 59 #[.pointer (some ⟨g, 0, none⟩)] W fun e w' => e = .returned (.int .i64 (errI (m.anyName noText) 2)) ∧ Below W.heap.size W w' := by
 have C := hid (anyName_any m 60 noText W hm hf.fit (asks_text W hU))
 obtain ⟨q, hq⟩ : ∃ q, m.anyName noText = q := ⟨_, rfl⟩
 rw [hq] at C ⊢
 have E := hid (fun w => errIf_any q 2 w)
 unfold Md.v at C
 obtain ⟨c0,c1,c2,c3,c4,c5,c6,c7,c8,c9,c10⟩ := hx.all
 clear hx hm hf hq
 go_enter Tryz.func59, Tryz.ntmps59
 go_wp2_with fail
 refine C.out.mono ?_
 rintro e w1 ⟨rfl, hb1⟩
 clear C c0 c1 c2 c3 c4 c5 c6 c7 c8 c9 c10
 go_wp2_with fail
 refine (E.out _).mono ?_
 rintro e w2 ⟨rfl, rfl⟩
 go_wp2
 go_ret
 exact ⟨rfl, hb1⟩
set_option maxHeartbeats 1000000 in
theorem chk7 (m : Md) (g : Nat) (W : World) (hx : BoxAt W g m.v) (hm : ModAt W.heap.size W m) (hf : m.few) : Calls Tryz.prog 61 #[.pointer (some ⟨g, 0, none⟩)] W fun e w' => e = .returned (.int .i64 (errI (m.ty.any wrongT) 2)) ∧ Below W.heap.size W w' := by
 have C := hid (any_ty m.ty m.ty'.a m.ty.length m.ty'.c W rfl hm.ty hf.fit.ty 63 #[] (enters_of Tryz.func63 (by kernel_rfl) rfl) wrongT (fun W' x _ _ => by simp only [Array.append_empty]; exact wrongT_any x W'))
 obtain ⟨q, hq⟩ : ∃ q, m.ty.any wrongT = q := ⟨_, rfl⟩
 rw [hq] at C ⊢
 have E := hid (fun w => errIf_any q 2 w)
 obtain ⟨c0,c1,c2,c3,c4,c5,c6,c7,c8,c9,c10⟩ := hx.all
 clear hx hm hf hq
 go_enter Tryz.func61, Tryz.ntmps61
 go_wp2_with fail
 refine C.out.mono ?_
 rintro e w1 ⟨rfl, hb1⟩
 clear C c0 c1 c2 c3 c4 c5 c6 c7 c8 c9 c10
 go_wp2_with fail
 refine (E.out _).mono ?_
 rintro e w2 ⟨rfl, rfl⟩
 go_wp2
 go_ret
 exact ⟨rfl, hb1⟩
set_option maxHeartbeats 1000000 in
theorem chk8 (m : Md) (g : Nat) (W : World) (hx : BoxAt W g m.v) (hm : ModAt W.heap.size W m) (hf : m.few) : Calls Tryz.prog 64 #[.pointer (some ⟨g, 0, none⟩)] W fun e w' => e = .returned (.int .i64 (errI (m.im.any wrongI) 2)) ∧ Below W.heap.size W w' := by
 have C := hid (any_im m.im m.im'.a m.im.length m.im'.c W rfl hm.im hf.fit.im 66 #[] (enters_of Tryz.func66 (by kernel_rfl) rfl) wrongI (fun W' x _ _ => by simp only [Array.append_empty]; exact wrongI_any x W'))
 obtain ⟨q, hq⟩ : ∃ q, m.im.any wrongI = q := ⟨_, rfl⟩
 rw [hq] at C ⊢
 have E := hid (fun w => errIf_any q 2 w)
 obtain ⟨c0,c1,c2,c3,c4,c5,c6,c7,c8,c9,c10⟩ := hx.all
 clear hx hm hf hq
 go_enter Tryz.func64, Tryz.ntmps64
 go_wp2_with fail
 refine C.out.mono ?_
 rintro e w1 ⟨rfl, hb1⟩
 clear C c0 c1 c2 c3 c4 c5 c6 c7 c8 c9 c10
 go_wp2_with fail
 refine (E.out _).mono ?_
 rintro e w2 ⟨rfl, rfl⟩
 go_wp2
 go_ret
 exact ⟨rfl, hb1⟩
set_option maxHeartbeats 1000000 in
theorem chk9 (m : Md) (g : Nat) (W : World) (hx : BoxAt W g m.v) (hm : ModAt W.heap.size W m) (hf : m.few) : Calls Tryz.prog 67 #[.pointer (some ⟨g, 0, none⟩)] W fun e w' => e = .returned (.int .i64 (errI (m.fu.any wrongF) 2)) ∧ Below W.heap.size W w' := by
 have C := hid (any_fu m.fu m.fu'.a m.fu.length m.fu'.c W rfl hm.fu hf.fit.fu 69 #[] (enters_of Tryz.func69 (by kernel_rfl) rfl) wrongF (fun W' x _ _ => by simp only [Array.append_empty]; exact wrongF_any x W'))
 obtain ⟨q, hq⟩ : ∃ q, m.fu.any wrongF = q := ⟨_, rfl⟩
 rw [hq] at C ⊢
 have E := hid (fun w => errIf_any q 2 w)
 obtain ⟨c0,c1,c2,c3,c4,c5,c6,c7,c8,c9,c10⟩ := hx.all
 clear hx hm hf hq
 go_enter Tryz.func67, Tryz.ntmps67
 go_wp2_with fail
 refine C.out.mono ?_
 rintro e w1 ⟨rfl, hb1⟩
 clear C c0 c1 c2 c3 c4 c5 c6 c7 c8 c9 c10
 go_wp2_with fail
 refine (E.out _).mono ?_
 rintro e w2 ⟨rfl, rfl⟩
 go_wp2
 go_ret
 exact ⟨rfl, hb1⟩
set_option maxHeartbeats 1000000 in
theorem chk10 (m : Md) (g : Nat) (W : World) (hx : BoxAt W g m.v) (hm : ModAt W.heap.size W m) (hf : m.few) : Calls Tryz.prog 70 #[.pointer (some ⟨g, 0, none⟩)] W fun e w' => e = .returned (.int .i64 (errI (m.ex.any wrongE) 2)) ∧ Below W.heap.size W w' := by
 have C := hid (any_ex m.ex m.ex'.a m.ex.length m.ex'.c W rfl hm.ex hf.fit.ex 72 #[] (enters_of Tryz.func72 (by kernel_rfl) rfl) wrongE (fun W' x _ _ => by simp only [Array.append_empty]; exact wrongE_any x W'))
 obtain ⟨q, hq⟩ : ∃ q, m.ex.any wrongE = q := ⟨_, rfl⟩
 rw [hq] at C ⊢
 have E := hid (fun w => errIf_any q 2 w)
 obtain ⟨c0,c1,c2,c3,c4,c5,c6,c7,c8,c9,c10⟩ := hx.all
 clear hx hm hf hq
 go_enter Tryz.func70, Tryz.ntmps70
 go_wp2_with fail
 refine C.out.mono ?_
 rintro e w1 ⟨rfl, hb1⟩
 clear C c0 c1 c2 c3 c4 c5 c6 c7 c8 c9 c10
 go_wp2_with fail
 refine (E.out _).mono ?_
 rintro e w2 ⟨rfl, rfl⟩
 go_wp2
 go_ret
 exact ⟨rfl, hb1⟩
set_option maxHeartbeats 1000000 in
theorem chk11 (m : Md) (g : Nat) (W : World) (hx : BoxAt W g m.v) (hm : ModAt W.heap.size W m) (hf : m.few) : Calls Tryz.prog 73 #[.pointer (some ⟨g, 0, none⟩)] W fun e w' => e = .returned (.int .i64 (errI (m.tb.any (beyond 1048576)) 2)) ∧ Below W.heap.size W w' := by
 have C := hid (anyBeyond_any m.tb m.tb'.a m.tb.length m.tb'.c 1048576 W rfl hm.tb hf.fit.tb)
 obtain ⟨q, hq⟩ : ∃ q, m.tb.any (beyond 1048576) = q := ⟨_, rfl⟩
 rw [hq] at C ⊢
 have E := hid (fun w => errIf_any q 2 w)
 obtain ⟨c0,c1,c2,c3,c4,c5,c6,c7,c8,c9,c10⟩ := hx.all
 clear hx hm hf hq
 go_enter Tryz.func73, Tryz.ntmps73
 go_wp2_with fail
 refine C.out.mono ?_
 rintro e w1 ⟨rfl, hb1⟩
 clear C c0 c1 c2 c3 c4 c5 c6 c7 c8 c9 c10
 go_wp2_with fail
 refine (E.out _).mono ?_
 rintro e w2 ⟨rfl, rfl⟩
 go_wp2
 go_ret
 exact ⟨rfl, hb1⟩
set_option maxHeartbeats 1000000 in
theorem chk12 (m : Md) (g : Nat) (W : World) (hx : BoxAt W g m.v) (hm : ModAt W.heap.size W m) (hf : m.few) : Calls Tryz.prog 75 #[.pointer (some ⟨g, 0, none⟩)] W fun e w' => e = .returned (.int .i64 (errI (m.me.any (beyond 65536)) 2)) ∧ Below W.heap.size W w' := by
 have C := hid (anyBeyond_any m.me m.me'.a m.me.length m.me'.c 65536 W rfl hm.me hf.fit.me)
 obtain ⟨q, hq⟩ : ∃ q, m.me.any (beyond 65536) = q := ⟨_, rfl⟩
 rw [hq] at C ⊢
 have E := hid (fun w => errIf_any q 2 w)
 obtain ⟨c0,c1,c2,c3,c4,c5,c6,c7,c8,c9,c10⟩ := hx.all
 clear hx hm hf hq
 go_enter Tryz.func75, Tryz.ntmps75
 go_wp2_with fail
 refine C.out.mono ?_
 rintro e w1 ⟨rfl, hb1⟩
 clear C c0 c1 c2 c3 c4 c5 c6 c7 c8 c9 c10
 go_wp2_with fail
 refine (E.out _).mono ?_
 rintro e w2 ⟨rfl, rfl⟩
 go_wp2
 go_ret
 exact ⟨rfl, hb1⟩
set_option maxHeartbeats 1000000 in
theorem chk2 (m : Md) (g : Nat) (q0 : Int) (W : World) (hx : BoxAt W g m.v) (hm : ModAt W.heap.size W m) (hf : m.few) (hT : Nams W) (hc : W.cell? ⟨g + 1, 0, none⟩ = some (.int .i64 q0)) (hfr : W.frozen? ⟨g + 1, 0, none⟩ = false) :
  Calls Tryz.prog 51 #[.pointer (some ⟨g, 0, none⟩), .pointer (some ⟨g + 1, 0, none⟩)] W fun e w' => e = .returned (.int .i64 (errI (codeP m.codes == 141) 141)) ∧ ∃ w1, Below W.heap.size W w1 ∧ w' = w1.setCell ⟨g + 1, 0, none⟩ (.int .i64 (codeP m.codes)) := by
 have C := hid (codeError_any m W hT hm hf)
 obtain ⟨q, hq⟩ : ∃ q, codeP m.codes = q := ⟨_, rfl⟩
 rw [hq] at C ⊢
 have E := hid (fun w => errIf_any (q == 141) 141 w)
 have HK := hid (show ∀ w1, Below W.heap.size W w1 → w1.cell? ⟨g + 1, 0, none⟩ = some (.int .i64 q0) ∧ w1.frozen? ⟨g + 1, 0, none⟩ = false from fun w1 hb => ⟨Go.Proofs.YtepbjkkakfpjgaaGreatDoor.keep hb hc, (hb.frozen (p := ⟨g + 1, 0, none⟩) (World.block_lt_of_cell? W _ hc)).trans hfr⟩)
 unfold Md.v at C
 obtain ⟨c0,c1,c2,c3,c4,c5,c6,c7,c8,c9,c10⟩ := hx.all
 clear hx hm hf hq hT hc hfr
 go_enter Tryz.func51, Tryz.ntmps51
 go_wp2_with fail
 refine C.out.mono ?_
 rintro e w1 ⟨rfl, hb1⟩
 obtain ⟨k1, k2⟩ := HK.out w1 hb1
 clear C c0 c1 c2 c3 c4 c5 c6 c7 c8 c9 c10
 go_wp2_with fail
 refine (E.out _).mono ?_
 rintro e w2 ⟨rfl, rfl⟩
 go_wp2
 go_ret
 exact ⟨rfl, w1, hb1, rfl⟩
theorem chk5 (g : Nat) (q : Int) (W : World) (hc : W.cell? ⟨g + 1, 0, none⟩ = some (.int .i64 q)) : Calls Tryz.prog 58 #[.pointer (some ⟨g + 1, 0, none⟩)] W fun e w' => e = .returned (.int .i64 q) ∧ Below W.heap.size W w' := by
 go_enter Tryz.func58, Tryz.ntmps58
 go_wp2
 go_ret
 exact ⟨rfl, Below.refl _ _⟩
set_option maxHeartbeats 1000000 in
theorem chk13 (m : Md) (g : Nat) (W : World) (hx : BoxAt W g m.v) : Calls Tryz.prog 76 #[.pointer (some ⟨g, 0, none⟩)] W fun e w' => e = .returned (.int .i64 (errI (!m.st && decide (m.sn ≠ 0)) 2)) ∧ Below W.heap.size W w' := by
 obtain ⟨c0,c1,c2,c3,c4,c5,c6,c7,c8,c9,c10⟩ := hx.all
 obtain ⟨sn, hsn⟩ : ∃ sn, m.sn = sn := ⟨_, rfl⟩
 obtain ⟨st, hst⟩ : ∃ st, m.st = st := ⟨_, rfl⟩
 rw [hsn] at c8 ⊢
 rw [hst] at c7 ⊢
 clear hx hsn hst
 have E := hid (fun b w => errIf_any b 2 w)
 cases st
 ·by_cases h : sn = 0
  ·subst h
   go_enter Tryz.func76, Tryz.ntmps76
   go_wp2_with fail
   refine (E.out _ _).mono ?_
   rintro e w2 ⟨rfl, rfl⟩
   go_wp2
   go_ret
   exact ⟨by simp, Below.refl _ _⟩
  ·have hn1 : (sn == 0) = false := by simpa using h
   have hn2 : (sn != 0) = true := by simpa using h
   have HH := hid h
   clear h
   go_enter Tryz.func76, Tryz.ntmps76
   go_wp2_with fail
   refine (E.out _ _).mono ?_
   rintro e w2 ⟨rfl, rfl⟩
   go_wp2
   go_ret
   exact ⟨by simp [HH.out], Below.refl _ _⟩
 ·go_enter Tryz.func76, Tryz.ntmps76
  go_wp2_with fail
  refine (E.out _ _).mono ?_
  rintro e w2 ⟨rfl, rfl⟩
  go_wp2
  go_ret
  exact ⟨by simp, Below.refl _ _⟩
end Go.Proofs.YtepbjkkakfpjgaaGreatDoor.Mod
namespace Go.Proofs.YtepbjkkakfpjgaaGreatDoor.Mod
open Go.RowKit Go.Shelf Go.Proofs.YtepbjkkakfpjgaaGreatDoor.Instr
def Md.outs (m : Md) : List Int := [errI m.crowded 141, errI (codeP m.codes == 141) 141, errI (m.anyName longS) 3, errI m.heavy 3, codeP m.codes, errI (m.anyName noText) 2, errI (m.ty.any wrongT) 2, errI (m.im.any wrongI) 2, errI (m.fu.any wrongF) 2, errI (m.ex.any wrongE) 2,
  errI (m.tb.any (beyond 1048576)) 2, errI (m.me.any (beyond 65536)) 2, errI (!m.st && decide (m.sn ≠ 0)) 2]
def firstE : List Int → Int
 | [] => 0
 | e :: r => if e = 0 then firstE r else e
theorem firstE_hit : ∀ (l : List Int) (k : Nat) (hk : k < l.length), (∀ j (hj : j < l.length), j < k → l[j] = 0) → l[k] ≠ 0 → firstE l = l[k]
 | [], k, hk, _, _ => by simp at hk
 | e :: r, 0, hk, _, h => by simp only [List.getElem_cons_zero] at h ⊢; rw [firstE, if_neg h]
 | e :: r, k + 1, hk, hb, h => by
  have h0 : e = 0 := hb 0 (by simp) (by omega)
  rw [firstE, if_pos h0]
  simp only [List.getElem_cons_succ] at h ⊢
  exact firstE_hit r k (by simpa using hk) (fun j hj hjk => by have := hb (j + 1) (by simp; omega) (by omega); simpa using this) h
theorem firstE_miss : ∀ (l : List Int), (∀ j (hj : j < l.length), l[j] = 0) → firstE l = 0
 | [], _ => rfl
 | e :: r, hb => by
  have h0 : e = 0 := hb 0 (by simp)
  rw [firstE, if_pos h0]
  exact firstE_miss r (fun j hj => by have := hb (j + 1) (by simp; omega); simpa using this)
theorem errI_two (b : Bool) (e r : Int) (he : e ≠ 0) : (if errI b e = 0 then r else errI b e) = if b then e else r := by
 cases b <;> simp [errI, he]
theorem check_outs (m : Md) : m.check = firstE m.outs := by
 unfold Md.outs Md.check
 simp only [firstE, errI_two _ _ _ (show (141 : Int) ≠ 0 by decide), errI_two _ _ _ (show (3 : Int) ≠ 0 by decide), errI_two _ _ _ (show (2 : Int) ≠ 0 by decide)]
 have hc := codeP_cases m.codes
 by_cases h1 : m.crowded = true
 ·simp [h1]
 rw [if_neg h1, if_neg h1]
 by_cases h2 : codeP m.codes = 141
 ·simp [h2]
 have h2' : ¬ (codeP m.codes == 141) = true := by simpa using h2
 rw [if_neg h2, if_neg h2']
 split
 ·rfl
 split
 ·rfl
 by_cases h3 : codeP m.codes = 0
 ·rw [if_pos h3, if_neg (by omega)]
  unfold Md.wrong
  cases m.anyName noText <;> cases m.ty.any wrongT <;> cases m.im.any wrongI <;> cases m.fu.any wrongF <;> cases m.ex.any wrongE <;> cases m.tb.any (beyond 1048576) <;> cases m.me.any (beyond 65536) <;> cases (!m.st && decide (m.sn ≠ 0)) <;> rfl
 ·have h4 : codeP m.codes = 2 := by omega
  rw [if_neg h3, h4]; rfl
def chkF (k : Nat) : Nat := [48, 51, 53, 56, 58, 59, 61, 64, 67, 70, 73, 75, 76].getD k 0
def chkB (g k : Nat) : Array Value := [#[.pointer (some ⟨g, 0, none⟩)], #[.pointer (some ⟨g, 0, none⟩), .pointer (some ⟨g + 1, 0, none⟩)], #[.pointer (some ⟨g, 0, none⟩)], #[.pointer (some ⟨g, 0, none⟩)], #[.pointer (some ⟨g + 1, 0, none⟩)], #[.pointer (some ⟨g, 0, none⟩)], #[.pointer (some ⟨g, 0, none⟩)],
  #[.pointer (some ⟨g, 0, none⟩)], #[.pointer (some ⟨g, 0, none⟩)], #[.pointer (some ⟨g, 0, none⟩)], #[.pointer (some ⟨g, 0, none⟩)], #[.pointer (some ⟨g, 0, none⟩)], #[.pointer (some ⟨g, 0, none⟩)]].getD k #[]
theorem chk_enters (k : Nat) (hk : k < 13) : ∀ args w, (callFunc (chkF k) args).run Tryz.prog w = .ok (.enter (chkF k) args) w := by
 match k, hk with
 | 0, _ => exact enters_of Tryz.func48 (by kernel_rfl) rfl
 | 1, _ => exact enters_of Tryz.func51 (by kernel_rfl) rfl
 | 2, _ => exact enters_of Tryz.func53 (by kernel_rfl) rfl
 | 3, _ => exact enters_of Tryz.func56 (by kernel_rfl) rfl
 | 4, _ => exact enters_of Tryz.func58 (by kernel_rfl) rfl
 | 5, _ => exact enters_of Tryz.func59 (by kernel_rfl) rfl
 | 6, _ => exact enters_of Tryz.func61 (by kernel_rfl) rfl
 | 7, _ => exact enters_of Tryz.func64 (by kernel_rfl) rfl
 | 8, _ => exact enters_of Tryz.func67 (by kernel_rfl) rfl
 | 9, _ => exact enters_of Tryz.func70 (by kernel_rfl) rfl
 | 10, _ => exact enters_of Tryz.func73 (by kernel_rfl) rfl
 | 11, _ => exact enters_of Tryz.func75 (by kernel_rfl) rfl
 | 12, _ => exact enters_of Tryz.func76 (by kernel_rfl) rfl
structure Chks (w : World) (m : Md) (k : Nat) (W : World) : Prop where
 below : Below w.heap.size w W
 box : BoxAt W w.heap.size m.v
 code : W.cell? ⟨w.heap.size + 1, 0, none⟩ = some (.int .i64 (if k < 2 then 0 else codeP m.codes))
 fr : W.frozen? ⟨w.heap.size + 1, 0, none⟩ = false
 arr : ∀ j, j < 13 → W.cell? ⟨w.heap.size + 2, j, none⟩ = some (.func (.func (chkF j)) #[] (chkB w.heap.size j))
theorem Chks.go {w : World} {m : Md} {k k' : Nat} {W W' : World} (h : Chks w m k W) (hb : Below W.heap.size W W') (hk : k < 2 ↔ k' < 2) : Chks w m k' W' :=
 ⟨h.below.trans (hb.mono h.below.size), h.box.keep hb, by rw [show (if k' < 2 then (0 : Int) else codeP m.codes) = if k < 2 then 0 else codeP m.codes by by_cases h2 : k < 2 <;> simp [h2, ← hk]]; exact Go.Proofs.YtepbjkkakfpjgaaGreatDoor.keep hb h.code, (hb.frozen (p := ⟨w.heap.size + 1, 0, none⟩) (World.block_lt_of_cell? W _ h.code)).trans h.fr, fun j hj => Go.Proofs.YtepbjkkakfpjgaaGreatDoor.keep hb (h.arr j hj)⟩
theorem Chks.set {w : World} {m : Md} {W W' : World} (h : Chks w m 1 W) (hb : Below W.heap.size W W') : Chks w m 2 (W'.setCell ⟨w.heap.size + 1, 0, none⟩ (.int .i64 (codeP m.codes))) := by
 have h' := h.go (k' := 1) hb Iff.rfl
 refine ⟨h'.below.setCell (p := ⟨w.heap.size + 1, 0, none⟩) (by simp) _, fun j x hj => ?_, ?_, ?_, fun j hj => ?_⟩
 ·exact (World.cell?_of_block (w := W') (Below.heap_setCell _ _ _ _ (by simp))).trans (h'.box j x hj)
 ·rw [if_neg (by omega)]; exact World.cell?_setCell_same' _ _ _ (by rw [h'.code]; rfl)
 ·rw [World.frozen?_setCell]; exact h'.fr
 ·exact (World.cell?_of_block (w := W') (Below.heap_setCell _ _ _ _ (by simp))).trans (h'.arr j hj)
theorem chk_step (m : Md) (w : World) (hT : Nams w) (hU : Utf.Tabs w) (hm : ModAt w.heap.size w m) (hf : m.few) (k : Nat) (hk : k < 13) (W : World) (h : Chks w m k W) :
  Calls Tryz.prog (chkF k) (chkB w.heap.size k) W fun e w' => e = .returned (.int .i64 (m.outs.getD k 0)) ∧ Chks w m (k + 1) w' := by
 have hm' := hm.on h.below
 have hT' := hT.below h.below
 have hU' := hU.below h.below
 match k, hk, h with
 | 0, _, h => exact (chk1 m _ W h.box hm' hf).mono fun e w' ⟨he, hb⟩ => ⟨he, h.go hb (by simp)⟩
 | 1, _, h => exact (chk2 m _ _ W h.box hm' hf hT' h.code h.fr).mono fun e w' ⟨he, w1, hb, hw⟩ => ⟨he, by subst hw; exact h.set hb⟩
 | 2, _, h => exact (chk3 m _ W h.box hm' hf).mono fun e w' ⟨he, hb⟩ => ⟨he, h.go hb (by simp)⟩
 | 3, _, h => exact (chk4 m _ W h.box hm' hf).mono fun e w' ⟨he, hb⟩ => ⟨he, h.go hb (by simp)⟩
 | 4, _, h => exact (chk5 _ _ W (by have := h.code; rw [if_neg (by omega)] at this; exact this)).mono fun e w' ⟨he, hb⟩ => ⟨he, h.go hb (by simp)⟩
 | 5, _, h => exact (chk6 m _ W h.box hm' hf hU').mono fun e w' ⟨he, hb⟩ => ⟨he, h.go hb (by simp)⟩
 | 6, _, h => exact (chk7 m _ W h.box hm' hf).mono fun e w' ⟨he, hb⟩ => ⟨he, h.go hb (by simp)⟩
 | 7, _, h => exact (chk8 m _ W h.box hm' hf).mono fun e w' ⟨he, hb⟩ => ⟨he, h.go hb (by simp)⟩
 | 8, _, h => exact (chk9 m _ W h.box hm' hf).mono fun e w' ⟨he, hb⟩ => ⟨he, h.go hb (by simp)⟩
 | 9, _, h => exact (chk10 m _ W h.box hm' hf).mono fun e w' ⟨he, hb⟩ => ⟨he, h.go hb (by simp)⟩
 | 10, _, h => exact (chk11 m _ W h.box hm' hf).mono fun e w' ⟨he, hb⟩ => ⟨he, h.go hb (by simp)⟩
 | 11, _, h => exact (chk12 m _ W h.box hm' hf).mono fun e w' ⟨he, hb⟩ => ⟨he, h.go hb (by simp)⟩
 | 12, _, h => exact (chk13 m _ W h.box).mono fun e w' ⟨he, hb⟩ => ⟨he, h.go hb (by simp)⟩
set_option maxRecDepth 100000 in
set_option maxHeartbeats 2000000 in
theorem ModCheck_any (m : Md) (w : World) (hT : Nams w) (hU : Utf.Tabs w) (hm : ModAt w.heap.size w m) (hf : m.few) :
  Calls Tryz.prog 23 #[.agg m.v] w fun e w' => e = .returned (.int .i64 m.check) ∧ Below w.heap.size w w' := by
 have HS := hid (chk_step m w hT hU hm hf)
 have HE := hid (check_outs m)
 have HL := hid (show m.outs.length = 13 from rfl)
 have h0 : Chks w m 0 (((w.alloc (.cells m.v 32)).alloc (.cells #[.int .i64 0] 36)).alloc (.cells #[.func (.func 48) #[] #[.pointer (some ⟨w.heap.size, 0, none⟩)], .func (.func 51) #[] #[.pointer (some ⟨w.heap.size, 0, none⟩), .pointer (some ⟨w.heap.size + 1, 0, none⟩)], .func (.func 53) #[] #[.pointer (some ⟨w.heap.size, 0, none⟩)], .func (.func 56) #[] #[.pointer (some ⟨w.heap.size, 0, none⟩)], .func (.func 58) #[] #[.pointer (some ⟨w.heap.size + 1, 0, none⟩)], .func (.func 59) #[] #[.pointer (some ⟨w.heap.size, 0, none⟩)], .func (.func 61) #[] #[.pointer (some ⟨w.heap.size, 0, none⟩)], .func (.func 64) #[] #[.pointer (some ⟨w.heap.size, 0, none⟩)], .func (.func 67) #[] #[.pointer (some ⟨w.heap.size, 0, none⟩)], .func (.func 70) #[] #[.pointer (some ⟨w.heap.size, 0, none⟩)], .func (.func 73) #[] #[.pointer (some ⟨w.heap.size, 0, none⟩)], .func (.func 75) #[] #[.pointer (some ⟨w.heap.size, 0, none⟩)], .func (.func 76) #[] #[.pointer (some ⟨w.heap.size, 0, none⟩)]] 92)) := by
  refine ⟨thenA (thenA (thenA (Below.refl _ _) _) _) _, ?_, by simp [go_sem], by simp [go_sem], fun j hj => ?_⟩
  ·exact (BoxAt.made w m.v _).keep (((Below.refl _ _).alloc (Nat.le_refl _) _).alloc (by simp) _)
  ·match j, hj with
   | 0, _ | 1, _ | 2, _ | 3, _ | 4, _ | 5, _ | 6, _ | 7, _ | 8, _ | 9, _ | 10, _ | 11, _ | 12, _ => simp [go_sem, chkF, chkB]
 clear hT hU hm hf
 unfold Md.v at h0 ⊢
 go_enter Tryz.func23, Tryz.ntmps23
 go_wp2
 generalize (((w.alloc (.cells #[.slice m.ty'.a m.ty.length m.ty'.c, .slice m.im'.a m.im.length m.im'.c, .slice m.fu'.a m.fu.length m.fu'.c, .slice m.tb'.a m.tb.length m.tb'.c, .slice m.me'.a m.me.length m.me'.c, .slice m.gl'.a m.gl.length m.gl'.c, .slice m.ex'.a m.ex.length m.ex'.c, .bool m.st, .int .u32 m.sn, .slice m.el'.a m.el.length m.el'.c, .slice m.da'.a m.da.length m.da'.c] 32)).alloc (.cells #[.int .i64 0] 36)).alloc (.cells #[.func (.func 48) #[] #[.pointer (some ⟨w.heap.size, 0, none⟩)], .func (.func 51) #[] #[.pointer (some ⟨w.heap.size, 0, none⟩), .pointer (some ⟨w.heap.size + 1, 0, none⟩)], .func (.func 53) #[] #[.pointer (some ⟨w.heap.size, 0, none⟩)], .func (.func 56) #[] #[.pointer (some ⟨w.heap.size, 0, none⟩)], .func (.func 58) #[] #[.pointer (some ⟨w.heap.size + 1, 0, none⟩)], .func (.func 59) #[] #[.pointer (some ⟨w.heap.size, 0, none⟩)], .func (.func 61) #[] #[.pointer (some ⟨w.heap.size, 0, none⟩)], .func (.func 64) #[] #[.pointer (some ⟨w.heap.size, 0, none⟩)], .func (.func 67) #[] #[.pointer (some ⟨w.heap.size, 0, none⟩)], .func (.func 70) #[] #[.pointer (some ⟨w.heap.size, 0, none⟩)], .func (.func 73) #[] #[.pointer (some ⟨w.heap.size, 0, none⟩)], .func (.func 75) #[] #[.pointer (some ⟨w.heap.size, 0, none⟩)], .func (.func 76) #[] #[.pointer (some ⟨w.heap.size, 0, none⟩)]] 92)) = W0 at h0 ⊢
 have H0 := hid h0
 clear h0
 go_loopw [22] (fun vi wr => ∃ k : Nat, vi = .int .i64 k ∧ k ≤ 13 ∧ Hid (Chks w m k wr) ∧ Hid (∀ j (hj : j < m.outs.length), j < k → m.outs[j] = 0)) (fun vi _ => 13 - (intOf vi).toNat)
 case atStart => exact ⟨0, rfl, Nat.zero_le _, H0, fun j _ h => absurd h (Nat.not_lt_zero _)⟩
 case round =>
  obtain ⟨k, rfl, hk, HC, HA⟩ := hrel
  clear H0
  by_cases hlt : k < 13
  ·have hkl : k < m.outs.length := by rw [HL.out]; exact hlt
   have eg := chk_enters k hlt
   have C := hid (HS.out k hlt wr HC.out)
   have hc : wr.cell? ⟨w.heap.size + 1 + 1, k, none⟩ = some (.func (.func (chkF k)) #[] (chkB w.heap.size k)) := HC.out.arr k hlt
   have HG := hid (show m.outs.getD k 0 = m.outs[k] by simp [hkl])
   obtain ⟨G, hG⟩ : ∃ G, chkF k = G := ⟨_, rfl⟩
   obtain ⟨L, hL⟩ : ∃ L, chkB w.heap.size k = L := ⟨_, rfl⟩
   obtain ⟨q, hq⟩ : ∃ q, m.outs.getD k 0 = q := ⟨_, rfl⟩
   rw [hG] at eg C hc
   rw [hL] at C hc
   rw [hq] at C HG
   clear hG hL hq
   have hki : (k : Int) < 13 := by omega
   by_cases h0 : q = 0
   ·subst h0
    go_wp2_with (go_at_fn G; refine C.out.mono ?_; rintro e w1 ⟨rfl, hC1⟩)
    go_roundw
    case rel =>
     refine ⟨k + 1, by go_num, by omega, hC1, hid fun j hj hjk => ?_⟩
     by_cases e : j = k
     ·subst e; exact HG.out.symm
     ·exact HA.out j hj (by omega)
    case measure => simp [intOf]; omega
   ·have HF := hid (show m.check = q by
      rw [HE.out, firstE_hit _ k hkl HA.out (by rw [← HG.out]; exact h0), ← HG.out])
    have hq1 : (q == 0) = false := by simpa using h0
    have hq2 : (q != 0) = true := by simpa using h0
    go_wp2_with (go_at_fn G; refine C.out.mono ?_; rintro e w1 ⟨rfl, hC1⟩)
    go_ret
    exact ⟨ret_int HF.out.symm, hC1.below⟩
  ·obtain rfl : k = 13 := by omega
   have HF := hid (show m.check = 0 by
     rw [HE.out]; exact firstE_miss _ (fun j hj => HA.out j hj (by rw [HL.out] at hj; exact hj)))
   go_wp2
   go_ret
   exact ⟨ret_int HF.out.symm, HC.out.below⟩
end Go.Proofs.YtepbjkkakfpjgaaGreatDoor.Mod
namespace Go.Proofs.YtepbjkkakfpjgaaGreatDoor.Instr
open Go.RowKit
theorem held_out2 {w w1 : World} {p q : Addr} {x y : Value} (h : Below w.heap.size w w1 ∧ w1.cell? p = some x ∧ w1.cell? q = some y) : Below w.heap.size w w1 := h.1
theorem held_keep2 {w w1 w2 : World} {p q : Addr} {x y : Value} (h : Below w.heap.size w w1 ∧ w1.cell? p = some x ∧ w1.cell? q = some y) (hb : Below w1.heap.size w1 w2) :
  Below w.heap.size w w2 ∧ w2.cell? p = some x ∧ w2.cell? q = some y := ⟨thenB h.1 hb, keep hb h.2.1, keep hb h.2.2⟩
set_option maxHeartbeats 1600000 in
theorem refCount_any : ∀ (m : Nat) (t : Il) (a : Option Addr) (len c : Nat) (w : World), t.count ≤ m → ListAt w.heap.size w a len t → len ≤ 140737488351232 → t.count ≤ 4611686018427387900 →
  Calls Tryz.prog 83 #[.slice a len c] w fun e w' => e = .returned (.int .i64 t.count) ∧ Below w.heap.size w w' := by
 intro m
 induction m with
 | zero =>
  intro t a len c w hm hL hlen hbig
  cases t with
  | cons x l e r => simp only [Il.count] at hm; omega
  | nil =>
   have h0 : len = 0 := hL.1.symm
   subst h0
   clear hm hL hlen hbig
   go_enter Tryz.func83, Tryz.ntmps83
   go_wp2
   go_loopw [3, 4] (fun sn si wr => sn = .int .i64 0 ∧ si = .int .i64 0 ∧ wr = w) (fun _ _ _ => 0)
   case atStart => exact ⟨rfl, rfl, rfl⟩
   case round =>
    obtain ⟨rfl, rfl, rfl⟩ := hrel
    go_wp2
    go_ret
    exact ⟨rfl, Below.refl _ _⟩
 | succ m ih =>
  intro t a len c w hm hL hlen hbig
  obtain ⟨hL1, hL2⟩ := hL
  rcases hL2 with rfl | ⟨b, off, rfl, hi⟩
  ·have h0 : len = 0 := hL1.symm
   subst h0
   clear ih hm hL1 hlen hbig
   go_enter Tryz.func83, Tryz.ntmps83
   go_wp2
   go_loopw [3, 4] (fun sn si wr => sn = .int .i64 0 ∧ si = .int .i64 0 ∧ wr = w) (fun _ _ _ => 0)
   case atStart => exact ⟨rfl, rfl, rfl⟩
   case round =>
    obtain ⟨rfl, rfl, rfl⟩ := hrel
    go_wp2
    go_ret
    exact ⟨rfl, Below.refl _ _⟩
  ·have HM := hid hm
   have HB := hid hbig
   have HL1 := hid hL1
   have HI := hid hi
   clear hm hbig hL1 hi
   go_enter Tryz.func83, Tryz.ntmps83
   go_wp2
   go_loopw [3, 4] (fun sn si wr => ∃ (k : Nat) (n : Int) (rest : Il), si = .int .i64 k ∧ sn = .int .i64 n ∧ k ≤ len ∧ 0 ≤ n ∧ n ≤ 4611686018427387900 ∧ Hid (k + rest.len = len ∧ rest.count ≤ t.count ∧ n + (rest.count - rest.len : Int) = t.count) ∧ Hid (Items w.heap.size w b (off + k * 8) rest) ∧ Below w.heap.size w wr)
    (fun _ si _ => len - (intOf si).toNat)
   case atStart => exact ⟨0, len, t, rfl, rfl, Nat.zero_le _, by omega, by omega, ⟨by have := HL1.out; omega, Nat.le_refl _, by have := HL1.out; omega⟩, by simpa using HI, Below.refl _ _⟩
   case round =>
    obtain ⟨k, n, rest, rfl, rfl, hk, hn0, hn1, HR, HIR, hb⟩ := hrel
    cases rest with
    | nil =>
     obtain ⟨r1, _, r3⟩ := HR.out
     have hkl : k = len := by simpa [Il.len] using r1
     subst hkl
     have R3 : Hid (n = t.count) := by show _ = _; simp only [Il.count, Il.len] at r3; omega
     clear r3
     go_wp2
     go_ret
     exact ⟨ret_int R3.out, hb⟩
    | cons x tl te r =>
     have hir := Items.below hb HIR.out
     obtain ⟨hbn, hx, ⟨c0, c1, c2, c3, c4, c5, c6, c7⟩, _⟩ := hir
     have hir0 := HIR.out
     obtain ⟨_, _, _, ht, hLl, hLe, hir'⟩ := hir0
     have hlt : k < len := by have := HR.out.1; simp only [Il.len] at this; omega
     have hLn := hx.ln
     have hEn := hx.en
     have hcnt : tl.count + te.count + 1 ≤ m + 1 ∧ tl.count ≤ 4611686018427387900 ∧ te.count ≤ 4611686018427387900 := by
      have h1 := HR.out.2.1
      have h2 := HM.out
      have h3 := HB.out
      simp only [Il.count] at h1
      omega
     obtain ⟨k1, k2, k3⟩ := hcnt
     have N2 := fun w' (hb' : Below w.heap.size w w') => ih tl x.la x.ln x.lc w' (by omega) (ListAt.on hLl hb') hLn k2
     have N3 := fun w' (hb' : Below w.heap.size w w') => ih te x.ea x.en x.ec w' (by omega) (ListAt.on hLe hb') hEn k3
     have hq : n + tl.count + te.count ≤ 4611686018427387900 := by
      have h1 := HR.out.2.2
      have h2 := HB.out
      have h3 := len_le_count r
      simp only [Il.count, Il.len] at h1
      omega
     obtain ⟨q2, hq2⟩ : ∃ q : Int, (tl.count : Int) = q := ⟨_, rfl⟩
     obtain ⟨q3, hq3⟩ : ∃ q : Int, (te.count : Int) = q := ⟨_, rfl⟩
     have y1 : 0 ≤ q2 := by omega
     have y2 : 0 ≤ q3 := by omega
     rw [hq2, hq3] at hq
     simp only [hq2, hq3] at N2 N3
     have Q2 := hid hq2
     have Q3 := hid hq3
     have H2 := hid N2
     have H3 := hid N3
     have hv1 : IntKind.i64.wrap (n + q2) = n + q2 := by rw [IntKind.wrap_i64]; omega
     have hv2 : IntKind.i64.wrap (n + q2 + q3) = n + q2 + q3 := by rw [IntKind.wrap_i64]; omega
     clear N2 N3 hq2 hq3 ih k1 k2 k3 hLl hLe
     have hS0 : Below w.heap.size w wr.drew ∧ wr.drew.cell? ⟨b, off + k * 8 + 6, none⟩ = some (.slice x.la x.ln x.lc) ∧ wr.drew.cell? ⟨b, off + k * 8 + 7, none⟩ = some (.slice x.ea x.en x.ec) := ⟨hb.drew, c6, c7⟩
     go_wp2
     (first
       | go_loud (go_region_held3 (fun w' => Below w.heap.size w w' ∧ w'.cell? ⟨b, off + k * 8 + 6, none⟩ = some (.slice x.la x.ln x.lc) ∧ w'.cell? ⟨b, off + k * 8 + 7, none⟩ = some (.slice x.ea x.en x.ec))
           (first | assumption | exact held_keep2 (by assumption) (by assumption))
           (first
             | (go_at_call 83; (with_reducible refine (H2.out _ (held_out2 (by assumption))).mono ?_); rintro e w7 ⟨rfl, hb7⟩)
             | (go_at_call 83; (with_reducible refine (H3.out _ (held_out2 (by assumption))).mono ?_); rintro e w8 ⟨rfl, hb8⟩)))
       | fail)
     go_wp2
     have hbE := held_out2 (by assumption)
     have g2 := Q2.out
     have g3 := Q3.out
     refine ⟨⟨k + 1, n + q2 + q3, r, by simp, rfl, by omega, by omega, by omega, ⟨by have := HR.out.1; simp only [Il.len] at this; omega, by have := HR.out.2.1; simp only [Il.count] at this; omega, ?_⟩, by rw [show off + (k + 1) * 8 = off + k * 8 + 8 by omega]; exact hir', hbE⟩, by simp [intOf]; omega⟩
     have h1 := HR.out.2.2
     simp only [Il.count, Il.len] at h1
     omega
set_option maxHeartbeats 1600000 in
theorem refDeep_any : ∀ (m : Nat) (t : Il) (a : Option Addr) (len c : Nat) (w : World), t.count ≤ m → ListAt w.heap.size w a len t → len ≤ 140737488351232 → t.count ≤ 4611686018427387900 →
  Calls Tryz.prog 217 #[.slice a len c] w fun e w' => e = .returned (.int .i64 t.deep) ∧ Below w.heap.size w w' := by
 intro m
 induction m with
 | zero =>
  intro t a len c w hm hL hlen hbig
  cases t with
  | cons x l e r => simp only [Il.count] at hm; omega
  | nil =>
   have h0 : len = 0 := hL.1.symm
   subst h0
   clear hm hL hlen hbig
   go_enter Tryz.func217, Tryz.ntmps217
   go_wp2
   go_loopw [3, 4] (fun sn si wr => sn = .int .i64 0 ∧ si = .int .i64 0 ∧ wr = w) (fun _ _ _ => 0)
   case atStart => exact ⟨rfl, rfl, rfl⟩
   case round =>
    obtain ⟨rfl, rfl, rfl⟩ := hrel
    go_wp2
    go_ret
    exact ⟨rfl, Below.refl _ _⟩
 | succ m ih =>
  intro t a len c w hm hL hlen hbig
  obtain ⟨hL1, hL2⟩ := hL
  rcases hL2 with rfl | ⟨b, off, rfl, hi⟩
  ·have h0 : len = 0 := hL1.symm
   subst h0
   clear ih hm hL1 hlen hbig
   go_enter Tryz.func217, Tryz.ntmps217
   go_wp2
   go_loopw [3, 4] (fun sn si wr => sn = .int .i64 0 ∧ si = .int .i64 0 ∧ wr = w) (fun _ _ _ => 0)
   case atStart => exact ⟨rfl, rfl, rfl⟩
   case round =>
    obtain ⟨rfl, rfl, rfl⟩ := hrel
    go_wp2
    go_ret
    exact ⟨rfl, Below.refl _ _⟩
  ·have HM := hid hm
   have HB := hid hbig
   have HL1 := hid hL1
   have HI := hid hi
   clear hm hbig hL1 hi
   go_enter Tryz.func217, Tryz.ntmps217
   go_wp2
   go_loopw [3, 4] (fun sn si wr => ∃ (k : Nat) (n : Int) (rest : Il), si = .int .i64 k ∧ sn = .int .i64 n ∧ k ≤ len ∧ 0 ≤ n ∧ n ≤ 4611686018427387900 ∧ Hid (k + rest.len = len ∧ rest.count ≤ t.count ∧ max n rest.deep = t.deep) ∧ Hid (Items w.heap.size w b (off + k * 8) rest) ∧ Below w.heap.size w wr)
    (fun _ si _ => len - (intOf si).toNat)
   case atStart => exact ⟨0, 0, t, rfl, rfl, Nat.zero_le _, by omega, by omega, ⟨by have := HL1.out; omega, Nat.le_refl _, by omega⟩, by simpa using HI, Below.refl _ _⟩
   case round =>
    obtain ⟨k, n, rest, rfl, rfl, hk, hn0, hn1, HR, HIR, hb⟩ := hrel
    cases rest with
    | nil =>
     obtain ⟨r1, _, r3⟩ := HR.out
     have hkl : k = len := by simpa [Il.len] using r1
     subst hkl
     have R3 : Hid (n = t.deep) := by show _ = _; simp only [Il.deep] at r3; omega
     clear r3
     go_wp2
     go_ret
     exact ⟨ret_int R3.out, hb⟩
    | cons x tl te r =>
     have hir := Items.below hb HIR.out
     obtain ⟨hbn, hx, ⟨c0, c1, c2, c3, c4, c5, c6, c7⟩, _⟩ := hir
     have hir0 := HIR.out
     obtain ⟨_, _, _, ht, hLl, hLe, hir'⟩ := hir0
     have hlt : k < len := by have := HR.out.1; simp only [Il.len] at this; omega
     have hLn := hx.ln
     have hEn := hx.en
     have hcnt : tl.count + te.count + 1 ≤ m + 1 ∧ tl.count ≤ 4611686018427387900 ∧ te.count ≤ 4611686018427387900 := by
      have h1 := HR.out.2.1
      have h2 := HM.out
      have h3 := HB.out
      simp only [Il.count] at h1
      omega
     obtain ⟨k1, k2, k3⟩ := hcnt
     have N2 := fun w' (hb' : Below w.heap.size w w') => ih tl x.la x.ln x.lc w' (by omega) (ListAt.on hLl hb') hLn k2
     have N3 := fun w' (hb' : Below w.heap.size w w') => ih te x.ea x.en x.ec w' (by omega) (ListAt.on hLe hb') hEn k3
     have d2 := deep_le_count tl
     have d3 := deep_le_count te
     have hq : (tl.deep : Int) ≤ 4611686018427387899 ∧ (te.deep : Int) ≤ 4611686018427387899 := by
      have h1 := HR.out.2.1
      have h2 := HB.out
      simp only [Il.count] at h1
      omega
     obtain ⟨q2, hq2⟩ : ∃ q : Int, (tl.deep : Int) = q := ⟨_, rfl⟩
     obtain ⟨q3, hq3⟩ : ∃ q : Int, (te.deep : Int) = q := ⟨_, rfl⟩
     have y1 : 0 ≤ q2 := by omega
     have y2 : 0 ≤ q3 := by omega
     rw [hq2, hq3] at hq
     obtain ⟨y3, y4⟩ := hq
     simp only [hq2, hq3] at N2 N3
     have Q2 := hid hq2
     have Q3 := hid hq3
     have H2 := hid N2
     have H3 := hid N3
     have hv1 : IntKind.i64.wrap (1 + max q2 q3) = 1 + max q2 q3 := by rw [IntKind.wrap_i64]; omega
     clear N2 N3 hq2 hq3 ih k1 k2 k3 hLl hLe d2 d3
     have hS0 : Below w.heap.size w wr.drew ∧ wr.drew.cell? ⟨b, off + k * 8 + 6, none⟩ = some (.slice x.la x.ln x.lc) ∧ wr.drew.cell? ⟨b, off + k * 8 + 7, none⟩ = some (.slice x.ea x.en x.ec) := ⟨hb.drew, c6, c7⟩
     go_wp2
     (first
       | go_loud (go_region_held3 (fun w' => Below w.heap.size w w' ∧ w'.cell? ⟨b, off + k * 8 + 6, none⟩ = some (.slice x.la x.ln x.lc) ∧ w'.cell? ⟨b, off + k * 8 + 7, none⟩ = some (.slice x.ea x.en x.ec))
           (first | assumption | exact held_keep2 (by assumption) (by assumption))
           (first
             | (go_at_call 217; (with_reducible refine (H2.out _ (held_out2 (by assumption))).mono ?_); rintro e w7 ⟨rfl, hb7⟩)
             | (go_at_call 217; (with_reducible refine (H3.out _ (held_out2 (by assumption))).mono ?_); rintro e w8 ⟨rfl, hb8⟩)))
       | fail)
     go_wp2
     have hbE := held_out2 (by assumption)
     have g2 := Q2.out
     have g3 := Q3.out
     refine ⟨⟨k + 1, max n (1 + max q2 q3), r, by simp, rfl, by omega, by omega, by omega, ⟨by have := HR.out.1; simp only [Il.len] at this; omega, by have := HR.out.2.1; simp only [Il.count] at this; omega, ?_⟩, by rw [show off + (k + 1) * 8 = off + k * 8 + 8 by omega]; exact hir', hbE⟩, by simp [intOf]; omega⟩
     have h1 := HR.out.2.2
     simp only [Il.deep] at h1
     omega
set_option maxHeartbeats 1600000 in
theorem refTags_any : ∀ (m : Nat) (t : Il) (a : Option Addr) (len c : Nat) (w : World), t.count ≤ m → ListAt w.heap.size w a len t → len ≤ 140737488351232 → t.count ≤ 4611686018427387900 →
  Calls Tryz.prog 218 #[.slice a len c] w fun e w' => e = .returned (.bool t.tags) ∧ Below w.heap.size w w' := by
 intro m
 induction m with
 | zero =>
  intro t a len c w hm hL hlen hbig
  cases t with
  | cons x l e r => simp only [Il.count] at hm; omega
  | nil =>
   have h0 : len = 0 := hL.1.symm
   subst h0
   clear hm hL hlen hbig
   go_enter Tryz.func218, Tryz.ntmps218
   go_wp2
   go_loopw [3] (fun si wr => si = .int .i64 0 ∧ wr = w) (fun _ _ => 0)
   case atStart => exact ⟨rfl, rfl⟩
   case round =>
    obtain ⟨rfl, rfl⟩ := hrel
    go_wp2
    go_ret
    exact ⟨rfl, Below.refl _ _⟩
 | succ m ih =>
  intro t a len c w hm hL hlen hbig
  obtain ⟨hL1, hL2⟩ := hL
  rcases hL2 with rfl | ⟨b, off, rfl, hi⟩
  ·have h0 : len = 0 := hL1.symm
   subst h0
   clear ih hm hL1 hlen hbig
   go_enter Tryz.func218, Tryz.ntmps218
   go_wp2
   go_loopw [3] (fun si wr => si = .int .i64 0 ∧ wr = w) (fun _ _ => 0)
   case atStart => exact ⟨rfl, rfl⟩
   case round =>
    obtain ⟨rfl, rfl⟩ := hrel
    go_wp2
    go_ret
    exact ⟨rfl, Below.refl _ _⟩
  ·have HM := hid hm
   have HB := hid hbig
   have HL1 := hid hL1
   have HI := hid hi
   clear hm hbig hL1 hi
   go_enter Tryz.func218, Tryz.ntmps218
   go_wp2
   go_loopw [3] (fun si wr => ∃ (k : Nat) (rest : Il), si = .int .i64 k ∧ k ≤ len ∧ Hid (k + rest.len = len ∧ rest.count ≤ t.count ∧ rest.tags = t.tags) ∧ Hid (Items w.heap.size w b (off + k * 8) rest) ∧ Below w.heap.size w wr)
    (fun si _ => len - (intOf si).toNat)
   case atStart => exact ⟨0, t, rfl, Nat.zero_le _, ⟨by have := HL1.out; omega, Nat.le_refl _, rfl⟩, by simpa using HI, Below.refl _ _⟩
   case round =>
    obtain ⟨k, rest, rfl, hk, HR, HIR, hb⟩ := hrel
    cases rest with
    | nil =>
     obtain ⟨r1, _, r3⟩ := HR.out
     have hkl : k = len := by simpa [Il.len] using r1
     subst hkl
     have R3 : Hid (t.tags = false) := by show _ = _; rw [← r3]; rfl
     clear r3
     go_wp2
     go_ret
     exact ⟨ret_bool R3.out.symm, hb⟩
    | cons x tl te r =>
     have hir := Items.below hb HIR.out
     obtain ⟨hbn, hx, ⟨c0, c1, c2, c3, c4, c5, c6, c7⟩, _⟩ := hir
     have hir0 := HIR.out
     obtain ⟨_, _, _, ht, hLl, hLe, hir'⟩ := hir0
     have hlt : k < len := by have := HR.out.1; simp only [Il.len] at this; omega
     have hLn := hx.ln
     have hEn := hx.en
     have hcnt : tl.count + te.count + 1 ≤ m + 1 ∧ tl.count ≤ 4611686018427387900 ∧ te.count ≤ 4611686018427387900 := by
      have h1 := HR.out.2.1
      have h2 := HM.out
      have h3 := HB.out
      simp only [Il.count] at h1
      omega
     obtain ⟨k1, k2, k3⟩ := hcnt
     have N2 := fun w' (hb' : Below w.heap.size w w') => ih tl x.la x.ln x.lc w' (by omega) (ListAt.on hLl hb') hLn k2
     have N3 := fun w' (hb' : Below w.heap.size w w') => ih te x.ea x.en x.ec w' (by omega) (ListAt.on hLe hb') hEn k3
     have HE : Hid (t.tags = (decide (16384 < x.tags.length) || tl.tags || te.tags || r.tags)) := by show _ = _; rw [← HR.out.2.2]; rfl
     have htn := hx.tn
     have H2 := hid N2
     have H3 := hid N3
     clear N2 N3 ih k1 k2 k3 hLl hLe
     by_cases hbig : 16384 < x.tags.length
     ·have R : Hid (t.tags = true) := by show _ = _; rw [HE.out]; simp [hbig]
      have hbig' : (16384 : Int) < (x.tags.length : Int) := by omega
      clear H2 H3
      go_wp2
      go_ret
      exact ⟨ret_bool R.out.symm, hb⟩
     ·have hbig' : ¬ (16384 : Int) < (x.tags.length : Int) := by omega
      obtain ⟨g1, hg1⟩ : ∃ g, tl.tags = g := ⟨_, rfl⟩
      obtain ⟨g2, hg2⟩ : ∃ g, te.tags = g := ⟨_, rfl⟩
      simp only [hg1] at H2
      simp only [hg2] at H3
      have HE2 : Hid (t.tags = (g1 || g2 || r.tags)) := by show _ = _; rw [HE.out, hg1, hg2]; simp [hbig]
      clear hg1 hg2 HE
      go_wp2_with fail
      refine (H2.out _ hb).mono ?_
      clear H2
      rintro e1 w3 ⟨rfl, hb3⟩
      have hbW := thenB hb hb3
      have d6 := keep hb3 c6
      have d7 := keep hb3 c7
      cases g1
      ·go_wp2_with fail
       refine (H3.out _ hbW).mono ?_
       clear H3
       rintro e1 w4 ⟨rfl, hb4⟩
       have hbX := thenB hbW hb4
       cases g2
       ·go_wp2
        go_roundw
        case rel =>
         refine ⟨k + 1, r, by simp, by omega, ⟨by have := HR.out.1; simp only [Il.len] at this; omega, by have := HR.out.2.1; simp only [Il.count] at this; omega, ?_⟩, by rw [show off + (k + 1) * 8 = off + k * 8 + 8 by omega]; exact hir', hbX⟩
         rw [HE2.out]; rfl
        case measure => simp [intOf]; omega
       ·have R : Hid (t.tags = true) := by show _ = _; rw [HE2.out]; rfl
        go_wp2
        go_ret
        exact ⟨ret_bool R.out.symm, hbX⟩
      ·have R : Hid (t.tags = true) := by show _ = _; rw [HE2.out]; simp
       clear H3
       go_wp2
       go_ret
       exact ⟨ret_bool R.out.symm, hbW⟩
end Go.Proofs.YtepbjkkakfpjgaaGreatDoor.Instr
