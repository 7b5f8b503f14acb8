import Derived.Test.YtepbjkkakfpjgaaGreatDoorEl08
import Derived.Test.YtepbjkkakfpjgaaGreatDoorEl04
import Derived.Test.YtepbjkkakfpjgaaGreatDoorEl05
import Derived.Test.YtepbjkkakfpjgaaGreatDoorEl07
import Derived.Test.YtepbjkkakfpjgaaGreatDoorEl01
import Derived.Test.YtepbjkkakfpjgaaGreatDoorEl06
import Derived.Test.YtepbjkkakfpjgaaGreatDoorEl03
namespace Go.Proofs.YtepbjkkakfpjgaaGreatDoor.Enc
open Go.RowKit Go.Proofs.YtepbjkkakfpjgaaGreatDoor.Leb Go.Proofs.YtepbjkkakfpjgaaGreatDoor.Instr Go.Proofs.YtepbjkkakfpjgaaGreatDoor.Mod
open Go.Proofs.YtepbjkkakfpjgaaGreatDoor.Body (encL codeL)

theorem u32_id (n : Int) (h0 : 0 ≤ n) (h1 : n ≤ 2147483647) : IntKind.u32.wrap n = n := by rw [IntKind.wrap_u32]; omega
theorem u8_id (n : Int) (h0 : 0 ≤ n) (h1 : n ≤ 3) : IntKind.u8.wrap n = n := by rw [IntKind.wrap_u8]; omega
theorem Buf.apart {g B : Nat} {v : Value} {xs : List Int} {w : World} (h : Buf g B v w v xs w) : ¬ (w.heap.size = g ∨ v.ownBlock = some w.heap.size) := by
  rintro (e | e)
  · have := h.lt; omega
  · have := (World.ownsRow.lt h.own _ e).2; omega
/-- What lies below the buffer is as it was. -/
theorem Buf.deep {g B : Nat} {v v' : Value} {xs zs : List Int} {w w' W W0 : World} (h : Buf g B v w v' zs w') (hv : Own B W v xs) (hB : Below W0.heap.size W0 w) (hg : W0.heap.size < g) : Below W0.heap.size W0 w' :=
  hB.trans (h.below (Nat.le_of_lt hg) (fun q hq => by have := (World.ownsRow.lt hv q hq).1; have := h.low; omega))
theorem flat_five : ∀ l : List Int, (l.flatMap encU).length ≤ 5 * l.length
  | [] => by simp
  | n :: r => by
    rw [List.flatMap_cons, List.length_append, List.length_cons, encU_length]
    have := (sizeU_pos n).2
    have := flat_five r
    omega
theorem type_few {x : Int × Int} (h : Kind.okType x.1 x.2 = true) : (tyB x).length ≤ 100000000 := by
  obtain ⟨a, b, ha, hb, h1, h2⟩ := Kind.okType_nat h
  unfold tyB
  rw [ha, hb]
  have := Kind.typeL_le a b h1 h2
  omega
theorem bytes_at {n₀ : Nat} {w : World} {a : Option Addr} {zs : List Int} (h : BytesAt n₀ w a zs) (hz : ∀ z ∈ zs, 0 ≤ z ∧ z < 256) (hl : zs.length ≤ 140737488351232) : Bytes w a zs := by
  refine ⟨hz, hl, ?_⟩
  rcases h with h | ⟨b, off, rfl, _, hc⟩
  · exact .inl h
  · exact .inr ⟨b, off, rfl, hc⟩
set_option maxRecDepth 100000 in
set_option maxHeartbeats 2000000 in
theorem funcType_any (g B : Nat) (v : Value) (xs : List Int) (x : Int × Int) (w0 w : World) (h : Buf g B v w v xs w) (hB : Below w0.heap.size w0 w) (hg : w0.heap.size < g) (hl : xs.length ≤ 1000000000)
    (hx : Kind.okType x.1 x.2 = true) :
    Calls Tryz.prog 158 #[.pointer (some ⟨g, 0, none⟩), .agg #[.int .i64 x.1, .int .i64 x.2]] w (Puts g B v w (xs ++ tyB x)) := by
  have H := hid h
  have H1 := hid (h.lit (.cells #[.int .i64 x.1, .int .i64 x.2] 50))
  have HA0 := hid (h.lit (.cells #[.int .i64 x.1, .int .i64 x.2] 50)).again
  have HS := hid h.apart
  have HL := hid hl
  have HG := hid hg
  have HW0 := hid (hB.trans (((Below.refl w.heap.size w).alloc (Nat.le_refl _) (.cells #[.int .i64 x.1, .int .i64 x.2] 50)).mono hB.size))
  have X0 := BoxAt.made w #[.int .i64 x.1, .int .i64 x.2] 50
  have X0H := hid (X0 0 _ rfl)
  have X1H := hid (X0 1 _ rfl)
  have x0 := X0H.out
  have x1 := X1H.out
  have HX := hid hx
  have e : xs ++ tyB x = xs ++ tyB x := by rfl
  rw [e]
  have Bp := hid (show (tyB x).length ≤ 100000000 from by exact type_few hx)
  obtain ⟨p, hp⟩ : ∃ p, tyB x = p := ⟨_, rfl⟩
  have Ep := hid hp
  rw [hp] at Bp ⊢
  clear h hB hg hl X0 e hp
  skip
  go_enter Tryz.func158, Tryz.ntmps158
  clear hx
  obtain ⟨n0, hn0⟩ : ∃ n, p.length = n := ⟨_, rfl⟩
  have C := hid (type_got x HX.out n0 (by rw [Ep.out]; exact hn0) (w.alloc (.cells #[.int .i64 x.1, .int .i64 x.2] 50)))
  rw [Ep.out] at C
  go_wp2_with fail
  refine C.out.mono ?_
  rintro e1 w1 ⟨a1, c1, rfl, hy, hb, hm⟩
  have HA1 := hid (HA0.out.on hb)
  have HW1 := hid (HW0.out.trans (hb.mono HW0.out.size))
  have HY := hid hy
  have HN := hid hm
  clear C hb hy hm x0 x1
  have x0 := HA1.out.touch.cell (p := ⟨w.heap.size, 0, none⟩) HS.out X0H.out
  have x1 := HA1.out.touch.cell (p := ⟨w.heap.size, 1, none⟩) HS.out X1H.out
  have C := hid (put_anyE g B v (xs) p a1 n0 c1 0 w1 HA1.out.again HN.out HY.out (by have := HL.out; have := Bp.out; first | omega | (simp; omega)))
  go_wp2_with fail
  refine C.out.mono ?_
  rintro e1 w2 ⟨rfl, v2, hb⟩
  have HA2 := hid (HA1.out.trans hb)
  have HW2 := hid (HA2.out.deep H.out.own HW0.out HG.out)
  clear C hb x0 x1
  have x0 := HA2.out.touch.cell (p := ⟨w.heap.size, 0, none⟩) HS.out X0H.out
  have x1 := HA2.out.touch.cell (p := ⟨w.heap.size, 1, none⟩) HS.out X1H.out
  clear x0 x1
  go_wp2
  go_end0
  exact ⟨rfl, v2, H1.out.trans HA2.out⟩
set_option maxRecDepth 100000 in
set_option maxHeartbeats 2000000 in
theorem imported_any (g B : Nat) (v : Value) (xs : List Int) (x : Imp) (w0 w : World) (h : Buf g B v w v xs w) (hB : Below w0.heap.size w0 w) (hg : w0.heap.size < g) (hl : xs.length ≤ 1000000000)
    (hU : Utf.Tabs w0) (h1 : x.mo.size ≤ 1048576) (h2 : x.na.size ≤ 1048576) (h3 : noText x.mo = false) (h4 : noText x.na = false) (h5 : 0 ≤ x.ty) (h6 : x.ty ≤ 2147483647) :
    Calls Tryz.prog 160 #[.pointer (some ⟨g, 0, none⟩), .agg #[.string x.mo, .string x.na, .int .i64 x.ty]] w (Puts g B v w (xs ++ impB x)) := by
  have H := hid h
  have H1 := hid (h.lit (.cells #[.string x.mo, .string x.na, .int .i64 x.ty] 73))
  have HA0 := hid (h.lit (.cells #[.string x.mo, .string x.na, .int .i64 x.ty] 73)).again
  have HS := hid h.apart
  have HL := hid hl
  have HG := hid hg
  have HW0 := hid (hB.trans (((Below.refl w.heap.size w).alloc (Nat.le_refl _) (.cells #[.string x.mo, .string x.na, .int .i64 x.ty] 73)).mono hB.size))
  have X0 := BoxAt.made w #[.string x.mo, .string x.na, .int .i64 x.ty] 73
  have X0H := hid (X0 0 _ rfl)
  have X1H := hid (X0 1 _ rfl)
  have X2H := hid (X0 2 _ rfl)
  have x0 := X0H.out
  have x1 := X1H.out
  have x2 := X2H.out
  have HU := hid hU
  have H1a := hid h1
  have H2a := hid h2
  have H3a := hid h3
  have H4a := hid h4
  have hw := u32_id x.ty h5 h6
  have H5 := hid h5
  have H7 := hid (show x.ty < 4294967296 by omega)
  have e : xs ++ impB x = xs ++ nameB x.mo ++ nameB x.na ++ [0] ++ encU x.ty := by unfold impB; simp
  rw [e]
  have Bp := hid (show (nameB x.mo).length ≤ 100000000 from by have := nameB_len x.mo; omega)
  have Bq := hid (show (nameB x.na).length ≤ 100000000 from by have := nameB_len x.na; omega)
  have Br := hid (show (encU x.ty).length ≤ 100000000 from by rw [encU_length]; have := (sizeU_pos x.ty).2; omega)
  obtain ⟨p, hp⟩ : ∃ p, nameB x.mo = p := ⟨_, rfl⟩
  have Ep := hid hp
  rw [hp] at Bp ⊢
  obtain ⟨q, hq⟩ : ∃ p, nameB x.na = p := ⟨_, rfl⟩
  have Eq := hid hq
  rw [hq] at Bq ⊢
  obtain ⟨r, hr⟩ : ∃ p, encU x.ty = p := ⟨_, rfl⟩
  have Er := hid hr
  rw [hr] at Br ⊢
  clear h hB hg hl X0 e hp hq hr
  skip
  go_enter Tryz.func160, Tryz.ntmps160
  clear hU h1 h2 h3 h4 h5 h6
  obtain ⟨n0, hn0⟩ : ∃ n, p.length = n := ⟨_, rfl⟩
  have C := hid (name_got x.mo (w.alloc (.cells #[.string x.mo, .string x.na, .int .i64 x.ty] 73)) (HU.out.below HW0.out) H1a.out H3a.out n0 (by rw [Ep.out]; exact hn0))
  rw [Ep.out] at C
  go_wp2_with fail
  refine C.out.mono ?_
  rintro e1 w1 ⟨a1, c1, rfl, hy, hb, hm⟩
  have HA1 := hid (HA0.out.on hb)
  have HW1 := hid (HW0.out.trans (hb.mono HW0.out.size))
  have HY := hid hy
  have HN := hid hm
  clear C hb hy hm x0 x1 x2
  have x0 := HA1.out.touch.cell (p := ⟨w.heap.size, 0, none⟩) HS.out X0H.out
  have x1 := HA1.out.touch.cell (p := ⟨w.heap.size, 1, none⟩) HS.out X1H.out
  have x2 := HA1.out.touch.cell (p := ⟨w.heap.size, 2, none⟩) HS.out X2H.out
  have C := hid (put_anyE g B v (xs) p a1 n0 c1 0 w1 HA1.out.again HN.out HY.out (by have := HL.out; have := Bp.out; have := Bq.out; have := Br.out; first | omega | (simp; omega)))
  go_wp2_with fail
  refine C.out.mono ?_
  rintro e1 w2 ⟨rfl, v2, hb⟩
  have HA2 := hid (HA1.out.trans hb)
  have HW2 := hid (HA2.out.deep H.out.own HW0.out HG.out)
  clear C hb x0 x1 x2
  have x0 := HA2.out.touch.cell (p := ⟨w.heap.size, 0, none⟩) HS.out X0H.out
  have x1 := HA2.out.touch.cell (p := ⟨w.heap.size, 1, none⟩) HS.out X1H.out
  have x2 := HA2.out.touch.cell (p := ⟨w.heap.size, 2, none⟩) HS.out X2H.out
  obtain ⟨n2, hn2⟩ : ∃ n, q.length = n := ⟨_, rfl⟩
  have C := hid (name_got x.na w2 (HU.out.below HW2.out) H2a.out H4a.out n2 (by rw [Eq.out]; exact hn2))
  rw [Eq.out] at C
  go_wp2_with fail
  refine C.out.mono ?_
  rintro e1 w3 ⟨a3, c3, rfl, hy, hb, hm⟩
  have HA3 := hid (HA2.out.on hb)
  have HW3 := hid (HW2.out.trans (hb.mono HW2.out.size))
  have HY := hid hy
  have HN := hid hm
  clear C hb hy hm x0 x1 x2
  have x0 := HA3.out.touch.cell (p := ⟨w.heap.size, 0, none⟩) HS.out X0H.out
  have x1 := HA3.out.touch.cell (p := ⟨w.heap.size, 1, none⟩) HS.out X1H.out
  have x2 := HA3.out.touch.cell (p := ⟨w.heap.size, 2, none⟩) HS.out X2H.out
  have C := hid (put_anyE g B v2 (xs ++ p) q a3 n2 c3 0 w3 HA3.out.again HN.out HY.out (by have := HL.out; have := Bp.out; have := Bq.out; have := Br.out; first | omega | (simp; omega)))
  go_wp2_with fail
  refine C.out.mono ?_
  rintro e1 w4 ⟨rfl, v4, hb⟩
  have HA4 := hid (HA3.out.trans hb)
  have HW4 := hid (HA4.out.deep H.out.own HW0.out HG.out)
  clear C hb x0 x1 x2
  have x0 := HA4.out.touch.cell (p := ⟨w.heap.size, 0, none⟩) HS.out X0H.out
  have x1 := HA4.out.touch.cell (p := ⟨w.heap.size, 1, none⟩) HS.out X1H.out
  have x2 := HA4.out.touch.cell (p := ⟨w.heap.size, 2, none⟩) HS.out X2H.out
  have C := hid (byte_any g B v4 (xs ++ p ++ q) 0 w4 HA4.out.again (by omega) (by have := HL.out; have := Bp.out; have := Bq.out; have := Br.out; first | omega | (simp; omega)))
  go_wp2_with fail
  refine C.out.mono ?_
  rintro e1 w5 ⟨rfl, v5, hb⟩
  have HA5 := hid (HA4.out.trans hb)
  have HW5 := hid (HA5.out.deep H.out.own HW0.out HG.out)
  clear C hb x0 x1 x2
  have x0 := HA5.out.touch.cell (p := ⟨w.heap.size, 0, none⟩) HS.out X0H.out
  have x1 := HA5.out.touch.cell (p := ⟨w.heap.size, 1, none⟩) HS.out X1H.out
  have x2 := HA5.out.touch.cell (p := ⟨w.heap.size, 2, none⟩) HS.out X2H.out
  have C := hid (number_any g B v5 (xs ++ p ++ q ++ [0]) x.ty w5 HA5.out.again H5.out H7.out (by have := HL.out; have := Bp.out; have := Bq.out; have := Br.out; first | omega | (simp; omega)))
  rw [Er.out] at C
  go_wp2_with fail
  refine C.out.mono ?_
  rintro e1 w6 ⟨rfl, v6, hb⟩
  have HA6 := hid (HA5.out.trans hb)
  have HW6 := hid (HA6.out.deep H.out.own HW0.out HG.out)
  clear C hb x0 x1 x2
  have x0 := HA6.out.touch.cell (p := ⟨w.heap.size, 0, none⟩) HS.out X0H.out
  have x1 := HA6.out.touch.cell (p := ⟨w.heap.size, 1, none⟩) HS.out X1H.out
  have x2 := HA6.out.touch.cell (p := ⟨w.heap.size, 2, none⟩) HS.out X2H.out
  clear x0 x1 x2
  go_wp2
  go_end0
  exact ⟨rfl, v6, H1.out.trans HA6.out⟩
set_option maxRecDepth 100000 in
set_option maxHeartbeats 2000000 in
theorem typeOf_any (g B : Nat) (v : Value) (xs : List Int) (x : Mod.Fn) (w0 w : World) (h : Buf g B v w v xs w) (hB : Below w0.heap.size w0 w) (hg : w0.heap.size < g) (hl : xs.length ≤ 1000000000)
    (h5 : 0 ≤ x.ty) (h6 : x.ty ≤ 2147483647) :
    Calls Tryz.prog 162 #[.pointer (some ⟨g, 0, none⟩), .agg #[.int .i64 x.ty, .int .i64 x.lo, x.l.val]] w (Puts g B v w (xs ++ fnB x)) := by
  have H := hid h
  have H1 := hid (h.lit (.cells #[.int .i64 x.ty, .int .i64 x.lo, x.l.val] 66))
  have HA0 := hid (h.lit (.cells #[.int .i64 x.ty, .int .i64 x.lo, x.l.val] 66)).again
  have HS := hid h.apart
  have HL := hid hl
  have HG := hid hg
  have HW0 := hid (hB.trans (((Below.refl w.heap.size w).alloc (Nat.le_refl _) (.cells #[.int .i64 x.ty, .int .i64 x.lo, x.l.val] 66)).mono hB.size))
  have X0 := BoxAt.made w #[.int .i64 x.ty, .int .i64 x.lo, x.l.val] 66
  have X0H := hid (X0 0 _ rfl)
  have X1H := hid (X0 1 _ rfl)
  have X2H := hid (X0 2 _ rfl)
  have x0 := X0H.out
  have x1 := X1H.out
  have x2 := X2H.out
  have hw := u32_id x.ty h5 h6
  have H5 := hid h5
  have H7 := hid (show x.ty < 4294967296 by omega)
  have e : xs ++ fnB x = xs ++ encU x.ty := by rfl
  rw [e]
  have Br := hid (show (encU x.ty).length ≤ 100000000 from by rw [encU_length]; have := (sizeU_pos x.ty).2; omega)
  obtain ⟨r, hr⟩ : ∃ p, encU x.ty = p := ⟨_, rfl⟩
  have Er := hid hr
  rw [hr] at Br ⊢
  clear h hB hg hl X0 e hr
  skip
  go_enter Tryz.func162, Tryz.ntmps162
  clear h5 h6
  have C := hid (number_any g B v (xs) x.ty (w.alloc (.cells #[.int .i64 x.ty, .int .i64 x.lo, x.l.val] 66)) HA0.out.again H5.out H7.out (by have := HL.out; have := Br.out; first | omega | (simp; omega)))
  rw [Er.out] at C
  go_wp2_with fail
  refine C.out.mono ?_
  rintro e1 w1 ⟨rfl, v1, hb⟩
  have HA1 := hid (HA0.out.trans hb)
  have HW1 := hid (HA1.out.deep H.out.own HW0.out HG.out)
  clear C hb x0 x1 x2
  have x0 := HA1.out.touch.cell (p := ⟨w.heap.size, 0, none⟩) HS.out X0H.out
  have x1 := HA1.out.touch.cell (p := ⟨w.heap.size, 1, none⟩) HS.out X1H.out
  have x2 := HA1.out.touch.cell (p := ⟨w.heap.size, 2, none⟩) HS.out X2H.out
  clear x0 x1 x2
  go_wp2
  go_end0
  exact ⟨rfl, v1, H1.out.trans HA1.out⟩
set_option maxRecDepth 100000 in
set_option maxHeartbeats 2000000 in
theorem table_any (g B : Nat) (v : Value) (xs : List Int) (x : Li) (w0 w : World) (h : Buf g B v w v xs w) (hB : Below w0.heap.size w0 w) (hg : w0.heap.size < g) (hl : xs.length ≤ 1000000000)
    (hx : Kind.okLim x.n x.x x.c 1048576 = true) (ha : 0 ≤ x.n ∧ x.n ≤ 4294967295) (hb2 : 0 ≤ x.x ∧ x.x ≤ 4294967295) :
    Calls Tryz.prog 164 #[.pointer (some ⟨g, 0, none⟩), .agg #[.int .u32 x.n, .int .u32 x.x, .bool x.c]] w (Puts g B v w (xs ++ tbB x)) := by
  have H := hid h
  have H1 := hid (h.lit (.cells #[.int .u32 x.n, .int .u32 x.x, .bool x.c] 60))
  have HA0 := hid (h.lit (.cells #[.int .u32 x.n, .int .u32 x.x, .bool x.c] 60)).again
  have HS := hid h.apart
  have HL := hid hl
  have HG := hid hg
  have HW0 := hid (hB.trans (((Below.refl w.heap.size w).alloc (Nat.le_refl _) (.cells #[.int .u32 x.n, .int .u32 x.x, .bool x.c] 60)).mono hB.size))
  have X0 := BoxAt.made w #[.int .u32 x.n, .int .u32 x.x, .bool x.c] 60
  have X0H := hid (X0 0 _ rfl)
  have X1H := hid (X0 1 _ rfl)
  have X2H := hid (X0 2 _ rfl)
  have x0 := X0H.out
  have x1 := X1H.out
  have x2 := X2H.out
  have HX := hid hx
  have HA := hid ha
  have HC := hid hb2
  have e : xs ++ tbB x = xs ++ [112] ++ meB x := by unfold tbB meB; simp
  rw [e]
  have Bp := hid (show (meB x).length ≤ 100000000 from by have := Kind.limL_le x.n x.x x.c; unfold meB; omega)
  obtain ⟨p, hp⟩ : ∃ p, meB x = p := ⟨_, rfl⟩
  have Ep := hid hp
  rw [hp] at Bp ⊢
  clear h hB hg hl X0 e hp
  skip
  go_enter Tryz.func164, Tryz.ntmps164
  clear hx ha hb2
  have C := hid (byte_any g B v (xs) 112 (w.alloc (.cells #[.int .u32 x.n, .int .u32 x.x, .bool x.c] 60)) HA0.out.again (by omega) (by have := HL.out; have := Bp.out; first | omega | (simp; omega)))
  go_wp2_with fail
  refine C.out.mono ?_
  rintro e1 w1 ⟨rfl, v1, hb⟩
  have HA1 := hid (HA0.out.trans hb)
  have HW1 := hid (HA1.out.deep H.out.own HW0.out HG.out)
  clear C hb x0 x1 x2
  have x0 := HA1.out.touch.cell (p := ⟨w.heap.size, 0, none⟩) HS.out X0H.out
  have x1 := HA1.out.touch.cell (p := ⟨w.heap.size, 1, none⟩) HS.out X1H.out
  have x2 := HA1.out.touch.cell (p := ⟨w.heap.size, 2, none⟩) HS.out X2H.out
  obtain ⟨n1, hn1⟩ : ∃ n, p.length = n := ⟨_, rfl⟩
  have C := hid (lim_got x 1048576 HX.out HA.out HC.out n1 (by rw [Ep.out]; exact hn1) w1)
  rw [Ep.out] at C
  go_wp2_with fail
  refine C.out.mono ?_
  rintro e1 w2 ⟨a2, c2, rfl, hy, hb, hm⟩
  have HA2 := hid (HA1.out.on hb)
  have HW2 := hid (HW1.out.trans (hb.mono HW1.out.size))
  have HY := hid hy
  have HN := hid hm
  clear C hb hy hm x0 x1 x2
  have x0 := HA2.out.touch.cell (p := ⟨w.heap.size, 0, none⟩) HS.out X0H.out
  have x1 := HA2.out.touch.cell (p := ⟨w.heap.size, 1, none⟩) HS.out X1H.out
  have x2 := HA2.out.touch.cell (p := ⟨w.heap.size, 2, none⟩) HS.out X2H.out
  have C := hid (put_anyE g B v1 (xs ++ [112]) p a2 n1 c2 0 w2 HA2.out.again HN.out HY.out (by have := HL.out; have := Bp.out; first | omega | (simp; omega)))
  go_wp2_with fail
  refine C.out.mono ?_
  rintro e1 w3 ⟨rfl, v3, hb⟩
  have HA3 := hid (HA2.out.trans hb)
  have HW3 := hid (HA3.out.deep H.out.own HW0.out HG.out)
  clear C hb x0 x1 x2
  have x0 := HA3.out.touch.cell (p := ⟨w.heap.size, 0, none⟩) HS.out X0H.out
  have x1 := HA3.out.touch.cell (p := ⟨w.heap.size, 1, none⟩) HS.out X1H.out
  have x2 := HA3.out.touch.cell (p := ⟨w.heap.size, 2, none⟩) HS.out X2H.out
  clear x0 x1 x2
  go_wp2
  go_end0
  exact ⟨rfl, v3, H1.out.trans HA3.out⟩
set_option maxRecDepth 100000 in
set_option maxHeartbeats 2000000 in
theorem memory_any (g B : Nat) (v : Value) (xs : List Int) (x : Li) (w0 w : World) (h : Buf g B v w v xs w) (hB : Below w0.heap.size w0 w) (hg : w0.heap.size < g) (hl : xs.length ≤ 1000000000)
    (hx : Kind.okLim x.n x.x x.c 65536 = true) (ha : 0 ≤ x.n ∧ x.n ≤ 4294967295) (hb2 : 0 ≤ x.x ∧ x.x ≤ 4294967295) :
    Calls Tryz.prog 165 #[.pointer (some ⟨g, 0, none⟩), .agg #[.int .u32 x.n, .int .u32 x.x, .bool x.c]] w (Puts g B v w (xs ++ meB x)) := by
  have H := hid h
  have H1 := hid (h.lit (.cells #[.int .u32 x.n, .int .u32 x.x, .bool x.c] 60))
  have HA0 := hid (h.lit (.cells #[.int .u32 x.n, .int .u32 x.x, .bool x.c] 60)).again
  have HS := hid h.apart
  have HL := hid hl
  have HG := hid hg
  have HW0 := hid (hB.trans (((Below.refl w.heap.size w).alloc (Nat.le_refl _) (.cells #[.int .u32 x.n, .int .u32 x.x, .bool x.c] 60)).mono hB.size))
  have X0 := BoxAt.made w #[.int .u32 x.n, .int .u32 x.x, .bool x.c] 60
  have X0H := hid (X0 0 _ rfl)
  have X1H := hid (X0 1 _ rfl)
  have X2H := hid (X0 2 _ rfl)
  have x0 := X0H.out
  have x1 := X1H.out
  have x2 := X2H.out
  have HX := hid hx
  have HA := hid ha
  have HC := hid hb2
  have e : xs ++ meB x = xs ++ meB x := by rfl
  rw [e]
  have Bp := hid (show (meB x).length ≤ 100000000 from by have := Kind.limL_le x.n x.x x.c; unfold meB; omega)
  obtain ⟨p, hp⟩ : ∃ p, meB x = p := ⟨_, rfl⟩
  have Ep := hid hp
  rw [hp] at Bp ⊢
  clear h hB hg hl X0 e hp
  skip
  go_enter Tryz.func165, Tryz.ntmps165
  clear hx ha hb2
  obtain ⟨n0, hn0⟩ : ∃ n, p.length = n := ⟨_, rfl⟩
  have C := hid (lim_got x 65536 HX.out HA.out HC.out n0 (by rw [Ep.out]; exact hn0) (w.alloc (.cells #[.int .u32 x.n, .int .u32 x.x, .bool x.c] 60)))
  rw [Ep.out] at C
  go_wp2_with fail
  refine C.out.mono ?_
  rintro e1 w1 ⟨a1, c1, rfl, hy, hb, hm⟩
  have HA1 := hid (HA0.out.on hb)
  have HW1 := hid (HW0.out.trans (hb.mono HW0.out.size))
  have HY := hid hy
  have HN := hid hm
  clear C hb hy hm x0 x1 x2
  have x0 := HA1.out.touch.cell (p := ⟨w.heap.size, 0, none⟩) HS.out X0H.out
  have x1 := HA1.out.touch.cell (p := ⟨w.heap.size, 1, none⟩) HS.out X1H.out
  have x2 := HA1.out.touch.cell (p := ⟨w.heap.size, 2, none⟩) HS.out X2H.out
  have C := hid (put_anyE g B v (xs) p a1 n0 c1 0 w1 HA1.out.again HN.out HY.out (by have := HL.out; have := Bp.out; first | omega | (simp; omega)))
  go_wp2_with fail
  refine C.out.mono ?_
  rintro e1 w2 ⟨rfl, v2, hb⟩
  have HA2 := hid (HA1.out.trans hb)
  have HW2 := hid (HA2.out.deep H.out.own HW0.out HG.out)
  clear C hb x0 x1 x2
  have x0 := HA2.out.touch.cell (p := ⟨w.heap.size, 0, none⟩) HS.out X0H.out
  have x1 := HA2.out.touch.cell (p := ⟨w.heap.size, 1, none⟩) HS.out X1H.out
  have x2 := HA2.out.touch.cell (p := ⟨w.heap.size, 2, none⟩) HS.out X2H.out
  clear x0 x1 x2
  go_wp2
  go_end0
  exact ⟨rfl, v2, H1.out.trans HA2.out⟩
set_option maxRecDepth 100000 in
set_option maxHeartbeats 2000000 in
theorem global1_any (g B : Nat) (v : Value) (xs : List Int) (x : Gl) (w0 w : World) (h : Buf g B v w v xs w) (hB : Below w0.heap.size w0 w) (hg : w0.heap.size < g) (hl : xs.length ≤ 1000000000)
    (hLs : ListAt w0.heap.size w0 x.l.a x.l.t.len x.l.t) (hT : Nams w0) (hck : checkP x.l.t = 0) (hln : x.l.t.len ≤ 140737488351232) (hct : x.l.t.count ≤ 1000000) (hel : (encL x.l.t).length ≤ 90000) :
    Calls Tryz.prog 167 #[.pointer (some ⟨g, 0, none⟩), .agg #[.bool true, x.l.val]] w (Puts g B v w (xs ++ (127 :: 1 :: insB x.l))) := by
  have H := hid h
  have H1 := hid (h.lit (.cells #[.bool true, x.l.val] 68))
  have HA0 := hid (h.lit (.cells #[.bool true, x.l.val] 68)).again
  have HS := hid h.apart
  have HL := hid hl
  have HG := hid hg
  have HW0 := hid (hB.trans (((Below.refl w.heap.size w).alloc (Nat.le_refl _) (.cells #[.bool true, x.l.val] 68)).mono hB.size))
  have X0 := BoxAt.made w #[.bool true, x.l.val] 68
  have X0H := hid (X0 0 _ rfl)
  have X1H := hid (X0 1 _ rfl)
  have x0 := X0H.out
  have x1 := X1H.out
  have HLs := hid hLs
  have HT := hid hT
  have HCK := hid hck
  have HLN := hid hln
  have HCT := hid hct
  have HEL := hid hel
  have e : xs ++ (127 :: 1 :: insB x.l) = xs ++ [127] ++ [1] ++ insB x.l := by simp
  rw [e]
  have Bp := hid (show (insB x.l).length ≤ 100000000 from by show (encL x.l.t ++ [11]).length ≤ _; simp; omega)
  obtain ⟨p, hp⟩ : ∃ p, insB x.l = p := ⟨_, rfl⟩
  have Ep := hid hp
  rw [hp] at Bp ⊢
  clear h hB hg hl X0 e hp
  skip
  go_enter Tryz.func167, Tryz.ntmps167
  clear hLs hT hck hln hct hel
  unfold Lst.val at *
  have C := hid (byte_any g B v (xs) 127 (w.alloc (.cells #[.bool true, x.l.val] 68)) HA0.out.again (by omega) (by have := HL.out; have := Bp.out; first | omega | (simp; omega)))
  go_wp2_with fail
  refine C.out.mono ?_
  rintro e1 w1 ⟨rfl, v1, hb⟩
  have HA1 := hid (HA0.out.trans hb)
  have HW1 := hid (HA1.out.deep H.out.own HW0.out HG.out)
  clear C hb x0 x1
  have x0 := HA1.out.touch.cell (p := ⟨w.heap.size, 0, none⟩) HS.out X0H.out
  have x1 := HA1.out.touch.cell (p := ⟨w.heap.size, 1, none⟩) HS.out X1H.out
  have C := hid (byte_any g B v1 (xs ++ [127]) 1 w1 HA1.out.again (by omega) (by have := HL.out; have := Bp.out; first | omega | (simp; omega)))
  go_wp2_with fail
  refine C.out.mono ?_
  rintro e1 w2 ⟨rfl, v2, hb⟩
  have HA2 := hid (HA1.out.trans hb)
  have HW2 := hid (HA2.out.deep H.out.own HW0.out HG.out)
  clear C hb x0 x1
  have x0 := HA2.out.touch.cell (p := ⟨w.heap.size, 0, none⟩) HS.out X0H.out
  have x1 := HA2.out.touch.cell (p := ⟨w.heap.size, 1, none⟩) HS.out X1H.out
  obtain ⟨n2, hn2⟩ : ∃ n, p.length = n := ⟨_, rfl⟩
  have C := hid (ins_got x.l w2 ((HLs.out.below HW2.out).more HW2.out.size) HLN.out (HT.out.below HW2.out) HCT.out HEL.out HCK.out n2 (by rw [Ep.out]; exact hn2))
  rw [Ep.out] at C
  go_wp2_with fail
  refine C.out.mono ?_
  rintro e1 w3 ⟨a3, c3, rfl, hy, hb, hm⟩
  have HA3 := hid (HA2.out.on hb)
  have HW3 := hid (HW2.out.trans (hb.mono HW2.out.size))
  have HY := hid hy
  have HN := hid hm
  clear C hb hy hm x0 x1
  have x0 := HA3.out.touch.cell (p := ⟨w.heap.size, 0, none⟩) HS.out X0H.out
  have x1 := HA3.out.touch.cell (p := ⟨w.heap.size, 1, none⟩) HS.out X1H.out
  have C := hid (put_anyE g B v2 (xs ++ [127] ++ [1]) p a3 n2 c3 0 w3 HA3.out.again HN.out HY.out (by have := HL.out; have := Bp.out; first | omega | (simp; omega)))
  go_wp2_with fail
  refine C.out.mono ?_
  rintro e1 w4 ⟨rfl, v4, hb⟩
  have HA4 := hid (HA3.out.trans hb)
  have HW4 := hid (HA4.out.deep H.out.own HW0.out HG.out)
  clear C hb x0 x1
  have x0 := HA4.out.touch.cell (p := ⟨w.heap.size, 0, none⟩) HS.out X0H.out
  have x1 := HA4.out.touch.cell (p := ⟨w.heap.size, 1, none⟩) HS.out X1H.out
  clear x0 x1
  go_wp2
  go_end0
  exact ⟨rfl, v4, H1.out.trans HA4.out⟩
set_option maxRecDepth 100000 in
set_option maxHeartbeats 2000000 in
theorem global0_any (g B : Nat) (v : Value) (xs : List Int) (x : Gl) (w0 w : World) (h : Buf g B v w v xs w) (hB : Below w0.heap.size w0 w) (hg : w0.heap.size < g) (hl : xs.length ≤ 1000000000)
    (hLs : ListAt w0.heap.size w0 x.l.a x.l.t.len x.l.t) (hT : Nams w0) (hck : checkP x.l.t = 0) (hln : x.l.t.len ≤ 140737488351232) (hct : x.l.t.count ≤ 1000000) (hel : (encL x.l.t).length ≤ 90000) :
    Calls Tryz.prog 167 #[.pointer (some ⟨g, 0, none⟩), .agg #[.bool false, x.l.val]] w (Puts g B v w (xs ++ (127 :: 0 :: insB x.l))) := by
  have H := hid h
  have H1 := hid (h.lit (.cells #[.bool false, x.l.val] 68))
  have HA0 := hid (h.lit (.cells #[.bool false, x.l.val] 68)).again
  have HS := hid h.apart
  have HL := hid hl
  have HG := hid hg
  have HW0 := hid (hB.trans (((Below.refl w.heap.size w).alloc (Nat.le_refl _) (.cells #[.bool false, x.l.val] 68)).mono hB.size))
  have X0 := BoxAt.made w #[.bool false, x.l.val] 68
  have X0H := hid (X0 0 _ rfl)
  have X1H := hid (X0 1 _ rfl)
  have x0 := X0H.out
  have x1 := X1H.out
  have HLs := hid hLs
  have HT := hid hT
  have HCK := hid hck
  have HLN := hid hln
  have HCT := hid hct
  have HEL := hid hel
  have e : xs ++ (127 :: 0 :: insB x.l) = xs ++ [127] ++ [0] ++ insB x.l := by simp
  rw [e]
  have Bp := hid (show (insB x.l).length ≤ 100000000 from by show (encL x.l.t ++ [11]).length ≤ _; simp; omega)
  obtain ⟨p, hp⟩ : ∃ p, insB x.l = p := ⟨_, rfl⟩
  have Ep := hid hp
  rw [hp] at Bp ⊢
  clear h hB hg hl X0 e hp
  skip
  go_enter Tryz.func167, Tryz.ntmps167
  clear hLs hT hck hln hct hel
  unfold Lst.val at *
  have C := hid (byte_any g B v (xs) 127 (w.alloc (.cells #[.bool false, x.l.val] 68)) HA0.out.again (by omega) (by have := HL.out; have := Bp.out; first | omega | (simp; omega)))
  go_wp2_with fail
  refine C.out.mono ?_
  rintro e1 w1 ⟨rfl, v1, hb⟩
  have HA1 := hid (HA0.out.trans hb)
  have HW1 := hid (HA1.out.deep H.out.own HW0.out HG.out)
  clear C hb x0 x1
  have x0 := HA1.out.touch.cell (p := ⟨w.heap.size, 0, none⟩) HS.out X0H.out
  have x1 := HA1.out.touch.cell (p := ⟨w.heap.size, 1, none⟩) HS.out X1H.out
  have C := hid (byte_any g B v1 (xs ++ [127]) 0 w1 HA1.out.again (by omega) (by have := HL.out; have := Bp.out; first | omega | (simp; omega)))
  go_wp2_with fail
  refine C.out.mono ?_
  rintro e1 w2 ⟨rfl, v2, hb⟩
  have HA2 := hid (HA1.out.trans hb)
  have HW2 := hid (HA2.out.deep H.out.own HW0.out HG.out)
  clear C hb x0 x1
  have x0 := HA2.out.touch.cell (p := ⟨w.heap.size, 0, none⟩) HS.out X0H.out
  have x1 := HA2.out.touch.cell (p := ⟨w.heap.size, 1, none⟩) HS.out X1H.out
  obtain ⟨n2, hn2⟩ : ∃ n, p.length = n := ⟨_, rfl⟩
  have C := hid (ins_got x.l w2 ((HLs.out.below HW2.out).more HW2.out.size) HLN.out (HT.out.below HW2.out) HCT.out HEL.out HCK.out n2 (by rw [Ep.out]; exact hn2))
  rw [Ep.out] at C
  go_wp2_with fail
  refine C.out.mono ?_
  rintro e1 w3 ⟨a3, c3, rfl, hy, hb, hm⟩
  have HA3 := hid (HA2.out.on hb)
  have HW3 := hid (HW2.out.trans (hb.mono HW2.out.size))
  have HY := hid hy
  have HN := hid hm
  clear C hb hy hm x0 x1
  have x0 := HA3.out.touch.cell (p := ⟨w.heap.size, 0, none⟩) HS.out X0H.out
  have x1 := HA3.out.touch.cell (p := ⟨w.heap.size, 1, none⟩) HS.out X1H.out
  have C := hid (put_anyE g B v2 (xs ++ [127] ++ [0]) p a3 n2 c3 0 w3 HA3.out.again HN.out HY.out (by have := HL.out; have := Bp.out; first | omega | (simp; omega)))
  go_wp2_with fail
  refine C.out.mono ?_
  rintro e1 w4 ⟨rfl, v4, hb⟩
  have HA4 := hid (HA3.out.trans hb)
  have HW4 := hid (HA4.out.deep H.out.own HW0.out HG.out)
  clear C hb x0 x1
  have x0 := HA4.out.touch.cell (p := ⟨w.heap.size, 0, none⟩) HS.out X0H.out
  have x1 := HA4.out.touch.cell (p := ⟨w.heap.size, 1, none⟩) HS.out X1H.out
  clear x0 x1
  go_wp2
  go_end0
  exact ⟨rfl, v4, H1.out.trans HA4.out⟩
set_option maxRecDepth 100000 in
set_option maxHeartbeats 2000000 in
theorem exported_any (g B : Nat) (v : Value) (xs : List Int) (x : Ex) (w0 w : World) (h : Buf g B v w v xs w) (hB : Below w0.heap.size w0 w) (hg : w0.heap.size < g) (hl : xs.length ≤ 1000000000)
    (hU : Utf.Tabs w0) (h1 : x.na.size ≤ 1048576) (h3 : noText x.na = false) (h5 : 0 ≤ x.k) (h6 : x.k ≤ 3) (h7 : 0 ≤ x.i) (h8 : x.i < 4294967296) :
    Calls Tryz.prog 169 #[.pointer (some ⟨g, 0, none⟩), .agg #[.string x.na, .int .i64 x.k, .int .u32 x.i]] w (Puts g B v w (xs ++ exB x)) := by
  have H := hid h
  have H1 := hid (h.lit (.cells #[.string x.na, .int .i64 x.k, .int .u32 x.i] 75))
  have HA0 := hid (h.lit (.cells #[.string x.na, .int .i64 x.k, .int .u32 x.i] 75)).again
  have HS := hid h.apart
  have HL := hid hl
  have HG := hid hg
  have HW0 := hid (hB.trans (((Below.refl w.heap.size w).alloc (Nat.le_refl _) (.cells #[.string x.na, .int .i64 x.k, .int .u32 x.i] 75)).mono hB.size))
  have X0 := BoxAt.made w #[.string x.na, .int .i64 x.k, .int .u32 x.i] 75
  have X0H := hid (X0 0 _ rfl)
  have X1H := hid (X0 1 _ rfl)
  have X2H := hid (X0 2 _ rfl)
  have x0 := X0H.out
  have x1 := X1H.out
  have x2 := X2H.out
  have HU := hid hU
  have H1a := hid h1
  have H3a := hid h3
  have hw := u8_id x.k h5 h6
  have H5 := hid (show 0 ≤ x.k ∧ x.k < 256 by omega)
  have H7 := hid h7
  have H8 := hid h8
  have e : xs ++ exB x = xs ++ nameB x.na ++ [x.k] ++ encU x.i := by unfold exB; simp
  rw [e]
  have Bp := hid (show (nameB x.na).length ≤ 100000000 from by have := nameB_len x.na; omega)
  have Br := hid (show (encU x.i).length ≤ 100000000 from by rw [encU_length]; have := (sizeU_pos x.i).2; omega)
  obtain ⟨p, hp⟩ : ∃ p, nameB x.na = p := ⟨_, rfl⟩
  have Ep := hid hp
  rw [hp] at Bp ⊢
  obtain ⟨r, hr⟩ : ∃ p, encU x.i = p := ⟨_, rfl⟩
  have Er := hid hr
  rw [hr] at Br ⊢
  clear h hB hg hl X0 e hp hr
  skip
  go_enter Tryz.func169, Tryz.ntmps169
  clear hU h1 h3 h5 h6 h7 h8
  obtain ⟨n0, hn0⟩ : ∃ n, p.length = n := ⟨_, rfl⟩
  have C := hid (name_got x.na (w.alloc (.cells #[.string x.na, .int .i64 x.k, .int .u32 x.i] 75)) (HU.out.below HW0.out) H1a.out H3a.out n0 (by rw [Ep.out]; exact hn0))
  rw [Ep.out] at C
  go_wp2_with fail
  refine C.out.mono ?_
  rintro e1 w1 ⟨a1, c1, rfl, hy, hb, hm⟩
  have HA1 := hid (HA0.out.on hb)
  have HW1 := hid (HW0.out.trans (hb.mono HW0.out.size))
  have HY := hid hy
  have HN := hid hm
  clear C hb hy hm x0 x1 x2
  have x0 := HA1.out.touch.cell (p := ⟨w.heap.size, 0, none⟩) HS.out X0H.out
  have x1 := HA1.out.touch.cell (p := ⟨w.heap.size, 1, none⟩) HS.out X1H.out
  have x2 := HA1.out.touch.cell (p := ⟨w.heap.size, 2, none⟩) HS.out X2H.out
  have C := hid (put_anyE g B v (xs) p a1 n0 c1 0 w1 HA1.out.again HN.out HY.out (by have := HL.out; have := Bp.out; have := Br.out; first | omega | (simp; omega)))
  go_wp2_with fail
  refine C.out.mono ?_
  rintro e1 w2 ⟨rfl, v2, hb⟩
  have HA2 := hid (HA1.out.trans hb)
  have HW2 := hid (HA2.out.deep H.out.own HW0.out HG.out)
  clear C hb x0 x1 x2
  have x0 := HA2.out.touch.cell (p := ⟨w.heap.size, 0, none⟩) HS.out X0H.out
  have x1 := HA2.out.touch.cell (p := ⟨w.heap.size, 1, none⟩) HS.out X1H.out
  have x2 := HA2.out.touch.cell (p := ⟨w.heap.size, 2, none⟩) HS.out X2H.out
  have C := hid (byte_any g B v2 (xs ++ p) x.k w2 HA2.out.again H5.out (by have := HL.out; have := Bp.out; have := Br.out; first | omega | (simp; omega)))
  go_wp2_with fail
  refine C.out.mono ?_
  rintro e1 w3 ⟨rfl, v3, hb⟩
  have HA3 := hid (HA2.out.trans hb)
  have HW3 := hid (HA3.out.deep H.out.own HW0.out HG.out)
  clear C hb x0 x1 x2
  have x0 := HA3.out.touch.cell (p := ⟨w.heap.size, 0, none⟩) HS.out X0H.out
  have x1 := HA3.out.touch.cell (p := ⟨w.heap.size, 1, none⟩) HS.out X1H.out
  have x2 := HA3.out.touch.cell (p := ⟨w.heap.size, 2, none⟩) HS.out X2H.out
  have C := hid (number_any g B v3 (xs ++ p ++ [x.k]) x.i w3 HA3.out.again H7.out H8.out (by have := HL.out; have := Bp.out; have := Br.out; first | omega | (simp; omega)))
  rw [Er.out] at C
  go_wp2_with fail
  refine C.out.mono ?_
  rintro e1 w4 ⟨rfl, v4, hb⟩
  have HA4 := hid (HA3.out.trans hb)
  have HW4 := hid (HA4.out.deep H.out.own HW0.out HG.out)
  clear C hb x0 x1 x2
  have x0 := HA4.out.touch.cell (p := ⟨w.heap.size, 0, none⟩) HS.out X0H.out
  have x1 := HA4.out.touch.cell (p := ⟨w.heap.size, 1, none⟩) HS.out X1H.out
  have x2 := HA4.out.touch.cell (p := ⟨w.heap.size, 2, none⟩) HS.out X2H.out
  clear x0 x1 x2
  go_wp2
  go_end0
  exact ⟨rfl, v4, H1.out.trans HA4.out⟩
set_option maxRecDepth 100000 in
set_option maxHeartbeats 2000000 in
theorem code_any (g B : Nat) (v : Value) (xs : List Int) (x : Mod.Fn) (w0 w : World) (h : Buf g B v w v xs w) (hB : Below w0.heap.size w0 w) (hg : w0.heap.size < g) (hl : xs.length ≤ 1000000000)
    (hLs : ListAt w0.heap.size w0 x.l.a x.l.t.len x.l.t) (hT : Nams w0) (hck : checkP x.l.t = 0) (hln : x.l.t.len ≤ 140737488351232) (hct : x.l.t.count ≤ 1000000) (hel : (encL x.l.t).length ≤ 90000) (hlo : 0 ≤ x.lo ∧ x.lo ≤ 50000) :
    Calls Tryz.prog 172 #[.pointer (some ⟨g, 0, none⟩), .agg #[.int .i64 x.ty, .int .i64 x.lo, x.l.val]] w (Puts g B v w (xs ++ coB x)) := by
  have H := hid h
  have H1 := hid (h.lit (.cells #[.int .i64 x.ty, .int .i64 x.lo, x.l.val] 66))
  have HA0 := hid (h.lit (.cells #[.int .i64 x.ty, .int .i64 x.lo, x.l.val] 66)).again
  have HS := hid h.apart
  have HL := hid hl
  have HG := hid hg
  have HW0 := hid (hB.trans (((Below.refl w.heap.size w).alloc (Nat.le_refl _) (.cells #[.int .i64 x.ty, .int .i64 x.lo, x.l.val] 66)).mono hB.size))
  have X0 := BoxAt.made w #[.int .i64 x.ty, .int .i64 x.lo, x.l.val] 66
  have X0H := hid (X0 0 _ rfl)
  have X1H := hid (X0 1 _ rfl)
  have X2H := hid (X0 2 _ rfl)
  have x0 := X0H.out
  have x1 := X1H.out
  have x2 := X2H.out
  have HLs := hid hLs
  have HT := hid hT
  have HCK := hid hck
  have HLN := hid hln
  have HCT := hid hct
  have HEL := hid hel
  have HL0 := hid hlo
  have e : xs ++ coB x = xs ++ (encU (codeL x.lo x.l.t).length ++ codeL x.lo x.l.t) := by rfl
  rw [e]
  have Bp := hid (show (codeL x.lo x.l.t).length ≤ 100000000 from by have := (Go.Proofs.YtepbjkkakfpjgaaGreatDoor.Body.loc_len x.lo).1; unfold codeL; rw [List.length_append]; show _ + (encL x.l.t ++ [11]).length ≤ _; simp; omega)
  obtain ⟨p, hp⟩ : ∃ p, codeL x.lo x.l.t = p := ⟨_, rfl⟩
  have Ep := hid hp
  rw [hp] at Bp ⊢
  clear h hB hg hl X0 e hp
  skip
  go_enter Tryz.func172, Tryz.ntmps172
  clear hLs hT hck hln hct hel hlo
  unfold Lst.val at *
  obtain ⟨n0, hn0⟩ : ∃ n, p.length = n := ⟨_, rfl⟩
  have C := hid (code_got x _ ((HLs.out.below HW0.out).more HW0.out.size) HLN.out (HT.out.below HW0.out) HCT.out HEL.out HCK.out HL0.out.1 HL0.out.2 n0 (by rw [Ep.out]; exact hn0))
  rw [Ep.out] at C
  rw [hn0]
  go_wp2_with fail
  refine C.out.mono ?_
  rintro e1 w1 ⟨⟨a1, c1, rfl, hy, hb, hm⟩, hfr⟩
  have HA1 := hid (HA0.out.on hb)
  have HW1 := hid (HW0.out.trans (hb.mono HW0.out.size))
  have HY := hid hy
  have HN := hid hm
  have HF := hid (fun b off (ha : a1 = some ⟨b, off, none⟩) => hfr a1 c1 rfl b off ha)
  clear C hb hy hm hfr hn0 x0 x1 x2
  have C := hid (sized_any g B v xs p a1 n0 c1 w1 HA1.out.again HN.out HY.out (by have := HL.out; have := Bp.out; omega) (fun b off ha _ hs => by
    have h1 := HF.out b off ha
    simp only [World.size_alloc] at h1
    rcases hs with rfl | e
    · have := H.out.lt; omega
    · have := (World.ownsRow.lt H.out.own b e).2; omega))
  go_wp2_with fail
  refine C.out.mono ?_
  rintro e1 w2 ⟨rfl, v2, hb⟩
  have HA2 := hid (HA1.out.trans hb)
  clear C hb
  have x0 := X0H.out
  have x1 := X1H.out
  have x2 := X2H.out
  clear x0 x1 x2
  go_wp2
  go_end0
  exact ⟨rfl, v2, H1.out.trans HA2.out⟩
set_option maxRecDepth 100000 in
set_option maxHeartbeats 2000000 in
theorem data_any (g B : Nat) (v : Value) (xs : List Int) (x : Da) (w0 w : World) (h : Buf g B v w v xs w) (hB : Below w0.heap.size w0 w) (hg : w0.heap.size < g) (hl : xs.length ≤ 1000000000)
    (hLs : ListAt w0.heap.size w0 x.l.a x.l.t.len x.l.t) (hT : Nams w0) (hck : checkP x.l.t = 0) (hln : x.l.t.len ≤ 140737488351232) (hct : x.l.t.count ≤ 1000000) (hel : (encL x.l.t).length ≤ 90000) (hbs : BytesAt w0.heap.size w0 x.ba x.bs) (hby : ∀ z ∈ x.bs, 0 ≤ z ∧ z < 256) (hbl : x.bs.length ≤ 100000000) :
    Calls Tryz.prog 174 #[.pointer (some ⟨g, 0, none⟩), .agg #[x.l.val, .slice x.ba x.bs.length x.bc]] w (Puts g B v w (xs ++ daB x)) := by
  have H := hid h
  have H1 := hid (h.lit (.cells #[x.l.val, .slice x.ba x.bs.length x.bc] 47))
  have HA0 := hid (h.lit (.cells #[x.l.val, .slice x.ba x.bs.length x.bc] 47)).again
  have HS := hid h.apart
  have HL := hid hl
  have HG := hid hg
  have HW0 := hid (hB.trans (((Below.refl w.heap.size w).alloc (Nat.le_refl _) (.cells #[x.l.val, .slice x.ba x.bs.length x.bc] 47)).mono hB.size))
  have X0 := BoxAt.made w #[x.l.val, .slice x.ba x.bs.length x.bc] 47
  have X0H := hid (X0 0 _ rfl)
  have X1H := hid (X0 1 _ rfl)
  have x0 := X0H.out
  have x1 := X1H.out
  have HLs := hid hLs
  have HT := hid hT
  have HCK := hid hck
  have HLN := hid hln
  have HCT := hid hct
  have HEL := hid hel
  have HBS := hid hbs
  have HBY := hid hby
  have HBL := hid hbl
  have e : xs ++ daB x = xs ++ [0] ++ insB x.l ++ (encU x.bs.length ++ x.bs) := by unfold daB; simp
  rw [e]
  have Bp := hid (show (insB x.l).length ≤ 100000000 from by show (encL x.l.t ++ [11]).length ≤ _; simp; omega)
  obtain ⟨p, hp⟩ : ∃ p, insB x.l = p := ⟨_, rfl⟩
  have Ep := hid hp
  rw [hp] at Bp ⊢
  clear h hB hg hl X0 e hp
  skip
  go_enter Tryz.func174, Tryz.ntmps174
  clear hLs hT hck hln hct hel hbs hby hbl
  unfold Lst.val at *
  have C := hid (byte_any g B v (xs) 0 (w.alloc (.cells #[x.l.val, .slice x.ba x.bs.length x.bc] 47)) HA0.out.again (by omega) (by have := HL.out; have := Bp.out; first | omega | (simp; omega)))
  go_wp2_with fail
  refine C.out.mono ?_
  rintro e1 w1 ⟨rfl, v1, hb⟩
  have HA1 := hid (HA0.out.trans hb)
  have HW1 := hid (HA1.out.deep H.out.own HW0.out HG.out)
  clear C hb x0 x1
  have x0 := HA1.out.touch.cell (p := ⟨w.heap.size, 0, none⟩) HS.out X0H.out
  have x1 := HA1.out.touch.cell (p := ⟨w.heap.size, 1, none⟩) HS.out X1H.out
  obtain ⟨n1, hn1⟩ : ∃ n, p.length = n := ⟨_, rfl⟩
  have C := hid (ins_got x.l w1 ((HLs.out.below HW1.out).more HW1.out.size) HLN.out (HT.out.below HW1.out) HCT.out HEL.out HCK.out n1 (by rw [Ep.out]; exact hn1))
  rw [Ep.out] at C
  go_wp2_with fail
  refine C.out.mono ?_
  rintro e1 w2 ⟨a2, c2, rfl, hy, hb, hm⟩
  have HA2 := hid (HA1.out.on hb)
  have HW2 := hid (HW1.out.trans (hb.mono HW1.out.size))
  have HY := hid hy
  have HN := hid hm
  clear C hb hy hm x0 x1
  have x0 := HA2.out.touch.cell (p := ⟨w.heap.size, 0, none⟩) HS.out X0H.out
  have x1 := HA2.out.touch.cell (p := ⟨w.heap.size, 1, none⟩) HS.out X1H.out
  have C := hid (put_anyE g B v1 (xs ++ [0]) p a2 n1 c2 0 w2 HA2.out.again HN.out HY.out (by have := HL.out; have := Bp.out; first | omega | (simp; omega)))
  go_wp2_with fail
  refine C.out.mono ?_
  rintro e1 w3 ⟨rfl, v3, hb⟩
  have HA3 := hid (HA2.out.trans hb)
  have HW3 := hid (HA3.out.deep H.out.own HW0.out HG.out)
  clear C hb x0 x1
  have x0 := HA3.out.touch.cell (p := ⟨w.heap.size, 0, none⟩) HS.out X0H.out
  have x1 := HA3.out.touch.cell (p := ⟨w.heap.size, 1, none⟩) HS.out X1H.out
  obtain ⟨nb, hnb⟩ : ∃ n, x.bs.length = n := ⟨_, rfl⟩
  have HNB := hid hnb
  have C := hid (sized_any g B v3 (xs ++ [0] ++ p) x.bs x.ba nb x.bc w3 HA3.out.again HNB.out (bytes_at (HBS.out.below HW3.out) HBY.out (by have := HBL.out; omega)) (by have := HL.out; have := Bp.out; have := HBL.out; simp; omega) (fun b off ha hne hs => by
    have hlt : b < w0.heap.size := by
      rcases HBS.out with h | ⟨b1, off1, h, hl, _⟩
      · exact absurd h hne
      · rw [h] at ha; simp only [Option.some.injEq, Addr.mk.injEq] at ha; omega
    have h2 := HG.out
    rcases hs with e | e
    · omega
    · have := (World.ownsRow.lt HA3.out.own b e).1; have := H.out.low; omega))
  rw [hnb] at x1
  rw [hnb]
  clear hnb
  go_wp2_with fail
  refine C.out.mono ?_
  rintro e1 w4 ⟨rfl, v4, hb⟩
  rw [← HNB.out] at hb
  have HA4 := hid (HA3.out.trans hb)
  clear C hb
  clear x0 x1
  go_wp2
  go_end0
  exact ⟨rfl, v4, H1.out.trans HA4.out⟩
set_option maxRecDepth 100000 in
set_option maxHeartbeats 2000000 in
theorem elem_any (g B : Nat) (v : Value) (xs : List Int) (x : El) (w0 w : World) (h : Buf g B v w v xs w) (hB : Below w0.heap.size w0 w) (hg : w0.heap.size < g) (hl : xs.length ≤ 1000000000)
    (hLs : ListAt w0.heap.size w0 x.l.a x.l.t.len x.l.t) (hT : Nams w0) (hck : checkP x.l.t = 0) (hln : x.l.t.len ≤ 140737488351232) (hct : x.l.t.count ≤ 1000000) (hel : (encL x.l.t).length ≤ 90000) (hfs : TagsAt w0.heap.size w0 x.fa x.fs) (hfz : ∀ z ∈ x.fs, 0 ≤ z ∧ z < 4294967296) (hfl : x.fs.length ≤ 16384) :
    Calls Tryz.prog 171 #[.pointer (some ⟨g, 0, none⟩), .agg #[x.l.val, .slice x.fa x.fs.length x.fc]] w (Puts g B v w (xs ++ elB x)) := by
  have H := hid h
  have H1 := hid (h.lit (.cells #[x.l.val, .slice x.fa x.fs.length x.fc] 71))
  have HA0 := hid (h.lit (.cells #[x.l.val, .slice x.fa x.fs.length x.fc] 71)).again
  have HS := hid h.apart
  have HL := hid hl
  have HG := hid hg
  have HW0 := hid (hB.trans (((Below.refl w.heap.size w).alloc (Nat.le_refl _) (.cells #[x.l.val, .slice x.fa x.fs.length x.fc] 71)).mono hB.size))
  have X0 := BoxAt.made w #[x.l.val, .slice x.fa x.fs.length x.fc] 71
  have X0H := hid (X0 0 _ rfl)
  have X1H := hid (X0 1 _ rfl)
  have x0 := X0H.out
  have x1 := X1H.out
  have HLs := hid hLs
  have HT := hid hT
  have HCK := hid hck
  have HLN := hid hln
  have HCT := hid hct
  have HEL := hid hel
  have HFS := hid hfs
  have HFZ := hid hfz
  have HFL := hid hfl
  have hw := u32_id x.fs.length (by omega) (by omega)
  have e : xs ++ elB x = xs ++ [0] ++ insB x.l ++ encU x.fs.length ++ x.fs.flatMap encU := by unfold elB; simp
  rw [e]
  have Bp := hid (show (insB x.l).length ≤ 100000000 from by show (encL x.l.t ++ [11]).length ≤ _; simp; omega)
  have Br := hid (show (encU x.fs.length).length ≤ 100000000 from by rw [encU_length]; have := (sizeU_pos x.fs.length).2; omega)
  obtain ⟨p, hp⟩ : ∃ p, insB x.l = p := ⟨_, rfl⟩
  have Ep := hid hp
  rw [hp] at Bp ⊢
  obtain ⟨r, hr⟩ : ∃ p, encU x.fs.length = p := ⟨_, rfl⟩
  have Er := hid hr
  rw [hr] at Br ⊢
  clear h hB hg hl X0 e hp hr
  skip
  go_enter Tryz.func171, Tryz.ntmps171
  clear hLs hT hck hln hct hel hfs hfz hfl
  unfold Lst.val at *
  skip
  skip
  have C := hid (byte_any g B v (xs) 0 (w.alloc (.cells #[x.l.val, .slice x.fa x.fs.length x.fc] 71)) HA0.out.again (by omega) (by have := HL.out; have := Bp.out; have := Br.out; first | omega | (simp; omega)))
  go_wp2_with fail
  refine C.out.mono ?_
  rintro e1 w1 ⟨rfl, v1, hb⟩
  have HA1 := hid (HA0.out.trans hb)
  have HW1 := hid (HA1.out.deep H.out.own HW0.out HG.out)
  clear C hb x0 x1
  have x0 := HA1.out.touch.cell (p := ⟨w.heap.size, 0, none⟩) HS.out X0H.out
  have x1 := HA1.out.touch.cell (p := ⟨w.heap.size, 1, none⟩) HS.out X1H.out
  obtain ⟨n1, hn1⟩ : ∃ n, p.length = n := ⟨_, rfl⟩
  have C := hid (ins_got x.l w1 ((HLs.out.below HW1.out).more HW1.out.size) HLN.out (HT.out.below HW1.out) HCT.out HEL.out HCK.out n1 (by rw [Ep.out]; exact hn1))
  rw [Ep.out] at C
  go_wp2_with fail
  refine C.out.mono ?_
  rintro e1 w2 ⟨a2, c2, rfl, hy, hb, hm⟩
  have HA2 := hid (HA1.out.on hb)
  have HW2 := hid (HW1.out.trans (hb.mono HW1.out.size))
  have HY := hid hy
  have HN := hid hm
  clear C hb hy hm x0 x1
  have x0 := HA2.out.touch.cell (p := ⟨w.heap.size, 0, none⟩) HS.out X0H.out
  have x1 := HA2.out.touch.cell (p := ⟨w.heap.size, 1, none⟩) HS.out X1H.out
  have C := hid (put_anyE g B v1 (xs ++ [0]) p a2 n1 c2 0 w2 HA2.out.again HN.out HY.out (by have := HL.out; have := Bp.out; have := Br.out; first | omega | (simp; omega)))
  go_wp2_with fail
  refine C.out.mono ?_
  rintro e1 w3 ⟨rfl, v3, hb⟩
  have HA3 := hid (HA2.out.trans hb)
  have HW3 := hid (HA3.out.deep H.out.own HW0.out HG.out)
  clear C hb x0 x1
  have x0 := HA3.out.touch.cell (p := ⟨w.heap.size, 0, none⟩) HS.out X0H.out
  have x1 := HA3.out.touch.cell (p := ⟨w.heap.size, 1, none⟩) HS.out X1H.out
  obtain ⟨nf, hnf⟩ : ∃ n, x.fs.length = n := ⟨_, rfl⟩
  have LN := hid hnf
  have C := hid (number_any g B v3 (xs ++ [0] ++ p) (nf : Int) w3 HA3.out.again (by omega) (by have := HFL.out; omega) (by have := HL.out; have := Bp.out; have := Br.out; first | omega | (simp; omega)))
  rw [← hnf, Er.out] at C
  rw [hnf] at C x1 hw
  go_wp2_with fail
  refine C.out.mono ?_
  rintro e1 w4 ⟨rfl, v4, hb⟩
  have HA4 := hid (HA3.out.trans hb)
  have HW4 := hid (HA4.out.deep H.out.own HW0.out HG.out)
  clear C hb x0 x1
  have x0 := HA4.out.touch.cell (p := ⟨w.heap.size, 0, none⟩) HS.out X0H.out
  have x1 := HA4.out.touch.cell (p := ⟨w.heap.size, 1, none⟩) HS.out X1H.out
  rw [hnf] at x1
  clear hnf hw
  go_wp2
  obtain ⟨fa, hfa9⟩ : ∃ a, x.fa = a := ⟨_, rfl⟩
  have HFT := HFS
  rw [hfa9] at HFT ⊢
  clear hfa9
  have hnf2 : nf ≤ 16384 := by have := LN.out; have := HFL.out; omega
  go_loopw [24] (fun vi wr => ∃ (j : Nat) (v9 : Value), vi = .int .i64 j ∧ j ≤ nf ∧ Hid (Buf g B v (w.alloc (.cells #[.slice x.l.a x.l.t.len x.l.c, .slice x.fa x.fs.length x.fc] 71)) v9 (xs ++ [0] ++ p ++ r ++ (x.fs.take j).flatMap encU) wr) ∧ Hid (Below w0.heap.size w0 wr)) (fun vi _ => nf - (intOf vi).toNat)
  case atStart => exact ⟨0, v4, rfl, Nat.zero_le _, hid (by simpa using HA4.out), HW4⟩
  case round =>
    clear HA4 HW4 x0 x1
    obtain ⟨j, v9, rfl, hj, HA, HW⟩ := hrel
    by_cases hlt : j < nf
    · have hjl : j < x.fs.length := by rw [LN.out]; exact hlt
      have hji : (j : Int) < (nf : Int) := by omega
      rcases HFT.out with h0 | ⟨b, off, rfl, hbl, hc⟩
      · rw [h0] at hjl; simp at hjl
      have hcj := HW.out.cell (p := ⟨b, off + j, none⟩) hbl |>.trans (hc j hjl)
      have HST := hid (flat_step encU hjl)
      have hfz := HFZ.out _ (List.getElem_mem hjl)
      rw [getD_lt hjl] at hcj
      obtain ⟨f, hf⟩ : ∃ f, x.fs[j] = f := ⟨_, rfl⟩
      rw [hf] at hcj HST hfz
      have hlen : (xs ++ [0] ++ p ++ r ++ (x.fs.take j).flatMap encU).length ≤ 2000000000 := by
        have h1 := flat_five (x.fs.take j)
        have h2 := HFL.out
        have h3 : (x.fs.take j).length ≤ x.fs.length := by rw [List.length_take]; omega
        have := HL.out; have := Bp.out; have := Br.out
        rw [List.length_append]
        simp only [List.length_append, List.length_cons, List.length_nil]
        omega
      have C := hid (number_any g B v9 (xs ++ [0] ++ p ++ r ++ (x.fs.take j).flatMap encU) f wr HA.out.again hfz.1 hfz.2 hlen)
      clear hf hc hbl hjl hfz hlen hlt
      go_wp2_with fail
      refine C.out.mono ?_
      rintro e1 w9 ⟨rfl, v8, hb⟩
      have HA8 := hid (HA.out.trans hb)
      have HW8 := hid (HA8.out.deep H1.out.own HW0.out HG.out)
      clear C hb hcj
      go_wp2
      go_roundw
      case rel => exact ⟨j + 1, v8, by go_num, by omega, hid (by rw [HST.out, ← List.append_assoc]; exact HA8.out), HW8⟩
      case measure => simp [intOf]; omega
    · obtain rfl : nf = j := by omega
      have HE := hid (show x.fs.take nf = x.fs from List.take_of_length_le (by rw [LN.out]; exact Nat.le_refl _))
      go_wp2
      go_end0
      exact ⟨rfl, v9, H1.out.trans (by have := HA.out; rw [HE.out] at this; exact this)⟩
end Go.Proofs.YtepbjkkakfpjgaaGreatDoor.Enc

namespace Go.Proofs.YtepbjkkakfpjgaaGreatDoor.Mod
open Go.RowKit Go.Proofs.YtepbjkkakfpjgaaGreatDoor.Instr

def errI (b : Bool) (e : Int) : Int := if b then e else 0
theorem errIf_any (b : Bool) (e : Int) (w : World) : Calls Tryz.prog 49 #[.bool b, .int .i64 e] w fun x w' => x = .returned (.int .i64 (errI b e)) ∧ w = w' := by
  cases b
  all_goals
    go_enter Tryz.func49, Tryz.ntmps49
    go_wp2
    go_ret
    exact ⟨rfl, rfl⟩
theorem max_two (x y : Int) : max x y = if y > x then y else x := by split <;> omega
set_option maxHeartbeats 1000000 in
theorem crowded_any (m : Md) (w : World) (hm : ModAt w.heap.size w m) (hf : m.fits) :
    Calls Tryz.prog 50 #[.agg m.v] w fun e w' => e = .returned (.bool m.crowded) ∧ Below w.heap.size w w' := by
  have hb0 := (Below.refl w.heap.size w).alloc (Nat.le_refl _) (.cells m.v 32)
  have HE := hid (crowded_eq m)
  have HR := hid (hm.on hb0).el
  have HB := hid hb0
  have HX := hid (BoxAt.made w m.v 32)
  have hl := hf.el
  have hmx : ∀ (ts : Array TypeId) (t : TypeId) (w : World), Sem.run Tryz.prog (Builtin.max_ ts t #[.int .i64 (m.ty.length : Int), .int .i64 (m.im.length : Int), .int .i64 (m.fu.length : Int), .int .i64 (m.gl.length : Int), .int .i64 (m.ex.length : Int), .int .i64 (m.el.length : Int), .int .i64 (m.da.length : Int)]) w = .ok (.int .i64 m.max7) w := by
    intro ts t w
    unfold Md.max7
    simp only [max_two]
    simp [Builtin.max_, Builtin.max2]
  obtain ⟨L0, hL0⟩ : ∃ L0, m.max7 = L0 := ⟨_, rfl⟩
  rw [hL0] at HE hmx
  unfold Md.v at HR HB HX ⊢
  clear hm hf hb0 hL0
  generalize m.el'.a = a at HR HB HX ⊢
  go_enter Tryz.func50, Tryz.ntmps50
  go_wp2
  clear hmx
  obtain ⟨n, hn⟩ : ∃ n, m.el.length = n := ⟨_, rfl⟩
  have HN := hid hn
  rw [hn] at HX HB HR hl ⊢
  clear hn
  generalize w.alloc (.cells #[.slice m.ty'.a m.ty.length m.ty'.c, .slice m.im'.a m.im.length m.im'.c, .slice m.fu'.a m.fu.length m.fu'.c, .slice m.tb'.a m.tb.length m.tb'.c, .slice m.me'.a m.me.length m.me'.c, .slice m.gl'.a m.gl.length m.gl'.c, .slice m.ex'.a m.ex.length m.ex'.c, .bool m.st, .int .u32 m.sn, .slice a n m.el'.c, .slice m.da'.a m.da.length m.da'.c] 32) = W0 at HX HB HR ⊢
  go_loopw [3, 31] (fun vl vi wr => ∃ (k : Nat) (L : Int), vl = .int .i64 L ∧ vi = .int .i64 k ∧ k ≤ n ∧ Hid (L = longP (m.el.take k) L0) ∧ Hid (Below W0.heap.size W0 wr)) (fun _ vi _ => n - (intOf vi).toNat)
  case atStart => exact ⟨0, L0, rfl, rfl, Nat.zero_le _, rfl, Below.refl _ _⟩
  case round =>
    obtain ⟨k, L, rfl, rfl, hk, HL, HW⟩ := hrel
    by_cases hlt : k < n
    · have hkl : k < m.el.length := by rw [HN.out]; exact hlt
      obtain ⟨b, off, rfl, hb, hc⟩ := Rows.get HR.out hkl
      have HS := hid (show longP (m.el.take (k + 1)) L0 = max L (m.el[k].fs.length : Int) by rw [List.take_succ_eq_append_getElem hkl, longP_snoc, ← HL.out])
      obtain ⟨x, hxe⟩ : ∃ x, m.el[k] = x := ⟨_, rfl⟩
      rw [hxe] at hc HS
      have cc : ∀ j, j < 2 → ∀ v, x.v[j]? = some v → wr.cell? ⟨b, off + k * 2 + j, none⟩ = some v := fun j hj v hv => (HW.out.cell (p := ⟨b, off + k * 2 + j, none⟩) hb).trans (hc j hj v hv)
      have c0 : wr.cell? ⟨b, off + k * 2, none⟩ = some x.l.val := cc 0 (by omega) _ rfl
      have c1 : wr.cell? ⟨b, off + k * 2 + 1, none⟩ = some (.slice x.fa x.fs.length x.fc) := cc 1 (by omega) _ rfl
      have hki : (k : Int) < (n : Int) := by omega
      unfold Lst.val at c0
      have HW' := hid (show Below W0.heap.size W0 (wr.alloc (.cells #[.slice x.l.a x.l.t.len x.l.c, .slice x.fa x.fs.length x.fc] 71)) from HW.out.alloc HW.out.size _)
      clear hxe hc cc hb
      by_cases hgt : (x.fs.length : Int) > L
      · have HS' := hid (show (x.fs.length : Int) = longP (m.el.take (k + 1)) L0 by rw [HS.out]; omega)
        go_wp2
        go_roundw
        case rel => first | exact ⟨k + 1, _, rfl, by go_num, by omega, HS', HW'⟩ | exact ⟨k + 1, _, rfl, by go_num, by omega, hid HS.out.symm, HW'⟩
        case measure => simp [intOf]; omega
      · have HS' := hid (show L = longP (m.el.take (k + 1)) L0 by rw [HS.out]; omega)
        go_wp2
        go_roundw
        case rel => first | exact ⟨k + 1, _, rfl, by go_num, by omega, HS', HW'⟩ | exact ⟨k + 1, _, rfl, by go_num, by omega, hid HS.out.symm, HW'⟩
        case measure => simp [intOf]; omega
    · obtain rfl : k = n := by omega
      have HE' := hid (show m.crowded = (decide (16384 < L) || (decide (1 < m.tb.length) || decide (1 < m.me.length))) by rw [HE.out, HL.out, ← HN.out, List.take_length])
      have x3 := Go.Proofs.YtepbjkkakfpjgaaGreatDoor.keep HW.out (HX.out 3 _ rfl)
      have x4 := Go.Proofs.YtepbjkkakfpjgaaGreatDoor.keep HW.out (HX.out 4 _ rfl)
      have HF := hid (HB.out.trans (HW.out.mono HB.out.size))
      clear HR HL HX HE HW HB
      by_cases h1 : 16384 < L
      · have HC := hid (show m.crowded = true by rw [HE'.out, decide_eq_true h1, Bool.true_or])
        clear HE'
        go_wp2
        go_ret
        exact ⟨ret_bool HC.out.symm, HF.out⟩
      · by_cases h2 : (1 : Int) < (m.tb.length : Int)
        · have HC := hid (show m.crowded = true by rw [HE'.out, decide_eq_true (show 1 < m.tb.length by omega), Bool.true_or, Bool.or_true])
          clear HE'
          go_wp2
          go_ret
          exact ⟨ret_bool HC.out.symm, HF.out⟩
        · have HC := hid (show m.crowded = decide (1 < m.me.length) by rw [HE'.out, decide_eq_false h1, decide_eq_false (show ¬ 1 < m.tb.length by omega), Bool.false_or, Bool.false_or])
          clear HE'
          go_wp2
          go_ret
          exact ⟨ret_bool (by rw [HC.out]; simp; omega), HF.out⟩

set_option maxHeartbeats 1000000 in
theorem heavy_any (l : List Da) (a : Option Addr) (n c : Nat) (w : World) (hn : l.length = n) (hr : Rows w.heap.size w a 2 (l.map Da.v)) (hl : n ≤ 140737488351232) :
    Calls Tryz.prog 57 #[.slice a n c] w fun e w' => e = .returned (.bool (decide (1048576 < sumB l))) ∧ Below w.heap.size w w' := by
  have HR := hid hr
  have HN := hid hn
  clear hr hn
  go_enter Tryz.func57, Tryz.ntmps57
  go_wp2
  go_loopw [3, 8] (fun vl vi wr => ∃ (k : Nat) (L : Int), vl = .int .i64 L ∧ vi = .int .i64 k ∧ k ≤ n ∧ 0 ≤ L ∧ L ≤ 1048576 ∧ Hid (L = 1048576 - (sumB (l.take k) : Int)) ∧ Hid (Below w.heap.size w wr)) (fun _ vi _ => n - (intOf vi).toNat)
  case atStart => exact ⟨0, 1048576, rfl, rfl, Nat.zero_le _, by omega, by omega, rfl, Below.refl _ _⟩
  case round =>
    obtain ⟨k, L, rfl, rfl, hk, h0, h1, HL, HW⟩ := hrel
    by_cases hlt : k < n
    · have hkl : k < l.length := by rw [HN.out]; exact hlt
      obtain ⟨b, off, rfl, hb, hc⟩ := Rows.get HR.out hkl
      have HS := hid (sumB_step hkl)
      have HT := hid (sumB_take l (k + 1))
      obtain ⟨x, hxe⟩ : ∃ x, l[k] = x := ⟨_, rfl⟩
      rw [hxe] at hc HS
      have cc : ∀ j, j < 2 → ∀ v, x.v[j]? = some v → wr.cell? ⟨b, off + k * 2 + j, none⟩ = some v := fun j hj v hv => (HW.out.cell (p := ⟨b, off + k * 2 + j, none⟩) hb).trans (hc j hj v hv)
      have c0 : wr.cell? ⟨b, off + k * 2, none⟩ = some x.l.val := cc 0 (by omega) _ rfl
      have c1 : wr.cell? ⟨b, off + k * 2 + 1, none⟩ = some (.slice x.ba x.bs.length x.bc) := cc 1 (by omega) _ rfl
      have hki : (k : Int) < (n : Int) := by omega
      unfold Lst.val at c0
      have HW' := hid (show Below w.heap.size w (wr.alloc (.cells #[.slice x.l.a x.l.t.len x.l.c, .slice x.ba x.bs.length x.bc] 47)) from HW.out.alloc HW.out.size _)
      clear hxe hc cc hb
      by_cases hgt : L < (x.bs.length : Int)
      · have HC := hid (show decide (1048576 < sumB l) = true by rw [decide_eq_true_eq]; have := HS.out; have := HT.out; have := HL.out; omega)
        go_wp2
        go_ret
        exact ⟨ret_bool HC.out.symm, HW'.out⟩
      · have HL' := hid (show L - (x.bs.length : Int) = 1048576 - (sumB (l.take (k + 1)) : Int) by rw [HS.out]; have := HL.out; omega)
        go_wp2
        go_roundw
        case rel => exact ⟨k + 1, _, rfl, by go_num, by omega, by omega, by omega, HL', HW'⟩
        case measure => simp [intOf]; omega
    · obtain rfl : k = n := by omega
      have HC := hid (show decide (1048576 < sumB l) = false by rw [decide_eq_false_iff_not]; have := HL.out; rw [← HN.out, List.take_length] at this; omega)
      go_wp2
      go_ret
      exact ⟨ret_bool HC.out.symm, HW.out⟩
end Go.Proofs.YtepbjkkakfpjgaaGreatDoor.Mod

namespace Go.Proofs.YtepbjkkakfpjgaaGreatDoor.Mod
open Go.RowKit Go.Shelf Go.Proofs.YtepbjkkakfpjgaaGreatDoor.Instr

/-- What is asked of a name: by function g, in whatever world. -/
def Asks (w : World) (g : Nat) (p : ByteArray → Bool) : Prop :=
  (∀ args w, (callFunc g args).run Tryz.prog w = .ok (.enter g args) w) ∧
    ∀ (W : World) (s : ByteArray), s.size ≤ 140737488351232 → Below w.heap.size w W → Calls Tryz.prog g #[.string s] W fun e w' => e = .returned (.bool (p s)) ∧ Below W.heap.size W w'
theorem Asks.on {w w' : World} {g : Nat} {p : ByteArray → Bool} (h : Asks w g p) (hb : Below w.heap.size w w') : Asks w' g p := ⟨h.1, fun W s hs hW => h.2 W s hs (hb.trans (hW.mono hb.size))⟩

set_option maxHeartbeats 400000 in
theorem anyName1_any (x : Imp) (b g : Nat) (p : ByteArray → Bool) (w : World) (hc : w.cell? ⟨b, 0, none⟩ = some (.func (.func g) #[] #[])) (hp : Asks w g p) (h1 : x.mo.size ≤ 140737488351232) (h2 : x.na.size ≤ 140737488351232) :
    Calls Tryz.prog 120 #[.agg #[.string x.mo, .string x.na, .int .i64 x.ty], .pointer (some ⟨b, 0, none⟩)] w fun e w' => e = .returned (.bool (p x.mo || p x.na)) ∧ Below w.heap.size w w' := by
  have eg := hp.1
  have C1 := hid (hp.2 (w.alloc (.cells #[.string x.mo, .string x.na, .int .i64 x.ty] 73)) x.mo h1 ((Below.refl _ _).alloc (Nat.le_refl _) _))
  have C2 := hid (fun W (hb : Below w.heap.size w W) => hp.2 W x.na h2 hb)
  have HC := hid (show ∀ w1, Below w.heap.size w w1 → w1.cell? ⟨b, 0, none⟩ = some (.func (.func g) #[] #[]) from fun w1 hb => Go.Proofs.YtepbjkkakfpjgaaGreatDoor.keep hb hc)
  have hbl := World.block_lt_of_cell? w _ hc
  obtain ⟨q, hq⟩ : ∃ q, p x.mo = q := ⟨_, rfl⟩
  rw [hq] at C1 ⊢
  clear hq hp h1 h2
  cases q with
  | true =>
    go_enter Tryz.func120, Tryz.ntmps120
    go_wp2_with (go_at_fn g; refine C1.out.mono ?_; rintro e w1 ⟨rfl, hb1⟩)
    go_ret
    exact ⟨rfl, thenB ((Below.refl _ _).alloc (Nat.le_refl _) _) hb1⟩
  | false =>
    rw [Bool.false_or]
    obtain ⟨r, hr⟩ : ∃ r, p x.na = r := ⟨_, rfl⟩
    rw [hr] at C2 ⊢
    clear hr
    go_enter Tryz.func120, Tryz.ntmps120
    go_wp2_with fail
    refine (Calls.mono (R' := fun e w1 => (e = .returned (.bool false) ∧ Below w.heap.size w w1) ∧ w1.cell? ⟨b, 0, none⟩ = some (.func (.func g) #[] #[]) ∧ w1.cell? ⟨w.heap.size, 1, none⟩ = some (.string x.na)) C1.out ?_).mono ?_
    · rintro e w1 ⟨rfl, hb1⟩
      have hB := thenB ((Below.refl _ _).alloc (Nat.le_refl _) _) hb1
      exact ⟨⟨rfl, hB⟩, HC.out _ hB, Go.Proofs.YtepbjkkakfpjgaaGreatDoor.keep hb1 (by go_simp)⟩
    rintro e w1 ⟨⟨rfl, hb1⟩, hc1, hc2⟩
    have C3 := hid (C2.out w1 hb1)
    clear hc C2
    go_wp2_with (go_at_fn g; refine C3.out.mono ?_; rintro e w2 ⟨rfl, hb2⟩)
    go_ret
    exact ⟨rfl, thenB hb1 hb2⟩
set_option maxHeartbeats 400000 in
theorem anyName2_any (x : Ex) (b g : Nat) (p : ByteArray → Bool) (w : World) (hc : w.cell? ⟨b, 0, none⟩ = some (.func (.func g) #[] #[])) (hp : Asks w g p) (h1 : x.na.size ≤ 140737488351232) :
    Calls Tryz.prog 121 #[.agg #[.string x.na, .int .i64 x.k, .int .u32 x.i], .pointer (some ⟨b, 0, none⟩)] w fun e w' => e = .returned (.bool (p x.na)) ∧ Below w.heap.size w w' := by
  have eg := hp.1
  have C1 := hid (hp.2 (w.alloc (.cells #[.string x.na, .int .i64 x.k, .int .u32 x.i] 75)) x.na h1 ((Below.refl _ _).alloc (Nat.le_refl _) _))
  have hbl := World.block_lt_of_cell? w _ hc
  clear hp h1
  go_enter Tryz.func121, Tryz.ntmps121
  go_wp2_with (go_at_fn g; refine C1.out.mono ?_; rintro e w1 ⟨rfl, hb1⟩)
  go_ret
  exact ⟨rfl, thenB ((Below.refl _ _).alloc (Nat.le_refl _) _) hb1⟩

theorem enters1 : ∀ args w, (callFunc 120 args).run Tryz.prog w = .ok (.enter 120 args) w := enters_of Tryz.func120 (by kernel_rfl) rfl
theorem enters2 : ∀ args w, (callFunc 121 args).run Tryz.prog w = .ok (.enter 121 args) w := enters_of Tryz.func121 (by kernel_rfl) rfl
set_option maxHeartbeats 1000000 in
theorem anyName_any (m : Md) (g : Nat) (p : ByteArray → Bool) (w : World) (hm : ModAt w.heap.size w m) (hf : m.fits) (hp : Asks w g p) :
    Calls Tryz.prog 54 #[.agg m.v, .func (.func g) #[] #[]] w fun e w' => e = .returned (.bool (m.anyName p)) ∧ Below w.heap.size w w' := by
  have B1 := hid (((Below.refl w.heap.size w).alloc (Nat.le_refl _) (.cells m.v 32)).alloc (by simp) (.cells #[.func (.func g) #[] #[]] 94))
  have hbx : BoxAt ((w.alloc (.cells m.v 32)).alloc (.cells #[.func (.func g) #[] #[]] 94)) w.heap.size m.v := (BoxAt.made w m.v _).keep ((Below.refl _ _).alloc (Nat.le_refl _) _)
  have hcb : ((w.alloc (.cells m.v 32)).alloc (.cells #[.func (.func g) #[] #[]] 94)).cell? ⟨w.heap.size + 1, 0, none⟩ = some (.func (.func g) #[] #[]) := by go_simp
  have C1 := hid (any_im m.im m.im'.a m.im.length m.im'.c ((w.alloc (.cells m.v 32)).alloc (.cells #[.func (.func g) #[] #[]] 94)) rfl (hm.on B1.out).im hf.im
    120 #[.pointer (some ⟨w.heap.size + 1, 0, none⟩)] enters1 (fun x => p x.mo || p x.na) (fun W x hx hW => anyName1_any x _ g p W (Go.Proofs.YtepbjkkakfpjgaaGreatDoor.keep hW hcb) ((hp.on B1.out).on hW) (hf.iS x hx).1 (hf.iS x hx).2))
  have C2 := hid (fun (W : World) (hW : Below ((w.alloc (.cells m.v 32)).alloc (.cells #[.func (.func g) #[] #[]] 94)).heap.size ((w.alloc (.cells m.v 32)).alloc (.cells #[.func (.func g) #[] #[]] 94)) W) =>
    any_ex m.ex m.ex'.a m.ex.length m.ex'.c W rfl ((hm.on B1.out).on hW).ex hf.ex
      121 #[.pointer (some ⟨w.heap.size + 1, 0, none⟩)] enters2 (fun x => p x.na) (fun W' x hx hW' => anyName2_any x _ g p W' (Go.Proofs.YtepbjkkakfpjgaaGreatDoor.keep hW' (Go.Proofs.YtepbjkkakfpjgaaGreatDoor.keep hW hcb)) (((hp.on B1.out).on hW).on hW') (hf.eS x hx)))
  have HX := hid (fun (W : World) (hW : Below ((w.alloc (.cells m.v 32)).alloc (.cells #[.func (.func g) #[] #[]] 94)).heap.size ((w.alloc (.cells m.v 32)).alloc (.cells #[.func (.func g) #[] #[]] 94)) W) => (hbx.keep hW) 6 _ rfl)
  have HE : Hid (m.anyName p = ((m.im.any fun i => p i.mo || p i.na) || (m.ex.any fun e => p e.na))) := rfl
  obtain ⟨q, hq⟩ : ∃ q, (m.im.any fun x => p x.mo || p x.na) = q := ⟨_, rfl⟩
  rw [hq] at C1 HE
  unfold Md.v at C1 C2 B1 HX ⊢
  clear hq hcb hbx hm hf hp
  cases q with
  | true =>
    have HE' : Hid (m.anyName p = true) := by show _ = _; rw [HE.out, Bool.true_or]
    clear HE
    go_enter Tryz.func54, Tryz.ntmps54
    go_wp2_with fail
    refine C1.out.mono ?_
    rintro e w1 ⟨rfl, hb1⟩
    clear C1 C2 HX
    go_wp2
    go_ret
    exact ⟨ret_bool HE'.out.symm, B1.out.trans (hb1.mono B1.out.size)⟩
  | false =>
    obtain ⟨r, hr⟩ : ∃ r, (m.ex.any fun x => p x.na) = r := ⟨_, rfl⟩
    have HE' : Hid (m.anyName p = r) := by show _ = _; rw [HE.out, Bool.false_or]; exact hr
    rw [hr] at C2
    clear HE hr
    go_enter Tryz.func54, Tryz.ntmps54
    go_wp2_with fail
    refine C1.out.mono ?_
    rintro e w1 ⟨rfl, hb1⟩
    have hx := HX.out w1 hb1
    have C3 := hid (C2.out w1 hb1)
    clear C1 C2 HX
    go_wp2_with fail
    refine C3.out.mono ?_
    rintro e w2 ⟨rfl, hb2⟩
    clear C3 hx
    go_wp2
    go_ret
    exact ⟨ret_bool HE'.out.symm, B1.out.trans ((thenB hb1 hb2).mono B1.out.size)⟩
end Go.Proofs.YtepbjkkakfpjgaaGreatDoor.Mod

namespace Go.Proofs.YtepbjkkakfpjgaaGreatDoor.Mod
open Go.RowKit Go.Proofs.YtepbjkkakfpjgaaGreatDoor.Instr

theorem wrongN_any (n : Int) (w : World) : Calls Tryz.prog 126 #[.int .i64 n] w fun e w' => e = .returned (.bool (wrongN n)) ∧ w = w' := by
  have H : Hid (wrongN n = (decide (n < 0) || decide (2147483647 < n))) := rfl
  by_cases h : n < 0
  · have HE : Hid (wrongN n = true) := by show _ = _; rw [H.out]; simp [h]
    go_enter Tryz.func126, Tryz.ntmps126
    go_wp2
    go_ret
    exact ⟨ret_bool HE.out.symm, rfl⟩
  · have h' : decide (n < 0) = false := by simpa using h
    have HE : Hid (wrongN n = decide (2147483647 < n)) := by show _ = _; rw [H.out, h', Bool.false_or]
    clear H
    go_enter Tryz.func126, Tryz.ntmps126
    go_wp2
    go_ret
    exact ⟨ret_bool HE.out.symm, rfl⟩
theorem wrongI_any (x : Imp) (w : World) : Calls Tryz.prog 66 #[.agg #[.string x.mo, .string x.na, .int .i64 x.ty]] w fun e w' => e = .returned (.bool (wrongI x)) ∧ Below w.heap.size w w' := by
  unfold wrongI
  obtain ⟨q, hq⟩ : ∃ q, wrongN x.ty = q := ⟨_, rfl⟩
  have C := hid (fun w => wrongN_any x.ty w)
  rw [hq] at C ⊢
  clear hq
  go_enter Tryz.func66, Tryz.ntmps66
  go_wp2_with fail
  refine (C.out _).mono ?_
  rintro e w1 ⟨rfl, rfl⟩
  go_wp2
  go_ret
  exact ⟨rfl, (Below.refl _ _).alloc (Nat.le_refl _) _⟩
set_option maxHeartbeats 800000 in
theorem wrongF_any (x : Fn) (w : World) : Calls Tryz.prog 69 #[.agg #[.int .i64 x.ty, .int .i64 x.lo, .slice x.l.a x.l.t.len x.l.c]] w fun e w' => e = .returned (.bool (wrongF x)) ∧ Below w.heap.size w w' := by
  have H : Hid (wrongF x = (wrongN x.ty || (decide (x.lo < 0) || decide (50000 < x.lo)))) := rfl
  obtain ⟨q, hq⟩ : ∃ q, wrongN x.ty = q := ⟨_, rfl⟩
  have C := hid (fun w => wrongN_any x.ty w)
  rw [hq] at C H
  clear hq
  obtain ⟨lo, hlo⟩ : ∃ lo, x.lo = lo := ⟨_, rfl⟩
  rw [hlo] at H ⊢
  clear hlo
  cases q with
  | true =>
    have HE : Hid (wrongF x = true) := by show _ = _; rw [H.out]; rfl
    go_enter Tryz.func69, Tryz.ntmps69
    go_wp2_with fail
    refine (C.out _).mono ?_
    rintro e w1 ⟨rfl, rfl⟩
    go_wp2
    go_ret
    exact ⟨ret_bool HE.out.symm, (Below.refl _ _).alloc (Nat.le_refl _) _⟩
  | false =>
    by_cases h : lo < 0
    · have HE : Hid (wrongF x = true) := by show _ = _; rw [H.out]; simp [h]
      go_enter Tryz.func69, Tryz.ntmps69
      go_wp2_with fail
      refine (C.out _).mono ?_
      rintro e w1 ⟨rfl, rfl⟩
      go_wp2
      go_ret
      exact ⟨ret_bool HE.out.symm, (Below.refl _ _).alloc (Nat.le_refl _) _⟩
    · have h' : decide (lo < 0) = false := by simpa using h
      have HE : Hid (wrongF x = decide (50000 < lo)) := by show _ = _; rw [H.out, h', Bool.false_or, Bool.false_or]
      go_enter Tryz.func69, Tryz.ntmps69
      go_wp2_with fail
      refine (C.out _).mono ?_
      rintro e w1 ⟨rfl, rfl⟩
      go_wp2
      go_ret
      exact ⟨ret_bool HE.out.symm, (Below.refl _ _).alloc (Nat.le_refl _) _⟩
theorem wrongE_any (x : Ex) (w : World) : Calls Tryz.prog 72 #[.agg #[.string x.na, .int .i64 x.k, .int .u32 x.i]] w fun e w' => e = .returned (.bool (wrongE x)) ∧ Below w.heap.size w w' := by
  have H : Hid (wrongE x = (decide (x.k < 0) || decide (3 < x.k))) := rfl
  obtain ⟨lo, hlo⟩ : ∃ lo, x.k = lo := ⟨_, rfl⟩
  rw [hlo] at H ⊢
  clear hlo
  by_cases h : lo < 0
  · have HE : Hid (wrongE x = true) := by show _ = _; rw [H.out]; simp [h]
    go_enter Tryz.func72, Tryz.ntmps72
    go_wp2
    go_ret
    exact ⟨ret_bool HE.out.symm, (Below.refl _ _).alloc (Nat.le_refl _) _⟩
  · have h' : decide (lo < 0) = false := by simpa using h
    have HE : Hid (wrongE x = decide (3 < lo)) := by show _ = _; rw [H.out, h', Bool.false_or]
    go_enter Tryz.func72, Tryz.ntmps72
    go_wp2
    go_ret
    exact ⟨ret_bool HE.out.symm, (Below.refl _ _).alloc (Nat.le_refl _) _⟩
theorem isLong_any (s : ByteArray) (w : World) : Calls Tryz.prog 55 #[.string s] w fun e w' => e = .returned (.bool (longS s)) ∧ Below w.heap.size w w' := by
  have HE : Hid (longS s = decide (1000 < s.size)) := rfl
  go_enter Tryz.func55, Tryz.ntmps55
  go_wp2
  go_ret
  exact ⟨ret_bool (by rw [HE.out]; simp; omega), Below.refl _ _⟩
theorem wrongT_any (x : Int × Int) (w : World) : Calls Tryz.prog 63 #[.agg #[.int .i64 x.1, .int .i64 x.2]] w fun e w' => e = .returned (.bool (wrongT x)) ∧ Below w.heap.size w w' := by
  have C := hid (fun w => Kind.check_any x.1 x.2 w)
  unfold Kind.codeType at C
  unfold wrongT
  obtain ⟨q, hq⟩ : ∃ q, Kind.okType x.1 x.2 = q := ⟨_, rfl⟩
  rw [hq] at C ⊢
  clear hq
  cases q
  all_goals
    simp only [Bool.false_eq_true, if_true, if_false] at C
    go_enter Tryz.func63, Tryz.ntmps63
    go_wp2_with fail
    refine (C.out _).mono ?_
    rintro e w1 ⟨rfl, hb1⟩
    go_wp2
    go_ret
    exact ⟨rfl, thenB ((Below.refl _ _).alloc (Nat.le_refl _) _) hb1⟩
theorem beyond_any (x : Li) (g : Nat) (most : Int) (w : World) (hc : w.cell? ⟨g, 0, none⟩ = some (.int .u32 most)) :
    Calls Tryz.prog 129 #[.agg #[.int .u32 x.n, .int .u32 x.x, .bool x.c], .pointer (some ⟨g, 0, none⟩)] w fun e w' => e = .returned (.bool (beyond most x)) ∧ Below w.heap.size w w' := by
  have C := hid (fun w => Kind.checkLimits_any x.n x.x x.c most w)
  unfold Kind.codeLim at C
  unfold beyond
  obtain ⟨q, hq⟩ : ∃ q, Kind.okLim x.n x.x x.c most = q := ⟨_, rfl⟩
  rw [hq] at C ⊢
  clear hq
  have hg := World.block_lt_of_cell? w _ hc
  cases q
  all_goals
    simp only [Bool.false_eq_true, if_true, if_false] at C
    go_enter Tryz.func129, Tryz.ntmps129
    go_wp2_with fail
    refine (C.out _).mono ?_
    rintro e w1 ⟨rfl, hb1⟩
    go_wp2
    go_ret
    exact ⟨rfl, thenB ((Below.refl _ _).alloc (Nat.le_refl _) _) hb1⟩
end Go.Proofs.YtepbjkkakfpjgaaGreatDoor.Mod

namespace Go.Proofs.YtepbjkkakfpjgaaGreatDoor.Mod
open Go.RowKit Go.Shelf Go.Proofs.YtepbjkkakfpjgaaGreatDoor.Instr

theorem entersB : ∀ args w, (callFunc 129 args).run Tryz.prog w = .ok (.enter 129 args) w := enters_of Tryz.func129 (by kernel_rfl) rfl
set_option maxHeartbeats 1000000 in
theorem anyBeyond_any (l : List Li) (a : Option Addr) (n c : Nat) (most : Int) (w : World) (hn : l.length = n) (hr : Rows w.heap.size w a 3 (l.map Li.v)) (hl : n ≤ 140737488351232) :
    Calls Tryz.prog 74 #[.slice a n c, .int .u32 most] w fun e w' => e = .returned (.bool (l.any (beyond most))) ∧ Below w.heap.size w w' := by
  have hB := (Below.refl w.heap.size w).alloc (Nat.le_refl _) (.cells #[.int .u32 most] 28)
  have hc : (w.alloc (.cells #[.int .u32 most] 28)).cell? ⟨w.heap.size, 0, none⟩ = some (.int .u32 most) := by go_simp
  have C := hid (any_li l a n c (w.alloc (.cells #[.int .u32 most] 28)) hn ((hr.below hB).more hB.size) hl 129 #[.pointer (some ⟨w.heap.size, 0, none⟩)] entersB (beyond most)
    (fun W x _ hW => beyond_any x _ most W (Go.Proofs.YtepbjkkakfpjgaaGreatDoor.keep hW hc)))
  have HB := hid hB
  clear hB hc hn hr
  go_enter Tryz.func74, Tryz.ntmps74
  go_wp2_with fail
  refine C.out.mono ?_
  rintro e w1 ⟨rfl, hb1⟩
  clear C
  go_wp2
  go_ret
  exact ⟨rfl, HB.out.trans (hb1.mono HB.out.size)⟩

theorem Bad_any (zs : List Int) (a : Option Addr) (n c : Nat) (w : World) (hT : Utf.Tabs w) (hn : zs.length = n) (hz : Bytes w a zs) :
    Calls Tryz.prog 122 #[.slice a n c] w fun e w' => e = .returned (.int .i64 (Utf.badL zs)) ∧ Below w.heap.size w w' := by
  have e1 := str_of hz n c hn
  have C := hid (Utf.bad_any zs hz.byte w hT)
  clear hn hz
  go_enter Tryz.func122, Tryz.ntmps122
  go_wp2_with fail
  refine C.out.mono ?_
  rintro e w1 ⟨rfl, hb1⟩
  clear C
  go_wp2
  go_ret
  exact ⟨rfl, hb1⟩
set_option maxHeartbeats 400000 in
theorem isNoText_any (s : ByteArray) (w : World) (hT : Utf.Tabs w) (hs : s.size ≤ 140737488351232) : Calls Tryz.prog 60 #[.string s] w fun e w' => e = .returned (.bool (noText s)) ∧ Below w.heap.size w w' := by
  unfold noText
  obtain ⟨b, c, w1, e1, hz, hb1⟩ := bytes_of (numsOf s) (numsOf_bytes s) (by rw [numsOf_length]; exact hs) w
  rw [str_numsOf] at e1
  have C := hid (Bad_any (numsOf s) _ _ c w1 (hT.below hb1) rfl hz)
  obtain ⟨q, hq⟩ : ∃ q, Utf.badL (numsOf s) = q := ⟨_, rfl⟩
  rw [hq] at C ⊢
  obtain ⟨n, hn⟩ : ∃ n, (numsOf s).length = n := ⟨_, rfl⟩
  rw [hn] at C e1
  have HB := hid hb1
  clear hq hn hz hb1 hT
  go_enter Tryz.func60, Tryz.ntmps60
  go_wp2_with fail
  refine C.out.mono ?_
  rintro e w2 ⟨rfl, hb2⟩
  clear C e1
  go_wp2
  go_ret
  exact ⟨rfl, thenB HB.out hb2⟩
theorem asks_long (w : World) : Asks w 55 longS := ⟨enters_of Tryz.func55 (by kernel_rfl) rfl, fun W s _ _ => isLong_any s W⟩
theorem asks_text (w : World) (hT : Utf.Tabs w) : Asks w 60 noText := ⟨enters_of Tryz.func60 (by kernel_rfl) rfl, fun W s hs hW => isNoText_any s W (hT.below hW) hs⟩
end Go.Proofs.YtepbjkkakfpjgaaGreatDoor.Mod

namespace Go.Proofs.YtepbjkkakfpjgaaGreatDoor.Mod
open Go.RowKit Go.Shelf Go.Proofs.YtepbjkkakfpjgaaGreatDoor.Instr

attribute [local go_sem] Oper.semAt_some

/-- What is known of each list. -/
def Fair (w : World) (l : Lst) : Prop := ListAt w.heap.size w l.a l.t.len l.t ∧ l.t.len ≤ 140737488351232 ∧ l.t.count ≤ 1000000
theorem fair_all {m : Md} {w : World} (hm : ModAt w.heap.size w m) (hf : m.few) : ∀ l ∈ m.codes, Fair w l := fun l hl => ⟨hm.ls l hl, hf.fit.ls l hl, hf.cs l hl⟩
theorem Fair.at {w W : World} {l : Lst} (h : Fair w l) (hb : Below w.heap.size w W) : ListAt W.heap.size W l.a l.t.len l.t := h.1.on hb
def valsP {P : Lst → Prop} (pre : List {l : Lst // P l}) : List Lst := pre.map (·.1)
theorem valsP_with (m : Md) (P : Lst → Prop) (hP : ∀ l ∈ m.codes, P l) : valsP (m.codes.attachWith P hP) = m.codes := by simp [valsP]
theorem keepsOthers_below {w w' : World} (h : Below w.heap.size w w') : KeepsOthers w w' := ⟨h.size, fun k _ hk _ => (h.block k (Array.getElem?_eq_some_iff.1 hk).1).trans hk⟩
theorem worstP_snoc (pre : List Lst) (x : Lst) (a : Int) : worstP (pre ++ [x]) a = if checkP x.t = 0 then worstP pre a else checkP x.t := by rw [worstP_append]; rfl
/-- What the loop of codeError holds in its own cells: result, worst. -/
structure Cod (g : Nat) (r : Int) (n : Int) (W : World) : Prop where
  res : W.cell? ⟨g + 1, 0, none⟩ = some (.int .i64 r)
  num : W.cell? ⟨g + 1 + 1, 0, none⟩ = some (.int .i64 n)
  fres : W.frozen? ⟨g + 1, 0, none⟩ = false
  fnum : W.frozen? ⟨g + 1 + 1, 0, none⟩ = false
theorem Cod.own {g : Nat} {r n : Int} {A B : World} {row : Option Nat} (h : Cod g r n A) (hg : A.grownBy B row) (hr : ∀ r, row = some r → ∃ o : Obj, A.heap[r]? = some o ∧ o.isCells = false) : Cod g r n B :=
  ⟨cell_kept h.res hg hr, cell_kept h.num hg hr, (frozen_kept h.res hg hr).trans h.fres, (frozen_kept h.num hg hr).trans h.fnum⟩
theorem Cod.below {g : Nat} {r n : Int} {A B : World} (h : Cod g r n A) (hb : Below A.heap.size A B) : Cod g r n B :=
  have f : ∀ p v, A.cell? p = some v → A.frozen? p = false → B.frozen? p = false := fun p _ hc hf => (hb.frozen (World.block_lt_of_cell? A p hc)).trans hf
  ⟨Go.Proofs.YtepbjkkakfpjgaaGreatDoor.keep hb h.res, Go.Proofs.YtepbjkkakfpjgaaGreatDoor.keep hb h.num, f _ _ h.res h.fres, f _ _ h.num h.fnum⟩
theorem Cod.set {g : Nat} {r n n' : Int} {A : World} (h : Cod g r n A) : Cod g r n' (A.setCell ⟨g + 1 + 1, 0, none⟩ (.int .i64 n')) := by
  obtain ⟨r1, r2, f1, f2⟩ := h
  constructor <;> simp [go_sem, *]
set_option maxRecDepth 100000 in
set_option maxHeartbeats 4000000 in
theorem codeError_any (m : Md) (w : World) (hT : Nams w) (hm : ModAt w.heap.size w m) (hf : m.few) :
    Calls Tryz.prog 52 #[.agg m.v] w fun e w' => e = .returned (.int .i64 (codeP m.codes)) ∧ Below w.heap.size w w' := by
  have HM := hid hm
  have HF := hid hf
  have hbx := BoxAt.made (((w.alloc (.cells m.v 32)).alloc (.cells #[.int .i64 0] 36)).alloc (.cells #[.int .i64 0] 36)) m.v 32
  have hS0 : Cod w.heap.size 0 0 (((w.alloc (.cells m.v 32)).alloc (.cells #[.int .i64 0] 36)).alloc (.cells #[.int .i64 0] 36)) := by constructor <;> go_simp
  have hS1 := hS0.below ((Below.refl _ _).alloc (Nat.le_refl _) (.cells m.v 32))
  have hB0 : Below w.heap.size w ((((w.alloc (.cells m.v 32)).alloc (.cells #[.int .i64 0] 36)).alloc (.cells #[.int .i64 0] 36)).alloc (.cells m.v 32)) := thenA (thenA (thenA (thenA (Below.refl _ _) _) _) _) _
  have hsz : ((((w.alloc (.cells m.v 32)).alloc (.cells #[.int .i64 0] 36)).alloc (.cells #[.int .i64 0] 36)).alloc (.cells m.v 32)).heap.size = w.heap.size + 4 := by simp
  simp only [World.size_alloc] at hbx
  clear hm hf hS0
  unfold Md.v at hbx hB0 hsz hS1 ⊢
  refine (callsIn_wide (n := 3)).1 ?_
  refine callsIn_of_wp_marks Tryz.func52 rfl trivial ?_ rfl
  simp only [Tryz.ntmps52, List.size_toArray, List.length_cons, List.length_nil, Nat.reduceAdd, Nat.reduceSub, Array.replicate_succ, Array.replicate_zero, List.push_toArray, List.append_toArray, List.nil_append, List.cons_append]
  gi_wp2_with fail
  refine ⟨trivial, ?_⟩
  refine (codes_in _ m _).mono ?_
  unfold Md.v
  rintro e w' ⟨rfl, rfl⟩
  gi_wp2
  generalize ((((w.alloc (.cells #[.slice m.ty'.a m.ty.length m.ty'.c, .slice m.im'.a m.im.length m.im'.c, .slice m.fu'.a m.fu.length m.fu'.c, .slice m.tb'.a m.tb.length m.tb'.c, .slice m.me'.a m.me.length m.me'.c, .slice m.gl'.a m.gl.length m.gl'.c, .slice m.ex'.a m.ex.length m.ex'.c, .bool m.st, .int .u32 m.sn, .slice m.el'.a m.el.length m.el'.c, .slice m.da'.a m.da.length m.da'.c] 32)).alloc (.cells #[.int .i64 0] 36)).alloc (.cells #[.int .i64 0] 36)).alloc (.cells #[.slice m.ty'.a m.ty.length m.ty'.c, .slice m.im'.a m.im.length m.im'.c, .slice m.fu'.a m.fu.length m.fu'.c, .slice m.tb'.a m.tb.length m.tb'.c, .slice m.me'.a m.me.length m.me'.c, .slice m.gl'.a m.gl.length m.gl'.c, .slice m.ex'.a m.ex.length m.ex'.c, .bool m.st, .int .u32 m.sn, .slice m.el'.a m.el.length m.el'.c, .slice m.da'.a m.da.length m.da'.c] 32)) = W0 at hbx hB0 hsz hS1 ⊢
  have HB0 := hid hB0
  refine wpIn_rangeFunc_ownF rfl (by omega) (gf := 136) (lb := #[.pointer (some ⟨w.heap.size + 1 + 1 + 1, 0, none⟩)]) rfl trivial (enters_of Tryz.func136 (by kernel_rfl) rfl)
    (codes_stops _ w.heap.size (w.heap.size + 1 + 1 + 1) m W0 (by omega) (by omega) hbx (HM.out.below hB0) HF.out.fit (Fair w) (fair_all HM.out HF.out)) (fun h k => h.trans k) (keptB_b (by omega)) (Below.refl _ _) (fun _ => rfl)
    (fun pre W => ((∀ y ∈ valsP pre, checkP y.t ≠ 141) ∧ Cod w.heap.size 0 (worstP (valsP pre) 0) W) ∧ Below w.heap.size w W)
    (fun c pre W => (c = .ret ∧ (∃ y ∈ valsP pre, checkP y.t = 141) ∧ W.cell? ⟨w.heap.size + 1, 0, none⟩ = some (.int .i64 141)) ∧ Below w.heap.size w W)
    (OwnFrom.and (Own.from (fun s A B row hs hg hr => ⟨hs.1, hs.2.own hg hr⟩) _) (ownFrom_below (Nat.le_refl _) (by omega)))
    (fun c => OwnFrom.and (Own.from (fun s A B row hs hg hr => ⟨hs.1, hs.2.1, cell_kept hs.2.2 hg hr⟩) _) (ownFrom_below (Nat.le_refl _) (by omega)))
    ⟨⟨by simp [valsP], hS1⟩, hB0⟩
    (fun x => { tmps := #[.agg #[.slice m.ty'.a m.ty.length m.ty'.c, .slice m.im'.a m.im.length m.im'.c, .slice m.fu'.a m.fu.length m.fu'.c, .slice m.tb'.a m.tb.length m.tb'.c, .slice m.me'.a m.me.length m.me'.c, .slice m.gl'.a m.gl.length m.gl'.c, .slice m.ex'.a m.ex.length m.ex'.c, .bool m.st, .int .u32 m.sn, .slice m.el'.a m.el.length m.el'.c, .slice m.da'.a m.da.length m.da'.c], .pointer (some ⟨w.heap.size, 0, none⟩), .pointer (some ⟨w.heap.size + 1, 0, none⟩), .pointer (some ⟨w.heap.size + 1 + 1, 0, none⟩), x.1.val, undef, .agg #[.slice m.ty'.a m.ty.length m.ty'.c, .slice m.im'.a m.im.length m.im'.c, .slice m.fu'.a m.fu.length m.fu'.c, .slice m.tb'.a m.tb.length m.tb'.c, .slice m.me'.a m.me.length m.me'.c, .slice m.gl'.a m.gl.length m.gl'.c, .slice m.ex'.a m.ex.length m.ex'.c, .bool m.st, .int .u32 m.sn, .slice m.el'.a m.el.length m.el'.c, .slice m.da'.a m.da.length m.da'.c], .func (.func 136) #[] #[.pointer (some ⟨w.heap.size + 1 + 1 + 1, 0, none⟩)], x.1.val, undef, undef, undef, undef, undef, undef, undef, undef, undef, undef], defers := [] }) ?assign ?body ?done ?stop
  case assign =>
    intro l x W K hK
    gi_wp2
    simpa [encP] using hK
  case body =>
    rintro l pre x W ⟨⟨hla, hch⟩, hB⟩ hlt
    have CL := callsIn_wide (n := 0) |>.2 (Check_any x.1.a x.1.t.len x.1.c x.1.t W (hT.below hB) (x.2.at hB) (by have := x.2.2.2; omega) x.2.2.1)
    obtain ⟨N, hN⟩ : ∃ N : Int, worstP (valsP pre) 0 = N := ⟨_, rfl⟩
    obtain ⟨C, hC⟩ : ∃ C : Int, checkP x.1.t = C := ⟨_, rfl⟩
    have HV := hid (show valsP (pre ++ [x]) = valsP pre ++ [x.1] by simp [valsP])
    have HS := hid (show worstP (valsP pre ++ [x.1]) 0 = if C = 0 then N else C by rw [worstP_snoc, hN, hC])
    have HCC := hid (show C = 0 ∨ C = 141 ∨ C = 2 from hC ▸ checkP_cases x.1.t)
    have HC := hid hC
    rw [hN] at hch
    rw [hC] at CL
    have CL2 := hid (CallsIn.mono (R' := fun e w' => e = .returned (.int .i64 C) ∧ Cod w.heap.size 0 N w' ∧ Hid (Below W.heap.size W w')) CL (by
      rintro e w' ⟨rfl, hb⟩
      exact ⟨rfl, hch.below hb, hb⟩))
    have HLA := hid hla
    have HB := hid hB
    clear hN hC hsz hbx hS1 HM HF hB0 CL hla hB hch
    unfold Lst.val
    rcases HCC.out with h | h | h
    · have HS0 := hid (show worstP (valsP (pre ++ [x])) 0 = N by rw [HV.out, HS.out, if_pos h])
      subst h
      gi_wp2_with (refine ⟨trivial, ?_⟩; refine (CallsIn.inRound l CL2.out).mono ?_; rintro e W3 ⟨rfl, hk3, hb3⟩)
      exact ⟨keepsOthers_below hb3.out, KeptB.of_below hb3.out HB.out.size, ⟨by rw [HV.out]; intro y hy; rcases List.mem_append.1 hy with hy | hy; exact HLA.out y hy; rw [List.mem_singleton.1 hy, HC.out]; omega, by rw [HS0.out]; exact hk3⟩, HB.out.trans (hb3.out.mono HB.out.size)⟩
    · have HY := hid (show ∃ y ∈ valsP (pre ++ [x]), checkP y.t = 141 from ⟨x.1, by rw [HV.out]; simp, by rw [HC.out, h]⟩)
      subst h
      gi_wp2_with (refine ⟨trivial, ?_⟩; refine (CallsIn.inRound l CL2.out).mono ?_; rintro e W3 ⟨rfl, ⟨k1, k2, k3, k4⟩, hb3⟩)
      exact ⟨(keepsOthers_below hb3.out).trans (KeepsOthers.setCell _ _ _), ⟨rfl, HY.out, World.cell?_setCell_same' _ _ _ (by rw [k1]; rfl)⟩, (HB.out.trans (hb3.out.mono HB.out.size)).setCell (p := ⟨w.heap.size + 1, 0, none⟩) (by simp) _⟩
    · have HS0 := hid (show worstP (valsP (pre ++ [x])) 0 = 2 by rw [HV.out, HS.out, if_neg (by omega), h])
      subst h
      gi_wp2_with (refine ⟨trivial, ?_⟩; refine (CallsIn.inRound l CL2.out).mono ?_; rintro e W3 ⟨rfl, hk3, hb3⟩; have hk3' := hid hk3; obtain ⟨k1, k2, k3, k4⟩ := hk3)
      exact ⟨(keepsOthers_below hb3.out).trans (KeepsOthers.setCell _ _ _), (KeptB.of_below hb3.out HB.out.size).setCell (p := ⟨w.heap.size + 1 + 1, 0, none⟩) (by simp; omega) (by simp) _,
        ⟨by rw [HV.out]; intro y hy; rcases List.mem_append.1 hy with hy | hy; exact HLA.out y hy; rw [List.mem_singleton.1 hy, HC.out]; omega, by rw [HS0.out]; exact hk3'.out.set⟩, (HB.out.trans (hb3.out.mono HB.out.size)).setCell (p := ⟨w.heap.size + 1 + 1, 0, none⟩) (by simp; omega) _⟩
  case done =>
    rintro D ys W hD rfl ⟨⟨hla, hch⟩, hB⟩ hK
    rw [valsP_with] at hla hch
    obtain ⟨h1, _⟩ := codeP_none m.codes 0 hla (.inl rfl)
    rw [if_neg (by omega)] at h1
    rw [h1] at hch
    obtain ⟨q, hq⟩ : ∃ q, codeP m.codes = q := ⟨_, rfl⟩
    rw [hq] at hch
    have HQ := hid hq
    clear hq h1 hla
    obtain ⟨r1, r2, f1, f2⟩ := hch
    gi_wp2
    have hK' := (KeepsOthers.setCell W ⟨w.heap.size + 1, 0, none⟩ (.int .i64 q)).same D _ hK rfl
    refine ⟨by simp, .inl ⟨_, _, rfl, run_takeDeferred hK', ?_⟩⟩
    have hc5 := cell_kept (World.cell?_setCell_same' W ⟨w.heap.size + 1, 0, none⟩ (.int .i64 q) (by rw [r1]; rfl)) (grownBy_putObj' _ D (.deferred none)) (fun r e => by cases e; exact ⟨_, hK', rfl⟩)
    refine ⟨.int .i64 q, ?_, by rw [HQ.out], (hB.setCell (p := ⟨w.heap.size + 1, 0, none⟩) (by simp) _).trans (belowK_b (w := w) (Nat.le_refl _) _ D _ _ (by omega) hK' rfl rfl)⟩
    simp [results, Tryz.f52, go_sem, hc5]
  case stop =>
    rintro D c pre W hD hpre ⟨⟨rfl, ⟨y, hy, hy1⟩, hc2⟩, hB⟩ hK
    have HR : Hid (codeP m.codes = 141) := by
      show _ = _
      refine codeP_many _ y ?_ hy1
      rw [← valsP_with m (Fair w) (fair_all HM.out HF.out)]
      unfold valsP at hy ⊢
      obtain ⟨z, hz⟩ := hpre
      rw [← hz, List.map_append]
      exact List.mem_append_left _ hy
    clear hy hy1 hpre
    gi_wp2
    refine ⟨by simp, .inl ⟨_, _, rfl, run_takeDeferred hK, ?_⟩⟩
    have hc5 := cell_kept hc2 (grownBy_putObj' _ D (.deferred none)) (fun r e => by cases e; exact ⟨_, hK, rfl⟩)
    refine ⟨.int .i64 141, ?_, by rw [HR.out], hB.trans (belowK_b (w := w) (Nat.le_refl _) W D _ _ (by omega) hK rfl rfl)⟩
    simp [results, Tryz.f52, go_sem, hc5]
end Go.Proofs.YtepbjkkakfpjgaaGreatDoor.Mod

namespace Go.Proofs.YtepbjkkakfpjgaaGreatDoor.Body
set_option linter.unusedVariables false
open Go.RowKit Go.Proofs.YtepbjkkakfpjgaaGreatDoor.Instr

theorem lists_kind (op : Int) : listsP op = decide (kindP op = 1) := by
  unfold listsP kindP
  (repeat' split) <;> simp_all <;> omega
theorem which_kind (op : Int) : whichP op = decide (kindP op = 2 ∨ kindP op = 3) := by
  unfold whichP kindP
  (repeat' split) <;> simp_all <;> omega
theorem stored_kind (op : Int) : storedP op = decide (kindP op = 5) := by
  unfold storedP kindP
  (repeat' split) <;> simp_all <;> omega
theorem four_kind {op : Int} : op = 14 ↔ kindP op = 4 := by
  unfold kindP
  (repeat' split) <;> simp_all <;> omega
theorem seven_kind {op : Int} : op = 65 ↔ kindP op = 7 := by
  unfold kindP
  (repeat' split) <;> simp_all <;> omega
theorem right_none (op res a b n : Int) (tl ln en : Nat) (ta la ea : Option Addr) (tc lc ec : Nat) (w : World) (h : nameL op = []) :
    Calls Tryz.prog 230 #[.agg #[.int .i64 op, .int .i64 res, .int .u32 a, .int .u32 b, .int .i32 n, .slice ta tl tc, .slice la ln lc, .slice ea en ec]] w fun e w' => e = .returned (.bool false) ∧ Below w.heap.size w w' := by
  have FA := hid (fun W => refAlign_any op W)
  have FN := hid (fun W => refName_any op W)
  have hs : strOfNums (nameL op) = ⟨#[]⟩ := by rw [h]; rfl
  rw [hs] at FN
  obtain ⟨al, hal⟩ : ∃ al, alignP op = al := ⟨_, rfl⟩
  obtain ⟨st, hst⟩ : ∃ st, storedP op = st := ⟨_, rfl⟩
  rw [hal, hst] at FA
  have M := hid ((fun o => (Below.refl w.heap.size w).alloc (Nat.le_refl _) o) (.cells #[.int .i64 op, .int .i64 res, .int .u32 a, .int .u32 b, .int .i32 n, .slice ta tl tc, .slice la ln lc, .slice ea en ec] 126))
  clear h hs hal hst
  go_enter Tryz.func230, Tryz.ntmps230
  go_wp2_with fail
  refine (FA.out _).mono ?_
  rintro e w1 ⟨rfl, rfl⟩
  go_wp2_with fail
  refine (FN.out _).mono ?_
  rintro e w1 ⟨rfl, hb1⟩
  have HB := hid (M.out.trans (hb1.mono M.out.size))
  clear hb1
  go_wp2
  go_ret
  exact ⟨rfl, HB.out⟩
end Go.Proofs.YtepbjkkakfpjgaaGreatDoor.Body

namespace Go.Proofs.YtepbjkkakfpjgaaGreatDoor.Leb
open Go.RowKit

theorem and127_s {x : Int} : bits .and .i64 x 127 = x % 128 := by
  show IntKind.i64.wrap ((BitVec.ofInt 64 x &&& BitVec.ofInt 64 127).toNat : Int) = _
  have h : (BitVec.ofInt 64 127).toNat = 127 := by decide
  rw [BitVec.toNat_and, h, BitVec.toNat_ofInt, nat_mask7, IntKind.wrap_i64]
  omega

set_option maxHeartbeats 3200000 in
theorem refS_any (n : Int) (w : World) (h0 : -2147483648 ≤ n) (h1 : n < 2147483648) :
    Calls Tryz.prog 234 #[.int .i32 n] w (Gives w (encS n)) := by
  go_enter Tryz.func234, Tryz.ntmps234
  go_wp2
  go_loopw [3, 4] (fun out su wr => ∃ (m : Int) (xs : List Int), -2147483648 ≤ m ∧ m < 2147483648 ∧ su = .int .i64 m ∧ Own w.heap.size wr out xs ∧ xs ++ encS m = encS n ∧ xs.length ≤ 5 ∧ Below w.heap.size w wr ∧ w.heap.size ≤ wr.heap.size)
    (fun _ su _ => (intOf su).natAbs)
  case atStart => exact ⟨n, [], h0, h1, rfl, World.ownsRow_nil _ _ _ _, rfl, by decide, Below.refl _ _, Nat.le_refl _⟩
  case round =>
    obtain ⟨m, xs, hm0, hm1, rfl, hown, hp, hx5, hb, hsz⟩ := hrel
    obtain ⟨a, c, rfl⟩ := hown.slice
    have HP := hid hp
    clear hp
    have hmask := and127_s (x := m)
    by_cases hl : m < -64 ∨ 64 ≤ m
    · have HF : Hid ((xs ++ [m % 128 + 128]) ++ encS (m / 128) = encS n) := by
        have := HP.out; rw [encS_step hl hm0 hm1] at this; rw [← this]; simp; exact trivial
      have H5 : Hid ((xs ++ [m % 128 + 128]).length ≤ 5) := by
        have h := congrArg List.length HF.out
        have := sizeS_pos n
        simp [encS_length] at h
        show _ ≤ _
        simp; omega
      clear HP
      rcases hl with hl | hl
      · go_wp2_with (first | (at_builtin; refine append_byte rfl (.tmp 13) (.tmp 18) rfl (m % 128 + 128) rfl hown hb hsz rfl (by omega) ?_; intro v' w1 hown' hb' hsz'))
        go_roundw
        case rel => exact ⟨m / 128, xs ++ [m % 128 + 128], by omega, by omega, rfl, hown', HF.out, H5.out, hb', hsz'⟩
        case measure => simp [intOf]; omega
      · have hl2 : ¬ m < -64 := by omega
        go_wp2_with (first | (at_builtin; refine append_byte rfl (.tmp 13) (.tmp 18) rfl (m % 128 + 128) rfl hown hb hsz rfl (by omega) ?_; intro v' w1 hown' hb' hsz'))
        go_roundw
        case rel => exact ⟨m / 128, xs ++ [m % 128 + 128], by omega, by omega, rfl, hown', HF.out, H5.out, hb', hsz'⟩
        case measure => simp [intOf]; omega
    · have HF : Hid (xs ++ [m % 128] = encS n) := by
        have := HP.out; rw [encS_last (by omega) (by omega)] at this; exact this
      have hl1 : ¬ m < -64 := by omega
      have hl2 : ¬ 63 < m := by omega
      clear HP hl
      go_wp2_with (first | (at_builtin; refine append_byte rfl (.tmp 22) (.tmp 26) rfl (m % 128) rfl hown hb hsz rfl (by omega) ?_; intro v' w1 hown' hb' hsz'))
      go_ret
      rw [HF.out] at hown'
      exact ⟨v', rfl, hown', hb'⟩
end Go.Proofs.YtepbjkkakfpjgaaGreatDoor.Leb
