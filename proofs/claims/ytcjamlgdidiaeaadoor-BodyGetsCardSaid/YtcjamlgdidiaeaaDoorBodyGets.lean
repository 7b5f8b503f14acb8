/-
  BODY: BodyGets.
-/
import Derived.Test.YtcjamlgdidiaeaaDoorBodyRefC
import Derived.Test.YtcjamlgdidiaeaaDoorBodyKit
import Derived.Test.YtcjamlgdidiaeaaDoorBodyAwake
import Derived.Laws.StructEq
namespace Go.Proofs.YtcjamlgdidiaeaaDoor.Body
set_option linter.unusedVariables false
open Go.RowKit Go.Proofs.YtcjamlgdidiaeaaDoor.Instr
open Go.Proofs.YtcjamlgdidiaeaaDoor.Kind (Rd)

theorem eqFault (a b c d : Int) (w : World) : (Op.equalIn 10000 38 (.agg #[.int .i64 a, .int .i64 b]) (.agg #[.int .i64 c, .int .i64 d])).run Tryd.prog w = .ok (a == c && b == d) w := by
  have u3 := Tryd.underlying3
  have a3 := Tryd.isAgg3
  have z3 := Tryd.sizeOf3
  have u4 := Tryd.underlying28
  have a4 := Tryd.isAgg28
  have z4 := Tryd.sizeOf28
  have hS : Tryd.prog.underlying 38 = some (.struct (Tryd.prog.fieldsOf 38)) := by kernel_rfl
  have hp : Tryd.prog.stoodInHeld 38 = false := by kernel_rfl
  rw [show (10000 : Nat) = 9999 + 1 from rfl, run_equalIn_agg w 9999 38 _ _ hS hp]
  simp only [Program.fieldsOf, Tryd.underlying38]
  go_simp
  by_cases h1 : a = c <;> by_cases h2 : b = d <;> simp [h1, h2]
theorem guardFault (op : BinOp) (x y : Operand) (xs ys : Array Value) (w : World) : (eqGuard op 38 x y (.agg xs) (.agg ys)).run Tryd.prog w = .ok () w :=
  run_eqGuard_agg w op _ x y xs ys (by kernel_rfl)
/-- The first of the bytes that a block holds. -/
theorem bytes_pre {g : Nat} {w : World} {zs ms : List Int} (hb : ∀ z ∈ zs, 0 ≤ z ∧ z < 256) (hl : zs.length ≤ 140737488351232) (hh : w.heap[g]? = some (.cells ((zs ++ ms).map (Value.int .u8)).toArray 5 (0, 0))) : Bytes w (some ⟨g, 0, none⟩) zs := by
  refine ⟨hb, hl, .inr ⟨g, 0, rfl, fun i hi => ?_⟩⟩
  have := nums_of_heap hh i (by simp; omega)
  rw [this]
  simp [List.getD_eq_getElem?_getD, List.getElem?_append_left hi]
theorem duo_two (w : World) (x y u v : Value) (s t : TypeId) : Duo w.heap.size x y ((w.alloc (.cells #[x, y] s)).alloc (.cells #[u, v] t)) ∧ Duo (w.heap.size + 1) u v ((w.alloc (.cells #[x, y] s)).alloc (.cells #[u, v] t)) := by
  have h1 : (w.alloc (.cells #[x, y] s)).heap.size = w.heap.size + 1 := by simp
  have h2 := Duo.made (w.alloc (.cells #[x, y] s)) u v t
  rw [h1] at h2
  exact ⟨(Duo.made w x y s).below (alloc_b _ _), h2⟩
theorem gets_big (w : World) (a : Option Addr) (len cap : Nat) (p : Int) (h : 3000 < len) :
    Calls Tryd.prog 4 #[.slice a len cap, .int .i64 p] w fun e w' => e = .returned (.bool true) ∧ Below w.heap.size w w' := by
  have h' : (3000 : Int) < (len : Int) := by omega
  clear h
  go_enter Tryd.func4, Tryd.ntmps4
  go_wp2
  go_ret
  exact ⟨rfl, Below.refl _ _⟩

set_option maxRecDepth 100000 in
set_option maxHeartbeats 6400000 in
theorem gets_any (w : World) (a : Option Addr) (len cap : Nat) (zs : List Int) (hlen : zs.length = len) (hz : Bytes w a zs) (p : Int) (hT : Nams w) (hl : len ≤ 3000) :
    Calls Tryd.prog 4 #[.slice a len cap, .int .i64 p] w fun e w' => e = .returned (.bool true) ∧ Below w.heap.size w w' := by
  have q1 := eqFault
  have q2 := guardFault
  have HT := hid hT
  have HZ := hid hz
  have HL := hid hlen
  have hl' : ¬ (3000 : Int) < (len : Int) := by omega
  have LE := hid (LentBytes_any a len cap zs w hlen hz.nums (by omega))
  have hmz : zs.length ≤ 140737488351232 := by omega
  have HMZ := hid hmz
  have HLL := hid hl
  obtain ⟨q, ⟨qs, er, fr⟩, T, hQ⟩ : ∃ q s T, getQ zs p = (q, s, T) := ⟨_, _, _, rfl⟩
  obtain ⟨cn, cq, ⟨cs, ce, cf⟩, U, hC⟩ : ∃ n q s U, codeQ zs p = (n, q, s, U) := ⟨_, _, _, _, rfl⟩
  have HQ := hid hQ
  have HC := hid hC
  clear hT hz hlen hQ hC hmz hl
  go_enter Tryd.func4, Tryd.ntmps4
  go_wp2_with fail
  refine LE.out.mono ?_
  clear LE hl'
  rintro e w1 ⟨rfl, hh1, hb1⟩
  have HB1 := hid hb1
  have HH1 := hid hh1
  have IN1 := hid (bytes_pre HZ.out.byte HMZ.out hh1)
  have LT1 := hid (show w.heap.size < w1.heap.size from (Array.getElem?_eq_some_iff.1 hh1).1)
  clear hb1 hh1
  have G1 := Get_any (some ⟨w.heap.size, 0, none⟩) len (len + 3) zs p w1 HL.out IN1.out (HT.out.below HB1.out)
  rw [HQ.out] at G1
  have G2 := hid G1
  clear G1
  go_wp2_with fail
  refine G2.out.mono ?_
  clear G2
  rintro e w2 ⟨a2, n2, c2, t2, rfl, hb2, hF2, ht2⟩
  have HF2 := hid hF2
  have LTL := hid (list_lt hF2.lst)
  have HT2 := hid ht2
  have B2 := hid hb2
  have SZ12 := hid hb2.size
  have HB2 := hid (HB1.out.trans (hb2.mono HB1.out.size))
  have hb2a : Below w2.heap.size w2 (w2.alloc (.cells #[.int .i64 er, .int .i64 fr] 38)) := alloc_b _ _
  have HB2a := hid (HB2.out.trans (hb2a.mono HB2.out.size))
  have D1 := hid (Duo.made w2 (.int .i64 er) (.int .i64 fr) 38)
  have R1 := refGet06_any a len cap p zs (w2.alloc (.cells #[.int .i64 er, .int .i64 fr] 38)) HL.out (HZ.out.below HB2a.out)
  rw [HQ.out] at R1
  have R2 := hid R1
  clear hF2 ht2 hb2 hb2a R1
  dsimp only
  go_wp2_with fail
  refine R2.out.mono ?_
  clear R2
  rintro e w3 ⟨a3, n3, c3, t3, rfl, hb3, hl3, ht3, hle3⟩
  dsimp only
  have D1 := hid ((D1.out.below hb3).below (alloc_b w3 (.cells #[.int .i64 er, .int .i64 fr] 38)))
  have D2 := hid (Duo.made w3 (.int .i64 er) (.int .i64 fr) 38)
  have hb23 : Below w2.heap.size w2 (w3.alloc (.cells #[.int .i64 er, .int .i64 fr] 38)) := thenA ((alloc_b w2 (.cells #[.int .i64 er, .int .i64 fr] 38)).trans (hb3.mono (by simp))) _
  have HB3 := hid (HB2.out.trans (hb23.mono HB2.out.size))
  have HF2 := hid (HF2.out.below hb23)
  have L3 := hid (hl3.on (alloc_b w3 (.cells #[.int .i64 er, .int .i64 fr] 38)))
  have HT3 := hid ht3
  have HLE3 := hid hle3
  have B13 := hid (B2.out.trans (hb23.mono B2.out.size))
  have C1 := GetCode_any (some ⟨w.heap.size, 0, none⟩) len (len + 3) zs p (w3.alloc (.cells #[.int .i64 er, .int .i64 fr] 38)) HL.out (IN1.out.below B13.out) (HT.out.below HB3.out)
  rw [HC.out] at C1
  have C2 := hid C1
  have SZ23 := hid hb23.size
  clear C1 hb3 hl3 ht3 hle3 hb23 HB2 HB2a B2
  go_wp2_with fail
  refine C2.out.mono ?_
  clear C2
  rintro e w4 ⟨a4, n4, c4, t4, rfl, hb4, hF4, ht4⟩
  dsimp only
  obtain ⟨d3, d4⟩ := duo_two w4 (.int .i64 cn) (.slice a4 n4 c4) (.int .i64 ce) (.int .i64 cf) 24 38
  have D3 := hid d3
  have D4 := hid d4
  have hb44 : Below w4.heap.size w4 ((w4.alloc (.cells #[.int .i64 cn, .slice a4 n4 c4] 24)).alloc (.cells #[.int .i64 ce, .int .i64 cf] 38)) := thenA (alloc_b _ _) _
  have hb34 := hb4.trans (hb44.mono hb4.size)
  have HB4 := hid (HB3.out.trans (hb34.mono HB3.out.size))
  have D1 := hid (D1.out.below hb34)
  have D2 := hid (D2.out.below hb34)
  have HF2 := hid (HF2.out.below hb34)
  have L3 := hid (L3.out.on hb34)
  have HF4 := hid (hF4.below hb44)
  have HT4 := hid ht4
  have B14 := hid (B13.out.trans (hb34.mono B13.out.size))
  have E1 := refCode06_any a len cap p zs ((w4.alloc (.cells #[.int .i64 cn, .slice a4 n4 c4] 24)).alloc (.cells #[.int .i64 ce, .int .i64 cf] 38)) HL.out (HZ.out.below HB4.out)
  rw [HC.out] at E1
  have E2 := hid E1
  have SZ34 := hid (show (w3.alloc (.cells #[.int .i64 er, .int .i64 fr] 38)).heap.size ≤ w4.heap.size from hb4.size)
  clear E1 d3 d4 hb4 hb44 hb34 hF4 ht4 HB3 B13
  go_wp2_with fail
  refine E2.out.mono ?_
  clear E2
  rintro e w5 ⟨a5, n5, c5, t5, rfl, hb5, hl5, ht5, hle5⟩
  dsimp only
  obtain ⟨d5, d6⟩ := duo_two w5 (.int .i64 cn) (.slice a5 n5 c5) (.int .i64 ce) (.int .i64 cf) 24 38
  have hb55 : Below w5.heap.size w5 ((w5.alloc (.cells #[.int .i64 cn, .slice a5 n5 c5] 24)).alloc (.cells #[.int .i64 ce, .int .i64 cf] 38)) := thenA (alloc_b _ _) _
  have hb45 := hb5.trans (hb55.mono hb5.size)
  have HB5 := hid (HB4.out.trans (hb45.mono HB4.out.size))
  have D1 := D1.out.below hb45
  have D2 := D2.out.below hb45
  have D3 := D3.out.below hb45
  have D4 := D4.out.below hb45
  have HF2 := hid (HF2.out.below hb45)
  have L3 := hid (L3.out.on hb45)
  have HF4 := hid (HF4.out.below hb45)
  have L5 := hid (hl5.on hb55)
  have HT5 := hid ht5
  have HLE5 := hid hle5
  have B15 := hid (B14.out.trans (hb45.mono B14.out.size))
  have hn23 : n2 = n3 := by rw [← HF2.out.lst.1, ← L3.out.1, ← bare_len, ← bare_len t3, HT2.out, HT3.out]
  have hn45 : n4 = n5 := by rw [← HF4.out.lst.1, ← L5.out.1, ← bare_len, ← bare_len t5, HT4.out, HT5.out]
  subst hn23 hn45
  have SZ45 := hid hb45.size
  have S1 := hid (SameInstrs_yes ((w5.alloc (.cells #[.int .i64 cn, .slice a5 n4 c5] 24)).alloc (.cells #[.int .i64 ce, .int .i64 cf] 38)).heap.size t2.count t2 t3 a2 a3 n2 c2 c3 ((w5.alloc (.cells #[.int .i64 cn, .slice a5 n4 c5] 24)).alloc (.cells #[.int .i64 ce, .int .i64 cf] 38)) (Nat.le_refl _) HF2.out.lst L3.out (by rw [HT2.out, HT3.out]) (Nat.le_refl _) (by have := HLE3.out; omega))
  have S2 := hid (fun W' (hb : Below ((w5.alloc (.cells #[.int .i64 cn, .slice a5 n4 c5] 24)).alloc (.cells #[.int .i64 ce, .int .i64 cf] 38)).heap.size ((w5.alloc (.cells #[.int .i64 cn, .slice a5 n4 c5] 24)).alloc (.cells #[.int .i64 ce, .int .i64 cf] 38)) W') => SameInstrs_yes W'.heap.size t4.count t4 t5 a4 a5 n4 c4 c5 W' (Nat.le_refl _) (HF4.out.lst.on hb) (L5.out.on hb) (by rw [HT4.out, HT5.out]) (Nat.le_refl _) (by have := HLE5.out; omega))
  obtain ⟨x10, x11, -, -⟩ := D1
  obtain ⟨x20, x21, -, -⟩ := D2
  have HD3 := hid D3
  have HD5 := hid d5
  obtain ⟨x30, x31, -, -⟩ := D3
  obtain ⟨x40, x41, -, -⟩ := D4
  obtain ⟨x50, x51, -, -⟩ := d5
  obtain ⟨x60, x61, -, -⟩ := d6
  clear hb5 hl5 ht5 hle5 hb55 hb45 HB4 B14 L5 L3
  go_wp2_with fail
  refine S1.out.mono ?_
  clear S1 x10 x11 x20 x21 x30 x31 x40 x41 x50 x51 x60 x61
  rintro e w6 ⟨rfl, hb6⟩
  have y31 := (HD3.out.below hb6).c1
  have y51 := (HD5.out.below hb6).c1
  have HB6 := hid hb6
  clear hb6
  go_wp2_with fail
  refine (S2.out w6 HB6.out).mono ?_
  clear S2 y31 y51
  rintro e w7 ⟨rfl, hb7⟩
  have b67 := HB6.out.trans (hb7.mono HB6.out.size)
  have HF2 := hid (HF2.out.below b67)
  have HF4 := hid (HF4.out.below b67)
  have HD3 := hid (HD3.out.below b67)
  have B17 := hid (B15.out.trans (b67.mono B15.out.size))
  have HB7 := hid (HB5.out.trans (b67.mono HB5.out.size))
  have O1 := hid (over_any t2.count t2 a2 n2 c2 w7 (Nat.le_refl _) HF2.out.lst HF2.out.nodup HF2.out.soft (by have := HLE3.out; omega))
  clear b67 hb7 HB6 HD5 HB5 B15
  go_wp2_with fail
  refine O1.out.mono ?_
  clear O1
  rintro e w8 ⟨rfl, T8⟩
  have b78 : Below w1.heap.size w7 w8 := T8.below B17.out.size (fun j hj => HF2.out.low j hj)
  have B18 := hid (B17.out.trans b78)
  have HB8 := hid (HB7.out.trans (b78.mono HB1.out.size))
  have y31 : w8.cell? ⟨w4.heap.size, 1, none⟩ = some (.slice a4 n4 c4) := T8.cell (p := ⟨w4.heap.size, 1, none⟩) (fun h => by have h1 := LTL.out _ h; have h2 := SZ23.out; have h3 := SZ34.out; simp only at h1; omega) HD3.out.c1
  have F8 := HF4.out.touch T8 (fun q hq h => by have h1 := LTL.out q h; have h2 := HF4.out.low q hq; have h3 := SZ23.out; omega)
  have O2 := hid (over_any t4.count t4 a4 n4 c4 w8 (Nat.le_refl _) F8.lst F8.nodup F8.soft (by have := HLE5.out; omega))
  have LOW4 := hid F8.low
  have SZ1 := hid (show w1.heap.size ≤ (w3.alloc (.cells #[.int .i64 er, .int .i64 fr] 38)).heap.size by have h1 := SZ23.out; have h2 := SZ12.out; omega)
  clear T8 b78 HF2 HF4 HD3 F8 HB7 B17
  go_wp2_with fail
  refine O2.out.mono ?_
  clear O2 y31
  rintro e w9 ⟨rfl, T9⟩
  have b89 : Below w1.heap.size w8 w9 := T9.below B18.out.size (fun j hj => Nat.le_trans SZ1.out (LOW4.out j hj))
  have B19 := B18.out.trans b89
  have HB9 := hid (HB8.out.trans (b89.mono HB1.out.size))
  have KX := (Bytes.of_heap (marksBytes_bytes HZ.out.byte len) (by have := HL.out; have := HLL.out; simp [marksBytes]; omega) HH1.out).below B19
  have KB := hid (KeptBytes_yes (some ⟨w.heap.size, 0, none⟩) a len cap zs w9 HL.out KX (HZ.out.below HB9.out) (by have := HLL.out; omega))
  have AW := hid (fun w' (hb : Below w.heap.size w w') => awake_any w' (HT.out.below hb))
  clear T9 b89 B18 B19 KX LOW4 SZ1
  go_wp2_with fail
  refine KB.out.mono ?_
  clear KB
  rintro e w10 ⟨rfl, hb10⟩
  have HB10 := hid (HB9.out.trans (hb10.mono HB9.out.size))
  clear hb10
  go_wp2_with fail
  refine (AW.out w10 HB10.out).mono ?_
  clear AW
  rintro e w11 ⟨rfl, hb11⟩
  have HB11 := hid (HB10.out.trans (hb11.mono HB10.out.size))
  clear hb11
  go_wp2
  go_ret
  exact ⟨rfl, HB11.out⟩
end Go.Proofs.YtcjamlgdidiaeaaDoor.Body
namespace Go.Proofs.YtcjamlgdidiaeaaDoor
open Go.RowKit Go.Proofs.YtcjamlgdidiaeaaDoor.Instr Go.Proofs.YtcjamlgdidiaeaaDoor.Body
theorem bodyGets_walk (w : World) (a : Option Addr) (len cap : Nat) (zs : List Int) (hlen : zs.length = len) (hz : Bytes w a zs) (p : Int) (_hp : -9223372036854775808 ≤ p ∧ p ≤ 9223372036854775807) (hT : Nams w) :
    Calls Tryd.prog 4 #[.slice a len cap, .int .i64 p] w fun e w' => e = .returned (.bool true) ∧ Below w.heap.size w w' := by
  by_cases h : 3000 < len
  · exact gets_big w a len cap p h
  · exact gets_any w a len cap zs hlen hz p hT (by omega)
end Go.Proofs.YtcjamlgdidiaeaaDoor
