/-
  LEX: the statements' kit: the same words, has, faulty, awake: by contract, where what is asked is so.
-/
import Derived.Test.YtojgibigmoaejaaDoorLexLex
import Derived.Laws.StructEq
import Derived.BigQuiet
import Derived.Deep.QuietTactic
namespace Go.Proofs.YtojgibigmoaejaaDoor.Lex
open Go.RowKit Go.Proofs.YtojgibigmoaejaaDoor.Utf
set_option linter.unusedSimpArgs false
set_option linter.unusedVariables false
set_option linter.unusedVariables false

theorem eqWord (a b c : Int) (s : ByteArray) (w : World) : (Op.equalIn 10000 31 (.agg #[.int .i64 a, .int .i64 b, .int .i64 c, .string s]) (.agg #[.int .i64 a, .int .i64 b, .int .i64 c, .string s])).run Tryd.prog w = .ok true w := by
  have u3 := Tryd.underlying3
  have a3 := Tryd.isAgg3
  have z3 := Tryd.sizeOf3
  have u4 := Tryd.underlying9
  have a4 := Tryd.isAgg9
  have z4 := Tryd.sizeOf9
  have hS : Tryd.prog.underlying 31 = some (.struct (Tryd.prog.fieldsOf 31)) := by kernel_rfl
  have hp : Tryd.prog.stoodInHeld 31 = false := by kernel_rfl
  rw [show (10000 : Nat) = 9999 + 1 from rfl, run_equalIn_agg w 9999 31 _ _ hS hp]
  simp only [Program.fieldsOf, Tryd.underlying31]
  go_simp
theorem guardWord (op : BinOp) (x y : Operand) (xs ys : Array Value) (w : World) : (eqGuard op 31 x y (.agg xs) (.agg ys)).run Tryd.prog w = .ok () w :=
  run_eqGuard_agg w op _ x y xs ys (by kernel_rfl)
theorem eqFault (a b : Int) (w : World) : (Op.equalIn 10000 26 (.agg #[.int .i64 a, .int .i64 b]) (.agg #[.int .i64 a, .int .i64 b])).run Tryd.prog w = .ok true w := by
  have u3 := Tryd.underlying3
  have a3 := Tryd.isAgg3
  have z3 := Tryd.sizeOf3
  have u4 := Tryd.underlying24
  have a4 := Tryd.isAgg24
  have z4 := Tryd.sizeOf24
  have hS : Tryd.prog.underlying 26 = some (.struct (Tryd.prog.fieldsOf 26)) := by kernel_rfl
  have hp : Tryd.prog.stoodInHeld 26 = false := by kernel_rfl
  rw [show (10000 : Nat) = 9999 + 1 from rfl, run_equalIn_agg w 9999 26 _ _ hS hp]
  simp only [Program.fieldsOf, Tryd.underlying26]
  go_simp
theorem guardFault (op : BinOp) (x y : Operand) (xs ys : Array Value) (w : World) : (eqGuard op 26 x y (.agg xs) (.agg ys)).run Tryd.prog w = .ok () w :=
  run_eqGuard_agg w op _ x y xs ys (by kernel_rfl)

/-- A slice reads as these words. -/
def WordsAt (w : World) (a : Option Addr) (l : List Wd) : Prop := Stk.Rows w.heap.size w a 4 (l.map Wd.row)
theorem WordsAt.below {w w' : World} {a : Option Addr} {l : List Wd} (h : WordsAt w a l) (hb : Below w.heap.size w w') : WordsAt w' a l := (Stk.Rows.below hb h).more hb.size
theorem OwnW.at {base : Nat} {w : World} {a : Option Addr} {n c : Nat} {l : List Wd} (h : OwnW base w (.slice a n c) l) : WordsAt w a l ∧ n = l.length := by
  obtain ⟨a', c', hv, hr, _⟩ := Stk.OwnR.rows h
  rw [List.length_map] at hv
  simp only [Value.slice.injEq] at hv
  obtain ⟨rfl, rfl, rfl⟩ := hv
  exact ⟨hr, rfl⟩

set_option maxHeartbeats 1000000 in
theorem sameTok_yes (a1 a2 : Option Addr) (n c1 c2 : Nat) (l : List Wd) (w : World) (hn : l.length = n) (hbig : n ≤ 1000000000) (h1 : WordsAt w a1 l) (h2 : WordsAt w a2 l) :
    Calls Tryd.prog 8 #[.slice a1 n c1, .slice a2 n c2] w fun e w' => e = .returned (.bool true) ∧ Below w.heap.size w w' := by
  have q1 := eqWord
  have q2 := guardWord
  have H1 := hid h1
  have H2 := hid h2
  have HL := hid hn
  clear h1 h2 hn
  go_enter Tryd.func8, Tryd.ntmps8
  go_wp2
  go_loopw [5] (fun vi wr => ∃ k nq : Nat, vi = .int .i64 k ∧ k ≤ n ∧ wr = w.drewN nq) (fun vi _ => n - (intOf vi).toNat)
  case atStart => exact ⟨0, 0, rfl, Nat.zero_le _, rfl⟩
  case round =>
    obtain ⟨k, mq, rfl, hk, rfl⟩ := hrel
    by_cases hlt : k < n
    · have hkl : k < l.length := by rw [HL.out]; exact hlt
      obtain ⟨b1, o1, rfl, -, hc1⟩ := Stk.Rows.get H1.out hkl
      obtain ⟨b2, o2, rfl, -, hc2⟩ := Stk.Rows.get H2.out hkl
      obtain ⟨x, hx⟩ : ∃ x, l[k] = x := ⟨_, rfl⟩
      rw [hx] at hc1 hc2
      have e0 : w.cell? ⟨b1, o1 + k * 4, none⟩ = some (.int .i64 x.k) := hc1 0 (by omega) _ rfl
      have e1 : w.cell? ⟨b1, o1 + k * 4 + 1, none⟩ = some (.int .i64 x.n) := hc1 1 (by omega) _ rfl
      have e2 : w.cell? ⟨b1, o1 + k * 4 + 2, none⟩ = some (.int .i64 x.at_) := hc1 2 (by omega) _ rfl
      have e3 : w.cell? ⟨b1, o1 + k * 4 + 3, none⟩ = some (.string (strOfNums x.s)) := hc1 3 (by omega) _ rfl
      have g0 : w.cell? ⟨b2, o2 + k * 4, none⟩ = some (.int .i64 x.k) := hc2 0 (by omega) _ rfl
      have g1 : w.cell? ⟨b2, o2 + k * 4 + 1, none⟩ = some (.int .i64 x.n) := hc2 1 (by omega) _ rfl
      have g2 : w.cell? ⟨b2, o2 + k * 4 + 2, none⟩ = some (.int .i64 x.at_) := hc2 2 (by omega) _ rfl
      have g3 : w.cell? ⟨b2, o2 + k * 4 + 3, none⟩ = some (.string (strOfNums x.s)) := hc2 3 (by omega) _ rfl
      have hki : (k : Int) < (n : Int) := by omega
      clear hc1 hc2 hx hkl H1 H2
      generalize strOfNums x.s = s at *
      generalize x.k = xk at *
      generalize x.n = xn at *
      generalize x.at_ = xa at *
      go_wp2
      go_quiet (fail)
      go_wp2
      go_roundw
      case rel => exact ⟨k + 1, mq + nq, by go_num, by omega, rfl⟩
      case measure => simp [intOf]; omega
    · obtain rfl : k = n := by omega
      go_wp2
      go_ret
      exact ⟨rfl, drewL (Below.refl _ _) _⟩

set_option maxHeartbeats 1000000 in
theorem has_yes (zs : List Int) (hb : ∀ z ∈ zs, 0 ≤ z ∧ z < 256) (ws : List Wd) (hl : lexP zs = .ok ws) (hbig : ws.length ≤ 1000000000) (a : Option Addr) (n c : Nat) (hn : ws.length = n) (w : World) (hw : WordsAt w a ws) (h8 : Tabs8 w) (hT : Words w) :
    Calls Tryd.prog 11 #[.string (strOfNums zs), .slice a n c] w fun e w' => e = .returned (.bool true) ∧ Below w.heap.size w w' := by
  have C := hid (Lex_any zs hb w h8 hT)
  rw [hl] at C
  have HW := hid hw
  have q1 := eqFault
  have q2 := guardFault
  have HN := hid hn
  have HBG := hid hbig
  clear hb hl hw hn hbig
  generalize strOfNums zs = s at *
  go_enter Tryd.func11, Tryd.ntmps11
  go_wp2_with fail
  refine C.out.mono ?_
  rintro e w1 ⟨v, rfl, ⟨u, rfl, ho⟩, hb1⟩
  obtain ⟨a1, c1, hu⟩ := ho.slice4
  subst hu
  have HB := hid hb1
  obtain ⟨hat, _⟩ := ho.at
  have HA := hid hat
  have HB1 := hid (hb1.alloc hb1.size (.cells #[.int .i64 0, .int .i64 0] 26))
  have S := hid (fun n hn hb W (h1 : WordsAt W a1 ws) (h2 : WordsAt W a ws) => sameTok_yes a1 a n c1 c ws W hn hb h1 h2)
  have hnn := HN.out
  subst hnn
  clear C ho hat hb1 h8 hT
  go_wp2_with fail
  have hal : Below w1.heap.size w1 (w1.alloc (.cells #[.int .i64 0, .int .i64 0] 26)) := (Below.refl _ _).alloc (Nat.le_refl _) _
  refine (S.out _ rfl HBG.out _ (HA.out.below hal) (HW.out.below HB1.out)).mono ?_
  rintro e w2 ⟨rfl, hb2⟩
  have HB2 := hid (HB1.out.trans (hb2.mono HB1.out.size))
  clear hb2 hal
  go_wp2
  go_ret
  exact ⟨rfl, HB2.out⟩

set_option maxHeartbeats 1000000 in
theorem faulty_yes (zs : List Int) (hb : ∀ z ∈ zs, 0 ≤ z ∧ z < 256) (e p : Int) (hl : lexP zs = .bad e p) (w : World) (h8 : Tabs8 w) (hT : Words w) :
    Calls Tryd.prog 12 #[.string (strOfNums zs), .int .i64 e, .int .i64 p] w fun e w' => e = .returned (.bool true) ∧ Below w.heap.size w w' := by
  have C := hid (Lex_any zs hb w h8 hT)
  rw [hl] at C
  have q1 := eqFault
  have q2 := guardFault
  clear hb hl h8 hT
  generalize strOfNums zs = s at *
  go_enter Tryd.func12, Tryd.ntmps12
  go_wp2_with fail
  refine C.out.mono ?_
  rintro e' w1 ⟨v, rfl, hv, hb1⟩
  have hv' : v = .tuple #[.slice none 0 0, .agg #[.int .i64 e, .int .i64 p]] := hv
  subst hv'
  have HB2 := hid (hb1.alloc hb1.size (.cells #[.int .i64 e, .int .i64 p] 26))
  clear hb1 hv C
  go_wp2
  go_ret
  exact ⟨rfl, HB2.out⟩

theorem rows3 (w : World) (x y z : Wd) (l : List Wd) (hl : l = [x, y, z]) (cs : Array Value) (hc : cs.toList = x.row ++ y.row ++ z.row) : WordsAt (w.alloc (.cells cs 31)) (some ⟨w.heap.size, 0, none⟩) l := by
  subst hl
  refine .inr ⟨w.heap.size, 0, rfl, by simp, fun i hi j hj v hv => ?_⟩
  have hg : ∀ m u, cs.toList[m]? = some u → (w.alloc (.cells cs 31)).cell? ⟨w.heap.size, 0 + m, none⟩ = some u := fun m u hu => by
    rw [Lib.cell_of_heap (heap_alloc_new w _)]
    simpa using hu
  rw [Nat.zero_add]
  have := hg (i * 4 + j) v
  rw [Nat.zero_add] at this
  refine this ?_
  rw [hc]
  simp only [List.map_cons, List.map_nil, List.length_cons, List.length_nil] at hi
  have hi' : i = 0 ∨ i = 1 ∨ i = 2 := by omega
  have hj' : j = 0 ∨ j = 1 ∨ j = 2 ∨ j = 3 := by omega
  rcases hi' with rfl | rfl | rfl <;> rcases hj' with rfl | rfl | rfl | rfl <;> simpa [Wd.row] using hv
theorem awake_1 : lexP [39, 97, 32, 45, 62, 32, 66] = .ok [⟨5, 0, 0, [97]⟩, ⟨7, 0, 3, [45, 62]⟩, ⟨4, 0, 6, [66]⟩] := by decide +kernel
theorem awake_2 : lexP [97, 32, 35, 32, 98] = .bad 251 2 := by decide +kernel
set_option maxHeartbeats 1000000 in
theorem awake_any (w : World) (h8 : Tabs8 w) (hT : Words w) :
    Calls Tryd.prog 5 #[] w fun e w' => e = .returned (.bool true) ∧ Below w.heap.size w w' := by
  have c1 : strOfNums [39, 97, 32, 45, 62, 32, 66] = ⟨#[39, 97, 32, 45, 62, 32, 66]⟩ := rfl
  have c2 : strOfNums [97, 32, 35, 32, 98] = ⟨#[97, 32, 35, 32, 98]⟩ := rfl
  have A := hid (fun n c hn W a h1 h2 h3 => has_yes _ (by decide) _ awake_1 (by decide) a n c hn W h1 h2 h3)
  have B := hid (fun W h1 h2 => faulty_yes _ (by decide) _ _ awake_2 W h1 h2)
  rw [c1] at A
  rw [c2] at B
  have hal : Below w.heap.size w (w.alloc (.cells #[.int .i64 5, .int .i64 0, .int .i64 0, .string ⟨#[97]⟩, .int .i64 7, .int .i64 0, .int .i64 3, .string ⟨#[45, 62]⟩, .int .i64 4, .int .i64 0, .int .i64 6, .string ⟨#[66]⟩] 31)) := thenA (Below.refl _ _) _
  have HAL := hid hal
  have HW := hid (rows3 w _ _ _ _ rfl #[.int .i64 5, .int .i64 0, .int .i64 0, .string ⟨#[97]⟩, .int .i64 7, .int .i64 0, .int .i64 3, .string ⟨#[45, 62]⟩, .int .i64 4, .int .i64 0, .int .i64 6, .string ⟨#[66]⟩] (show _ = (Wd.mk 5 0 0 [97]).row ++ (Wd.mk 7 0 3 [45, 62]).row ++ (Wd.mk 4 0 6 [66]).row from rfl))
  have H8 := hid h8
  have HT := hid hT
  clear h8 hT c1 c2 hal
  go_enter Tryd.func5, Tryd.ntmps5
  go_wp2_with fail
  refine (A.out 3 3 rfl _ _ HW.out (H8.out.below HAL.out) (HT.out.below HAL.out)).mono ?_
  rintro e w1 ⟨rfl, hb1⟩
  have HB1 := hid (HAL.out.trans (hb1.mono HAL.out.size))
  clear hb1 A HW HAL
  go_wp2_with fail
  refine (B.out _ (H8.out.below HB1.out) (HT.out.below HB1.out)).mono ?_
  rintro e w2 ⟨rfl, hb2⟩
  have HB2 := hid (HB1.out.trans (hb2.mono HB1.out.size))
  clear hb2 B
  go_wp2
  go_ret
  exact ⟨rfl, HB2.out⟩
end Go.Proofs.YtojgibigmoaejaaDoor.Lex
