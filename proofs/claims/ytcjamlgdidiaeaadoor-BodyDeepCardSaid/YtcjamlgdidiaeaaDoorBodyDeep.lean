/-
  BODY: BodyDeep.
-/
import Derived.Test.YtcjamlgdidiaeaaDoorBodyRefRead
import Derived.Test.YtcjamlgdidiaeaaDoorBodyAwake
import Derived.Laws.StructEq
import Derived.Test.YtcjamlgdidiaeaaDoorInstrPick
import Derived.Test.YtcjamlgdidiaeaaDoorAppend
namespace Go.Proofs.YtcjamlgdidiaeaaDoor.Body
set_option linter.unusedVariables false
open Go.RowKit Go.Proofs.YtcjamlgdidiaeaaDoor.Instr
open Go.Proofs.YtcjamlgdidiaeaaDoor.Kind (Rd)

theorem eqFault (a b c d : Int) (w : World) : (Op.equalIn 10000 38 (.agg #[.int .i64 a, .int .i64 b]) (.agg #[.int .i64 c, .int .i64 d])).run Tryd.prog w = .ok (a == c && b == d) w := by
  have u3 := Tryd.underlying3
  have a3 := Tryd.isAgg3
  have z3 := Tryd.sizeOf3
  have u4 := Tryd.underlying28
  have a4 := Tryd.isAgg28
  have z4 := Tryd.sizeOf28
  have hS : Tryd.prog.underlying 38 = some (.struct (Tryd.prog.fieldsOf 38)) := by kernel_rfl
  have hp : Tryd.prog.stoodInHeld 38 = false := by kernel_rfl
  rw [show (10000 : Nat) = 9999 + 1 from rfl, run_equalIn_agg w 9999 38 _ _ hS hp]
  simp only [Program.fieldsOf, Tryd.underlying38]
  go_simp
  by_cases h1 : a = c <;> by_cases h2 : b = d <;> simp [h1, h2]
theorem guardFault (op : BinOp) (x y : Operand) (xs ys : Array Value) (w : World) : (eqGuard op 38 x y (.agg xs) (.agg ys)).run Tryd.prog w = .ok () w :=
  run_eqGuard_agg w op _ x y xs ys (by kernel_rfl)
/-- Bytes of one's own, so many. -/
structure Row (w : World) (v : Value) (n : Nat) (W : World) : Prop where
  out : ∃ zs : List Int, Own w.heap.size W v zs ∧ (∀ z ∈ zs, 0 ≤ z ∧ z < 256) ∧ zs.length = n
  bel : Below w.heap.size w W
theorem Row.size {w W : World} {v : Value} {n : Nat} (h : Row w v n W) : w.heap.size ≤ W.heap.size := h.bel.size
section
variable {ops : Array Oper} {rest : List Oper} {o : Oper} {act : Act} {Q : Exit → Act → World → Prop}
theorem row_one (hgd : o.guard = none) (s x : Operand) (ho : o.op = .call { callee := .builtin .append, args := #[s, x], argTypes := #[27, 27] })
    {w wr : World} {v : Value} {n : Nat} (z : Int) (hz : 0 ≤ z ∧ z < 256) (hs : act.eval s = v) (hR : Row w v n wr) (hx : act.eval x = .slice (some ⟨wr.heap.size, 0, none⟩) 1 1) (hn : n ≤ 1000000)
    (h : ∀ v' w', Row w v' (n + 1) w' → wpList Tryd.prog ops Q rest (act.put o.dst v') w') :
    wpList Tryd.prog ops Q (o :: rest) act (wr.alloc (.cells #[.int .u8 z] 5)) := by
  obtain ⟨⟨zs, h1, h2, h3⟩, hb⟩ := hR
  refine append_byte hgd s x ho z hs h1 hb hb.size hx (by omega) (fun v' w' a b c => h v' w' ⟨⟨zs ++ [z], a, fun y hy => ?_, by simp [h3]⟩, b⟩)
  rcases List.mem_append.1 hy with hy | hy
  · exact h2 y hy
  · rw [List.mem_singleton] at hy; subst hy; exact hz
theorem row_two (hgd : o.guard = none) (s x : Operand) (ho : o.op = .call { callee := .builtin .append, args := #[s, x], argTypes := #[27, 27] })
    {w wr : World} {v : Value} {n : Nat} (y z : Int) (hy : 0 ≤ y ∧ y < 256) (hz : 0 ≤ z ∧ z < 256) (hs : act.eval s = v) (hR : Row w v n wr) (hx : act.eval x = .slice (some ⟨wr.heap.size, 0, none⟩) 2 2) (hn : n ≤ 1000000)
    (h : ∀ v' w', Row w v' (n + 2) w' → wpList Tryd.prog ops Q rest (act.put o.dst v') w') :
    wpList Tryd.prog ops Q (o :: rest) act (wr.alloc (.cells #[.int .u8 y, .int .u8 z] 5)) := by
  obtain ⟨⟨zs, h1, h2, h3⟩, hb⟩ := hR
  refine append_bytes hgd s x ho hs (h1.alloc _) (thenA hb _) (thenA hb _).size _ _ _ hx (fun h => by cases h) (ys := [y, z]) rfl (bytes_two wr y z hy hz) (by simp; omega) (fun v' w' a b c => h v' w' ⟨⟨zs ++ [y, z], a, fun u hu => ?_, by simp [h3]⟩, b⟩)
  rcases List.mem_append.1 hu with hu | hu
  · exact h2 u hu
  · simp at hu
    rcases hu with rfl | rfl
    · exact hy
    · exact hz
end

set_option maxRecDepth 100000 in
set_option maxHeartbeats 6400000 in
theorem deep_any (w : World) (x y : Int) (hT : Nams w) :
    Calls Tryd.prog 5 #[.int .i64 x, .int .i64 y] w fun e w' => e = .returned (.bool true) ∧ Below w.heap.size w w' := by
  have q1 := eqFault
  have q2 := guardFault
  have HT := hid hT
  clear hT
  go_enter Tryd.func5, Tryd.ntmps5
  go_wp2_with fail
  refine (Pick_any x 910 (by omega) (by omega) w).mono ?_
  rintro e w1 ⟨⟨i, rfl, hi0, hi1⟩, rfl⟩
  go_wp2_with fail
  refine (Pick_any y 262200 (by omega) (by omega) w).mono ?_
  rintro e w1 ⟨⟨j, rfl, hj0, hj1⟩, rfl⟩
  obtain ⟨i, rfl⟩ := Int.eq_ofNat_of_zero_le hi0
  obtain ⟨j, rfl⟩ := Int.eq_ofNat_of_zero_le hj0
  go_wp2
  go_loopw [5, 6] (fun vb vi wr => ∃ k : Nat, vi = .int .i64 k ∧ k ≤ i ∧ Hid (Row w vb (2 * k) wr)) (fun _ vi _ => i - (intOf vi).toNat)
  case atStart => exact ⟨0, rfl, Nat.zero_le _, ⟨⟨[], World.ownsRow_nil _ _ _ _, by simp, rfl⟩, Below.refl _ _⟩⟩
  case round =>
    obtain ⟨k, rfl, hk, hR⟩ := hrel
    by_cases hlt : k < i
    · have hk2 : 2 * k ≤ 1000000 := by omega
      go_wp2_with (first
        | (at_builtin; refine row_two rfl (.tmp 24) (.tmp 25) rfl 2 64 (by omega) (by omega) rfl hR.out rfl hk2 ?_; intro v6 w6 hR6; have HR6 := hid hR6; clear hR6; refine Hid.out ?_))
      refine hid ?_
      go_wp2
      go_roundw
      case rel => exact ⟨k + 1, by go_num, by omega, HR6⟩
      case measure => simp [intOf]; omega
    · obtain rfl : k = i := by omega
      clear hlt
      go_wp2
      go_loopw [5, 7] (fun vb vi wr => ∃ h : Nat, vi = .int .i64 h ∧ h ≤ j ∧ Hid (Row w vb (2 * k + h) wr)) (fun _ vi _ => j - (intOf vi).toNat)
      case atStart => exact ⟨0, rfl, Nat.zero_le _, hR⟩
      case round =>
        clear hR
        obtain ⟨h, rfl, hh, hR⟩ := hrel
        by_cases hlt : h < j
        · have hk2 : 2 * k + h ≤ 1000000 := by omega
          go_wp2_with (first
            | (at_builtin; refine row_one rfl (.tmp 32) (.tmp 33) rfl 1 (by omega) rfl hR.out rfl hk2 ?_; intro v6 w6 hR6; have HR6 := hid hR6; clear hR6; refine Hid.out ?_))
          refine hid ?_
          go_wp2
          go_roundw
          case rel => exact ⟨h + 1, by go_num, by omega, HR6⟩
          case measure => simp [intOf]; omega
        · obtain rfl : h = j := by omega
          clear hlt
          go_wp2
          go_loopw [5, 8] (fun vb vi wr => ∃ g : Nat, vi = .int .i64 g ∧ g ≤ k + 1 ∧ Hid (Row w vb (2 * k + h + g) wr)) (fun _ vi _ => k + 1 - (intOf vi).toNat)
          case atStart => exact ⟨0, rfl, Nat.zero_le _, hR⟩
          case round =>
            clear hR
            obtain ⟨g, rfl, hg, hR⟩ := hrel
            by_cases hlt : g ≤ k
            · have hk2 : 2 * k + h + g ≤ 1000000 := by omega
              have hlt' : (g : Int) ≤ (k : Int) := by omega
              go_wp2_with (first
                | (at_builtin; refine row_one rfl (.tmp 40) (.tmp 41) rfl 11 (by omega) rfl hR.out rfl hk2 ?_; intro v6 w6 hR6; have HR6 := hid hR6; clear hR6; refine Hid.out ?_))
              refine hid ?_
              go_wp2
              go_roundw
              case rel => exact ⟨g + 1, by go_num, by omega, HR6⟩
              case measure => simp [intOf]; omega
            · have hlt' : ¬ (g : Int) ≤ (k : Int) := by omega
              obtain ⟨⟨zs, hown, hzb, hzl⟩, hbel⟩ := hR.out
              obtain ⟨a0, c0, rfl⟩ := hown.slice
              obtain ⟨L, hLL⟩ : ∃ L, zs.length = L := ⟨_, rfl⟩
              rw [hLL]
              have hzz := hown.bytes hzb (by omega)
              have HB := hid hbel
              have G1 := hid (Get_any a0 L c0 zs 0 wr hLL hzz (HT.out.below hbel))
              have HZ := hid hzz
              have HL := hid hLL
              clear hR hown hzb hzl hbel hzz hLL
              go_wp2_with fail
              refine G1.out.mono ?_
              clear G1
              obtain ⟨q, ⟨qs, er, fr⟩, T, hQ⟩ : ∃ q s T, getQ zs 0 = (q, s, T) := ⟨_, _, _, rfl⟩
              have HQ := hid hQ
              rw [hQ]
              rintro e w2 ⟨a2, n2, c2, t2, rfl, hb2, hF2, ht2⟩
              have HF2 := hid hF2.lst
              have HT2 := hid ht2
              have HB2 := hid (HB.out.trans (hb2.mono HB.out.size))
              have hbf : Below wr.heap.size wr (w2.alloc (.cells #[.int .i64 er, .int .i64 fr] 38)) := thenA hb2 _
              have R2 := refGet06_any a0 L c0 0 zs (w2.alloc (.cells #[.int .i64 er, .int .i64 fr] 38)) HL.out (HZ.out.below hbf)
              rw [HQ.out] at R2
              have G2 := hid R2
              have D2 := hid (Duq.made w2 (.int .i64 er) (.int .i64 fr) 38)
              clear hb2 hF2 ht2 hQ HB R2 hbf
              dsimp only
              go_wp2_with fail
              refine G2.out.mono ?_
              clear G2
              rintro e w3 ⟨a3, n3, c3, t3, rfl, hb3, hl3, ht3, hle3⟩
              dsimp only
              have D3 := D2.out.below hb3
              have x0 := keepA D3.c0 (.cells #[.int .i64 er, .int .i64 fr] 38)
              have x1 := keepA D3.c1 (.cells #[.int .i64 er, .int .i64 fr] 38)
              have D4 := Duq.made w3 (.int .i64 er) (.int .i64 fr) 38
              have y0 := D4.c0
              have y1 := D4.c1
              have hb23 : Below w2.heap.size w2 (w3.alloc (.cells #[.int .i64 er, .int .i64 fr] 38)) := thenA ((thenA (Below.refl w2.heap.size w2) (.cells #[.int .i64 er, .int .i64 fr] 38)).trans (hb3.mono (by simp))) _
              have hb33 : Below w3.heap.size w3 (w3.alloc (.cells #[.int .i64 er, .int .i64 fr] 38)) := thenA (Below.refl _ _) _
              have hnn : n2 = n3 := by rw [← HF2.out.1, ← hl3.1, ← bare_len, ← bare_len t3, HT2.out, ht3]
              subst hnn
              have S1 := hid (SameInstrs_yes (w3.alloc (.cells #[.int .i64 er, .int .i64 fr] 38)).heap.size t2.count t2 t3 a2 a3 n2 c2 c3 _ (Nat.le_refl _) (HF2.out.on hb23) (hl3.on hb33) (by rw [HT2.out, ht3]) (Nat.le_refl _) (by omega))
              have HB3 := hid (HB2.out.trans (hb23.mono HB2.out.size))
              have AW := hid (fun w' (hb : Below w.heap.size w w') => awake_any w' (HT.out.below hb))
              clear hb3 hl3 ht3 hle3 D3 D4 D2 hb23 hb33 HB2 HF2 HT2
              go_wp2_with fail
              refine S1.out.mono ?_
              clear S1
              rintro e w4 ⟨rfl, hb4⟩
              have x0 := keep hb4 x0
              have x1 := keep hb4 x1
              have y0 := keep hb4 y0
              have y1 := keep hb4 y1
              have HB4 := hid (HB3.out.trans (hb4.mono HB3.out.size))
              clear hb4 HB3
              go_wp2_with fail
              refine (AW.out w4 HB4.out).mono ?_
              clear AW
              rintro e w5 ⟨rfl, hb5⟩
              have HB5 := hid (HB4.out.trans (hb5.mono HB4.out.size))
              clear hb5
              go_wp2
              go_ret
              exact ⟨rfl, HB5.out⟩
end Go.Proofs.YtcjamlgdidiaeaaDoor.Body
namespace Go.Proofs.YtcjamlgdidiaeaaDoor
open Go.RowKit Go.Proofs.YtcjamlgdidiaeaaDoor.Instr Go.Proofs.YtcjamlgdidiaeaaDoor.Body
theorem bodyDeep_walk (w : World) (x : Int) (_hx : -9223372036854775808 ≤ x ∧ x ≤ 9223372036854775807) (y : Int) (_hy : -9223372036854775808 ≤ y ∧ y ≤ 9223372036854775807) (hT : Nams w) :
    Calls Tryd.prog 5 #[.int .i64 x, .int .i64 y] w fun e w' => e = .returned (.bool true) ∧ Below w.heap.size w w' := deep_any w x y hT
end Go.Proofs.YtcjamlgdidiaeaaDoor
