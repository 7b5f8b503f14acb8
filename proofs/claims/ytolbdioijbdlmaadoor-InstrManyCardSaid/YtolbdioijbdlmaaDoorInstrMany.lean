/-
  INSTR: InstrMany: the walk.
-/
import Derived.Test.YtolbdioijbdlmaaDoorInstrBuild
namespace Go.Proofs.YtolbdioijbdlmaaDoor
open Go.RowKit Go.Proofs.YtolbdioijbdlmaaDoor.Instr

set_option maxRecDepth 100000 in
set_option maxHeartbeats 3200000 in
theorem instrMany_walk (w : World) (m0 : Int) (_b0 : -9223372036854775808 ≤ m0 ∧ m0 ≤ 9223372036854775807) (d0 : Int) (_b1 : -9223372036854775808 ≤ d0 ∧ d0 ≤ 9223372036854775807) (l0 : Int) (_b2 : -9223372036854775808 ≤ l0 ∧ l0 ≤ 9223372036854775807) (hT : Tabs w) :
    Calls Tryd.prog 4 #[.int .i64 m0, .int .i64 d0, .int .i64 l0] w fun e w' => e = .returned (.bool true) ∧ Below w.heap.size w w' := by
  clear _b0 _b1 _b2
  go_enter Tryd.func4, Tryd.ntmps4
  go_wp2_with fail
  refine (Pick_any m0 264000 (by omega) (by omega) w).mono ?_
  rintro e w1 ⟨⟨M, rfl, hM0, hM1⟩, rfl⟩
  go_wp2_with fail
  refine (Pick_any d0 1000 (by omega) (by omega) w).mono ?_
  rintro e w1 ⟨⟨D, rfl, hD0, hD1⟩, rfl⟩
  go_wp2_with fail
  refine (Pick_any l0 20000 (by omega) (by omega) w).mono ?_
  rintro e w1 ⟨⟨L, rfl, hL0, hL1⟩, rfl⟩
  obtain ⟨ln, rfl⟩ : ∃ ln : Nat, L = ln := ⟨L.toNat, by omega⟩
  obtain ⟨wz, hmk, hzh, hzb⟩ := make_zeros infoU32 Tryd.underlying31 w ln (by omega) (by omega)
  have hmk' := hmk ln rfl
  have hzs : w.heap.size < wz.heap.size := (Array.getElem?_eq_some_iff.1 hzh).1
  have hN1 := Nest.first ln (by omega) hzh hzs
  have HN1 := hid hN1
  have hzb' := hid hzb
  clear hmk hzh hN1 hzb
  go_wp2
  have hvals : (kA (List.replicate ln 0) (some ⟨w.heap.size, 0, none⟩) ln).vals = #[.int .i64 14, .int .i64 0, .int .u32 0, .int .u32 0, .int .i32 0, .slice (some ⟨w.heap.size, 0, none⟩) ln ln, .slice none 0 0, .slice none 0 0] := by simp [kA, Ix.vals]
  rw [hvals] at HN1
  have hbz := hzb'.out
  go_loopw [7, 8] (fun sv si wr => ∃ (i g : Nat) (x : Ix) (l : Il), si = .int .i64 i ∧ sv = .slice (some ⟨g, 0, none⟩) 1 1 ∧ Hid (Nest wr g i x l) ∧ 1 ≤ i ∧ ((i : Int) ≤ 1 ∨ (i : Int) ≤ D) ∧ w.heap.size ≤ g ∧ Below w.heap.size w wr)
    (fun _ si _ => 1001 - (intOf si).toNat)
  case atStart =>
    exact ⟨1, wz.heap.size, _, .nil, rfl, rfl, HN1, Nat.le_refl _, .inl (by omega), by omega, thenA hbz _⟩
  case round =>
    obtain ⟨i, g, x, l, rfl, rfl, HN, hi1, hiD, hgw, hbr⟩ := hrel
    by_cases hlt : (i : Int) < D
    · have hnx := hid HN.out.next
      go_wp2
      go_roundw
      case rel =>
        exact ⟨i + 1, wr.heap.size, _, _, by simp, rfl, hnx, by omega, .inr (by omega), by have := HN.out.lt; omega, thenA hbr _⟩
      case measure => simp [intOf]; omega
    · have hiD' : max D 1 = (i : Int) := by omega
      have hge : D ≤ (i : Int) := by omega
      have HID := hid hiD'
      have hg := HN.out.lt
      clear hiD hlt hiD'
      obtain ⟨W1, rfl⟩ : ∃ W1, W1 = wr := ⟨_, rfl⟩
      go_wp2
      go_loopw [7, 9] (fun sv sj w2 => ∃ j : Nat, sj = .int .i64 j ∧ (j : Int) ≤ M ∧ Hid (w2.ownsRow g 34 8 sv (j + 1) (x.vals.toList ++ nopCells j)) ∧ Below g W1 w2 ∧ g ≤ w2.heap.size)
        (fun _ sj _ => 264001 - (intOf sj).toNat)
      case atStart =>
        refine ⟨0, rfl, by omega, ?_, Below.refl _ _, by omega⟩
        show World.ownsRow _ _ _ _ _ _ _
        exact ⟨by simp [nopCells, Ix.vals], .inr ⟨g, 1, x.vals, rfl, Nat.le_refl _, HN.out.box, Nat.le_refl _, by unfold maxLen; omega, by simp [Ix.vals], by simp [nopCells, Ix.vals]⟩⟩
      case round =>
        obtain ⟨j, rfl, hjM, HO, hb2, hg2⟩ := hrel
        by_cases hjlt : (j : Int) < M
        · go_wp2_with (first
            | (at_builtin; refine append_nop rfl (.tmp 33) (.tmp 35) rfl rfl HO.out hb2 hg2 rfl (by omega) ?_; intro v3 w3 ho3 hb3 hg3; refine Hid.out ?_))
          refine hid ?_
          go_wp2
          go_roundw
          case rel =>
            refine ⟨j + 1, by simp, by omega, ?_, hb3, hg3⟩
            show World.ownsRow _ _ _ _ _ _ _
            rw [nopCells_snoc, ← List.append_assoc]
            exact ho3
          case measure => simp [intOf]; omega
        · have hMj : M = (j : Int) := by omega
          subst hMj
          obtain ⟨g', cap, rfl, hL⟩ := many_list HN.out hb2 HO.out
          have hbw : Below w.heap.size w wr := hbr.trans (hb2.mono hgw)
          have hTw := hT.below hbw
          have hgood : GoodT (.cons x l .nil (nops j)) := ⟨HN.out.good, HN.out.goodl, trivial, nops_good j⟩
          have hi := HID.out
          have hcnt : (((Il.cons x l .nil (nops j)).count : Nat) : Int) = max D 1 + (j : Int) := by
            have := HN.out.count
            have := nops_count j
            simp only [Il.count]
            omega
          have hdp : (((Il.cons x l .nil (nops j)).deep : Nat) : Int) = max D 1 := by
            have := HN.out.deep
            have := nops_deep j
            simp only [Il.deep]
            omega
          have hcb : (Il.cons x l .nil (nops j)).count ≤ 4611686018427387900 := by omega
          have hjb : j + 1 ≤ 140737488351232 := by omega
          obtain ⟨t, ht⟩ : ∃ t, Il.cons x l .nil (nops j) = t := ⟨_, rfl⟩
          rw [ht] at hL hgood hcnt hdp hcb
          have K1 := fun w' (hn : Nams w') (hl : ListAt w'.heap.size w' (some ⟨g', 0, none⟩) (j + 1) t) => Check_any _ (j + 1) cap t w' hn hl hcb hjb
          have K2 := fun w' (hl : ListAt w'.heap.size w' (some ⟨g', 0, none⟩) (j + 1) t) => refCheck_any t _ (j + 1) cap w' hl hjb hcb hgood
          have K3 := fun w' (hl : ListAt w'.heap.size w' (some ⟨g', 0, none⟩) (j + 1) t) => Count_any _ (j + 1) cap t w' hl hcb hjb
          have K4 := fun w' (hl : ListAt w'.heap.size w' (some ⟨g', 0, none⟩) (j + 1) t) => Deep_any _ (j + 1) cap t w' hl hcb hjb
          simp only [refP_check hgood] at K1
          simp only [hcnt] at K3
          simp only [hdp] at K4
          obtain ⟨q, hq⟩ : ∃ q, refP t = q := ⟨_, rfl⟩
          simp only [hq] at K1 K2
          obtain ⟨z, hz⟩ : ∃ z : Int, max D 1 = z := ⟨_, rfl⟩
          have hzb : 1 ≤ z ∧ z ≤ 1000 := by omega
          obtain ⟨z0, z1⟩ := hzb
          rw [hz] at K3 K4
          have hwz : IntKind.i64.wrap (z + (j : Int)) = z + (j : Int) := by rw [IntKind.wrap_i64]; omega
          have H1 := hid K1
          have H2 := hid K2
          have H3 := hid K3
          have H4 := hid K4
          clear K1 K2 K3 K4 hq hcnt hdp hgood hcb hjb ht hi HN HO HN1 hvals HID hmk' hzb'
          go_wp2_with fail
          refine (H1.out _ hTw.nm hL).mono ?_
          clear H1
          rintro e w3 ⟨rfl, hb3⟩
          have hL3 := hL.on hb3
          go_wp2_with fail
          refine (H2.out _ hL3).mono ?_
          clear H2
          rintro e w4 ⟨rfl, hb4⟩
          have hL4 := hL3.on hb4
          go_wp2_with fail
          refine (H3.out _ hL4).mono ?_
          clear H3
          rintro e w5 ⟨rfl, hb5⟩
          have hL5 := hL4.on hb5
          go_wp2_with fail
          refine (H4.out _ hL5).mono ?_
          clear H4
          rintro e w6 ⟨rfl, hb6⟩
          have hbE := thenB (thenB (thenB (thenB hbw hb3) hb4) hb5) hb6
          go_wp2_with fail
          refine (awake_any w6 (hT.below hbE)).mono ?_
          rintro e w7 ⟨rfl, hb7⟩
          go_wp2
          go_ret
          exact ⟨rfl, thenB hbE hb7⟩
end Go.Proofs.YtolbdioijbdlmaaDoor
