/-
  MEMORY: the walk of MemoryScript.
-/
import Derived.Test.YtcgjlbpokmlkbaaDoorMemActAny
import Derived.Test.YtcgjlbpokmlkbaaDoorMemLong
import Derived.Deep.QuietTactic
namespace Go.Proofs.YtcgjlbpokmlkbaaDoor
open Go.RowKit Go.Proofs.YtcgjlbpokmlkbaaDoor.Instr Go.Proofs.YtcgjlbpokmlkbaaDoor.Num Go.Proofs.YtcgjlbpokmlkbaaDoor.Mem Go.Proofs.YtcgjlbpokmlkbaaDoor.Kind
set_option linter.unusedVariables false
theorem Mem.RefIs.lower {B B2 : Nat} {W : World} {q K : Nat} {m : Mm} (h : RefIs B W q K m) (hB : B2 ≤ B) : RefIs B2 W q K m := by
  obtain ⟨v, L, hr, r⟩ := h
  exact ⟨v, L, ⟨hr.box, Nat.le_trans hB hr.bq, hr.row.mono hB, hr.rising, hr.ok, hr.len⟩, r⟩
theorem Mem.RefIs.cells {B : Nat} {W : World} {q K : Nat} {m : Mm} (h : RefIs B W q K m) : W.cell? ⟨q, 0, none⟩ = some (.int .u32 m.n) ∧ W.cell? ⟨q, 1, none⟩ = some (.int .u32 m.most) := by
  obtain ⟨v, L, hr, r⟩ := h
  exact ⟨hr.cells.1, hr.cells.2.1⟩
/-- What both sides make of limits that are right. -/
theorem Mem.new_both (n x : Nat) (c : Bool) (he : codeLim n x c 65536 = 0) : ∃ t, (∀ W, Calls Tryd.prog 10 #[.agg #[.int .u32 n, .int .u32 x, .bool c]] W (NewTo W n t)) ∧
    ∀ W, Calls Tryd.prog 11 #[.agg #[.int .u32 n, .int .u32 x, .bool c]] W (NewRef W n t) := by
  cases c
  · exact ⟨65536, fun W => New_false n x W he, fun W => NewRef_false n x W he⟩
  · exact ⟨x, fun W => New_true n x W he, fun W => NewRef_true n x W he⟩
set_option maxRecDepth 100000 in
set_option maxHeartbeats 4000000 in
theorem memoryScript_walk (W : World) (n : Int) (hn : 0 ≤ n ∧ n ≤ 4294967295) (x : Int) (hx : 0 ≤ x ∧ x ≤ 4294967295) (c : Bool) (a : Option Addr) (len cap : Nat) (l : List AT) (hl : l.length = len) (hbig : len ≤ 140737488351232) (hr : Stk.Rows W.heap.size W a 6 (l.map AT.vs)) (hg : ∀ y ∈ l, y.Good W.heap.size W) (hT : Arit W) :
    Calls Tryd.prog 3 #[.agg #[.int .u32 n, .int .u32 x, .bool c], .slice a len cap] W fun e w' => e = .returned (.bool true) ∧ Below W.heap.size W w' := by
  subst hl
  obtain ⟨n', rfl⟩ : ∃ n' : Nat, n = (n' : Int) := ⟨n.toNat, by omega⟩
  obtain ⟨x', rfl⟩ : ∃ x' : Nat, x = (x' : Int) := ⟨x.toNat, by omega⟩
  have hb0 := thenA (Below.refl W.heap.size W) (.cells #[.int .u32 n', .int .u32 x', .bool c] 24)
  have CL := hid (long_any (W := W.alloc (.cells #[.int .u32 n', .int .u32 x', .bool c] 24)) (c := cap) (hr.below hb0) hbig (fun y hy => (hg y hy).v))
  have k0 : (W.alloc (.cells #[.int .u32 n', .int .u32 x', .bool c] 24)).cell? ⟨W.heap.size, 0, none⟩ = some (.int .u32 n') := by go_simp
  have k1 : (W.alloc (.cells #[.int .u32 n', .int .u32 x', .bool c] 24)).cell? ⟨W.heap.size, 1, none⟩ = some (.int .u32 x') := by go_simp
  have k2 : (W.alloc (.cells #[.int .u32 n', .int .u32 x', .bool c] 24)).cell? ⟨W.heap.size, 2, none⟩ = some (.bool c) := by go_simp
  have HK := hid (show _ ∧ _ ∧ _ from ⟨k0, k1, k2⟩)
  have HB0 := hid hb0
  have HR := hid hr
  have HG := hid hg
  have HT := hid hT
  have HBIG := hid hbig
  obtain ⟨N, hN⟩ : ∃ N, l.length = N := ⟨_, rfl⟩
  have HN := hid hN
  rw [hN] at CL ⊢
  have hNb : (N : Int) ≤ 140737488351232 := by omega
  clear hb0 k0 k1 k2 hr hg hT hbig hx hN
  go_enter Tryd.func3, Tryd.ntmps3
  go_wp2_with fail
  refine CL.out.mono ?_
  rintro e w1 ⟨hcase, hb1⟩
  have HB1 := hid (thenB HB0.out hb1)
  have HK1 := hid (show _ ∧ _ ∧ _ from ⟨keep hb1 HK.out.1, keep hb1 HK.out.2.1, keep hb1 HK.out.2.2⟩)
  clear HK HB0 hb1 CL
  rcases hcase with rfl | ⟨rfl, hN60, hbl⟩
  · go_wp2
    go_ret
    exact ⟨rfl, HB1.out⟩
  have HN60 := hid hN60
  have HBL := hid hbl
  have hk0 := HK1.out.1
  have CM := hid (many_any n' w1)
  clear hN60 hbl
  go_wp2_with fail
  refine CM.out.mono ?_
  rintro e w2 ⟨rfl, rfl⟩
  clear CM hk0
  rcases Bool.eq_false_or_eq_true (manyP n') with hmp | hmp
  · rw [hmp]
    go_wp2
    go_ret
    exact ⟨rfl, HB1.out⟩
  rw [hmp]
  clear hmp
  obtain ⟨hk0, hk1, hk2⟩ := HK1.out
  obtain ⟨e0, he⟩ : ∃ e0, codeLim n' x' c 65536 = e0 := ⟨_, rfl⟩
  by_cases hz : e0 = 0
  · subst hz
    obtain ⟨t, C1, C2⟩ := new_both n' x' c he
    have H1 := hid C1
    have H2 := hid C2
    clear he C1 C2
    go_wp2_with fail
    refine (H1.out _).mono ?_
    rintro e w2 ⟨p, rfl, hm, hb2⟩
    have hk0' := keep hb2 hk0
    have hk1' := keep hb2 hk1
    have hk2' := keep hb2 hk2
    have HM2 := hid (hm.lower HB1.out.size)
    have HB2 := hid (thenB HB1.out hb2)
    clear HK1 hk0 hk1 hk2 hm hb2 H1 HB1
    go_wp2_with fail
    refine (H2.out _).mono ?_
    rintro e w3 ⟨q, rfl, hi, hb3⟩
    have HI3 := hid (hi.lower HB2.out.size)
    have HM3 := hid (HM2.out.below hb3)
    have HB3 := hid (thenB HB2.out hb3)
    clear hk0' hk1' hk2' hi hb3 H2 HB2 HM2
    go_wp2
    go_loopw [9] (fun vi wr => ∃ i : Nat, vi = .int .i64 i ∧ i ≤ N ∧ Hid (∃ m, MemIs W.heap.size wr p (300 * i) m ∧ RefIs W.heap.size wr q (300 * i) m) ∧ Hid (Below W.heap.size W wr)) (fun vi _ => N - (intOf vi).toNat)
    case atStart => exact ⟨0, rfl, Nat.zero_le _, hid ⟨_, HM3.out, HI3.out⟩, HB3⟩
    case round =>
      clear HM3 HI3 HB3
      obtain ⟨i, rfl, hi, HMI, HB⟩ := hrel
      by_cases h1 : i < N
      · have h1' : (i : Int) < (N : Int) := by omega
        have hil : i < l.length := by rw [HN.out]; exact h1
        obtain ⟨b, off, ha, hbb, c0, c1, c2, c3, c4, c5⟩ := acts_cells (HR.out.below HB.out) hil
        have hgi := HG.out l[i] (List.getElem_mem _)
        have hbi := HBL.out l[i] (List.getElem_mem _)
        obtain ⟨y, hy⟩ : ∃ y, l[i] = y := ⟨_, rfl⟩
        rw [hy] at c0 c1 c2 c3 c4 c5 hgi hbi
        clear hy hil
        obtain ⟨m, hm, hr⟩ := HMI.out
        have HM := hid hm
        have HI := hid hr
        obtain ⟨q0, q1⟩ := hr.cells
        have hok := hm.ok
        have HA := hid (fun (w' : World) (hb : Below wr.heap.size wr w') => act_any (hm.below hb) (hr.below hb) (Nat.le_trans HB.out.size hb.size) ((HT.out.below HB.out).below hb) y ((hgi.below' HB.out).below hb) hbi (by have := HN60.out; omega))
        obtain ⟨k, op, xx, oo, v, ba, bl, bc, zs⟩ := y
        simp only [AT.agg] at HA c0 c1 c2 c3 c4 c5
        have hv := hgi.v
        simp only at hv
        subst ha
        clear hgi hbi hm hr HMI
        obtain ⟨hv0, hv1⟩ := hv
        have hmn : m.n ≤ m.most := hok.n
        have hmm : m.most ≤ 65536 := hok.most
        obtain ⟨r, hrr⟩ : ∃ r : Nat, (r : Int) = (m.most : Int) - (m.n : Int) := ⟨m.most - m.n, by omega⟩
        have hw1 : IntKind.u32.wrap ((m.most : Int) - (m.n : Int)) = (r : Int) := by rw [IntKind.wrap_u32]; omega
        by_cases hk2 : k = 2
        · subst hk2
          by_cases hvr : v ≤ (r : Int)
          · obtain ⟨u, huu⟩ : ∃ u : Nat, (u : Int) = (m.n : Int) + v := ⟨((m.n : Int) + v).toNat, by omega⟩
            have hw2 : IntKind.u32.wrap ((m.n : Int) + v) = (u : Int) := by rw [IntKind.wrap_u32]; omega
            have hd1 : decide (v ≤ (r : Int)) = true := by simpa using hvr
            by_cases hu : (64 : Int) < (u : Int)
            · have hd2 : decide ((64 : Int) < (u : Int)) = true := by simpa using hu
              clear HA hok hmn hmm hrr huu hvr hu hv0 hv1
              go_wp2
              go_quiet (fail)
              go_wp2_with fail
              refine (awake_any _ (HT.out.below (drewnK HB.out))).mono ?_
              rintro e w4 ⟨rfl, hb4⟩
              have HB4 := hid ((drewnK HB.out).trans (hb4.mono HB.out.size))
              clear hb4
              go_wp2
              go_ret
              exact ⟨rfl, HB4.out⟩
            · have hd2 : decide ((64 : Int) < (u : Int)) = false := by simpa using hu
              clear hok hmn hmm hrr huu hvr hu hv0 hv1
              go_wp2
              go_quiet (fail)
              go_wp2
              have C11 := hid (HA.out (wr.drewN nq).drew (drewnK (Below.refl _ _)).drew)
              have HB11 := hid (show Below W.heap.size W (wr.drewN nq).drew from (drewnK HB.out).drew)
              replace c0 : (wr.drewN nq).cell? _ = _ := c0
              replace c1 : (wr.drewN nq).cell? _ = _ := c1
              replace c2 : (wr.drewN nq).cell? _ = _ := c2
              replace c3 : (wr.drewN nq).cell? _ = _ := c3
              replace c4 : (wr.drewN nq).cell? _ = _ := c4
              replace c5 : (wr.drewN nq).cell? _ = _ := c5
              clear HA HM HI HB q0 q1
              generalize wr.drewN nq = wz at *
              go_region_with (first
                | (go_at_call 12; refine C11.out.mono ?_; rintro e w5 ⟨rfl, m5, hm5, hi5, hb5⟩; have z0 := hi5.cells.1)
                | (go_at_call 13; refine (Pages_any hm5).mono ?_; rintro e w6 ⟨rfl, rfl⟩))
              all_goals
                go_wp2
                go_roundw
                case rel => exact ⟨i + 1, by go_num, by omega, hid ⟨m5, hm5.mono (by omega), hi5.mono (by omega)⟩, hid (HB11.out.trans hb5)⟩
                case measure => simp [intOf]; omega
          · have hd1 : decide (v ≤ (r : Int)) = false := by simpa using hvr
            clear hok hmn hmm hrr hvr hv0 hv1
            go_wp2
            go_quiet (fail)
            go_wp2
            have C11 := hid (HA.out (wr.drewN nq).drew (drewnK (Below.refl _ _)).drew)
            have HB11 := hid (show Below W.heap.size W (wr.drewN nq).drew from (drewnK HB.out).drew)
            replace c0 : (wr.drewN nq).cell? _ = _ := c0
            replace c1 : (wr.drewN nq).cell? _ = _ := c1
            replace c2 : (wr.drewN nq).cell? _ = _ := c2
            replace c3 : (wr.drewN nq).cell? _ = _ := c3
            replace c4 : (wr.drewN nq).cell? _ = _ := c4
            replace c5 : (wr.drewN nq).cell? _ = _ := c5
            clear HA HM HI HB q0 q1
            generalize wr.drewN nq = wz at *
            go_region_with (first
              | (go_at_call 12; refine C11.out.mono ?_; rintro e w5 ⟨rfl, m5, hm5, hi5, hb5⟩; have z0 := hi5.cells.1)
              | (go_at_call 13; refine (Pages_any hm5).mono ?_; rintro e w6 ⟨rfl, rfl⟩))
            all_goals
              go_wp2
              go_roundw
              case rel => exact ⟨i + 1, by go_num, by omega, hid ⟨m5, hm5.mono (by omega), hi5.mono (by omega)⟩, hid (HB11.out.trans hb5)⟩
              case measure => simp [intOf]; omega
        · have hd0 : (k == 2) = false := by simpa using hk2
          clear hok hmn hmm hrr hv0 hv1 hk2
          go_wp2
          go_quiet (fail)
          go_wp2
          have C11 := hid (HA.out (wr.drewN nq).drew (drewnK (Below.refl _ _)).drew)
          have HB11 := hid (show Below W.heap.size W (wr.drewN nq).drew from (drewnK HB.out).drew)
          replace c0 : (wr.drewN nq).cell? _ = _ := c0
          replace c1 : (wr.drewN nq).cell? _ = _ := c1
          replace c2 : (wr.drewN nq).cell? _ = _ := c2
          replace c3 : (wr.drewN nq).cell? _ = _ := c3
          replace c4 : (wr.drewN nq).cell? _ = _ := c4
          replace c5 : (wr.drewN nq).cell? _ = _ := c5
          clear HA HM HI HB q0 q1
          generalize wr.drewN nq = wz at *
          go_region_with (first
            | (go_at_call 12; refine C11.out.mono ?_; rintro e w5 ⟨rfl, m5, hm5, hi5, hb5⟩; have z0 := hi5.cells.1)
            | (go_at_call 13; refine (Pages_any hm5).mono ?_; rintro e w6 ⟨rfl, rfl⟩))
          all_goals
            go_wp2
            go_roundw
            case rel => exact ⟨i + 1, by go_num, by omega, hid ⟨m5, hm5.mono (by omega), hi5.mono (by omega)⟩, hid (HB11.out.trans hb5)⟩
            case measure => simp [intOf]; omega
      · obtain rfl : N = i := by omega
        clear HMI
        go_wp2_with fail
        refine (awake_any wr (HT.out.below HB.out)).mono ?_
        rintro e w4 ⟨rfl, hb4⟩
        have HB4 := hid (HB.out.trans (hb4.mono HB.out.size))
        clear hb4
        go_wp2
        go_ret
        exact ⟨rfl, HB4.out⟩
  · have HE := hid he
    have C1 := hid (fun W => New_no n' x' c e0 W he hz)
    have C2 := hid (fun W => NewRef_no n' x' c e0 W he hz)
    clear he
    go_wp2_with fail
    refine (C1.out _).mono ?_
    rintro e w2 ⟨rfl, hb2⟩
    have hk0' := keep hb2 hk0
    have hk1' := keep hb2 hk1
    have hk2' := keep hb2 hk2
    have HB2 := hid (thenB HB1.out hb2)
    clear HK1 hk0 hk1 hk2 hb2 C1 HB1
    go_wp2_with fail
    refine (C2.out _).mono ?_
    rintro e w3 ⟨rfl, hb3⟩
    have HB3 := hid (thenB HB2.out hb3)
    clear hk0' hk1' hk2' hb3 C2 HB2
    go_wp2
    go_loopw [9] (fun vi wr => vi = .int .i64 0 ∧ wr = w3) (fun _ _ => 0)
    case atStart => exact ⟨rfl, rfl⟩
    case round =>
      obtain ⟨rfl, rfl⟩ := hrel
      go_wp2_with fail
      refine (awake_any wr (HT.out.below HB3.out)).mono ?_
      rintro e w4 ⟨rfl, hb4⟩
      have HB4 := hid (thenB HB3.out hb4)
      clear hb4
      go_wp2
      go_ret
      exact ⟨rfl, HB4.out⟩
end Go.Proofs.YtcgjlbpokmlkbaaDoor
