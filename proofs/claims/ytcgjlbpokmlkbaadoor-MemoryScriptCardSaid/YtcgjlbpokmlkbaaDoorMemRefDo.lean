/-
  MEMORY: the document's find, get, there, bytes by contracts.
-/
import Derived.Test.YtcgjlbpokmlkbaaDoorMemRefAt
import Derived.Deep.QuietTactic
namespace Go.Proofs.YtcgjlbpokmlkbaaDoor.Mem
open Go.RowKit Go.Proofs.YtcgjlbpokmlkbaaDoor.Instr Go.Proofs.YtcgjlbpokmlkbaaDoor.Num
set_option linter.unusedVariables false

set_option maxHeartbeats 1000000 in
theorem ret_int2 {k : IntKind} {a b : Int} (h : a = b) : Ending.returned (.int k a) = .returned (.int k b) := by rw [h]
theorem drewnQ {B n : Nat} {a w : World} (h : Below B a w) : Below B a (w.drewN n) := ⟨h.os, h.tape, h.output, h.size, h.block⟩
theorem find_any {B : Nat} {W : World} {q : Nat} {v : Value} {L : List (Nat × Int)} {n most : Nat} (h : RefAt B W q v L n most) (a : Nat) (ha : a ≤ 8589934592) :
    Calls Tryd.prog 47 #[.pointer (some ⟨q, 0, none⟩), .int .i64 a] W fun e w' => (∃ i, Spot L a i ∧ e = .returned (.tuple #[.int .i64 i, .bool (isAt L a i)])) ∧ Below W.heap.size W w' := by
  obtain ⟨g, c, ad, rfl, hlc, had, hcell⟩ := h.slice
  have c2 := h.cells.2.2
  have hlen := h.len
  have HR := hid h.rising
  have HC := hid hcell
  have HAD := hid had
  have HLEN := hid hlen
  obtain ⟨N, hN⟩ : ∃ N, L.length = N := ⟨_, rfl⟩
  have HN := hid hN
  rw [hN] at c2 hlc hlen
  have hlcI : (N : Int) ≤ (c : Int) := by omega
  obtain ⟨A, hA⟩ : ∃ A : Int, (a : Int) = A := ⟨_, rfl⟩
  rw [hA]
  have HA := hid hA
  clear h hcell had hN hA ha
  go_enter Tryd.func47, Tryd.ntmps47
  go_wp2
  go_region
  go_wp2
  have c2d : W.drew.cell? ⟨q, 2, none⟩ = some (.slice ad N c) := c2
  go_loopw [6, 7] (fun v1 v2 wr => ∃ lo hi : Nat, v1 = .int .i64 lo ∧ v2 = .int .i64 hi ∧ lo ≤ hi ∧ hi ≤ N ∧ Hid ((∀ j, j < lo → (L.getD j (0, 0)).1 < a) ∧ (∀ j, hi ≤ j → j < L.length → a ≤ (L.getD j (0, 0)).1)) ∧ wr = W.drew) (fun v1 v2 _ => (intOf v2).toNat - (intOf v1).toNat)
  case atStart => exact ⟨0, N, rfl, rfl, Nat.zero_le _, Nat.le_refl _, ⟨fun j hj => absurd hj (Nat.not_lt_zero _), fun j h1 h2 => by have := HN.out; omega⟩, rfl⟩
  case round =>
    obtain ⟨lo, hi, rfl, rfl, hlh, hhn, HB, rfl⟩ := hrel
    by_cases hlt : lo < hi
    · have hltI : (lo : Int) < (hi : Int) := by omega
      obtain ⟨mid, hmid⟩ : ∃ mid : Nat, (lo + hi) / 2 = mid := ⟨_, rfl⟩
      have hm1 : lo ≤ mid := by omega
      have hm2 : mid < hi := by omega
      have hq1 : ((lo : Int) + (hi : Int)) / 2 = (mid : Int) := by omega
      have hq2 : ((lo : Int) + (hi : Int)).tdiv 2 = (mid : Int) := by rw [Int.tdiv_eq_ediv_of_nonneg (by omega)]; exact hq1
      have hmN : (mid : Int) < (N : Int) := by omega
      have hml : mid < L.length := by rw [HN.out]; omega
      have hadd := HAD.out (by omega)
      subst hadd
      have k0 : W.drew.cell? ⟨g, mid * 2, none⟩ = some (.int .i64 (L.getD mid (0, 0)).1) := (HC.out mid hml).1
      have HRI := hid (fun j (h1 : j < mid) => HR.out.lt h1 hml)
      have HRJ := hid (fun j (h1 : mid < j) (h2 : j < L.length) => HR.out.lt h1 h2)
      have HHI := hid (show (hi : Int) ≤ 1000000 ∧ (lo : Int) ≤ 1000000 from by omega)
      obtain ⟨hb1, hb2⟩ := HHI.out
      obtain ⟨x, hx⟩ : ∃ x : Nat, (L.getD mid (0, 0)).1 = x := ⟨_, rfl⟩
      rw [hx] at k0
      have HX := hid hx
      obtain ⟨X, hX⟩ : ∃ X : Int, (x : Int) = X := ⟨_, rfl⟩
      rw [hX] at k0
      have HXX := hid hX
      clear hmid hx hX HHI hml
      by_cases hxa : X < A
      · go_wp2
        go_roundw
        case rel =>
          refine ⟨mid + 1, hi, by go_num, rfl, by omega, hhn, ⟨fun j hj => ?_, HB.out.2⟩, by first | rfl | trivial⟩
          have h1 := HX.out
          have h2 := HXX.out
          have h3 := HA.out
          by_cases hjm : j = mid
          · rw [hjm, h1]; omega
          · have := HRI.out j (by omega)
            omega
        case measure => simp [intOf]; omega
      · go_wp2
        go_roundw
        case rel =>
          refine ⟨lo, mid, rfl, rfl, hm1, by omega, ⟨HB.out.1, fun j h5 h6 => ?_⟩, by first | rfl | trivial⟩
          have h1 := HX.out
          have h2 := HXX.out
          have h3 := HA.out
          by_cases hjm : j = mid
          · rw [hjm, h1]; omega
          · have := HRJ.out j (by omega) h6
            omega
        case measure => simp [intOf]; omega
    · obtain rfl : hi = lo := by omega
      have hn : ¬ (hi : Int) < (hi : Int) := by omega
      have HSP : Hid (Spot L a hi) := hid ⟨by rw [HN.out]; exact hhn, HB.out.1, HB.out.2⟩
      clear HB hlt
      by_cases hin : hi < N
      · have hiI : (hi : Int) < (N : Int) := by omega
        have hil : hi < L.length := by rw [HN.out]; omega
        have hadd := HAD.out (by omega)
        subst hadd
        have k0 : W.drew.cell? ⟨g, hi * 2, none⟩ = some (.int .i64 (L.getD hi (0, 0)).1) := (HC.out hi hil).1
        have HIS : Hid (isAt L a hi = decide ((L.getD hi (0, 0)).1 = a)) := hid (by unfold isAt; simp [hil])
        obtain ⟨x, hx⟩ : ∃ x : Nat, (L.getD hi (0, 0)).1 = x := ⟨_, rfl⟩
        rw [hx] at k0 HIS
        have k0d : W.drew.drew.cell? ⟨g, hi * 2, none⟩ = some (.int .i64 x) := k0
        have c2e : W.drew.drew.cell? ⟨q, 2, none⟩ = some (.slice (some ⟨g, 0, none⟩) N c) := c2
        clear hx hil
        go_wp2
        go_region
        go_wp2
        go_ret2
        refine ⟨⟨hi, HSP.out, ?_⟩, (Below.refl _ _).drew.drew⟩
        have h3 := HA.out
        have h4 := HIS.out
        have e : decide (x = a) = ((x : Int) == A) := by
          rw [← h3]
          by_cases hh : x = a
          · subst hh; simp
          · simp [hh]; omega
        rw [h4, e]
        rfl
      · have hiI : ¬ (hi : Int) < (N : Int) := by omega
        have HIS : Hid (isAt L a hi = false) := hid (by unfold isAt; have := HN.out; simp; omega)
        have c2e : W.drew.drew.cell? ⟨q, 2, none⟩ = some (.slice ad N c) := c2
        go_wp2
        go_region
        go_wp2
        go_ret2
        refine ⟨⟨hi, HSP.out, ?_⟩, (Below.refl _ _).drew.drew⟩
        rw [HIS.out]
        rfl
set_option maxHeartbeats 1000000 in
theorem get_ref {B : Nat} {W : World} {q : Nat} {v : Value} {L : List (Nat × Int)} {n most : Nat} (h : RefAt B W q v L n most) (a : Nat) (ha : a ≤ 8589934592) :
    Calls Tryd.prog 44 #[.pointer (some ⟨q, 0, none⟩), .int .i64 a] W fun e w' => e = .returned (.int .u8 (valL L a)) ∧ Below W.heap.size W w' := by
  have C := hid (find_any h a ha)
  have HR := hid h
  have hlen := h.len
  obtain ⟨A, hA⟩ : ∃ A : Int, (a : Int) = A := ⟨_, rfl⟩
  rw [hA] at C ⊢
  clear h hA ha
  go_enter Tryd.func44, Tryd.ntmps44
  go_wp2_with fail
  refine C.out.mono ?_
  rintro e w1 ⟨⟨i, hsp, rfl⟩, hb⟩
  have HV := hid (hsp.val HR.out.rising)
  have HB := hid hb
  cases hi : isAt L a i
  · have HV2 : Hid (valL L a = 0) := hid (by rw [HV.out, hi]; rfl)
    clear HV hi hsp C hb
    go_wp2
    go_ret
    exact ⟨ret_int2 HV2.out.symm, HB.out⟩
  · have HV2 : Hid (valL L a = (L.getD i (0, 0)).2) := hid (by rw [HV.out, hi]; rfl)
    have hi2 : i < L.length := by simp [isAt] at hi; exact hi.1
    have h1 := HR.out.below hb
    obtain ⟨g, c, ad, rfl, hlc, had, hcell⟩ := h1.slice
    have hadd := had (by omega)
    subst hadd
    have c2 := h1.cells.2.2
    have k1 := (hcell i hi2).2
    obtain ⟨u, hu⟩ : ∃ u, (L.getD i (0, 0)).2 = u := ⟨_, rfl⟩
    rw [hu] at k1 HV2
    have hiI : (i : Int) < (L.length : Int) := by omega
    obtain ⟨N, hN⟩ : ∃ N, L.length = N := ⟨_, rfl⟩
    rw [hN] at c2 hiI hlc hlen
    have hib : (i : Int) ≤ 1000000 := by omega
    have hlcI : (N : Int) ≤ (c : Int) := by omega
    clear h1 had hcell hu hN hi hi2 HV hsp C hb HR
    go_wp2
    go_ret
    exact ⟨ret_int2 HV2.out.symm, HB.out⟩
theorem there_any {B : Nat} {W : World} {q : Nat} {v : Value} {L : List (Nat × Int)} {n most : Nat} (h : RefAt B W q v L n most) (a k : Int) (ha : 0 ≤ a ∧ a ≤ 8589934592) (hk : 0 ≤ k ∧ k ≤ 140737488351232) (hn : n ≤ 65536) :
    Calls Tryd.prog 43 #[.pointer (some ⟨q, 0, none⟩), .int .i64 a, .int .i64 k] W fun e w' => e = .returned (.bool (decide (a + k ≤ (n : Int) * 65536))) ∧ W = w' := by
  have c0 := h.cells.1
  obtain ⟨N, hN⟩ : ∃ N : Int, (n : Int) = N := ⟨_, rfl⟩
  have hNb : 0 ≤ N ∧ N ≤ 65536 := by omega
  obtain ⟨N0, N1⟩ := hNb
  obtain ⟨a0, a1⟩ := ha
  obtain ⟨k0, k1⟩ := hk
  rw [hN] at c0 ⊢
  clear h hN hn
  go_enter Tryd.func43, Tryd.ntmps43
  go_wp2
  go_ret
  exact ⟨by simp, rfl⟩
theorem bytes_any (op : Int) (w : World) : Calls Tryd.prog 42 #[.int .i64 op] w fun e w' => e = .returned (.int .i64 (if storedP op then (wd op : Int) else 0)) ∧ w = w' := by
  have C := refAlign_any op w
  rcases alignP_wd op with ⟨h1, h2⟩ | ⟨h1, h2⟩ | ⟨h1, h2⟩ <;> rw [h1] at C <;> rw [h2] <;> clear h1 h2 <;> cases hst : storedP op <;> rw [hst] at C <;> clear hst
  all_goals
    have C := hid C
    go_enter Tryd.func42, Tryd.ntmps42
    go_wp2_with fail
    refine C.out.mono ?_
    rintro e w1 ⟨rfl, rfl⟩
    go_wp2
    go_ret
    exact ⟨by simp, rfl⟩
end Go.Proofs.YtcgjlbpokmlkbaaDoor.Mem
