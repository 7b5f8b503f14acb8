/-
  MEMORY: are the calls too many, or too long?
-/
import Derived.Test.YtcgjlbpokmlkbaaDoorMemActs
namespace Go.Proofs.YtcgjlbpokmlkbaaDoor.Mem
open Go.RowKit Go.Proofs.YtcgjlbpokmlkbaaDoor.Instr Go.Proofs.YtcgjlbpokmlkbaaDoor.Num
set_option linter.unusedVariables false

set_option maxRecDepth 100000 in
set_option maxHeartbeats 4000000 in
theorem long_any {n₀ : Nat} {W : World} {a : Option Addr} {c : Nat} {l : List AT} (h : Stk.Rows n₀ W a 6 (l.map AT.vs)) (hlen : l.length ≤ 140737488351232) (hg : ∀ y ∈ l, 0 ≤ y.v ∧ y.v ≤ 4294967295) :
    Calls Tryd.prog 8 #[.slice a l.length c] W fun e w' => (e = .returned (.bool true) ∨ (e = .returned (.bool false) ∧ l.length ≤ 60 ∧ ∀ y ∈ l, y.bl ≤ 300)) ∧ Below W.heap.size W w' := by
  have H := hid h
  have HG := hid hg
  have HL := hid hlen
  obtain ⟨N, hN⟩ : ∃ N, l.length = N := ⟨_, rfl⟩
  have HN := hid hN
  rw [hN]
  have hNb : (N : Int) ≤ 140737488351232 := by omega
  clear h hg hlen hN
  go_enter Tryd.func8, Tryd.ntmps8
  go_wp2
  go_loopw [3] (fun vi wr => ∃ i : Nat, vi = .int .i64 i ∧ i ≤ N ∧ i ≤ 61 ∧ Hid (∀ j (hj : j < l.length), j < i → l[j].bl ≤ 300) ∧ wr = W) (fun vi _ => N - (intOf vi).toNat)
  case atStart => exact ⟨0, rfl, Nat.zero_le _, by omega, hid (fun j hj h0 => by omega), rfl⟩
  case round =>
    obtain ⟨i, rfl, hi, hi61, HA, rfl⟩ := hrel
    by_cases h1 : i < N
    · have h1' : (i : Int) < (N : Int) := by omega
      by_cases h2 : i < 61
      · have h2' : (i : Int) < 61 := by omega
        have hil : i < l.length := by rw [HN.out]; exact h1
        obtain ⟨b, off, ha, hb, c0, q1, q2, q3, c4, c5⟩ := acts_cells H.out hil
        obtain ⟨y, hy⟩ : ∃ y, l[i] = y := ⟨_, rfl⟩
        have hv := HG.out l[i] (List.getElem_mem _)
        rw [hy] at c0 c4 c5 hv
        have HY := hid hy
        obtain ⟨k, op, x, o, v, ba, bl, bc, zs⟩ := y
        simp only at c0 c4 c5 hv
        obtain ⟨v0, v1⟩ := hv
        subst ha
        clear q1 q2 q3
        clear hy hb h2
        by_cases h3 : (300 : Int) < (bl : Int)
        · go_wp2
          go_ret
          exact ⟨.inl rfl, Below.refl _ _⟩
        · have hstep : Hid (∀ j (hj : j < l.length), j < i + 1 → l[j].bl ≤ 300) := by
            refine hid (fun j hj h0 => ?_)
            by_cases hji : j = i
            · subst hji; rw [HY.out]; show bl ≤ 300; omega
            · exact HA.out j hj (by omega)
          clear HA HY hil
          by_cases h4 : k = 3
          · subst h4
            by_cases h5 : 2000 < v
            · by_cases h6 : v ≤ 1048576
              · go_wp2
                go_ret
                exact ⟨.inl rfl, Below.refl _ _⟩
              · go_wp2
                go_roundw
                case rel => exact ⟨i + 1, by go_num, by omega, by omega, hstep, trivial⟩
                case measure => simp [intOf]; omega
            · go_wp2
              go_roundw
              case rel => exact ⟨i + 1, by go_num, by omega, by omega, hstep, trivial⟩
              case measure => simp [intOf]; omega
          · have h4' : (k == 3) = false := by simpa using h4
            go_wp2
            go_roundw
            case rel => exact ⟨i + 1, by go_num, by omega, by omega, hstep, trivial⟩
            case measure => simp [intOf]; omega
      · have h2' : ¬ (i : Int) < 61 := by omega
        have h60 : (60 : Int) < (N : Int) := by omega
        clear HA
        go_wp2
        go_ret
        exact ⟨.inl (ret_bool (by simp)), Below.refl _ _⟩
    · obtain rfl : N = i := by omega
      by_cases h60 : (60 : Int) < (N : Int)
      · clear HA
        go_wp2
        go_ret
        exact ⟨.inl rfl, Below.refl _ _⟩
      · have HF : Hid (N ≤ 60 ∧ ∀ y ∈ l, y.bl ≤ 300) := hid ⟨by omega, fun y hy => by
          obtain ⟨j, hj, rfl⟩ := List.mem_iff_getElem.1 hy
          exact HA.out j hj (by rw [HN.out] at hj; exact hj)⟩
        clear HA
        go_wp2
        go_ret
        exact ⟨.inr ⟨rfl, HF.out⟩, Below.refl _ _⟩
end Go.Proofs.YtcgjlbpokmlkbaaDoor.Mem
