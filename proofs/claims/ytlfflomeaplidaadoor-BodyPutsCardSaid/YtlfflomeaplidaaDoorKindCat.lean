/-
  slices.Grow of the nil slice, slices.Concat of slices of bytes: by contracts.
-/
import Derived.Test.YtlfflomeaplidaaDoorAppend
import Derived.Lib.AppendZeros
namespace Go.Proofs.YtlfflomeaplidaaDoor.Kind
open Go.RowKit

theorem own_new (w : World) (n : Nat) (xs : Array Value) (hs : xs.size = n) (hm : n ≤ maxLen) :
    Own w.heap.size (w.drew.alloc (.cells xs 5)) (.slice (some ⟨w.heap.size, 0, none⟩) 0 n) [] := by
  refine ⟨rfl, .inr ⟨w.heap.size, n, xs, rfl, Nat.le_refl _, ?_, Nat.zero_le _, hm, by omega, by simp⟩⟩
  show (w.heap.push _)[w.heap.size]? = _
  simp

set_option maxHeartbeats 800000 in
theorem grow_any (n : Nat) (h0 : 0 < n) (hn : n ≤ 1000000) (w : World) :
    Calls Tryd.prog 71 #[.slice none 0 0, .int .i64 n] w (Gives w []) := by
  obtain ⟨i0, hi, hz0, hz1, hz2⟩ := info_parts infoByte
  have hr := fun ty => Lib.run_append_nil_zeros w 27 3 ty 5 i0 (.int .u8 0) .i64 .i64 Tryd.underlying27 Tryd.underlying3 hi hz0 n h0 (by omega) (by omega) (by rw [hz2]; omega)
  have hG : n ≤ grownCap w n 0 5 := grownCap_ge w _ _ _
  have hG2 := grownCap_le_maxLen w n 0 5 (by unfold maxLen; omega)
  have hown := fun xs hs => own_new w (grownCap w n 0 5) xs hs hG2
  have hsz : (Builtin.zeroCells (Value.int IntKind.u8 0).cells n ++ Builtin.zeroCells (Value.int IntKind.u8 0).cells (grownCap w n 0 5 - n)).size = grownCap w n 0 5 := by
    simp [Builtin.zeroCells, Value.cells]; omega
  have hown := hown _ hsz
  generalize grownCap w n 0 5 = G at *
  generalize Builtin.zeroCells (Value.int IntKind.u8 0).cells n ++ Builtin.zeroCells (Value.int IntKind.u8 0).cells (G - n) = xs at *
  have hb : Below w.heap.size w (w.drew.alloc (.cells xs 5)) := (Below.refl _ _).drew.alloc (Nat.le_refl _) _
  have HB := hid hb
  have HO := hid hown
  have hn0 : ¬ ((n : Int) < 0) := by omega
  have hn1 : (0 : Int) < (n : Int) := by omega
  have hi1 : (0 : Int) ≤ (G : Int) := by omega
  have hm : (G : Int) ≤ 9223372036854775807 := by unfold maxLen at hG2; omega
  clear hb hown hsz hi hz0 hz1 hz2 hG2
  generalize w.drew.alloc (.cells xs 5) = w9 at *
  go_enter Tryd.func71, Tryd.ntmps71
  go_wp2_with (at_builtin; refine Lib.wpList_append_run _ rfl _ _ _ _ rfl _ _ rfl rfl _ _ (hr _) ?_)
  go_ret
  exact ⟨_, rfl, HO, HB⟩

/-- The cells from ⟨g, 0⟩ on hold slices of these bytes. -/
def Parts (w : World) (g : Nat) (ls : List (List Int)) : Prop := ∀ j, j < ls.length → ∃ a c, w.cell? ⟨g, j, none⟩ = some (.slice a (ls.getD j []).length c) ∧ Bytes w a (ls.getD j []) ∧ (a = none → c = 0)
theorem Parts.below {w w' : World} {g : Nat} {ls : List (List Int)} (h : Parts w g ls) (hb : Below w.heap.size w w') : Parts w' g ls := fun j hj => by
  obtain ⟨a, c, h1, h2, h3⟩ := h j hj
  exact ⟨a, c, keep hb h1, h2.below hb, h3⟩
theorem flat_succ {ls : List (List Int)} {i : Nat} (hi : i < ls.length) : (ls.take (i + 1)).flatten = (ls.take i).flatten ++ ls.getD i [] := by
  rw [List.take_succ_eq_append_getElem hi, List.flatten_append, List.getD_eq_getElem?_getD, List.getElem?_eq_getElem hi]; simp
theorem flat_le (ls : List (List Int)) (i : Nat) : (ls.take i).flatten.length ≤ ls.flatten.length := by
  conv => rhs; rw [← List.take_append_drop i ls, List.flatten_append, List.length_append]
  omega

set_option maxHeartbeats 1600000 in
theorem concat_any (g n cap : Nat) (ls : List (List Int)) (w : World) (hn : ls.length = n) (hp : Parts w g ls) (h0 : 0 < ls.flatten.length) (hmax : ls.flatten.length ≤ 100000) (hn9 : n ≤ 9) :
    Calls Tryd.prog 25 #[.slice (some ⟨g, 0, none⟩) n cap] w (Gives w ls.flatten) := by
  have HN := hid hn
  have HP := hid hp
  have hle := flat_le ls
  have hs := fun i hi => flat_succ (ls := ls) (i := i) hi
  have HLE := hid hle
  have HS := hid hs
  have HA : Hid ((ls.take n).flatten = ls.flatten) := hid (by rw [← hn, List.take_length])
  clear hn hp hle hs
  go_enter Tryd.func25, Tryd.ntmps25
  go_wp2
  go_loop [3, 11] (fun ss si => ∃ i : Nat, i ≤ n ∧ si = .int .i64 i ∧ ss = .int .i64 ((ls.take i).flatten.length : Nat)) (fun _ si => n - (intOf si).toNat)
  case atStart => exact ⟨0, by omega, rfl, rfl⟩
  case round =>
    obtain ⟨i, hi, rfl, rfl⟩ := hrel
    by_cases hlt : i < n
    · obtain ⟨a, c, hc, _, _⟩ := HP.out i (by have := HN.out; omega)
      have h1 := HLE.out (i + 1)
      have h2 := HS.out i (by have := HN.out; omega)
      have h3 := congrArg List.length h2
      rw [List.length_append] at h3
      have H3 := hid h3
      clear h2 h3
      generalize (ls.getD i []).length = p at *
      generalize hq : (ls.take i).flatten.length = q at *
      clear hq
      have hle2 : q + p ≤ 100000 := by have := H3.out; omega
      go_wp2
      go_round
      case rel => exact ⟨i + 1, by omega, by go_num, by rw [H3.out]; go_num⟩
      case measure => simp [intOf]; omega
    · obtain rfl : i = n := by omega
      rw [HA.out]
      obtain ⟨t, ht⟩ : ∃ t, ls.flatten.length = t := ⟨_, rfl⟩
      have HT := hid ht
      rw [ht] at h0 hmax
      rw [ht]
      clear ht
      go_wp2_with fail
      refine (grow_any t h0 (by omega) _).mono ?_
      rintro e w1 ⟨v, rfl, ho, hb⟩
      obtain ⟨a1, c1, rfl⟩ := ho.sliceN (n := 0) rfl
      go_wp2
      go_loopw [6, 27] (fun sv si wr => ∃ j : Nat, j ≤ i ∧ si = .int .i64 j ∧ Own w.heap.size wr sv (ls.take j).flatten ∧ Below w.heap.size w wr) (fun _ si _ => i - (intOf si).toNat)
      case atStart => exact ⟨0, by omega, rfl, ho, hb⟩
      case round =>
        obtain ⟨j, hj, rfl, hown, hbw⟩ := hrel
        obtain ⟨m, hm⟩ : ∃ m, (ls.take j).flatten.length = m := ⟨_, rfl⟩
        obtain ⟨av, cv, rfl⟩ := hown.sliceN hm
        have HM := hid hm
        clear hm
        by_cases hlj : j < i
        · obtain ⟨a, c, hc, hy, hnil⟩ := (Parts.below HP.out hbw) j (by have := HN.out; omega)
          have h1 := HLE.out (j + 1)
          have h2 := HS.out j (by have := HN.out; omega)
          have h3 := congrArg List.length h2
          rw [List.length_append] at h3
          have H2 := hid h2
          have hmm := HM.out
          have htt := HT.out
          have hle2 : (ls.take j).flatten.length + (ls.getD j []).length ≤ 100000 := by omega
          have HNIL := hid hnil
          clear h2 h3 h1 hmm htt hnil
          generalize ls.getD j [] = ys at *
          obtain ⟨m2, hm2⟩ : ∃ m2, ys.length = m2 := ⟨_, rfl⟩
          rw [hm2] at hc hle2
          have HM2 := hid hm2
          have HL2 := hid hle2
          clear hm2 hle2
          go_wp2_with (first | (at_builtin; refine append_bytes rfl (.tmp 31) (.tmp 32) rfl rfl hown hbw hbw.size _ _ _ rfl HNIL.out HM2.out hy (by have := HM2.out; have := HL2.out; omega) ?_; intro v' w5 hown5 hb5 hs5))
          go_roundw
          case rel => exact ⟨j + 1, by omega, by go_num, by rw [H2.out]; exact hown5, hb5⟩
          case measure => simp [intOf]; omega
        · obtain rfl : j = i := by omega
          go_wp2
          go_ret
          exact ⟨_, rfl, by rw [← HA.out]; exact hown, hbw⟩
end Go.Proofs.YtlfflomeaplidaaDoor.Kind
