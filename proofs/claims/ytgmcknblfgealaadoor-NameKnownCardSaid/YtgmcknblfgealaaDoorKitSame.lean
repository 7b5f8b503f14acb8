/-
  The statements' kit: SameInts tells whether two slices hold the same numbers; KeptBytes: a list that was lent is as it was.
-/
import Derived.Test.YtgmcknblfgealaaDoorKitLent
import Derived.Test.YtgmcknblfgealaaDoorKitBytes
import Derived.RegionTactic
import Derived.ChangeAlike
import Derived.Deep.QuietTactic
import Derived.BigQuiet
import Derived.Deep.RegionHeld3
namespace Go.Proofs.YtgmcknblfgealaaDoor
open Go.RowKit

theorem below_drewN {B : Nat} {a w : World} (h : Below B a w) (n : Nat) : Below B a (w.drewN n) := ⟨h.os, h.tape, h.output, h.size, h.block⟩

set_option maxHeartbeats 1600000 in
theorem SameInts_any (a1 a2 : Option Addr) (l1 c1 l2 c2 : Nat) (xs ys : List Int) (w : World) (hl1 : xs.length = l1) (hl2 : ys.length = l2) (hx : Nums .i64 w a1 xs) (hy : Nums .i64 w a2 ys) (hbig : l1 ≤ 140737488355328) :
    Calls Tryd.prog 12 #[.slice a1 l1 c1, .slice a2 l2 c2] w fun e w' => e = .returned (.bool (decide (xs = ys))) ∧ Below w.heap.size w w' := by
  by_cases hll : l1 = l2
  · subst hll
    have HL1 := hid hl1
    have HL2 := hid hl2
    clear hl1 hl2
    go_enter Tryd.func12, Tryd.ntmps12
    go_wp2
    go_loopw [5] (fun vi wr => ∃ i : Nat, vi = .int .i64 i ∧ i ≤ l1 ∧ xs.take i = ys.take i ∧ Below w.heap.size w wr) (fun vi _ => l1 - (intOf vi).toNat)
    case atStart => exact ⟨0, rfl, Nat.zero_le _, rfl, Below.refl _ _⟩
    case round =>
      obtain ⟨i, rfl, hi, ht, hb⟩ := hrel
      have HT := hid ht
      clear ht
      by_cases hil : i < l1
      · have h1 : i < xs.length := by have := HL1.out; omega
        have h2 : i < ys.length := by have := HL2.out; omega
        obtain ⟨b1, o1, rfl, hc1⟩ := (hx.below hb).at (by omega)
        obtain ⟨b2, o2, rfl, hc2⟩ := (hy.below hb).at (by omega)
        have hd1 := hc1 i h1
        have hd2 := hc2 i h2
        have HS1 := hid (show xs.take (i + 1) = xs.take i ++ [xs.getD i 0] by rw [getD_lt h1, List.take_succ_eq_append_getElem h1])
        have HS2 := hid (show ys.take (i + 1) = ys.take i ++ [ys.getD i 0] by rw [getD_lt h2, List.take_succ_eq_append_getElem h2])
        generalize xs.getD i 0 = x at *
        generalize ys.getD i 0 = y at *
        clear hc1 hc2 h1 h2 hx hy
        have hi0 : (i : Int) < (l1 : Int) := by omega
        by_cases he : x = y
        · subst he
          have HN : Hid (xs.take (i + 1) = ys.take (i + 1)) := by show _ = _; rw [HS1.out, HS2.out, HT.out]
          go_wp2
          go_quiet (fail)
          go_wp2
          go_roundw
          case rel => exact ⟨i + 1, by go_num, by omega, HN.out, below_drewN hb _⟩
          case measure => simp [intOf]; omega
        · have HN : Hid (¬ xs = ys) := hid fun h => by
            have e1 := HS1.out
            rw [h, HS2.out] at e1
            have := List.append_inj_right' e1 rfl
            simp at this
            exact he this.symm
          go_wp2
          go_quiet (fail)
          go_wp2
          go_ret
          exact ⟨ret_bool (by simp [HN.out]), below_drewN hb _⟩
      · obtain rfl : i = l1 := by omega
        have HN : Hid (xs = ys) := by
          show _ = _
          have h := HT.out
          rwa [List.take_of_length_le (by have := HL1.out; omega), List.take_of_length_le (by have := HL2.out; omega)] at h
        go_wp2
        go_ret
        exact ⟨ret_bool (by simp [HN.out]), hb⟩
  · have HN : Hid (¬ xs = ys) := hid fun h => hll (by rw [← hl1, ← hl2, h])
    have hll' : ¬ (l1 : Int) = (l2 : Int) := by omega
    clear hl1 hl2 hx hy hll
    go_enter Tryd.func12, Tryd.ntmps12
    go_wp2
    go_ret
    exact ⟨ret_bool (by simp [HN.out]), Below.refl _ _⟩

theorem Bytes.of_heap {g : Nat} {w : World} {L : List Int} (hb : ∀ z ∈ L, 0 ≤ z ∧ z < 256) (hl : L.length ≤ 140737488351232) (hh : w.heap[g]? = some (.cells (L.map (Value.int .u8)).toArray 5 (0, 0))) : Bytes w (some ⟨g, 0, none⟩) L :=
  ⟨hb, hl, .inr ⟨g, 0, rfl, nums_of_heap hh⟩⟩
theorem marksBytes_bytes {zs : List Int} (hz : ∀ z ∈ zs, 0 ≤ z ∧ z < 256) (n : Int) : ∀ z ∈ zs ++ marksBytes n, 0 ≤ z ∧ z < 256 := by
  intro z hm
  rcases List.mem_append.1 hm with h | h
  · exact hz z h
  · simp only [marksBytes, List.mem_cons, List.not_mem_nil, or_false] at h
    rcases h with rfl | rfl | rfl <;> omega

set_option maxHeartbeats 1600000 in
theorem KeptBytes_yes (a1 a2 : Option Addr) (len c2 : Nat) (zs : List Int) (w : World) (hl : zs.length = len) (hx : Bytes w a1 (zs ++ marksBytes len)) (hy : Bytes w a2 zs) (hbig : len ≤ 8796093022208) :
    Calls Tryd.prog 15 #[.slice a1 len (len + 3), .slice a2 len c2] w fun e w' => e = .returned (.bool true) ∧ Below w.heap.size w w' := by
  have HL := hid hl
  have hw1 : IntKind.i64.wrap ((len : Int) + 3) = (len : Int) + 3 := by rw [IntKind.wrap_i64]; omega
  have hw2 : 0 ≤ (len : Int) + 3 := by omega
  have hw3 : ((len : Int) + 3).toNat = len + 3 := by omega
  have HX : Hid ((zs ++ marksBytes len).length = len + 3) := by show _ = _; simp [marksBytes, hl]
  have HM := hid (marksBytes_bytes hy.byte len)
  have HS : Hid ((zs ++ marksBytes len).length ≤ 140737488351232) := by show _ ≤ _; rw [HX.out]; omega
  clear hl
  go_enter Tryd.func15, Tryd.ntmps15
  go_wp2
  go_region_held3 (fun w' => Below w.heap.size w w') (first | assumption | exact (Below.refl _ _).drew | exact thenB (by assumption) (by assumption))
    (first
      | (go_at_call 9; refine (LentBytes_any _ _ _ zs _ HL.out (hy.nums.below ?_) hbig).mono ?_; (assumption); rintro e w2 ⟨rfl, hh, hb2⟩)
      | (go_at_call 22; refine (SameBytes_yes _ _ _ _ _ _ (zs ++ marksBytes len) _ HX.out HX.out (hx.below (by assumption)) (Bytes.of_heap HM.out HS.out hh)).mono ?_; rintro e w3 ⟨rfl, rfl⟩))
  go_wp2
  go_ret
  exact ⟨rfl, by assumption⟩
end Go.Proofs.YtgmcknblfgealaaDoor
