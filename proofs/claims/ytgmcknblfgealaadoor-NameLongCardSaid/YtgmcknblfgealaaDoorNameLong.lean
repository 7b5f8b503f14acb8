/-
  NAME: the walk of the statement NameLong: a name just too long, and one that is as long as may be.
-/
import Derived.Test.YtgmcknblfgealaaDoorNameRunes
namespace Go.Proofs.YtgmcknblfgealaaDoor
open Go.RowKit Utf Leb

theorem scan_zeros : ∀ n : Nat, scan (List.replicate n 0) = (List.replicate n 0, n)
  | 0 => rfl
  | n + 1 => by
    have h : atL (List.replicate (n + 1) (0 : Int)) = some (0, 1) := rfl
    rw [scan_some h]
    have hd : (List.replicate (n + 1) (0 : Int)).drop 1 = List.replicate n 0 := rfl
    rw [hd, scan_zeros n]
    simp [List.replicate_succ, Nat.add_comm]
theorem putN_zeros_long (n : Nat) (h : 1048576 < n) : putN (List.replicate n 0) = ([], 3) := by unfold putN; rw [if_pos (by simpa using h)]
theorem putN_zeros (n : Nat) (h : n ≤ 1048576) : putN (List.replicate n 0) = (encU n ++ List.replicate n 0, 0) := by
  unfold putN
  rw [if_neg (by simp; omega), if_neg (by rw [scan_zeros]; simp)]
  simp
theorem zeros_bytes (n : Nat) : ∀ z ∈ List.replicate n (0 : Int), 0 ≤ z ∧ z < 256 := by
  intro z hz
  rw [List.mem_replicate] at hz
  omega

set_option maxHeartbeats 3200000 in
theorem nameLong_walk (w : World) (one : Bool) (hT : Tabs w) :
    Calls Tryd.prog 6 #[.bool one] w fun e w' => e = .returned (.bool true) ∧ Below w.heap.size w w' := by
  obtain ⟨N, hN⟩ : ∃ N : Nat, N = if one then 1048577 else 1048576 := ⟨_, rfl⟩
  have hNb : N ≤ 1048577 := by rw [hN]; split <;> omega
  obtain ⟨w1, hmk, hh, hb1⟩ := make_zeros infoByte Tryd.underlying22 w N (by omega) (by omega)
  have hB := Bytes.of_heap (zeros_bytes N) (by simp; omega) hh
  have e1 := str_of hB N N (by simp)
  have P1 := hid (Put_any (List.replicate N 0) (zeros_bytes N) w1 (hT.below hb1))
  have hT1 := hT.below hb1
  clear hh hB hT
  cases one with
  | true =>
    obtain rfl : N = 1048577 := hN
    have hmk := hmk 1048577 rfl
    have HP := hid (putN_zeros_long 1048577 (by omega))
    generalize List.replicate 1048577 (0 : Int) = L at *
    generalize strOfNums L = s at *
    go_enter Tryd.func6, Tryd.ntmps6
    go_wp2_with fail
    refine P1.out.mono ?_
    rw [HP.out]
    unfold GotBytes Hands
    rintro e w2 ⟨v, rfl, a1, c1, rfl, _, _, hb2⟩
    have hA := thenB hb1 hb2
    have hT2 := hT1.below hb2
    clear hmk e1 P1 hb2
    go_wp2_with fail
    refine (Utf.awake_any _ hT2).mono ?_
    rintro e w8 ⟨rfl, hb8⟩
    go_wp2
    go_ret
    exact ⟨rfl, thenB hA hb8⟩
  | false =>
    obtain rfl : N = 1048576 := hN
    have hmk := hmk 1048576 rfl
    have HP := hid (putN_zeros 1048576 (by omega))
    have HE : Hid ((encU (1048576 : Nat) ++ List.replicate 1048576 (0 : Int)).length = 1048579) := by
      show _ = _
      rw [List.length_append, encU_length, List.length_replicate]; rfl
    generalize List.replicate 1048576 (0 : Int) = L at *
    generalize strOfNums L = s at *
    go_enter Tryd.func6, Tryd.ntmps6
    go_wp2_with fail
    refine P1.out.mono ?_
    rw [HP.out]
    unfold GotBytes Hands
    simp only
    rw [HE.out]
    rintro e w2 ⟨v, rfl, a1, c1, rfl, _, _, hb2⟩
    have hA := thenB hb1 hb2
    have hT2 := hT1.below hb2
    clear hmk e1 P1 hb2
    go_wp2_with fail
    refine (Utf.awake_any _ hT2).mono ?_
    rintro e w8 ⟨rfl, hb8⟩
    go_wp2
    go_ret
    exact ⟨rfl, thenB hA hb8⟩
end Go.Proofs.YtgmcknblfgealaaDoor
