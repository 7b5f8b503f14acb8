/-
  LEB: the document's own answers PutU and PutS, by contracts: the bytes that the plain functions tell, in new memory.
-/
import Derived.Test.YtlfflomeaplidaaDoorLebPut
import Derived.Test.YtlfflomeaplidaaDoorAppend
namespace Go.Proofs.YtlfflomeaplidaaDoor.Leb
open Go.RowKit

set_option maxHeartbeats 1600000 in
theorem refU_any (n : Int) (w : World) (h0 : 0 ≤ n) (h1 : n < 4294967296) :
    Calls Tryd.prog 27 #[.int .u32 n] w (Gives w (encU n)) := by
  go_enter Tryd.func27, Tryd.ntmps27
  go_wp2
  go_loopw [0, 3] (fun su out wr => ∃ (m : Int) (xs : List Int), 0 ≤ m ∧ m < 4294967296 ∧ su = .int .u32 m ∧ Own w.heap.size wr out xs ∧ xs ++ encU m = encU n ∧ xs.length ≤ 5 ∧ Below w.heap.size w wr ∧ w.heap.size ≤ wr.heap.size)
    (fun su _ _ => (intOf su).toNat)
  case atStart => exact ⟨n, [], h0, h1, rfl, World.ownsRow_nil _ _ _ _, rfl, by decide, Below.refl _ _, Nat.le_refl _⟩
  case round =>
    obtain ⟨m, xs, hm0, hm1, rfl, hown, hp, hx5, hb, hsz⟩ := hrel
    obtain ⟨a, c, rfl⟩ := hown.slice
    have HP := hid hp
    clear hp
    by_cases hl : 128 ≤ m
    · have HF : Hid ((xs ++ [m % 128 + 128]) ++ encU (m / 128) = encU n) := by
        have := HP.out; rw [encU_step hl hm1] at this; rw [← this]; simp; exact trivial
      have H5 : Hid ((xs ++ [m % 128 + 128]).length ≤ 5) := by
        have h := congrArg List.length HF.out
        have := sizeU_pos n
        simp [encU_length] at h
        show _ ≤ _
        simp; omega
      clear HP
      go_wp2_with (first | (at_builtin; refine append_byte rfl (.tmp 6) (.tmp 11) rfl (m % 128 + 128) rfl hown hb hsz rfl (by omega) ?_; intro v' w1 hown' hb' hsz'))
      go_roundw
      case rel => exact ⟨m / 128, xs ++ [m % 128 + 128], by omega, by omega, rfl, hown', HF.out, H5.out, hb', hsz'⟩
      case measure => simp [intOf]; omega
    · have HF : Hid (xs ++ [m] = encU n) := by
        have := HP.out; rw [encU_last hm0 (by omega)] at this; exact this
      clear HP
      go_wp2_with (first | (at_builtin; refine append_byte rfl (.tmp 15) (.tmp 18) rfl m rfl hown hb hsz rfl (by omega) ?_; intro v' w1 hown' hb' hsz'))
      go_ret
      rw [HF.out] at hown'
      exact ⟨v', rfl, hown', hb'⟩

end Go.Proofs.YtlfflomeaplidaaDoor.Leb
