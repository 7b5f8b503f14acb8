/-
  LEB, signed: the document's own answer PutS, by contract.
-/
import Derived.Test.YtlfflomeaplidaaDoorLebRef
import Derived.Test.YtlfflomeaplidaaDoorLebPutS
namespace Go.Proofs.YtlfflomeaplidaaDoor.Leb
open Go.RowKit

theorem and127_s {x : Int} : bits .and .i64 x 127 = x % 128 := by
  show IntKind.i64.wrap ((BitVec.ofInt 64 x &&& BitVec.ofInt 64 127).toNat : Int) = _
  have h : (BitVec.ofInt 64 127).toNat = 127 := by decide
  rw [BitVec.toNat_and, h, BitVec.toNat_ofInt, nat_mask7, IntKind.wrap_i64]
  omega

set_option maxHeartbeats 3200000 in
theorem refS_any (n : Int) (w : World) (h0 : -2147483648 ≤ n) (h1 : n < 2147483648) :
    Calls Tryd.prog 105 #[.int .i32 n] w (Gives w (encS n)) := by
  go_enter Tryd.func105, Tryd.ntmps105
  go_wp2
  go_loopw [3, 4] (fun out su wr => ∃ (m : Int) (xs : List Int), -2147483648 ≤ m ∧ m < 2147483648 ∧ su = .int .i64 m ∧ Own w.heap.size wr out xs ∧ xs ++ encS m = encS n ∧ xs.length ≤ 5 ∧ Below w.heap.size w wr ∧ w.heap.size ≤ wr.heap.size)
    (fun _ su _ => (intOf su).natAbs)
  case atStart => exact ⟨n, [], h0, h1, rfl, World.ownsRow_nil _ _ _ _, rfl, by decide, Below.refl _ _, Nat.le_refl _⟩
  case round =>
    obtain ⟨m, xs, hm0, hm1, rfl, hown, hp, hx5, hb, hsz⟩ := hrel
    obtain ⟨a, c, rfl⟩ := hown.slice
    have HP := hid hp
    clear hp
    have hmask := and127_s (x := m)
    by_cases hl : m < -64 ∨ 64 ≤ m
    · have HF : Hid ((xs ++ [m % 128 + 128]) ++ encS (m / 128) = encS n) := by
        have := HP.out; rw [encS_step hl hm0 hm1] at this; rw [← this]; simp; exact trivial
      have H5 : Hid ((xs ++ [m % 128 + 128]).length ≤ 5) := by
        have h := congrArg List.length HF.out
        have := sizeS_pos n
        simp [encS_length] at h
        show _ ≤ _
        simp; omega
      clear HP
      rcases hl with hl | hl
      · go_wp2_with (first | (at_builtin; refine append_byte rfl (.tmp 13) (.tmp 18) rfl (m % 128 + 128) rfl hown hb hsz rfl (by omega) ?_; intro v' w1 hown' hb' hsz'))
        go_roundw
        case rel => exact ⟨m / 128, xs ++ [m % 128 + 128], by omega, by omega, rfl, hown', HF.out, H5.out, hb', hsz'⟩
        case measure => simp [intOf]; omega
      · have hl2 : ¬ m < -64 := by omega
        go_wp2_with (first | (at_builtin; refine append_byte rfl (.tmp 13) (.tmp 18) rfl (m % 128 + 128) rfl hown hb hsz rfl (by omega) ?_; intro v' w1 hown' hb' hsz'))
        go_roundw
        case rel => exact ⟨m / 128, xs ++ [m % 128 + 128], by omega, by omega, rfl, hown', HF.out, H5.out, hb', hsz'⟩
        case measure => simp [intOf]; omega
    · have HF : Hid (xs ++ [m % 128] = encS n) := by
        have := HP.out; rw [encS_last (by omega) (by omega)] at this; exact this
      have hl1 : ¬ m < -64 := by omega
      have hl2 : ¬ 63 < m := by omega
      clear HP hl
      go_wp2_with (first | (at_builtin; refine append_byte rfl (.tmp 22) (.tmp 26) rfl (m % 128) rfl hown hb hsz rfl (by omega) ?_; intro v' w1 hown' hb' hsz'))
      go_ret
      rw [HF.out] at hown'
      exact ⟨v', rfl, hown', hb'⟩
end Go.Proofs.YtlfflomeaplidaaDoor.Leb
