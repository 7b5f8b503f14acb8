/-
  NUM: Wide, the program's and the document's, by contracts. (For seats that hold no other operation of num.)
-/
import Derived.Test.YtcgjlbpokmlkbaaDoorNumPlain
import Derived.Test.YtcgjlbpokmlkbaaDoorBase2
namespace Go.Proofs.YtcgjlbpokmlkbaaDoor.Num
open Go.RowKit

theorem tmod_mod (n : Int) : n.tmod 4294967296 % 4294967296 = n % 4294967296 := by rw [Int.tmod_def]; omega
set_option maxHeartbeats 800000 in
theorem refWord_any (n : Int) (w : World) : Calls Tryd.prog 50 #[.int .i64 n] w fun e w' => e = .returned (.int .u32 (word n)) ∧ w = w' := by
  have hb : -4294967295 ≤ n.tmod 4294967296 ∧ n.tmod 4294967296 ≤ 4294967295 := by
    rcases Int.le_total 0 n with h | h
    · rw [Int.tmod_eq_emod_of_nonneg h]; omega
    · have := Int.lt_tmod_of_pos n (b := 4294967296) (by decide)
      have := Int.tmod_lt_of_pos n (b := 4294967296) (by decide)
      omega
  have he : Hid (n.tmod 4294967296 % 4294967296 = n % 4294967296) := hid (tmod_mod n)
  obtain ⟨m, hm⟩ : ∃ m, n.tmod 4294967296 = m := ⟨_, rfl⟩
  rw [hm] at hb he
  by_cases h : m < 0
  · go_enter Tryd.func50, Tryd.ntmps50
    go_wp2
    go_ret
    refine ⟨ret_int ?_, rfl⟩
    have := he.out
    unfold word
    omega
  · go_enter Tryd.func50, Tryd.ntmps50
    go_wp2
    go_ret
    refine ⟨ret_int ?_, rfl⟩
    have := he.out
    unfold word
    omega
/-- So many lowest bits of a word, with their sign carried up. -/
def wideN (a s : Int) : Int := word ((a % s + s / 2) % s - s / 2)
def wideV (a k : Int) : Int := if k = 8 then wideN a 256 else if k = 16 then wideN a 65536 else 0
def wideE (k : Int) : Int := if k = 8 ∨ k = 16 then 0 else 2
theorem wrapI8 (n : Int) : IntKind.i8.wrap n = (n + 128) % 256 - 128 := by simp [IntKind.wrap, IntKind.signed, IntKind.bits]; omega
theorem wrapI16 (n : Int) : IntKind.i16.wrap n = (n + 32768) % 65536 - 32768 := by simp [IntKind.wrap, IntKind.signed, IntKind.bits]; omega
set_option maxHeartbeats 800000 in
theorem Wide_any (a k : Int) (w : World) :
    Calls Tryd.prog 37 #[.int .u32 a, .int .i64 k] w fun e w' => e = .returned (.tuple #[.int .u32 (wideV a k), .int .i64 (wideE k)]) ∧ w = w' := by
  have hh : k = 8 ∨ k = 16 ∨ k < 8 ∨ (8 < k ∧ k < 16) ∨ 16 < k := by omega
  rcases hh with rfl | rfl | h | ⟨h, h'⟩ | h
  · have H : Hid (wideV a 8 = IntKind.i8.wrap (a % 256) % 4294967296) := hid (by rw [wrapI8]; rfl)
    rw [show wideE 8 = 0 from rfl, H.out]
    clear H
    go_enter Tryd.func37, Tryd.ntmps37
    go_wp2
    go_ret2
    exact ⟨rfl, rfl⟩
  · have H : Hid (wideV a 16 = IntKind.i16.wrap (a % 65536) % 4294967296) := hid (by rw [wrapI16]; rfl)
    rw [show wideE 16 = 0 from rfl, H.out]
    clear H
    go_enter Tryd.func37, Tryd.ntmps37
    go_wp2
    go_ret2
    exact ⟨rfl, rfl⟩
  all_goals
    have H : Hid (wideV a k = 0) := hid (by unfold wideV; rw [if_neg (by omega), if_neg (by omega)])
    have H' : Hid (wideE k = 2) := hid (by unfold wideE; rw [if_neg (by omega)])
    rw [H.out, H'.out]
    go_enter Tryd.func37, Tryd.ntmps37
    go_wp2
    go_ret2
    exact ⟨rfl, rfl⟩
set_option maxHeartbeats 1600000 in
theorem refWide_any (a k : Int) (w : World) (h0 : 0 ≤ a) (h1 : a < 4294967296) :
    Calls Tryd.prog 45 #[.int .u32 a, .int .i64 k] w fun e w' => e = .returned (.tuple #[.int .u32 (wideV a k), .int .i64 (wideE k)]) ∧ w = w' := by
  have hh : k = 8 ∨ k = 16 ∨ k < 8 ∨ (8 < k ∧ k < 16) ∨ 16 < k := by omega
  rcases hh with rfl | rfl | h | ⟨h, h'⟩ | h
  · rw [show wideE 8 = 0 from rfl, show wideV a 8 = word ((a % 256 + 128) % 256 - 128) from rfl]
    by_cases hs : 128 ≤ a % 256
    · rw [show (a % 256 + 128) % 256 - 128 = a % 256 - 256 by omega]
      go_enter Tryd.func45, Tryd.ntmps45
      go_wp2_with fail
      refine (refWord_any _ _).mono ?_
      rintro e w' ⟨rfl, rfl⟩
      go_wp2
      go_ret2
      exact ⟨rfl, rfl⟩
    · rw [show (a % 256 + 128) % 256 - 128 = a % 256 by omega]
      go_enter Tryd.func45, Tryd.ntmps45
      go_wp2_with fail
      refine (refWord_any _ _).mono ?_
      rintro e w' ⟨rfl, rfl⟩
      go_wp2
      go_ret2
      exact ⟨rfl, rfl⟩
  · rw [show wideE 16 = 0 from rfl, show wideV a 16 = word ((a % 65536 + 32768) % 65536 - 32768) from rfl]
    by_cases hs : 32768 ≤ a % 65536
    · rw [show (a % 65536 + 32768) % 65536 - 32768 = a % 65536 - 65536 by omega]
      go_enter Tryd.func45, Tryd.ntmps45
      go_wp2_with fail
      refine (refWord_any _ _).mono ?_
      rintro e w' ⟨rfl, rfl⟩
      go_wp2
      go_ret2
      exact ⟨rfl, rfl⟩
    · rw [show (a % 65536 + 32768) % 65536 - 32768 = a % 65536 by omega]
      go_enter Tryd.func45, Tryd.ntmps45
      go_wp2_with fail
      refine (refWord_any _ _).mono ?_
      rintro e w' ⟨rfl, rfl⟩
      go_wp2
      go_ret2
      exact ⟨rfl, rfl⟩
  all_goals
    have H : Hid (wideV a k = 0) := hid (by unfold wideV; rw [if_neg (by omega), if_neg (by omega)])
    have H' : Hid (wideE k = 2) := hid (by unfold wideE; rw [if_neg (by omega)])
    rw [H.out, H'.out]
    have e1 : (k != 8) = true := by simp; omega
    have e2 : (k != 16) = true := by simp; omega
    go_enter Tryd.func45, Tryd.ntmps45
    go_wp2
    go_ret2
    exact ⟨rfl, rfl⟩
end Go.Proofs.YtcgjlbpokmlkbaaDoor.Num
