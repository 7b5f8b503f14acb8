/-
  NUM: Wide, the program's and the document's, by contracts; the walk of the statement NumWide.
-/
import Derived.Test.YtabffkninpikpaaDoorNumRef
import Derived.Test.YtabffkninpikpaaDoorNumAwake
namespace Go.Proofs.YtabffkninpikpaaDoor.Num
open Go.RowKit

/-- So many lowest bits of a word, with their sign carried up. -/
def wideN (a s : Int) : Int := word ((a % s + s / 2) % s - s / 2)
def wideV (a k : Int) : Int := if k = 8 then wideN a 256 else if k = 16 then wideN a 65536 else 0
def wideE (k : Int) : Int := if k = 8 ∨ k = 16 then 0 else 2
theorem wrapI8 (n : Int) : IntKind.i8.wrap n = (n + 128) % 256 - 128 := by simp [IntKind.wrap, IntKind.signed, IntKind.bits]; omega
theorem wrapI16 (n : Int) : IntKind.i16.wrap n = (n + 32768) % 65536 - 32768 := by simp [IntKind.wrap, IntKind.signed, IntKind.bits]; omega
set_option maxHeartbeats 800000 in
theorem Wide_any (a k : Int) (w : World) :
    Calls Tryd.prog 17 #[.int .u32 a, .int .i64 k] w fun e w' => e = .returned (.tuple #[.int .u32 (wideV a k), .int .i64 (wideE k)]) ∧ w = w' := by
  have hh : k = 8 ∨ k = 16 ∨ k < 8 ∨ (8 < k ∧ k < 16) ∨ 16 < k := by omega
  rcases hh with rfl | rfl | h | ⟨h, h'⟩ | h
  · have H : Hid (wideV a 8 = IntKind.i8.wrap (a % 256) % 4294967296) := hid (by rw [wrapI8]; rfl)
    rw [show wideE 8 = 0 from rfl, H.out]
    clear H
    go_enter Tryd.func17, Tryd.ntmps17
    go_wp2
    go_ret2
    exact ⟨rfl, rfl⟩
  · have H : Hid (wideV a 16 = IntKind.i16.wrap (a % 65536) % 4294967296) := hid (by rw [wrapI16]; rfl)
    rw [show wideE 16 = 0 from rfl, H.out]
    clear H
    go_enter Tryd.func17, Tryd.ntmps17
    go_wp2
    go_ret2
    exact ⟨rfl, rfl⟩
  all_goals
    have H : Hid (wideV a k = 0) := hid (by unfold wideV; rw [if_neg (by omega), if_neg (by omega)])
    have H' : Hid (wideE k = 2) := hid (by unfold wideE; rw [if_neg (by omega)])
    rw [H.out, H'.out]
    go_enter Tryd.func17, Tryd.ntmps17
    go_wp2
    go_ret2
    exact ⟨rfl, rfl⟩
set_option maxHeartbeats 1600000 in
theorem refWide_any (a k : Int) (w : World) (h0 : 0 ≤ a) (h1 : a < 4294967296) :
    Calls Tryd.prog 18 #[.int .u32 a, .int .i64 k] w fun e w' => e = .returned (.tuple #[.int .u32 (wideV a k), .int .i64 (wideE k)]) ∧ w = w' := by
  have hh : k = 8 ∨ k = 16 ∨ k < 8 ∨ (8 < k ∧ k < 16) ∨ 16 < k := by omega
  rcases hh with rfl | rfl | h | ⟨h, h'⟩ | h
  · rw [show wideE 8 = 0 from rfl, show wideV a 8 = word ((a % 256 + 128) % 256 - 128) from rfl]
    by_cases hs : 128 ≤ a % 256
    · rw [show (a % 256 + 128) % 256 - 128 = a % 256 - 256 by omega]
      go_enter Tryd.func18, Tryd.ntmps18
      go_wp2_with fail
      refine (refWord_any _ _).mono ?_
      rintro e w' ⟨rfl, rfl⟩
      go_wp2
      go_ret2
      exact ⟨rfl, rfl⟩
    · rw [show (a % 256 + 128) % 256 - 128 = a % 256 by omega]
      go_enter Tryd.func18, Tryd.ntmps18
      go_wp2_with fail
      refine (refWord_any _ _).mono ?_
      rintro e w' ⟨rfl, rfl⟩
      go_wp2
      go_ret2
      exact ⟨rfl, rfl⟩
  · rw [show wideE 16 = 0 from rfl, show wideV a 16 = word ((a % 65536 + 32768) % 65536 - 32768) from rfl]
    by_cases hs : 32768 ≤ a % 65536
    · rw [show (a % 65536 + 32768) % 65536 - 32768 = a % 65536 - 65536 by omega]
      go_enter Tryd.func18, Tryd.ntmps18
      go_wp2_with fail
      refine (refWord_any _ _).mono ?_
      rintro e w' ⟨rfl, rfl⟩
      go_wp2
      go_ret2
      exact ⟨rfl, rfl⟩
    · rw [show (a % 65536 + 32768) % 65536 - 32768 = a % 65536 by omega]
      go_enter Tryd.func18, Tryd.ntmps18
      go_wp2_with fail
      refine (refWord_any _ _).mono ?_
      rintro e w' ⟨rfl, rfl⟩
      go_wp2
      go_ret2
      exact ⟨rfl, rfl⟩
  all_goals
    have H : Hid (wideV a k = 0) := hid (by unfold wideV; rw [if_neg (by omega), if_neg (by omega)])
    have H' : Hid (wideE k = 2) := hid (by unfold wideE; rw [if_neg (by omega)])
    rw [H.out, H'.out]
    have e1 : (k != 8) = true := by simp; omega
    have e2 : (k != 16) = true := by simp; omega
    go_enter Tryd.func18, Tryd.ntmps18
    go_wp2
    go_ret2
    exact ⟨rfl, rfl⟩
end Go.Proofs.YtabffkninpikpaaDoor.Num
namespace Go.Proofs.YtabffkninpikpaaDoor
open Go.RowKit Num
set_option maxHeartbeats 1600000 in
theorem numWide_walk (w : World) (a : Int) (ha : 0 ≤ a ∧ a ≤ 4294967295) (k : Int) (_hk : -9223372036854775808 ≤ k ∧ k ≤ 9223372036854775807) (hT : Arit w) :
    Calls Tryd.prog 5 #[.int .u32 a, .int .i64 k] w fun e w' => e = .returned (.bool true) ∧ Below w.heap.size w w' := by
  have C := Wide_any a k w
  have D := refWide_any a k w (by omega) (by omega)
  have S := Signed_any a w (by omega) (by omega)
  have R := refSigned_any a w (by omega) (by omega)
  have W := awake_any w hT
  generalize wideE k = er at *
  generalize wideV a k = v at *
  generalize sg a = s at *
  have C := hid C
  have D := hid D
  have S := hid S
  have R := hid R
  have W := hid W
  clear hT
  go_enter Tryd.func5, Tryd.ntmps5
  go_wp2_with fail
  refine C.out.mono ?_
  rintro e w' ⟨rfl, rfl⟩
  go_wp2_with fail
  refine D.out.mono ?_
  rintro e w' ⟨rfl, rfl⟩
  go_wp2_with fail
  refine S.out.mono ?_
  rintro e w' ⟨rfl, rfl⟩
  go_wp2_with fail
  refine R.out.mono ?_
  rintro e w' ⟨rfl, rfl⟩
  go_wp2_with fail
  refine W.out.mono ?_
  rintro e w' ⟨rfl, rfl⟩
  go_wp2
  go_ret
  exact ⟨rfl, Below.refl _ _⟩
end Go.Proofs.YtabffkninpikpaaDoor
