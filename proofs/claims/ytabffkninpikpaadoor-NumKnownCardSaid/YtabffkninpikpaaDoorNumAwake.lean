/-
  NUM: the statements' own small functions 'two' and 'awake', by contracts.
-/
import Derived.Test.YtabffkninpikpaaDoorNumTwo
namespace Go.Proofs.YtabffkninpikpaaDoor.Num
open Go.RowKit

/-- What an operation makes; 77, if it has an error. -/
def twoK (op a b : Int) : Int := if twoE op a b = 0 then twoV op a b else 77
theorem twoE_range (op a b : Int) : 0 ≤ twoE op a b ∧ twoE op a b ≤ 131 := by
  have := refuse_range op a b
  unfold twoE; split <;> omega
set_option maxHeartbeats 800000 in
theorem two_any (op a b : Int) (w : World) (h0 : 0 ≤ a) (h1 : a < 4294967296) (k0 : 0 ≤ b) (k1 : b < 4294967296) (hT : Arit w) :
    Calls Tryd.prog 21 #[.int .i64 op, .int .u32 a, .int .u32 b] w fun e w' => e = .returned (.int .u32 (twoK op a b)) ∧ w = w' := by
  have C := Two_any op a b w h0 h1 k0 k1 hT
  have R := twoE_range op a b
  have K : twoK op a b = if twoE op a b = 0 then twoV op a b else 77 := rfl
  rw [K]
  generalize twoE op a b = er at *
  generalize twoV op a b = v at *
  clear hT K
  by_cases h : er = 0
  · rw [if_pos h]
    subst h
    have C := hid C
    go_enter Tryd.func21, Tryd.ntmps21
    go_wp2_with fail
    refine C.out.mono ?_
    rintro e w' ⟨rfl, rfl⟩
    go_wp2
    go_ret
    exact ⟨rfl, rfl⟩
  · rw [if_neg h]
    have h' : 0 < er := by omega
    clear h
    have C := hid C
    go_enter Tryd.func21, Tryd.ntmps21
    go_wp2_with fail
    refine C.out.mono ?_
    rintro e w' ⟨rfl, rfl⟩
    go_wp2
    go_ret
    exact ⟨rfl, rfl⟩
theorem k1' : twoK 109 4294967289 2 = 4294967293 := by decide
theorem k2' : twoK 116 1 33 = 2 := by decide
theorem k3' : sg 4294967295 = -1 := by decide
theorem k4' : arity 103 = 1 := by decide
set_option maxHeartbeats 800000 in
theorem awake_any (w : World) (hT : Arit w) : Calls Tryd.prog 14 #[] w fun e w' => e = .returned (.bool true) ∧ w = w' := by
  have A := two_any 109 4294967289 2 w (by decide) (by decide) (by decide) (by decide) hT
  have B := two_any 116 1 33 w (by decide) (by decide) (by decide) (by decide) hT
  have C := Signed_any 4294967295 w (by decide) (by decide)
  have D := Arity_any 103 w hT
  rw [k1'] at A
  rw [k2'] at B
  rw [k3'] at C
  rw [k4'] at D
  have A := hid A
  have B := hid B
  have C := hid C
  have D := hid D
  clear hT
  go_enter Tryd.func14, Tryd.ntmps14
  go_wp2_with fail
  refine A.out.mono ?_
  rintro e w' ⟨rfl, rfl⟩
  go_wp2_with fail
  refine B.out.mono ?_
  rintro e w' ⟨rfl, rfl⟩
  go_wp2_with fail
  refine C.out.mono ?_
  rintro e w' ⟨rfl, rfl⟩
  go_wp2_with fail
  refine D.out.mono ?_
  rintro e w' ⟨rfl, rfl⟩
  go_wp2
  go_ret
  exact ⟨rfl, rfl⟩
end Go.Proofs.YtabffkninpikpaaDoor.Num
