/-
  NUM: the walk of the statement NumTwos: what any operation makes of two numbers is told as the document says.
-/
import Derived.Test.YtabffkninpikpaaDoorNumRefTwo
import Derived.Test.YtabffkninpikpaaDoorNumAwake
namespace Go.Proofs.YtabffkninpikpaaDoor
open Go.RowKit Num

set_option maxHeartbeats 1600000 in
theorem numTwos_walk (w : World) (op : Int) (_ho : -9223372036854775808 ≤ op ∧ op ≤ 9223372036854775807) (a : Int) (ha : 0 ≤ a ∧ a ≤ 4294967295) (b : Int) (hb : 0 ≤ b ∧ b ≤ 4294967295) (hT : Arit w) :
    Calls Tryd.prog 4 #[.int .i64 op, .int .u32 a, .int .u32 b] w fun e w' => e = .returned (.bool true) ∧ Below w.heap.size w w' := by
  have C := Two_any op a b w (by omega) (by omega) (by omega) (by omega) hT
  have D := refTwo_any op a b w (by omega) (by omega) (by omega) (by omega)
  have W := awake_any w hT
  generalize twoE op a b = er at *
  generalize twoV op a b = v at *
  have C := hid C
  have D := hid D
  have W := hid W
  clear hT
  go_enter Tryd.func4, Tryd.ntmps4
  go_wp2_with fail
  refine C.out.mono ?_
  rintro e w' ⟨rfl, rfl⟩
  go_wp2_with fail
  refine D.out.mono ?_
  rintro e w' ⟨rfl, rfl⟩
  go_wp2_with fail
  refine W.out.mono ?_
  rintro e w' ⟨rfl, rfl⟩
  go_wp2
  go_ret
  exact ⟨rfl, Below.refl _ _⟩
end Go.Proofs.YtabffkninpikpaaDoor
