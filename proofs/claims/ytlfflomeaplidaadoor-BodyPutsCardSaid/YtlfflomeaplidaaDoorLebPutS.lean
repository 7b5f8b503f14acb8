/-
  LEB, signed: PutS by contract.
-/
import Derived.Test.YtlfflomeaplidaaDoorLebPut
import Derived.Test.YtlfflomeaplidaaDoorLebNumsS
namespace Go.Proofs.YtlfflomeaplidaaDoor.Leb
open Go.RowKit

set_option maxHeartbeats 400000 in
theorem putS_any (n : Int) (w : World) (h0 : -2147483648 ≤ n) (h1 : n < 2147483648) : Calls Tryd.prog 99 #[.int .i32 n] w (Gives w (encS n)) := by
  have hs := sizeS_pos n
  have HW := hid (putL_wrap (sizeS n) (by omega) n)
  have hu : U64 (IntKind.u64.wrap n) := by rw [IntKind.wrap_u64]; exact ⟨by omega, by omega⟩
  go_enter Tryd.func99, Tryd.ntmps99
  go_wp2_with (go_at_call 121; refine (sizeS_any _ _ (by omega) (by omega)).mono ?_; rintro e w' ⟨rfl, rfl⟩)
  refine (put_any (IntKind.u64.wrap n) (sizeS n) w hu (by omega) (by omega)).mono ?_
  rintro e w' ⟨v, rfl, ho, hb⟩
  rw [IntKind.wrap_u64, HW.out] at ho
  go_wp2
  go_ret
  exact ⟨v, rfl, ho, hb⟩
end Go.Proofs.YtlfflomeaplidaaDoor.Leb
