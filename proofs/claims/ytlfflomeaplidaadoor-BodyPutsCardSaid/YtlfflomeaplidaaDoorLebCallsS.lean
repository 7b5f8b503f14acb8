/-
  LEB, signed: GetS, exported, by contract.
-/
import Derived.Test.YtlfflomeaplidaaDoorLebCalls
import Derived.Test.YtlfflomeaplidaaDoorLebGetS
namespace Go.Proofs.YtlfflomeaplidaaDoor.Leb
open Go.RowKit

theorem getS_any (a : Option Addr) (len cap : Nat) (p : Int) (zs : List Int) (w : World) (hlen : zs.length = len) (hz : Bytes w a zs) :
    Calls Tryd.prog 140 #[.slice a len cap, .int .i64 p] w (Got .i32 w (getL true zs p)) := by
  by_cases h : p < 0 ∨ (len : Int) < p
  · have e : getL true zs p = (0, 0, 5, 0) := by unfold getL; rw [hlen, if_pos h]
    rw [e]; exact getS_out a len cap p w h
  · obtain ⟨n, rfl⟩ := Int.eq_ofNat_of_zero_le (show 0 ≤ p by omega)
    have e : getL true zs n = goL true 0 0 (zs.drop n) n := by unfold getL; rw [hlen, if_neg h]; rfl
    rw [e]; exact getS_in a cap n zs len w hlen hz (by omega)

set_option maxHeartbeats 400000 in
theorem GetS_any (a : Option Addr) (len cap : Nat) (p : Int) (zs : List Int) (w : World) (hlen : zs.length = len) (hz : Bytes w a zs) :
    Calls Tryd.prog 135 #[.slice a len cap, .int .i64 p] w (Got .i32 w (getL true zs p)) := by
  have HL := hid hlen
  clear hlen
  go_enter Tryd.func135, Tryd.ntmps135
  go_wp2_with fail
  refine (getS_any a len cap p zs _ HL.out (hz.below ((Below.refl _ _).alloc (Nat.le_refl _) _))).mono ?_
  rintro e w' ⟨rfl, hb⟩
  generalize getL true zs p = r at *
  obtain ⟨c0, c1, f0, f1, hs⟩ := two hb
  go_wp2
  refine bodyPost_ret (v := .tuple #[.int .i32 r.1, .int .i64 r.2.1, .agg #[.int .i64 r.2.2.1, .int .i64 r.2.2.2]]) (by simp [results, Tryd.results135, go_sem, c0, c1]) rfl ⟨rfl, ?_⟩
  exact (((Below.refl _ _).alloc (Nat.le_refl _) _).trans (hb.mono (by simp))).setCell (by simp) _ |>.setCell (by simp) _

end Go.Proofs.YtlfflomeaplidaaDoor.Leb
