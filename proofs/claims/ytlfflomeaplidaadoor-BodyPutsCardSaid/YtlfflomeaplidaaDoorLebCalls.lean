/-
  LEB: GetU, exported, by contract.
-/
import Derived.Test.YtlfflomeaplidaaDoorLebGet
namespace Go.Proofs.YtlfflomeaplidaaDoor.Leb
open Go.RowKit

theorem getU_any (a : Option Addr) (len cap : Nat) (p : Int) (zs : List Int) (w : World) (hlen : zs.length = len) (hz : Bytes w a zs) :
    Calls Tryd.prog 139 #[.slice a len cap, .int .i64 p] w (Got .u32 w (getL false zs p)) := by
  by_cases h : p < 0 ∨ (len : Int) < p
  · have e : getL false zs p = (0, 0, 5, 0) := by unfold getL; rw [hlen, if_pos h]
    rw [e]; exact getU_out a len cap p w h
  · obtain ⟨n, rfl⟩ := Int.eq_ofNat_of_zero_le (show 0 ≤ p by omega)
    have e : getL false zs n = goL false 0 0 (zs.drop n) n := by unfold getL; rw [hlen, if_neg h]; rfl
    rw [e]; exact getU_in a cap n zs len w hlen hz (by omega)
set_option maxHeartbeats 400000 in
theorem GetU_any (a : Option Addr) (len cap : Nat) (p : Int) (zs : List Int) (w : World) (hlen : zs.length = len) (hz : Bytes w a zs) :
    Calls Tryd.prog 133 #[.slice a len cap, .int .i64 p] w (Got .u32 w (getL false zs p)) := by
  have HL := hid hlen
  clear hlen
  go_enter Tryd.func133, Tryd.ntmps133
  go_wp2_with fail
  refine (getU_any a len cap p zs _ HL.out (hz.below ((Below.refl _ _).alloc (Nat.le_refl _) _))).mono ?_
  rintro e w' ⟨rfl, hb⟩
  generalize getL false zs p = r at *
  obtain ⟨c0, c1, f0, f1, hs⟩ := two hb
  go_wp2
  refine bodyPost_ret (v := .tuple #[.int .u32 r.1, .int .i64 r.2.1, .agg #[.int .i64 r.2.2.1, .int .i64 r.2.2.2]]) (by simp [results, Tryd.results133, go_sem, c0, c1]) rfl ⟨rfl, ?_⟩
  exact (((Below.refl _ _).alloc (Nat.le_refl _) _).trans (hb.mono (by simp))).setCell (by simp) _ |>.setCell (by simp) _
end Go.Proofs.YtlfflomeaplidaaDoor.Leb
