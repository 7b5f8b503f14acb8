/-
  LEB: GetU and GetS, exported, by contracts; and what the statements' own small function 'awake' answers: true.
-/
import Derived.Test.YtbbpnlldlmjbpaaLebGetS
namespace Go.Proofs.Ytbbpnlldlmjbpaa.Leb
open Go.RowKit

theorem getU_any (a : Option Addr) (len cap : Nat) (p : Int) (zs : List Int) (w : World) (hlen : zs.length = len) (hz : Bytes w a zs) :
    Calls Try.prog 19 #[.slice a len cap, .int .i64 p] w (Got .u32 w (getL false zs p)) := by
  by_cases h : p < 0 ∨ (len : Int) < p
  · have e : getL false zs p = (0, 0, 5, 0) := by unfold getL; rw [hlen, if_pos h]
    rw [e]; exact getU_out a len cap p w h
  · obtain ⟨n, rfl⟩ := Int.eq_ofNat_of_zero_le (show 0 ≤ p by omega)
    have e : getL false zs n = goL false 0 0 (zs.drop n) n := by unfold getL; rw [hlen, if_neg h]; rfl
    rw [e]; exact getU_in a cap n zs len w hlen hz (by omega)
theorem getS_any (a : Option Addr) (len cap : Nat) (p : Int) (zs : List Int) (w : World) (hlen : zs.length = len) (hz : Bytes w a zs) :
    Calls Try.prog 20 #[.slice a len cap, .int .i64 p] w (Got .i32 w (getL true zs p)) := by
  by_cases h : p < 0 ∨ (len : Int) < p
  · have e : getL true zs p = (0, 0, 5, 0) := by unfold getL; rw [hlen, if_pos h]
    rw [e]; exact getS_out a len cap p w h
  · obtain ⟨n, rfl⟩ := Int.eq_ofNat_of_zero_le (show 0 ≤ p by omega)
    have e : getL true zs n = goL true 0 0 (zs.drop n) n := by unfold getL; rw [hlen, if_neg h]; rfl
    rw [e]; exact getS_in a cap n zs len w hlen hz (by omega)

set_option maxHeartbeats 400000 in
theorem GetU_any (a : Option Addr) (len cap : Nat) (p : Int) (zs : List Int) (w : World) (hlen : zs.length = len) (hz : Bytes w a zs) :
    Calls Try.prog 15 #[.slice a len cap, .int .i64 p] w (Got .u32 w (getL false zs p)) := by
  have HL := hid hlen
  clear hlen
  go_enter Try.func15, Try.ntmps15
  go_wp2_with fail
  refine (getU_any a len cap p zs _ HL.out (hz.below ((Below.refl _ _).alloc (Nat.le_refl _) _))).mono ?_
  rintro e w' ⟨rfl, hb⟩
  generalize getL false zs p = r at *
  obtain ⟨c0, c1, f0, f1, hs⟩ := two hb
  go_wp2
  refine bodyPost_ret (v := .tuple #[.int .u32 r.1, .int .i64 r.2.1, .agg #[.int .i64 r.2.2.1, .int .i64 r.2.2.2]]) (by simp [results, Try.results15, go_sem, c0, c1]) rfl ⟨rfl, ?_⟩
  exact (((Below.refl _ _).alloc (Nat.le_refl _) _).trans (hb.mono (by simp))).setCell (by simp) _ |>.setCell (by simp) _
set_option maxHeartbeats 400000 in
theorem GetS_any (a : Option Addr) (len cap : Nat) (p : Int) (zs : List Int) (w : World) (hlen : zs.length = len) (hz : Bytes w a zs) :
    Calls Try.prog 16 #[.slice a len cap, .int .i64 p] w (Got .i32 w (getL true zs p)) := by
  have HL := hid hlen
  clear hlen
  go_enter Try.func16, Try.ntmps16
  go_wp2_with fail
  refine (getS_any a len cap p zs _ HL.out (hz.below ((Below.refl _ _).alloc (Nat.le_refl _) _))).mono ?_
  rintro e w' ⟨rfl, hb⟩
  generalize getL true zs p = r at *
  obtain ⟨c0, c1, f0, f1, hs⟩ := two hb
  go_wp2
  refine bodyPost_ret (v := .tuple #[.int .i32 r.1, .int .i64 r.2.1, .agg #[.int .i64 r.2.2.1, .int .i64 r.2.2.2]]) (by simp [results, Try.results16, go_sem, c0, c1]) rfl ⟨rfl, ?_⟩
  exact (((Below.refl _ _).alloc (Nat.le_refl _) _).trans (hb.mono (by simp))).setCell (by simp) _ |>.setCell (by simp) _

set_option maxHeartbeats 800000 in
theorem awake_any (w : World) : Calls Try.prog 14 #[] w fun e w' => e = .returned (.bool true) ∧ Below w.heap.size w w' := by
  go_enter Try.func14, Try.ntmps14
  go_wp2_with fail
  refine (GetU_any _ 3 3 1 [9, 128, 1] _ rfl ?_).mono ?_
  · refine ⟨by decide, by decide, .inr ⟨w.heap.size, 0, rfl, fun i hi => ?_⟩⟩
    match i, hi with
    | 0, _ => go_simp
    | 1, _ => go_simp
    | 2, _ => go_simp
  have hr : getL false [9, 128, 1] 1 = (128, 3, 0, 0) := by decide
  rw [hr]
  rintro e w1 ⟨rfl, hb1⟩
  have hs1 : w.heap.size + 1 ≤ w1.heap.size := by have := hb1.size; simp at this; omega
  clear hr
  go_wp2_with fail
  refine (GetS_any _ 2 2 0 [191, 127] _ rfl ?_).mono ?_
  · refine ⟨by decide, by decide, .inr ⟨w1.heap.size + 1, 0, rfl, fun i hi => ?_⟩⟩
    match i, hi with
    | 0, _ => go_simp
    | 1, _ => go_simp
  have hr2 : getL true [191, 127] 0 = (-65, 2, 0, 0) := by decide
  rw [hr2]
  rintro e w2 ⟨rfl, hb2⟩
  have hc2 : w2.cell? ⟨w1.heap.size, 0, none⟩ = some (.int .i64 0) := ((old hb2).1 _ _ (by simp; omega)).trans (by go_simp)
  have hc3 : ∀ o, (w2.alloc o).cell? ⟨w1.heap.size, 0, none⟩ = some (.int .i64 0) := fun o => (((Below.refl _ _).alloc (Nat.le_refl _) o).cell (World.block_lt_of_cell? w2 _ hc2)).trans hc2
  clear hc2
  have hs2 : w1.heap.size + 2 ≤ w2.heap.size := by have := hb2.size; simp at this; omega
  clear hr2
  go_wp2
  go_ret
  refine ⟨rfl, ?_⟩
  exact (((Below.refl _ _).alloc (Nat.le_refl _) _).trans (hb1.mono (by simp))).trans ((((Below.refl _ _).alloc (by omega) _).alloc (by simp; omega) _).trans ((hb2.mono (by simp; omega)).alloc (by omega) _))
end Go.Proofs.Ytbbpnlldlmjbpaa.Leb
