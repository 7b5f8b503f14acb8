/-
  The walk of the statement KindPuts: whether types and limits may be, and their bytes, are told as the document's own answers tell them.
-/
import Derived.Test.YtgndekmmeknfpaaKindAll
namespace Go.Proofs.Ytgndekmmeknfpaa
open Go.RowKit Leb Kind

/-- A type in block k, limits in block j. -/
abbrev Bx (k j : Nat) (p r n x : Int) (c : Bool) (w0 w : World) : Prop :=
  Below w0.heap.size w0 w ∧ w.cell? ⟨k, 0, none⟩ = some (.int .i64 p) ∧ w.cell? ⟨k, 1, none⟩ = some (.int .i64 r) ∧ w.cell? ⟨j, 0, none⟩ = some (.int .u32 n) ∧ w.cell? ⟨j, 1, none⟩ = some (.int .u32 x) ∧ w.cell? ⟨j, 2, none⟩ = some (.bool c)
theorem bx_keep {k j : Nat} {p r n x : Int} {c : Bool} {w0 w w' : World} (h : Bx k j p r n x c w0 w) (hb : Below w.heap.size w w') : Bx k j p r n x c w0 w' :=
  ⟨thenB h.1 hb, keep hb h.2.1, keep hb h.2.2.1, keep hb h.2.2.2.1, keep hb h.2.2.2.2.1, keep hb h.2.2.2.2.2⟩
theorem bx_start (w : World) (p r n x : Int) (c : Bool) (t t' : TypeId) : Bx w.heap.size (w.heap.size + 1) p r n x c w ((w.alloc (.cells #[.int .i64 p, .int .i64 r] t)).alloc (.cells #[.int .u32 n, .int .u32 x, .bool c] t')) :=
  ⟨((Below.refl _ _).alloc (Nat.le_refl _) _).alloc (by simp) _, by go_simp, by go_simp, by go_simp, by go_simp, by go_simp⟩
theorem bx_out {k j : Nat} {p r n x : Int} {c : Bool} {w0 w : World} (h : Bx k j p r n x c w0 w) : Below w0.heap.size w0 w := h.1
theorem bx_new {k j : Nat} {p r n x : Int} {c : Bool} {w0 w : World} (h : Bx k j p r n x c w0 w) : Bx k j p r n x c w w := ⟨Below.refl _ _, h.2⟩

set_option maxRecDepth 100000 in
set_option maxHeartbeats 3200000 in
theorem kindPuts_walk (w : World) (p r : Int) (n x : Int) (c : Bool) (hn : 0 ≤ n ∧ n ≤ 4294967295) (hx : 0 ≤ x ∧ x ≤ 4294967295) (most : Int) (_hm : 0 ≤ most ∧ most ≤ 4294967295) :
    Calls Try.prog 3 #[.agg #[.int .i64 p, .int .i64 r], .agg #[.int .u32 n, .int .u32 x, .bool c], .int .u32 most] w fun e w' => e = .returned (.bool true) ∧ Below w.heap.size w w' := by
  obtain ⟨m1, hm1⟩ : ∃ m, (putZ p r).length = m := ⟨_, rfl⟩
  obtain ⟨m2, hm2⟩ : ∃ m, (limZ n x c most).length = m := ⟨_, rfl⟩
  have A := fun W => put_any p r m1 hm1 W
  have B := fun W => refPut_any p r m1 hm1 W
  have C := fun W => putLim_any n x c most m2 hm2 hn hx W
  have D := fun W => refPutLim_any n x c most m2 hm2 hn hx W
  have E := fun W => check_any p r W
  have F := fun W => refCheck_any p r W
  have G := fun W => checkLimits_any n x c most W
  have H := fun W => refCheckLimits_any n x c most W
  have S1 := fun a b c d W hx hy => SameBytes_yes a b m1 c m1 d (putZ p r) W hm1 hm1 hx hy
  have S2 := fun a b c' d W hx hy => SameBytes_yes a b m2 c' m2 d (limZ n x c most) W hm2 hm2 hx hy
  generalize putZ p r = Z1 at *
  generalize limZ n x c most = Z2 at *
  generalize codeType p r = k1 at *
  generalize codeLim n x c most = k2 at *
  clear hm1 hm2
  go_enter Try.func3, Try.ntmps3
  go_wp2_with fail
  refine (A _).mono ?_
  rintro e w1 ⟨a1, q1, rfl, hy1, n1, hb1⟩
  have hB1 := bx_keep (bx_start w p r n x c 23 26) hb1
  obtain ⟨_, t0, t1, l0, l1, l2⟩ := id hB1
  clear hb1 A
  go_wp2_with fail
  refine (B _).mono ?_
  rintro e w2 ⟨a2, q2, rfl, hy2, n2, hb2⟩
  have hB2 := bx_keep hB1 hb2
  have hy1 := hy1.below hb2
  clear hb2 hB1 t0 t1 l0 l1 l2 B
  obtain ⟨_, t0, t1, l0, l1, l2⟩ := id hB2
  go_wp2_with fail
  refine (C _).mono ?_
  rintro e w3 ⟨a3, q3, rfl, hy3, n3, hb3⟩
  have hB3 := bx_keep hB2 hb3
  have hy1 := hy1.below hb3
  have hy2 := hy2.below hb3
  clear hb3 hB2 t0 t1 l0 l1 l2 C
  obtain ⟨_, t0, t1, l0, l1, l2⟩ := id hB3
  go_wp2_with fail
  refine (D _).mono ?_
  rintro e w4 ⟨a4, q4, rfl, hy4, n4, hb4⟩
  have hB4 := bx_keep hB3 hb4
  have hy1 := hy1.below hb4
  have hy2 := hy2.below hb4
  have hy3 := hy3.below hb4
  clear hb4 hB3 t0 t1 l0 l1 l2 D
  have hA4 := bx_out hB4
  have hN4 := bx_new hB4
  have hS := bx_keep hN4 (Below.refl _ _).drew
  clear hB4
  obtain ⟨_, t0, t1, l0, l1, l2⟩ := id hN4
  go_wp2
  go_region_held3 (fun w' => Below w4.heap.size w4 w' ∧ w'.cell? ⟨w.heap.size, 0, none⟩ = some (.int .i64 p) ∧ w'.cell? ⟨w.heap.size, 1, none⟩ = some (.int .i64 r) ∧ w'.cell? ⟨w.heap.size + 1, 0, none⟩ = some (.int .u32 n) ∧ w'.cell? ⟨w.heap.size + 1, 1, none⟩ = some (.int .u32 x) ∧ w'.cell? ⟨w.heap.size + 1, 2, none⟩ = some (.bool c))
    (first
      | (with_reducible assumption)
      | (with_reducible refine bx_keep ?_ hb10; with_reducible assumption)
      | (with_reducible refine bx_keep ?_ hb9; with_reducible assumption)
      | (with_reducible refine bx_keep ?_ hb8; with_reducible assumption)
      | (with_reducible refine bx_keep ?_ hb7; with_reducible assumption)
      | (with_reducible refine bx_keep ?_ hb6; with_reducible assumption))
    (first
      | (go_at_call 10; ((with_reducible refine (S1 a1 a2 q1 q2 _ (hy1.below ?_) (hy2.below ?_)).mono ?_); (exact bx_out (k := w.heap.size) (j := w.heap.size + 1) (p := p) (r := r) (n := n) (x := x) (c := c) (by assumption)); (exact bx_out (k := w.heap.size) (j := w.heap.size + 1) (p := p) (r := r) (n := n) (x := x) (c := c) (by assumption)); rintro e w5 ⟨rfl, rfl⟩))
      | (go_at_call 10; ((with_reducible refine (S2 a3 a4 q3 q4 _ (hy3.below ?_) (hy4.below ?_)).mono ?_); (exact bx_out (k := w.heap.size) (j := w.heap.size + 1) (p := p) (r := r) (n := n) (x := x) (c := c) (by assumption)); (exact bx_out (k := w.heap.size) (j := w.heap.size + 1) (p := p) (r := r) (n := n) (x := x) (c := c) (by assumption)); rintro e w5 ⟨rfl, rfl⟩))
      | (go_at_call 11; refine (E _).mono ?_; rintro e w6 ⟨rfl, hb6⟩)
      | (go_at_call 12; refine (F _).mono ?_; rintro e w7 ⟨rfl, hb7⟩)
      | (go_at_call 13; refine (G _).mono ?_; rintro e w8 ⟨rfl, hb8⟩)
      | (go_at_call 14; refine (H _).mono ?_; rintro e w9 ⟨rfl, hb9⟩)
      | (go_at_call 15; refine (awake_any _).mono ?_; rintro e w10 ⟨rfl, hb10⟩))
  all_goals go_wp2
  all_goals go_ret
  all_goals exact ⟨rfl, thenB hA4 (bx_out (k := w.heap.size) (j := w.heap.size + 1) (p := p) (r := r) (n := n) (x := x) (c := c) (by assumption))⟩
end Go.Proofs.Ytgndekmmeknfpaa
