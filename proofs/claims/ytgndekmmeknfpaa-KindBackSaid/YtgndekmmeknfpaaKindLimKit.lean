/-
  Kind: what GetLimits' own variables hold; its deferred closure by contract.
-/
import Derived.Test.YtgndekmmeknfpaaKindGetT
namespace Go.Proofs.Ytgndekmmeknfpaa.Kind
set_option linter.unusedSimpArgs false
set_option linter.unusedVariables false
open Go.RowKit Go.Proofs.Ytgndekmmeknfpaa.Leb

/-- The frame's own variables: the answer (three cells from ⟨T, 0⟩ on), the place behind (⟨N, 0⟩), the fault (⟨F, 0⟩, ⟨F, 1⟩). -/
structure FrL (w : World) (T N F : Nat) (x y z : Value) : Prop where
  t0 : w.cell? ⟨T, 0, none⟩ = some x
  t1 : w.cell? ⟨T, 1, none⟩ = some y
  t2 : w.cell? ⟨T, 2, none⟩ = some z
  n0 : w.cell? ⟨N, 0, none⟩ = some (.int .i64 0)
  f0 : w.cell? ⟨F, 0, none⟩ = some (.int .i64 0)
  f1 : w.cell? ⟨F, 1, none⟩ = some (.int .i64 0)
  i0 : w.frozen? ⟨T, 0, none⟩ = false
  i1 : w.frozen? ⟨T, 1, none⟩ = false
  i2 : w.frozen? ⟨T, 2, none⟩ = false
  j0 : w.frozen? ⟨N, 0, none⟩ = false
  g0 : w.frozen? ⟨F, 0, none⟩ = false
  g1 : w.frozen? ⟨F, 1, none⟩ = false
theorem FrL.save {w w' : World} {T N F k : Nat} {x y z : Value} (h : FrL w T N F x y z) (s : Save k w w') (hT : T ≠ k) (hN : N ≠ k) (hF : F ≠ k) : FrL w' T N F x y z := by
  have lT := World.block_lt_of_cell? w _ h.t0
  have lN := World.block_lt_of_cell? w _ h.n0
  have lF := World.block_lt_of_cell? w _ h.f0
  exact ⟨s.cell hT h.t0, s.cell hT h.t1, s.cell hT h.t2, s.cell hN h.n0, s.cell hF h.f0, s.cell hF h.f1, s.frozen lT hT h.i0, s.frozen lT hT h.i1, s.frozen lT hT h.i2, s.frozen lN hN h.j0, s.frozen lF hF h.g0, s.frozen lF hF h.g1⟩
theorem FrL.below {w w' : World} {T N F : Nat} {x y z : Value} (h : FrL w T N F x y z) (hb : Below w.heap.size w w') : FrL w' T N F x y z :=
  h.save (k := w.heap.size) (.of_below hb) (Nat.ne_of_lt (World.block_lt_of_cell? w _ h.t0)) (Nat.ne_of_lt (World.block_lt_of_cell? w _ h.n0)) (Nat.ne_of_lt (World.block_lt_of_cell? w _ h.f0))
theorem FrL.set0 {w : World} {T N F : Nat} {x y z u : Value} (h : FrL w T N F x y z) (hN : N ≠ T) (hF : F ≠ T) : FrL (w.setCell ⟨T, 0, none⟩ u) T N F u y z := by
  refine ⟨?_, ?_, ?_, ?_, ?_, ?_, ?_, ?_, ?_, ?_, ?_, ?_⟩ <;> simp [go_sem, h.t0, h.t1, h.t2, h.n0, h.f0, h.f1, h.i0, h.i1, h.i2, h.j0, h.g0, h.g1, hN, hF, Ne.symm hN, Ne.symm hF]
theorem FrL.set1 {w : World} {T N F : Nat} {x y z u : Value} (h : FrL w T N F x y z) (hN : N ≠ T) (hF : F ≠ T) : FrL (w.setCell ⟨T, 1, none⟩ u) T N F x u z := by
  refine ⟨?_, ?_, ?_, ?_, ?_, ?_, ?_, ?_, ?_, ?_, ?_, ?_⟩ <;> simp [go_sem, h.t0, h.t1, h.t2, h.n0, h.f0, h.f1, h.i0, h.i1, h.i2, h.j0, h.g0, h.g1, hN, hF, Ne.symm hN, Ne.symm hF]
theorem FrL.set2 {w : World} {T N F : Nat} {x y z u : Value} (h : FrL w T N F x y z) (hN : N ≠ T) (hF : F ≠ T) : FrL (w.setCell ⟨T, 2, none⟩ u) T N F x y u := by
  refine ⟨?_, ?_, ?_, ?_, ?_, ?_, ?_, ?_, ?_, ?_, ?_, ?_⟩ <;> simp [go_sem, h.t0, h.t1, h.t2, h.n0, h.f0, h.f1, h.i0, h.i1, h.i2, h.j0, h.g0, h.g1, hN, hF, Ne.symm hN, Ne.symm hF]
theorem frL_start (w : World) (t t' t'' : TypeId) : FrL (((w.alloc (.cells #[.int .u32 0, .int .u32 0, .bool false] t)).alloc (.cells #[.int .i64 0] t')).alloc (.cells #[.int .i64 0, .int .i64 0] t'')) w.heap.size (w.heap.size + 1) (w.heap.size + 1 + 1) (.int .u32 0) (.int .u32 0) (.bool false) := by
  refine ⟨?_, ?_, ?_, ?_, ?_, ?_, ?_, ?_, ?_, ?_, ?_, ?_⟩ <;> go_simp

/-- What the loads of the last statement read. -/
abbrev ReadsL (T R k F : Nat) (x y z : Value) (pe : Int) (w' : World) : Prop := w'.cell? ⟨T, 0, none⟩ = some x ∧ w'.cell? ⟨T, 1, none⟩ = some y ∧ w'.cell? ⟨T, 2, none⟩ = some z ∧ w'.cell? ⟨R, 0, none⟩ = some (.pointer (some ⟨k, 0, none⟩)) ∧ w'.cell? ⟨k, 1, none⟩ = some (.int .i64 pe) ∧ w'.cell? ⟨F, 0, none⟩ = some (.int .i64 0) ∧ w'.cell? ⟨F, 1, none⟩ = some (.int .i64 0)
theorem readsL_T {W : World} {T R k F : Nat} {x y z : Value} {pe : Int} (h : ReadsL T R k F x y z pe W.drew) (nR : ¬ R = T) (nk : ¬ k = T) (nF : ¬ F = T) : ReadsL T R k F x y z pe (((W.setCell ⟨T, 0, none⟩ x).setCell ⟨T, 1, none⟩ y).setCell ⟨T, 2, none⟩ z).drew := by
  obtain ⟨h1, h2, h7, h3, h4, h5, h6⟩ := h
  simp at h1 h2 h3 h4 h5 h6 h7
  refine ⟨?_, ?_, ?_, ?_, ?_, ?_, ?_⟩ <;> simp [go_sem, h1, h2, h3, h4, h5, h6, h7, nR, nk, nF, Ne.symm nR, Ne.symm nk, Ne.symm nF]
theorem readsL_N {W : World} {T R k F N : Nat} {x y z u : Value} {pe : Int} (h : ReadsL T R k F x y z pe W.drew) (nT : ¬ T = N) (nR : ¬ R = N) (nk : ¬ k = N) (nF : ¬ F = N) : ReadsL T R k F x y z pe (W.setCell ⟨N, 0, none⟩ u).drew := by
  obtain ⟨h1, h2, h7, h3, h4, h5, h6⟩ := h
  simp at h1 h2 h3 h4 h5 h6 h7
  refine ⟨?_, ?_, ?_, ?_, ?_, ?_, ?_⟩ <;> simp [go_sem, h1, h2, h3, h4, h5, h6, h7, nT, nR, nk, nF, Ne.symm nT, Ne.symm nR, Ne.symm nk, Ne.symm nF]
theorem readsL_F {W : World} {T R k F : Nat} {x y z : Value} {pe : Int} (h : ReadsL T R k F x y z pe W.drew) (nT : ¬ T = F) (nR : ¬ R = F) (nk : ¬ k = F) : ReadsL T R k F x y z pe ((W.setCell ⟨F, 0, none⟩ (.int .i64 0)).setCell ⟨F, 1, none⟩ (.int .i64 0)).drew := by
  obtain ⟨h1, h2, h7, h3, h4, h5, h6⟩ := h
  simp at h1 h2 h3 h4 h5 h6 h7
  refine ⟨?_, ?_, ?_, ?_, ?_, ?_, ?_⟩ <;> simp [go_sem, h1, h2, h3, h4, h5, h6, h7, nT, nR, nk, Ne.symm nT, Ne.symm nR, Ne.symm nk]

/-- The cells at the door, ahead of the deferred closure. -/
structure FrLD (W : World) (T N F R k : Nat) (x y z : Value) (pe er fa : Int) : Prop where
  t0 : W.cell? ⟨T, 0, none⟩ = some x
  t1 : W.cell? ⟨T, 1, none⟩ = some y
  t2 : W.cell? ⟨T, 2, none⟩ = some z
  n0 : W.cell? ⟨N, 0, none⟩ = some (.int .i64 pe)
  f0 : W.cell? ⟨F, 0, none⟩ = some (.int .i64 0)
  f1 : W.cell? ⟨F, 1, none⟩ = some (.int .i64 0)
  i0 : W.frozen? ⟨T, 0, none⟩ = false
  i1 : W.frozen? ⟨T, 1, none⟩ = false
  i2 : W.frozen? ⟨T, 2, none⟩ = false
  j0 : W.frozen? ⟨N, 0, none⟩ = false
  g0 : W.frozen? ⟨F, 0, none⟩ = false
  g1 : W.frozen? ⟨F, 1, none⟩ = false
  r0 : W.cell? ⟨R, 0, none⟩ = some (.pointer (some ⟨k, 0, none⟩))
  c2 : W.cell? ⟨k, 2, none⟩ = some (.int .i64 er)
  c3 : W.cell? ⟨k, 3, none⟩ = some (.int .i64 fa)
theorem frLD_of {w : World} {T N F R k : Nat} {x y z v : Value} {pe er fa : Int} (h : FrL w T N F x y z) (hr : RdIs w k v (pe, er, fa)) (r0 : w.cell? ⟨R, 0, none⟩ = some (.pointer (some ⟨k, 0, none⟩)))
    (nTN : ¬ T = N) (nTF : ¬ T = F) (nNF : ¬ N = F) (nRT : ¬ R = T) (nRN : ¬ R = N) (nRF : ¬ R = F) (nkT : ¬ k = T) (nkN : ¬ k = N) (nkF : ¬ k = F) :
    FrLD ((((((w.setCell ⟨T, 0, none⟩ x).setCell ⟨T, 1, none⟩ y).setCell ⟨T, 2, none⟩ z).setCell ⟨N, 0, none⟩ (.int .i64 pe)).setCell ⟨F, 0, none⟩ (.int .i64 0)).setCell ⟨F, 1, none⟩ (.int .i64 0)).drew T N F R k x y z pe er fa := by
  have c2 := hr.c2
  have c3 := hr.c3
  simp only at c2 c3
  refine ⟨?_, ?_, ?_, ?_, ?_, ?_, ?_, ?_, ?_, ?_, ?_, ?_, ?_, ?_, ?_⟩ <;>
    simp [go_sem, h.t0, h.t1, h.t2, h.n0, h.f0, h.f1, h.i0, h.i1, h.i2, h.j0, h.g0, h.g1, r0, c2, c3, nTN, nTF, nNF, nRT, nRN, nRF, nkT, nkN, nkF, Ne.symm nTN, Ne.symm nTF, Ne.symm nNF, Ne.symm nRT, Ne.symm nRN, Ne.symm nRF, Ne.symm nkT, Ne.symm nkN, Ne.symm nkF]

theorem closeL_ok (R F T N k : Nat) (f : Int) (u v : Value) (w : World) (hr : w.cell? ⟨R, 0, none⟩ = some (.pointer (some ⟨k, 0, none⟩))) (c2 : w.cell? ⟨k, 2, none⟩ = some (.int .i64 0)) (c3 : w.cell? ⟨k, 3, none⟩ = some (.int .i64 f))
    (f0 : w.cell? ⟨F, 0, none⟩ = some u) (f1 : w.cell? ⟨F, 1, none⟩ = some v) (g0 : w.frozen? ⟨F, 0, none⟩ = false) (g1 : w.frozen? ⟨F, 1, none⟩ = false) :
    CallsD Try.prog 29 #[.pointer (some ⟨R, 0, none⟩), .pointer (some ⟨F, 0, none⟩), .pointer (some ⟨T, 0, none⟩), .pointer (some ⟨N, 0, none⟩)] .returning w
      fun e u' w' => u' = .returning ∧ (e = .returned (.tuple #[]) ∧ w' = (w.setCell ⟨F, 0, none⟩ (.int .i64 0)).setCell ⟨F, 1, none⟩ (.int .i64 f)) := by
  go_enter_d Try.func29, Try.ntmps29
  go_wp2
  go_end0
  exact ⟨rfl, rfl⟩

theorem closeL_no (R F T N k : Nat) (e f : Int) (u v x y z n : Value) (w : World) (he : e ≠ 0) (hr : w.cell? ⟨R, 0, none⟩ = some (.pointer (some ⟨k, 0, none⟩))) (c2 : w.cell? ⟨k, 2, none⟩ = some (.int .i64 e)) (c3 : w.cell? ⟨k, 3, none⟩ = some (.int .i64 f))
    (f0 : w.cell? ⟨F, 0, none⟩ = some u) (f1 : w.cell? ⟨F, 1, none⟩ = some v) (g0 : w.frozen? ⟨F, 0, none⟩ = false) (g1 : w.frozen? ⟨F, 1, none⟩ = false)
    (t0 : w.cell? ⟨T, 0, none⟩ = some x) (t1 : w.cell? ⟨T, 1, none⟩ = some y) (t2 : w.cell? ⟨T, 2, none⟩ = some z) (i0 : w.frozen? ⟨T, 0, none⟩ = false) (i1 : w.frozen? ⟨T, 1, none⟩ = false) (i2 : w.frozen? ⟨T, 2, none⟩ = false)
    (n0 : w.cell? ⟨N, 0, none⟩ = some n) (j0 : w.frozen? ⟨N, 0, none⟩ = false) (hTF : T ≠ F) (hNF : N ≠ F) (hNT : N ≠ T) :
    CallsD Try.prog 29 #[.pointer (some ⟨R, 0, none⟩), .pointer (some ⟨F, 0, none⟩), .pointer (some ⟨T, 0, none⟩), .pointer (some ⟨N, 0, none⟩)] .returning w
      fun e' u' w' => u' = .returning ∧ (e' = .returned (.tuple #[]) ∧ w' = (((((w.setCell ⟨F, 0, none⟩ (.int .i64 e)).setCell ⟨F, 1, none⟩ (.int .i64 f)).setCell ⟨T, 0, none⟩ (.int .u32 0)).setCell ⟨T, 1, none⟩ (.int .u32 0)).setCell ⟨T, 2, none⟩ (.bool false)).setCell ⟨N, 0, none⟩ (.int .i64 0)) := by
  have he1 : (e != 0) = true := by simp [he]
  have he2 : ¬ e = 0 := he
  have hTF' : ¬ F = T := fun h => hTF h.symm
  have hNF' : ¬ F = N := fun h => hNF h.symm
  have hNT' : ¬ T = N := fun h => hNT h.symm
  clear he
  go_enter_d Try.func29, Try.ntmps29
  go_wp2
  go_end0
  exact ⟨rfl, rfl⟩

/-- What GetLimits tells, of what it has read and of the reader's last state. -/
def finL (n x : Int) (c : Bool) (s : Rd) : Int × Int × Bool × Int × Int × Int := if s.2.1 = 0 then (n, x, c, s.1, 0, s.2.2) else (0, 0, false, 0, s.2.1, s.2.2)
theorem finL_ok (n x : Int) (c : Bool) (pe fa : Int) : finL n x c (pe, 0, fa) = (n, x, c, pe, 0, fa) := rfl
theorem finL_no {n x : Int} {c : Bool} {pe er fa : Int} (h : ¬ er = 0) : finL n x c (pe, er, fa) = (0, 0, false, 0, er, fa) := if_neg h
def GotL (w : World) (r : Int × Int × Bool × Int × Int × Int) (e : Ending) (w' : World) : Prop :=
  e = .returned (.tuple #[.agg #[.int .u32 r.1, .int .u32 r.2.1, .bool r.2.2.1], .int .i64 r.2.2.2.1, .agg #[.int .i64 r.2.2.2.2.1, .int .i64 r.2.2.2.2.2]]) ∧ Below w.heap.size w w'
end Go.Proofs.Ytgndekmmeknfpaa.Kind
