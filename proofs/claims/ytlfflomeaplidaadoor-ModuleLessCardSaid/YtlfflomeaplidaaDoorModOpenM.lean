/-
  MODULE: a module as an argument: all its lists.
-/
import Derived.Test.YtlfflomeaplidaaDoorModOpen
namespace Go.Proofs.YtlfflomeaplidaaDoor.Mod
open Go.RowKit Go.ChangeShapes Go.WideShapes Go.ChangeAt Go.Joins Go.Deep Go.Proofs.YtlfflomeaplidaaDoor.Instr

variable {H : Type} {enc : TypeId × Value → H} {W : World}
theorem honeM : oneCellFields Tryd.prog (Tryd.prog.fieldsOf 46) = true := by kernel_rfl
set_option maxRecDepth 100000 in
set_option maxHeartbeats 2000000 in
theorem open_module {ts : List TypeId} {ds : List (DataW H)} {base : Nat} {v : Value} {d : DataW H} {p : List MemPlace}
    (hsz : (DataW.weightsEach Tryd.prog ts ds).all (· ≤ reachBytes) = true) (j : Nat) (ht : ts[j]? = some 46) (hd : ds[j]? = some d)
    (hv : Value.okWide Tryd.prog W .any base 46 v) (h : DataW.Trod enc Tryd.prog W 0 (fun _ => true) true 46 v d p) :
    ∃ m : Md, v = .agg m.v ∧ ModAt W.heap.size W m ∧ m.fits ∧ m.caps := by
  obtain ⟨cs, rfl, hcs⟩ := okWide_struct Tryd.underlying46 hv
  rw [show Tryd.prog.cellsOf 46 = 11 by kernel_rfl] at hcs
  obtain ⟨fuel, hf⟩ := h
  obtain ⟨xs, n, _, hx, _, hlen, hff⟩ := DataW.trod_struct Tryd.underlying46 hf
  have hone := hone_of (show oneCellFields Tryd.prog _ = true from honeM)
  obtain ⟨l⟩ := cs
  have hl : l.length = 11 := by simpa using hcs
  have hwd : Wok 46 d := fun q hq => by
    have := List.all_eq_true.1 hsz _ (DataW.weights_mem_each ht hd q hq)
    simpa using this
  simp only [Prod.mk.injEq] at hx
  obtain ⟨rfl, _⟩ := hx
  match l, hl, xs, hlen with
  | [v0, v1, v2, v3, v4, v5, v6, v7, v8, v9, v10], _, [y0, y1, y2, y3, y4, y5, y6, y7, y8, y9, y10], _ =>
    have w0 : Wok 36 y0.1 := fun q hq => hwd q (by simp only [DataW.weights, Tryd.underlying46]; exact DataW.weights_mem_each (j := 0) rfl rfl q hq)
    have f0 : DataW.trod enc Tryd.prog W 0 (fun _ => true) true n 36 [v0] = some y0 := by
      have h : DataW.trod enc Tryd.prog W 0 (fun _ => true) true n 36 (((Value.agg #[v0, v1, v2, v3, v4, v5, v6, v7, v8, v9, v10]).cells.toList.drop 0).take (Tryd.prog.cellsOf 36)) = [y0, y1, y2, y3, y4, y5, y6, y7, y8, y9, y10][0]? := hff 0 _ rfl
      rw [show Tryd.prog.cellsOf 36 = 1 by kernel_rfl] at h
      exact h
    have w1 : Wok 37 y1.1 := fun q hq => hwd q (by simp only [DataW.weights, Tryd.underlying46]; exact DataW.weights_mem_each (j := 1) rfl rfl q hq)
    have f1 : DataW.trod enc Tryd.prog W 0 (fun _ => true) true n 37 [v1] = some y1 := by
      have h : DataW.trod enc Tryd.prog W 0 (fun _ => true) true n 37 (((Value.agg #[v0, v1, v2, v3, v4, v5, v6, v7, v8, v9, v10]).cells.toList.drop 1).take (Tryd.prog.cellsOf 37)) = [y0, y1, y2, y3, y4, y5, y6, y7, y8, y9, y10][1]? := hff 1 _ rfl
      rw [show Tryd.prog.cellsOf 37 = 1 by kernel_rfl] at h
      exact h
    have w2 : Wok 38 y2.1 := fun q hq => hwd q (by simp only [DataW.weights, Tryd.underlying46]; exact DataW.weights_mem_each (j := 2) rfl rfl q hq)
    have f2 : DataW.trod enc Tryd.prog W 0 (fun _ => true) true n 38 [v2] = some y2 := by
      have h : DataW.trod enc Tryd.prog W 0 (fun _ => true) true n 38 (((Value.agg #[v0, v1, v2, v3, v4, v5, v6, v7, v8, v9, v10]).cells.toList.drop 2).take (Tryd.prog.cellsOf 38)) = [y0, y1, y2, y3, y4, y5, y6, y7, y8, y9, y10][2]? := hff 2 _ rfl
      rw [show Tryd.prog.cellsOf 38 = 1 by kernel_rfl] at h
      exact h
    have w3 : Wok 39 y3.1 := fun q hq => hwd q (by simp only [DataW.weights, Tryd.underlying46]; exact DataW.weights_mem_each (j := 3) rfl rfl q hq)
    have f3 : DataW.trod enc Tryd.prog W 0 (fun _ => true) true n 39 [v3] = some y3 := by
      have h : DataW.trod enc Tryd.prog W 0 (fun _ => true) true n 39 (((Value.agg #[v0, v1, v2, v3, v4, v5, v6, v7, v8, v9, v10]).cells.toList.drop 3).take (Tryd.prog.cellsOf 39)) = [y0, y1, y2, y3, y4, y5, y6, y7, y8, y9, y10][3]? := hff 3 _ rfl
      rw [show Tryd.prog.cellsOf 39 = 1 by kernel_rfl] at h
      exact h
    have w4 : Wok 39 y4.1 := fun q hq => hwd q (by simp only [DataW.weights, Tryd.underlying46]; exact DataW.weights_mem_each (j := 4) rfl rfl q hq)
    have f4 : DataW.trod enc Tryd.prog W 0 (fun _ => true) true n 39 [v4] = some y4 := by
      have h : DataW.trod enc Tryd.prog W 0 (fun _ => true) true n 39 (((Value.agg #[v0, v1, v2, v3, v4, v5, v6, v7, v8, v9, v10]).cells.toList.drop 4).take (Tryd.prog.cellsOf 39)) = [y0, y1, y2, y3, y4, y5, y6, y7, y8, y9, y10][4]? := hff 4 _ rfl
      rw [show Tryd.prog.cellsOf 39 = 1 by kernel_rfl] at h
      exact h
    have w5 : Wok 40 y5.1 := fun q hq => hwd q (by simp only [DataW.weights, Tryd.underlying46]; exact DataW.weights_mem_each (j := 5) rfl rfl q hq)
    have f5 : DataW.trod enc Tryd.prog W 0 (fun _ => true) true n 40 [v5] = some y5 := by
      have h : DataW.trod enc Tryd.prog W 0 (fun _ => true) true n 40 (((Value.agg #[v0, v1, v2, v3, v4, v5, v6, v7, v8, v9, v10]).cells.toList.drop 5).take (Tryd.prog.cellsOf 40)) = [y0, y1, y2, y3, y4, y5, y6, y7, y8, y9, y10][5]? := hff 5 _ rfl
      rw [show Tryd.prog.cellsOf 40 = 1 by kernel_rfl] at h
      exact h
    have w6 : Wok 41 y6.1 := fun q hq => hwd q (by simp only [DataW.weights, Tryd.underlying46]; exact DataW.weights_mem_each (j := 6) rfl rfl q hq)
    have f6 : DataW.trod enc Tryd.prog W 0 (fun _ => true) true n 41 [v6] = some y6 := by
      have h : DataW.trod enc Tryd.prog W 0 (fun _ => true) true n 41 (((Value.agg #[v0, v1, v2, v3, v4, v5, v6, v7, v8, v9, v10]).cells.toList.drop 6).take (Tryd.prog.cellsOf 41)) = [y0, y1, y2, y3, y4, y5, y6, y7, y8, y9, y10][6]? := hff 6 _ rfl
      rw [show Tryd.prog.cellsOf 41 = 1 by kernel_rfl] at h
      exact h
    have w7 : Wok 4 y7.1 := fun q hq => hwd q (by simp only [DataW.weights, Tryd.underlying46]; exact DataW.weights_mem_each (j := 7) rfl rfl q hq)
    have f7 : DataW.trod enc Tryd.prog W 0 (fun _ => true) true n 4 [v7] = some y7 := by
      have h : DataW.trod enc Tryd.prog W 0 (fun _ => true) true n 4 (((Value.agg #[v0, v1, v2, v3, v4, v5, v6, v7, v8, v9, v10]).cells.toList.drop 7).take (Tryd.prog.cellsOf 4)) = [y0, y1, y2, y3, y4, y5, y6, y7, y8, y9, y10][7]? := hff 7 _ rfl
      rw [show Tryd.prog.cellsOf 4 = 1 by kernel_rfl] at h
      exact h
    have w8 : Wok 42 y8.1 := fun q hq => hwd q (by simp only [DataW.weights, Tryd.underlying46]; exact DataW.weights_mem_each (j := 8) rfl rfl q hq)
    have f8 : DataW.trod enc Tryd.prog W 0 (fun _ => true) true n 42 [v8] = some y8 := by
      have h : DataW.trod enc Tryd.prog W 0 (fun _ => true) true n 42 (((Value.agg #[v0, v1, v2, v3, v4, v5, v6, v7, v8, v9, v10]).cells.toList.drop 8).take (Tryd.prog.cellsOf 42)) = [y0, y1, y2, y3, y4, y5, y6, y7, y8, y9, y10][8]? := hff 8 _ rfl
      rw [show Tryd.prog.cellsOf 42 = 1 by kernel_rfl] at h
      exact h
    have w9 : Wok 43 y9.1 := fun q hq => hwd q (by simp only [DataW.weights, Tryd.underlying46]; exact DataW.weights_mem_each (j := 9) rfl rfl q hq)
    have f9 : DataW.trod enc Tryd.prog W 0 (fun _ => true) true n 43 [v9] = some y9 := by
      have h : DataW.trod enc Tryd.prog W 0 (fun _ => true) true n 43 (((Value.agg #[v0, v1, v2, v3, v4, v5, v6, v7, v8, v9, v10]).cells.toList.drop 9).take (Tryd.prog.cellsOf 43)) = [y0, y1, y2, y3, y4, y5, y6, y7, y8, y9, y10][9]? := hff 9 _ rfl
      rw [show Tryd.prog.cellsOf 43 = 1 by kernel_rfl] at h
      exact h
    have w10 : Wok 44 y10.1 := fun q hq => hwd q (by simp only [DataW.weights, Tryd.underlying46]; exact DataW.weights_mem_each (j := 10) rfl rfl q hq)
    have f10 : DataW.trod enc Tryd.prog W 0 (fun _ => true) true n 44 [v10] = some y10 := by
      have h : DataW.trod enc Tryd.prog W 0 (fun _ => true) true n 44 (((Value.agg #[v0, v1, v2, v3, v4, v5, v6, v7, v8, v9, v10]).cells.toList.drop 10).take (Tryd.prog.cellsOf 44)) = [y0, y1, y2, y3, y4, y5, y6, y7, y8, y9, y10][10]? := hff 10 _ rfl
      rw [show Tryd.prog.cellsOf 44 = 1 by kernel_rfl] at h
      exact h
    obtain ⟨a0, c0, l0, e0, k0, b0, r0, g0⟩ := open_rows (sz := 2) tyV _ Tryd.underlying36 (by kernel_rfl) (by omega) rfl (of_decide_eq_true (by kernel_rfl)) (fun _ _ _ h hw => one_ty h hw) f0 w0
    obtain ⟨a1, c1, l1, e1, k1, b1, r1, g1⟩ := open_rows (sz := 3) Imp.v _ Tryd.underlying37 (by kernel_rfl) (by omega) rfl (of_decide_eq_true (by kernel_rfl)) (fun _ _ _ h hw => one_im h hw) f1 w1
    obtain ⟨a2, c2, l2, e2, k2, b2, r2, g2⟩ := open_rows (sz := 3) Fn.v _ Tryd.underlying38 (by kernel_rfl) (by omega) rfl (of_decide_eq_true (by kernel_rfl)) (fun _ _ _ h hw => one_fu h hw) f2 w2
    obtain ⟨a3, c3, l3, e3, k3, b3, r3, g3⟩ := open_rows (sz := 3) Li.v _ Tryd.underlying39 (by kernel_rfl) (by omega) rfl (of_decide_eq_true (by kernel_rfl)) (fun _ _ _ h hw => one_li h hw) f3 w3
    obtain ⟨a4, c4, l4, e4, k4, b4, r4, g4⟩ := open_rows (sz := 3) Li.v _ Tryd.underlying39 (by kernel_rfl) (by omega) rfl (of_decide_eq_true (by kernel_rfl)) (fun _ _ _ h hw => one_li h hw) f4 w4
    obtain ⟨a5, c5, l5, e5, k5, b5, r5, g5⟩ := open_rows (sz := 2) Gl.v _ Tryd.underlying40 (by kernel_rfl) (by omega) rfl (of_decide_eq_true (by kernel_rfl)) (fun _ _ _ h hw => one_gl h hw) f5 w5
    obtain ⟨a6, c6, l6, e6, k6, b6, r6, g6⟩ := open_rows (sz := 3) Ex.v _ Tryd.underlying41 (by kernel_rfl) (by omega) rfl (of_decide_eq_true (by kernel_rfl)) (fun _ _ _ h hw => one_ex h hw) f6 w6
    obtain ⟨z7, e7, -⟩ := DataW.trod_bool Tryd.underlying4 f7
    obtain ⟨z8, e8, -, _⟩ := DataW.trod_int Tryd.underlying42 f8
    obtain ⟨a9, c9, l9, e9, k9, b9, r9, g9⟩ := open_rows (sz := 2) El.v _ Tryd.underlying43 (by kernel_rfl) (by omega) rfl (of_decide_eq_true (by kernel_rfl)) (fun _ _ _ h hw => one_el h hw) f9 w9
    obtain ⟨a10, c10, l10, e10, k10, b10, r10, g10⟩ := open_rows (sz := 2) Da.v _ Tryd.underlying44 (by kernel_rfl) (by omega) rfl (of_decide_eq_true (by kernel_rfl)) (fun _ _ _ h hw => one_da h hw) f10 w10
    simp only [List.cons.injEq, and_true] at e0 e1 e2 e3 e4 e5 e6 e7 e8 e9 e10
    subst e0 e1 e2 e3 e4 e5 e6 e7 e8 e9 e10
    have hcodes : ∀ l ∈ (⟨l0, l1, l2, l3, l4, l5, l6, z7, z8, l9, l10, ⟨a0, c0⟩, ⟨a1, c1⟩, ⟨a2, c2⟩, ⟨a3, c3⟩, ⟨a4, c4⟩, ⟨a5, c5⟩, ⟨a6, c6⟩, ⟨a9, c9⟩, ⟨a10, c10⟩⟩ : Md).codes, LGood W l := by
      intro l hl
      unfold Md.codes at hl
      simp only [List.mem_append, List.mem_map] at hl
      rcases hl with ⟨x, hx, rfl⟩ | ⟨x, hx, rfl⟩ | ⟨x, hx, rfl⟩ | ⟨x, hx, rfl⟩
      · exact g2 x hx
      · exact g5 x hx
      · exact (g9 x hx).1
      · exact (g10 x hx).1
    refine ⟨⟨l0, l1, l2, l3, l4, l5, l6, z7, z8, l9, l10, ⟨a0, c0⟩, ⟨a1, c1⟩, ⟨a2, c2⟩, ⟨a3, c3⟩, ⟨a4, c4⟩, ⟨a5, c5⟩, ⟨a6, c6⟩, ⟨a9, c9⟩, ⟨a10, c10⟩⟩, rfl,
      ⟨r0, r1, r2, r3, r4, r5, r6, r9, r10, fun l hl => (hcodes l hl).1, fun e he => (g9 e he).2.1, fun e he => (g10 e he).2.1⟩,
      ⟨b0, b1, b2, b3, b4, b5, b6, b9, b10, fun l hl => (hcodes l hl).2, fun e he => (g9 e he).2.2, fun e he => (g10 e he).2.2.1, fun e he => g1 e he, fun e he => g6 e he⟩, ⟨k0, k1, k2, k5, k6, k9, k10⟩⟩
end Go.Proofs.YtlfflomeaplidaaDoor.Mod
