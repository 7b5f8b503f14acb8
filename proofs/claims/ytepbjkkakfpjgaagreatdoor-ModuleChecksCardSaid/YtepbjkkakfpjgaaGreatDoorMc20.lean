import Derived.Test.YtepbjkkakfpjgaaGreatDoorMc08
import Derived.Test.YtepbjkkakfpjgaaGreatDoorMc16
import Derived.Test.YtepbjkkakfpjgaaGreatDoorMc14
import Derived.Test.YtepbjkkakfpjgaaGreatDoorMc18
import Derived.Test.YtepbjkkakfpjgaaGreatDoorMc19
import Derived.Test.YtepbjkkakfpjgaaGreatDoorMc05
namespace Go.Proofs.YtepbjkkakfpjgaaGreatDoor.Mod
open Go.RowKit Go.Proofs.YtepbjkkakfpjgaaGreatDoor.Instr

theorem held_out26 {w w1 : World} {p0 p1 p2 p3 p4 p5 p6 p7 p8 p9 p10 p11 p12 p13 p14 p15 p16 p17 p18 p19 p20 p21 p22 p23 p24 p25 : Addr} {v0 v1 v2 v3 v4 v5 v6 v7 v8 v9 v10 v11 v12 v13 v14 v15 v16 v17 v18 v19 v20 v21 v22 v23 v24 v25 : Value} (h : Below w.heap.size w w1 ∧ w1.cell? p0 = some v0 ∧ w1.cell? p1 = some v1 ∧ w1.cell? p2 = some v2 ∧ w1.cell? p3 = some v3 ∧ w1.cell? p4 = some v4 ∧ w1.cell? p5 = some v5 ∧ w1.cell? p6 = some v6 ∧ w1.cell? p7 = some v7 ∧ w1.cell? p8 = some v8 ∧ w1.cell? p9 = some v9 ∧ w1.cell? p10 = some v10 ∧ w1.cell? p11 = some v11 ∧ w1.cell? p12 = some v12 ∧ w1.cell? p13 = some v13 ∧ w1.cell? p14 = some v14 ∧ w1.cell? p15 = some v15 ∧ w1.cell? p16 = some v16 ∧ w1.cell? p17 = some v17 ∧ w1.cell? p18 = some v18 ∧ w1.cell? p19 = some v19 ∧ w1.cell? p20 = some v20 ∧ w1.cell? p21 = some v21 ∧ w1.cell? p22 = some v22 ∧ w1.cell? p23 = some v23 ∧ w1.cell? p24 = some v24 ∧ w1.cell? p25 = some v25) : Below w.heap.size w w1 := h.1
theorem held_keep26 {w w1 w2 : World} {p0 p1 p2 p3 p4 p5 p6 p7 p8 p9 p10 p11 p12 p13 p14 p15 p16 p17 p18 p19 p20 p21 p22 p23 p24 p25 : Addr} {v0 v1 v2 v3 v4 v5 v6 v7 v8 v9 v10 v11 v12 v13 v14 v15 v16 v17 v18 v19 v20 v21 v22 v23 v24 v25 : Value} (h : Below w.heap.size w w1 ∧ w1.cell? p0 = some v0 ∧ w1.cell? p1 = some v1 ∧ w1.cell? p2 = some v2 ∧ w1.cell? p3 = some v3 ∧ w1.cell? p4 = some v4 ∧ w1.cell? p5 = some v5 ∧ w1.cell? p6 = some v6 ∧ w1.cell? p7 = some v7 ∧ w1.cell? p8 = some v8 ∧ w1.cell? p9 = some v9 ∧ w1.cell? p10 = some v10 ∧ w1.cell? p11 = some v11 ∧ w1.cell? p12 = some v12 ∧ w1.cell? p13 = some v13 ∧ w1.cell? p14 = some v14 ∧ w1.cell? p15 = some v15 ∧ w1.cell? p16 = some v16 ∧ w1.cell? p17 = some v17 ∧ w1.cell? p18 = some v18 ∧ w1.cell? p19 = some v19 ∧ w1.cell? p20 = some v20 ∧ w1.cell? p21 = some v21 ∧ w1.cell? p22 = some v22 ∧ w1.cell? p23 = some v23 ∧ w1.cell? p24 = some v24 ∧ w1.cell? p25 = some v25) (hb : Below w1.heap.size w1 w2) : Below w.heap.size w w2 ∧ w2.cell? p0 = some v0 ∧ w2.cell? p1 = some v1 ∧ w2.cell? p2 = some v2 ∧ w2.cell? p3 = some v3 ∧ w2.cell? p4 = some v4 ∧ w2.cell? p5 = some v5 ∧ w2.cell? p6 = some v6 ∧ w2.cell? p7 = some v7 ∧ w2.cell? p8 = some v8 ∧ w2.cell? p9 = some v9 ∧ w2.cell? p10 = some v10 ∧ w2.cell? p11 = some v11 ∧ w2.cell? p12 = some v12 ∧ w2.cell? p13 = some v13 ∧ w2.cell? p14 = some v14 ∧ w2.cell? p15 = some v15 ∧ w2.cell? p16 = some v16 ∧ w2.cell? p17 = some v17 ∧ w2.cell? p18 = some v18 ∧ w2.cell? p19 = some v19 ∧ w2.cell? p20 = some v20 ∧ w2.cell? p21 = some v21 ∧ w2.cell? p22 = some v22 ∧ w2.cell? p23 = some v23 ∧ w2.cell? p24 = some v24 ∧ w2.cell? p25 = some v25 := by
  obtain ⟨h, h0, h1, h2, h3, h4, h5, h6, h7, h8, h9, h10, h11, h12, h13, h14, h15, h16, h17, h18, h19, h20, h21, h22, h23, h24, h25⟩ := h
  exact ⟨thenB h hb, keep hb h0, keep hb h1, keep hb h2, keep hb h3, keep hb h4, keep hb h5, keep hb h6, keep hb h7, keep hb h8, keep hb h9, keep hb h10, keep hb h11, keep hb h12, keep hb h13, keep hb h14, keep hb h15, keep hb h16, keep hb h17, keep hb h18, keep hb h19, keep hb h20, keep hb h21, keep hb h22, keep hb h23, keep hb h24, keep hb h25⟩
theorem map_mem {α β : Type} {f : α → β} {l r : List α} (h : l.map f = r.map f) {x : α} (hx : x ∈ l) : ∃ y ∈ r, f y = f x := by
  have : f x ∈ r.map f := by rw [← h]; exact List.mem_map_of_mem hx
  obtain ⟨y, hy, e⟩ := List.mem_map.1 this
  exact ⟨y, hy, e⟩
theorem map_len {α β : Type} {f : α → β} {l r : List α} (h : l.map f = r.map f) : l.length = r.length := by
  have := congrArg List.length h
  simpa using this
theorem codes_core {a b : Md} (h : b.bare = a.bare) {l : Lst} (hl : l ∈ b.codes) : ∃ r ∈ a.codes, r.t.bare = l.t.bare := by
  have e : b.codes.map Lst.bare = a.codes.map Lst.bare := by rw [← bare_codes, ← bare_codes, h]
  obtain ⟨r, hr, he⟩ := map_mem e hl
  unfold Lst.bare at he
  simp only [Lst.mk.injEq, true_and] at he
  exact ⟨r, hr, he⟩
theorem fits_core {a b : Md} (h : b.bare = a.bare) (f : a.fits) : b.fits := by
  have S := same_iff.1 h
  refine ⟨by rw [S.ty]; exact f.ty, by rw [S.im]; exact f.im, by rw [map_len S.fu]; exact f.fu, by rw [S.tb]; exact f.tb, by rw [S.me]; exact f.me, by rw [map_len S.gl]; exact f.gl, by rw [S.ex]; exact f.ex, by rw [map_len S.el]; exact f.el, by rw [map_len S.da]; exact f.da, fun l hl => ?_, fun e he => ?_, fun d hd => ?_, by rw [S.im]; exact f.iS, by rw [S.ex]; exact f.eS⟩
  · obtain ⟨r, hr, e⟩ := codes_core h hl
    rw [← bare_len, ← e, bare_len]; exact f.ls r hr
  · obtain ⟨x, hx, e⟩ := map_mem S.el he
    unfold El.bare at e
    simp only [El.mk.injEq, true_and] at e
    rw [← e.2]; exact f.fs x hx
  · obtain ⟨x, hx, e⟩ := map_mem S.da hd
    unfold Da.bare at e
    simp only [Da.mk.injEq, true_and] at e
    rw [← e.2]; exact f.bs x hx
theorem few_core {a b : Md} (h : b.bare = a.bare) (f : a.few) : b.few := by
  have S := same_iff.1 h
  refine ⟨fits_core h f.fit, fun l hl => ?_, ?_⟩
  · obtain ⟨r, hr, e⟩ := codes_core h hl
    rw [← bare_count, ← e, bare_count]; exact f.cs r hr
  · rw [S.ty, S.im, map_len S.fu, S.tb, S.me, map_len S.gl, S.ex, map_len S.el, map_len S.da]
    exact f.lens
theorem ranged_core {a b : Md} (h : b.bare = a.bare) (f : a.ranged) : b.ranged := by
  have S := same_iff.1 h
  refine ⟨by rw [S.tb, S.me]; exact f.n0, by rw [S.ex]; exact f.ei, fun e he => ?_, fun d hd => ?_, by rw [S.sn]; exact f.sn⟩
  · obtain ⟨x, hx, e⟩ := map_mem S.el he
    unfold El.bare at e
    simp only [El.mk.injEq, true_and] at e
    rw [← e.2]; exact f.ef x hx
  · obtain ⟨x, hx, e⟩ := map_mem S.da hd
    unfold Da.bare at e
    simp only [Da.mk.injEq, true_and] at e
    rw [← e.2]; exact f.db x hx
theorem few_of {m : Md} (hf : m.fits) (hs : m.small 5000) : m.few := by
  have hl := hs.lens
  refine ⟨hf, fun l h => ?_, by omega, by omega, by omega, by omega, by omega, by omega, by omega, by omega, by omega⟩
  have h1 := weight_count l.t
  have h2 := hs.ls l h
  omega
theorem names_small {m : Md} (hs : m.small 5000) : ∀ s ∈ m.names, s.size ≤ 1000000 := by
  intro s h
  unfold Md.names at h
  rcases List.mem_append.1 h with h | h
  · unfold twoR at h
    obtain ⟨i, hi, h⟩ := List.mem_flatMap.1 h
    have := hs.iS i hi
    simp only [List.mem_cons, List.not_mem_nil, or_false] at h
    rcases h with rfl | rfl <;> omega
  · obtain ⟨e, he, rfl⟩ := List.mem_map.1 h
    have := hs.eS e he
    omega
end Go.Proofs.YtepbjkkakfpjgaaGreatDoor.Mod
