/-
  MODULE: a module as an argument, by value: opened.
-/
import Derived.Test.YtlfflomeaplidaaDoorModLessP
import Derived.Test.YtlfflomeaplidaaDoorInstrOpen
import Derived.Lib.SmallJoins
import Derived.Deep.Strs
namespace Go.Proofs.YtlfflomeaplidaaDoor.Mod
open Go.RowKit Go.ChangeShapes Go.WideShapes Go.ChangeAt Go.Joins Go.Deep Go.Proofs.YtlfflomeaplidaaDoor.Instr

variable {H : Type} {enc : TypeId × Value → H} {W : World}
def Wok (T : TypeId) (d : DataW H) : Prop := ∀ q ∈ d.weights Tryd.prog T, q ≤ reachBytes

theorem exists_list {α : Type} {P : Nat → α → Prop} : ∀ n : Nat, (∀ i, i < n → ∃ a, P i a) → ∃ l : List α, l.length = n ∧ ∀ (i : Nat) (h : i < l.length), P i l[i]
  | 0, _ => ⟨[], rfl, fun i h => absurd h (Nat.not_lt_zero _)⟩
  | n + 1, h => by
    obtain ⟨l, hl, hp⟩ := exists_list n (fun i hi => h i (by omega))
    obtain ⟨a, ha⟩ := h n (by omega)
    refine ⟨l ++ [a], by simp [hl], fun i hi => ?_⟩
    by_cases hn : i < l.length
    · rw [List.getElem_append_left hn]; exact hp i hn
    · have : i = n := by simp at hi; omega
      subst this
      rw [List.getElem_append_right (by omega)]
      simpa [hl] using ha
theorem cells_get {w : World} {b o sz : Nat} {cs : List Value} (h : w.cells? 0 ⟨b, o, none⟩ sz = some cs) : cs.length = sz ∧ ∀ j v, cs[j]? = some v → w.cell? ⟨b, o + j, none⟩ = some v := by
  unfold World.cells? at h
  rw [if_pos (Nat.zero_le _)] at h
  have hl := mapM_some_length h
  refine ⟨by simpa using hl, fun j v hv => ?_⟩
  have hj : j < sz := by
    have := (List.getElem?_eq_some_iff.1 hv).1
    simp at hl; omega
  have := mapM_some_get h j j (by simp [hj])
  rw [plainAdd] at this
  rw [this, hv]
theorem cells_spot {w : World} {b o sz : Nat} {sp : Option Nat} {cs : List Value} (hs : 0 < sz) (h : w.cells? 0 ((⟨b, o, sp⟩ : Addr).add 0) sz = some cs) : sp = none := by
  unfold World.cells? at h
  rw [if_pos (Nat.zero_le _)] at h
  have hl := mapM_some_length h
  have hg := mapM_some_get h 0 0 (by simp [hs])
  have h0 : ∃ v, cs[0]? = some v := ⟨_, List.getElem?_eq_getElem (by simp at hl; omega)⟩
  obtain ⟨v, hv⟩ := h0
  rw [hv] at hg
  have hp := World.cell?_spot hg
  unfold Addr.add at hp
  (repeat' split at hp) <;> simp_all
/-- A slice of records of sz cells each. -/
theorem open_rows {α : Type} {T S : TypeId} {sz nb : Nat} (V : α → List Value) (Good : α → Prop) (hS : Tryd.prog.underlying S = some (.slice T)) (hc : Tryd.prog.cellsOf T = sz) (hs0 : 0 < sz) (hb : Tryd.prog.bytesOf T = nb) (hnb : 1 ≤ nb)
    (one : ∀ n cs x, DataW.trod enc Tryd.prog W 0 (fun _ => true) true n T cs = some x → Wok T x.1 → ∃ a : α, cs = V a ∧ Good a)
    {fuel : Nat} {cs : List Value} {x : DataW H × List MemPlace} (h : DataW.trod enc Tryd.prog W 0 (fun _ => true) true fuel S cs = some x) (hw : Wok S x.1) :
    ∃ (a : Option Addr) (c : Nat) (l : List α), cs = [.slice a l.length c] ∧ l.length ≤ c ∧ l.length ≤ 140737488351232 ∧ Rows W.heap.size W a sz (l.map V) ∧ ∀ y ∈ l, Good y := by
  rcases DataW.trod_slice hS h with ⟨rfl, _⟩ | ⟨a, len, cap, elems, rest, n, hfu, rfl, rfl, _, hlc, _, hlen, hel, _, _⟩
  · exact ⟨none, 0, [], rfl, by simp, by simp, .inl rfl, by simp⟩
  have hbound : (elems.length + rest.length) * nb ≤ reachBytes := by
    have : (elems.length + rest.length) * Tryd.prog.bytesOf T ≤ reachBytes := hw _ (by simp [DataW.weights, hS])
    rw [hb] at this; exact this
  have hbig : len ≤ 140737488351232 := by
    simp only [reachBytes] at hbound
    have : elems.length * 1 ≤ (elems.length + rest.length) * nb := Nat.mul_le_mul (by omega) hnb
    omega
  have hwe : ∀ (i : Nat) (y : DataW H × List MemPlace), elems[i]? = some y → Wok T y.1 := by
    intro i y hy m hm
    refine hw m ?_
    have h1 : (elems.map (·.1))[i]? = some y.1 := by simp [hy]
    have := weights_all h1 m hm
    simp only [DataW.weights, hS, List.mem_cons, List.mem_append]
    exact .inr (.inl this)
  obtain ⟨b, o, sp⟩ := a
  have hspot : 0 < len → sp = none := by
    intro hi
    have h1 := hel 0 hi
    rw [hc, List.getElem?_eq_getElem (by omega), Nat.zero_mul] at h1
    obtain ⟨cs', hcs, _⟩ := Option.bind_eq_some_iff.1 h1
    exact cells_spot hs0 hcs
  have each : ∀ i, i < len → ∃ y : α, (∀ j v, (V y)[j]? = some v → W.cell? ⟨b, o + i * sz + j, none⟩ = some v) ∧ Good y ∧ sp = none := by
    intro i hi
    have h1 := hel i hi
    rw [hc, List.getElem?_eq_getElem (by omega)] at h1
    obtain ⟨cs', hcs, ht⟩ := Option.bind_eq_some_iff.1 h1
    have hsp := hspot (by omega)
    subst hsp
    rw [plainAdd] at hcs
    obtain ⟨y, rfl, hg⟩ := one n cs' _ ht (hwe i _ (List.getElem?_eq_getElem (by omega)))
    exact ⟨y, (cells_get hcs).2, hg, rfl⟩
  obtain ⟨l, hl, hp⟩ := exists_list len each
  refine ⟨some ⟨b, o, sp⟩, cap, l, by rw [hl], by omega, by omega, ?_, fun y hy => ?_⟩
  · by_cases h0 : len = 0
    · left
      have : l = [] := List.eq_nil_of_length_eq_zero (by omega)
      rw [this]; rfl
    · obtain ⟨hc0, _, rfl⟩ := hp 0 (by omega)
      obtain ⟨cs', hcs, _⟩ := Option.bind_eq_some_iff.1 (show _ = some (elems[0]'(by omega)) by rw [hel 0 (by omega)]; exact List.getElem?_eq_getElem _)
      rw [hc, plainAdd] at hcs
      obtain ⟨hl0, hg0⟩ := cells_get hcs
      have hv0 : ∃ v, cs'[0]? = some v := ⟨_, List.getElem?_eq_getElem (by omega)⟩
      obtain ⟨v0, hv0⟩ := hv0
      refine .inr ⟨b, o, rfl, World.block_lt_of_cell? W _ (hg0 0 v0 hv0), fun i hi j _ v hv => ?_⟩
      simp only [List.length_map] at hi
      refine (hp i hi).1 j v ?_
      rw [List.getD_eq_getElem?_getD, List.getElem?_map, List.getElem?_eq_getElem hi] at hv
      exact hv
  · obtain ⟨i, hi, rfl⟩ := List.mem_iff_getElem.1 hy
    exact (hp i hi).2.1

set_option maxRecDepth 100000 in
theorem rd2 {T : TypeId} {f0 f1 : Field} {n : Nat} {cs : List Value} {x : DataW H × List MemPlace} (hs : Tryd.prog.underlying T = some (.struct #[f0, f1])) (hone : oneCellFields Tryd.prog #[f0, f1] = true) (hC : Tryd.prog.cellsOf T = 2)
    (h : DataW.trod enc Tryd.prog W 0 (fun _ => true) true n T cs = some x) (hw : Wok T x.1) : ∃ v0 v1 y0 y1 m, cs = [v0, v1] ∧ DataW.trod enc Tryd.prog W 0 (fun _ => true) true m f0.type [v0] = some y0 ∧ DataW.trod enc Tryd.prog W 0 (fun _ => true) true m f1.type [v1] = some y1 ∧ Wok f0.type y0.1 ∧ Wok f1.type y1.1 := by
  obtain ⟨y0, y1, m, rfl, hl, h0, h1⟩ := trod_struct2 hs h
  obtain ⟨o0, k0⟩ := hone_of hone 0 f0 rfl
  obtain ⟨o1, k1⟩ := hone_of hone 1 f1 rfl
  rw [hC] at hl
  match cs, hl with
  | [v0, v1], _ =>
    refine ⟨v0, v1, y0, y1, m, rfl, by simpa [o0, k0] using h0, by simpa [o1, k1] using h1, fun q hq => hw q ?_, fun q hq => hw q ?_⟩
    · simp only [DataW.weights, hs]; exact DataW.weights_mem_each (j := 0) rfl rfl q hq
    · simp only [DataW.weights, hs]; exact DataW.weights_mem_each (j := 1) rfl rfl q hq
set_option maxRecDepth 100000 in
theorem rd3 {T : TypeId} {f0 f1 f2 : Field} {n : Nat} {cs : List Value} {x : DataW H × List MemPlace} (hs : Tryd.prog.underlying T = some (.struct #[f0, f1, f2])) (hone : oneCellFields Tryd.prog #[f0, f1, f2] = true) (hC : Tryd.prog.cellsOf T = 3)
    (h : DataW.trod enc Tryd.prog W 0 (fun _ => true) true n T cs = some x) (hw : Wok T x.1) : ∃ v0 v1 v2 y0 y1 y2 m, cs = [v0, v1, v2] ∧ DataW.trod enc Tryd.prog W 0 (fun _ => true) true m f0.type [v0] = some y0 ∧ DataW.trod enc Tryd.prog W 0 (fun _ => true) true m f1.type [v1] = some y1 ∧
      DataW.trod enc Tryd.prog W 0 (fun _ => true) true m f2.type [v2] = some y2 ∧ Wok f0.type y0.1 ∧ Wok f1.type y1.1 ∧ Wok f2.type y2.1 := by
  obtain ⟨y0, y1, y2, m, rfl, hl, h0, h1, h2⟩ := trod_struct3 hs h
  obtain ⟨o0, k0⟩ := hone_of hone 0 f0 rfl
  obtain ⟨o1, k1⟩ := hone_of hone 1 f1 rfl
  obtain ⟨o2, k2⟩ := hone_of hone 2 f2 rfl
  rw [hC] at hl
  match cs, hl with
  | [v0, v1, v2], _ =>
    refine ⟨v0, v1, v2, y0, y1, y2, m, rfl, by simpa [o0, k0] using h0, by simpa [o1, k1] using h1, by simpa [o2, k2] using h2, fun q hq => hw q ?_, fun q hq => hw q ?_, fun q hq => hw q ?_⟩
    · simp only [DataW.weights, hs]; exact DataW.weights_mem_each (j := 0) rfl rfl q hq
    · simp only [DataW.weights, hs]; exact DataW.weights_mem_each (j := 1) rfl rfl q hq
    · simp only [DataW.weights, hs]; exact DataW.weights_mem_each (j := 2) rfl rfl q hq
theorem rd_lst {n : Nat} {v : Value} {x : DataW H × List MemPlace} (h : DataW.trod enc Tryd.prog W 0 (fun _ => true) true n 22 [v] = some x) (hw : Wok 22 x.1) : ∃ l : Lst, v = l.val ∧ ListAt W.heap.size W l.a l.t.len l.t ∧ l.t.len ≤ 140737488351232 := by
  obtain ⟨a, len, c, t, e, _, h2, h3⟩ := open_il n _ _ h hw
  simp only [List.cons.injEq, and_true] at e
  subst e
  have hl := h3.1
  subst hl
  exact ⟨⟨a, c, t⟩, rfl, h3, h2⟩
theorem rd_str {n : Nat} {v : Value} {x : DataW H × List MemPlace} (h : DataW.trod enc Tryd.prog W 0 (fun _ => true) true n 9 [v] = some x) (hw : Wok 9 x.1) : ∃ s : ByteArray, v = .string s ∧ s.size ≤ 140737488351232 := by
  obtain ⟨s, e, rfl, _⟩ := DataW.trod_string Tryd.underlying9 h
  simp only [List.cons.injEq, and_true] at e
  refine ⟨s, e, ?_⟩
  have := hw s.size (by simp [DataW.weights])
  simpa [reachBytes] using this
theorem one_ty {n : Nat} {cs : List Value} {x : DataW H × List MemPlace} (h : DataW.trod enc Tryd.prog W 0 (fun _ => true) true n 52 cs = some x) (hw : Wok 52 x.1) : ∃ a : Int × Int, cs = tyV a ∧ True := by
  obtain ⟨v0, v1, y0, y1, m, rfl, h0, h1, _, _⟩ := rd2 Tryd.underlying52 (by kernel_rfl) (by kernel_rfl) h hw
  obtain ⟨n0, e0, -, _⟩ := DataW.trod_int Tryd.underlying3 h0
  obtain ⟨n1, e1, -, _⟩ := DataW.trod_int Tryd.underlying3 h1
  simp only [List.cons.injEq, and_true] at e0 e1
  subst e0 e1
  exact ⟨(n0, n1), rfl, trivial⟩
theorem one_im {n : Nat} {cs : List Value} {x : DataW H × List MemPlace} (h : DataW.trod enc Tryd.prog W 0 (fun _ => true) true n 83 cs = some x) (hw : Wok 83 x.1) : ∃ a : Imp, cs = a.v ∧ a.mo.size ≤ 140737488351232 ∧ a.na.size ≤ 140737488351232 := by
  obtain ⟨v0, v1, v2, y0, y1, y2, m, rfl, h0, h1, h2, w0, w1, _⟩ := rd3 Tryd.underlying83 (by kernel_rfl) (by kernel_rfl) h hw
  obtain ⟨s0, rfl, b0⟩ := rd_str h0 w0
  obtain ⟨s1, rfl, b1⟩ := rd_str h1 w1
  obtain ⟨n2, e2, -, _⟩ := DataW.trod_int Tryd.underlying3 h2
  simp only [List.cons.injEq, and_true] at e2
  subst e2
  exact ⟨⟨s0, s1, n2⟩, rfl, b0, b1⟩
theorem one_li {n : Nat} {cs : List Value} {x : DataW H × List MemPlace} (h : DataW.trod enc Tryd.prog W 0 (fun _ => true) true n 128 cs = some x) (hw : Wok 128 x.1) : ∃ a : Li, cs = a.v ∧ True := by
  obtain ⟨v0, v1, v2, y0, y1, y2, m, rfl, h0, h1, h2, _, _, _⟩ := rd3 Tryd.underlying128 (by kernel_rfl) (by kernel_rfl) h hw
  obtain ⟨n0, e0, -, _⟩ := DataW.trod_int Tryd.underlying42 h0
  obtain ⟨n1, e1, -, _⟩ := DataW.trod_int Tryd.underlying42 h1
  obtain ⟨n2, e2, -⟩ := DataW.trod_bool Tryd.underlying4 h2
  simp only [List.cons.injEq, and_true] at e0 e1 e2
  subst e0 e1 e2
  exact ⟨⟨n0, n1, n2⟩, rfl, trivial⟩
theorem one_ex {n : Nat} {cs : List Value} {x : DataW H × List MemPlace} (h : DataW.trod enc Tryd.prog W 0 (fun _ => true) true n 58 cs = some x) (hw : Wok 58 x.1) : ∃ a : Ex, cs = a.v ∧ a.na.size ≤ 140737488351232 := by
  obtain ⟨v0, v1, v2, y0, y1, y2, m, rfl, h0, h1, h2, w0, _, _⟩ := rd3 Tryd.underlying58 (by kernel_rfl) (by kernel_rfl) h hw
  obtain ⟨s0, rfl, b0⟩ := rd_str h0 w0
  obtain ⟨n1, e1, -, _⟩ := DataW.trod_int Tryd.underlying3 h1
  obtain ⟨n2, e2, -, _⟩ := DataW.trod_int Tryd.underlying42 h2
  simp only [List.cons.injEq, and_true] at e1 e2
  subst e1 e2
  exact ⟨⟨s0, n1, n2⟩, rfl, b0⟩
/-- A list of instructions lies where it is said to. -/
def LGood (W : World) (l : Lst) : Prop := ListAt W.heap.size W l.a l.t.len l.t ∧ l.t.len ≤ 140737488351232
theorem one_gl {n : Nat} {cs : List Value} {x : DataW H × List MemPlace} (h : DataW.trod enc Tryd.prog W 0 (fun _ => true) true n 77 cs = some x) (hw : Wok 77 x.1) : ∃ a : Gl, cs = a.v ∧ LGood W a.l := by
  obtain ⟨v0, v1, y0, y1, m, rfl, h0, h1, _, w1⟩ := rd2 Tryd.underlying77 (by kernel_rfl) (by kernel_rfl) h hw
  obtain ⟨n0, e0, -⟩ := DataW.trod_bool Tryd.underlying4 h0
  obtain ⟨l, rfl, hl⟩ := rd_lst h1 w1
  simp only [List.cons.injEq, and_true] at e0
  subst e0
  exact ⟨⟨n0, l⟩, rfl, hl⟩
theorem one_el {n : Nat} {cs : List Value} {x : DataW H × List MemPlace} (h : DataW.trod enc Tryd.prog W 0 (fun _ => true) true n 79 cs = some x) (hw : Wok 79 x.1) : ∃ a : El, cs = a.v ∧ LGood W a.l ∧ TagsAt W.heap.size W a.fa a.fs ∧ a.fs.length ≤ 140737488351232 := by
  obtain ⟨v0, v1, y0, y1, m, rfl, h0, h1, w0, w1⟩ := rd2 Tryd.underlying79 (by kernel_rfl) (by kernel_rfl) h hw
  obtain ⟨l, rfl, hl⟩ := rd_lst h0 w0
  obtain ⟨a, c, zs, e1, hz, _, ht⟩ := open_tags h1 w1
  simp only [List.cons.injEq, and_true] at e1
  subst e1
  exact ⟨⟨l, a, c, zs⟩, rfl, hl, ht, hz⟩
theorem one_da {n : Nat} {cs : List Value} {x : DataW H × List MemPlace} (h : DataW.trod enc Tryd.prog W 0 (fun _ => true) true n 81 cs = some x) (hw : Wok 81 x.1) : ∃ a : Da, cs = a.v ∧ LGood W a.l ∧ BytesAt W.heap.size W a.ba a.bs ∧ a.bs.length ≤ 140737488351232 ∧ ∀ z ∈ a.bs, 0 ≤ z ∧ z < 256 := by
  obtain ⟨v0, v1, y0, y1, m, rfl, h0, h1, w0, w1⟩ := rd2 Tryd.underlying81 (by kernel_rfl) (by kernel_rfl) h hw
  obtain ⟨l, rfl, hl⟩ := rd_lst h0 w0
  obtain ⟨a, c, zs, e1, _, hz, hr, hg⟩ := open_rows (sz := 1) (nb := 1) (α := { z : Int // 0 ≤ z ∧ z < 256 }) (fun z => [.int .u8 z.1]) (fun _ => True) Tryd.underlying27 (by kernel_rfl) (by omega) (by kernel_rfl : Tryd.prog.bytesOf 5 = 1) (by omega)
    (fun n cs x h _ => by
      obtain ⟨z, e, -, wf⟩ := DataW.trod_int Tryd.underlying5 h
      have := bounds_u8 wf
      exact ⟨⟨z, by omega, by omega⟩, e, trivial⟩) h1 w1
  simp only [List.cons.injEq, and_true] at e1
  subst e1
  refine ⟨⟨l, a, c, zs.map (·.1)⟩, by simp [Da.v], hl, ?_, by simpa using hz, fun z hm => ?_⟩
  · rcases hr with h | ⟨b, off, ha, hb, hcell⟩
    · left
      rw [List.map_eq_nil_iff] at h
      subst h; rfl
    · refine .inr ⟨b, off, ha, hb, fun i hi => ?_⟩
      have hi' : i < zs.length := by simpa using hi
      have := hcell i (by simpa using hi') 0 (by omega) (.int .u8 zs[i].1) (by simp [hi'])
      rw [Nat.mul_one, Nat.add_zero] at this
      rw [this]
      simp [hi']
  · obtain ⟨y, _, rfl⟩ := List.mem_map.1 hm
    exact y.2
set_option maxRecDepth 100000 in
theorem one_fu {n : Nat} {cs : List Value} {x : DataW H × List MemPlace} (h : DataW.trod enc Tryd.prog W 0 (fun _ => true) true n 56 cs = some x) (hw : Wok 56 x.1) : ∃ a : Fn, cs = a.v ∧ LGood W a.l := by
  obtain ⟨y0, y1, m, rfl, hl, h0, h1⟩ := trod_struct2 Tryd.underlying56 h
  have w1 : Wok 24 y1.1 := fun q hq => hw q (by simp only [DataW.weights, Tryd.underlying56]; exact DataW.weights_mem_each (j := 1) rfl rfl q hq)
  rw [show Tryd.prog.cellsOf 56 = 3 by kernel_rfl] at hl
  match cs, hl with
  | [v0, v1, v2], _ =>
    have h0' : DataW.trod enc Tryd.prog W 0 (fun _ => true) true m 3 [v0] = some y0 := by
      have := h0
      dsimp only at this
      rw [show Tryd.prog.cellsOf 3 = 1 by kernel_rfl] at this
      exact this
    have h1' : DataW.trod enc Tryd.prog W 0 (fun _ => true) true m 24 [v1, v2] = some y1 := by
      have := h1
      dsimp only at this
      rw [show Tryd.prog.cellsOf 24 = 2 by kernel_rfl] at this
      exact this
    obtain ⟨u0, u1, z0, z1, m', e, k0, k1, _, w2⟩ := rd2 Tryd.underlying24 (by kernel_rfl) (by kernel_rfl) h1' w1
    simp only [List.cons.injEq, and_true] at e
    obtain ⟨rfl, rfl⟩ := e
    obtain ⟨n0, e0, -, _⟩ := DataW.trod_int Tryd.underlying3 h0'
    obtain ⟨n1, e1, -, _⟩ := DataW.trod_int Tryd.underlying3 k0
    obtain ⟨l, rfl, hg⟩ := rd_lst k1 w2
    simp only [List.cons.injEq, and_true] at e0 e1
    subst e0 e1
    exact ⟨⟨n0, n1, l⟩, rfl, hg⟩
end Go.Proofs.YtlfflomeaplidaaDoor.Mod
