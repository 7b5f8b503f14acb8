import Derived.Test.YtckdnhafookcgaaGreatDoorPa01
import Derived.Test.YtckdnhafookcgaaGreatDoorProg
import Derived.Lib.SmallJoins
import Derived.Deep.Strs
import Derived.Shelf.Unicode.DecodeSlow
import Derived.Shelf.Unicode.DecodeAny
import Derived.Lib.OthersKept
import Derived.PinnedBridge
import Derived.Lib.LaidU8
import Derived.Lay
import Derived.Laws.AppendOwn
import Derived.Laws.AppendOwnNone
import Derived.Laws.OwnMore
import Derived.Deep.AppendLies
import Derived.Laws.Tables
import Derived.Deep.WholeRow
import Derived.Laws.StructEq
import Derived.Lib.BitFns
namespace Go.Proofs.YtckdnhafookcgaaGreatDoor.Instr
end Go.Proofs.YtckdnhafookcgaaGreatDoor.Instr
namespace Go.Proofs.YtckdnhafookcgaaGreatDoor.Mod
end Go.Proofs.YtckdnhafookcgaaGreatDoor.Mod
namespace Go.Proofs.YtckdnhafookcgaaGreatDoor.Stk
end Go.Proofs.YtckdnhafookcgaaGreatDoor.Stk
namespace Go.Proofs.YtckdnhafookcgaaGreatDoor.Num
end Go.Proofs.YtckdnhafookcgaaGreatDoor.Num
namespace Go.Proofs.YtckdnhafookcgaaGreatDoor.Mod
open Go.RowKit Go.ChangeShapes Go.WideShapes Go.ChangeAt Go.Joins Go.Deep Go.Proofs.YtckdnhafookcgaaGreatDoor.Instr

variable {H : Type} {enc : TypeId × Value → H} {W : World}
def Wok (T : TypeId) (d : DataW H) : Prop := ∀ q ∈ d.weights Tryz.prog T, q ≤ reachBytes

theorem exists_list {α : Type} {P : Nat → α → Prop} : ∀ n : Nat, (∀ i, i < n → ∃ a, P i a) → ∃ l : List α, l.length = n ∧ ∀ (i : Nat) (h : i < l.length), P i l[i]
  | 0, _ => ⟨[], rfl, fun i h => absurd h (Nat.not_lt_zero _)⟩
  | n + 1, h => by
    obtain ⟨l, hl, hp⟩ := exists_list n (fun i hi => h i (by omega))
    obtain ⟨a, ha⟩ := h n (by omega)
    refine ⟨l ++ [a], by simp [hl], fun i hi => ?_⟩
    by_cases hn : i < l.length
    · rw [List.getElem_append_left hn]; exact hp i hn
    · have : i = n := by simp at hi; omega
      subst this
      rw [List.getElem_append_right (by omega)]
      simpa [hl] using ha
theorem cells_get {w : World} {b o sz : Nat} {cs : List Value} (h : w.cells? 0 ⟨b, o, none⟩ sz = some cs) : cs.length = sz ∧ ∀ j v, cs[j]? = some v → w.cell? ⟨b, o + j, none⟩ = some v := by
  unfold World.cells? at h
  rw [if_pos (Nat.zero_le _)] at h
  have hl := mapM_some_length h
  refine ⟨by simpa using hl, fun j v hv => ?_⟩
  have hj : j < sz := by
    have := (List.getElem?_eq_some_iff.1 hv).1
    simp at hl; omega
  have := mapM_some_get h j j (by simp [hj])
  rw [plainAdd] at this
  rw [this, hv]
theorem cells_spot {w : World} {b o sz : Nat} {sp : Option Nat} {cs : List Value} (hs : 0 < sz) (h : w.cells? 0 ((⟨b, o, sp⟩ : Addr).add 0) sz = some cs) : sp = none := by
  unfold World.cells? at h
  rw [if_pos (Nat.zero_le _)] at h
  have hl := mapM_some_length h
  have hg := mapM_some_get h 0 0 (by simp [hs])
  have h0 : ∃ v, cs[0]? = some v := ⟨_, List.getElem?_eq_getElem (by simp at hl; omega)⟩
  obtain ⟨v, hv⟩ := h0
  rw [hv] at hg
  have hp := World.cell?_spot hg
  unfold Addr.add at hp
  (repeat' split at hp) <;> simp_all
/-- A slice of records of sz cells each. -/
theorem open_rows {α : Type} {T S : TypeId} {sz nb : Nat} (V : α → List Value) (Good : α → Prop) (hS : Tryz.prog.underlying S = some (.slice T)) (hc : Tryz.prog.cellsOf T = sz) (hs0 : 0 < sz) (hb : Tryz.prog.bytesOf T = nb) (hnb : 1 ≤ nb)
    (one : ∀ n cs x, DataW.trod enc Tryz.prog W 0 (fun _ => true) true n T cs = some x → Wok T x.1 → ∃ a : α, cs = V a ∧ Good a)
    {fuel : Nat} {cs : List Value} {x : DataW H × List MemPlace} (h : DataW.trod enc Tryz.prog W 0 (fun _ => true) true fuel S cs = some x) (hw : Wok S x.1) :
    ∃ (a : Option Addr) (c : Nat) (l : List α), cs = [.slice a l.length c] ∧ l.length ≤ c ∧ l.length ≤ 140737488351232 ∧ Rows W.heap.size W a sz (l.map V) ∧ ∀ y ∈ l, Good y := by
  rcases DataW.trod_slice hS h with ⟨rfl, _⟩ | ⟨a, len, cap, elems, rest, n, hfu, rfl, rfl, _, hlc, _, hlen, hel, _, _⟩
  · exact ⟨none, 0, [], rfl, by simp, by simp, .inl rfl, by simp⟩
  have hbound : (elems.length + rest.length) * nb ≤ reachBytes := by
    have : (elems.length + rest.length) * Tryz.prog.bytesOf T ≤ reachBytes := hw _ (by simp [DataW.weights, hS])
    rw [hb] at this; exact this
  have hbig : len ≤ 140737488351232 := by
    simp only [reachBytes] at hbound
    have : elems.length * 1 ≤ (elems.length + rest.length) * nb := Nat.mul_le_mul (by omega) hnb
    omega
  have hwe : ∀ (i : Nat) (y : DataW H × List MemPlace), elems[i]? = some y → Wok T y.1 := by
    intro i y hy m hm
    refine hw m ?_
    have h1 : (elems.map (·.1))[i]? = some y.1 := by simp [hy]
    have := weights_all h1 m hm
    simp only [DataW.weights, hS, List.mem_cons, List.mem_append]
    exact .inr (.inl this)
  obtain ⟨b, o, sp⟩ := a
  have hspot : 0 < len → sp = none := by
    intro hi
    have h1 := hel 0 hi
    rw [hc, List.getElem?_eq_getElem (by omega), Nat.zero_mul] at h1
    obtain ⟨cs', hcs, _⟩ := Option.bind_eq_some_iff.1 h1
    exact cells_spot hs0 hcs
  have each : ∀ i, i < len → ∃ y : α, (∀ j v, (V y)[j]? = some v → W.cell? ⟨b, o + i * sz + j, none⟩ = some v) ∧ Good y ∧ sp = none := by
    intro i hi
    have h1 := hel i hi
    rw [hc, List.getElem?_eq_getElem (by omega)] at h1
    obtain ⟨cs', hcs, ht⟩ := Option.bind_eq_some_iff.1 h1
    have hsp := hspot (by omega)
    subst hsp
    rw [plainAdd] at hcs
    obtain ⟨y, rfl, hg⟩ := one n cs' _ ht (hwe i _ (List.getElem?_eq_getElem (by omega)))
    exact ⟨y, (cells_get hcs).2, hg, rfl⟩
  obtain ⟨l, hl, hp⟩ := exists_list len each
  refine ⟨some ⟨b, o, sp⟩, cap, l, by rw [hl], by omega, by omega, ?_, fun y hy => ?_⟩
  · by_cases h0 : len = 0
    · left
      have : l = [] := List.eq_nil_of_length_eq_zero (by omega)
      rw [this]; rfl
    · obtain ⟨hc0, _, rfl⟩ := hp 0 (by omega)
      obtain ⟨cs', hcs, _⟩ := Option.bind_eq_some_iff.1 (show _ = some (elems[0]'(by omega)) by rw [hel 0 (by omega)]; exact List.getElem?_eq_getElem _)
      rw [hc, plainAdd] at hcs
      obtain ⟨hl0, hg0⟩ := cells_get hcs
      have hv0 : ∃ v, cs'[0]? = some v := ⟨_, List.getElem?_eq_getElem (by omega)⟩
      obtain ⟨v0, hv0⟩ := hv0
      refine .inr ⟨b, o, rfl, World.block_lt_of_cell? W _ (hg0 0 v0 hv0), fun i hi j _ v hv => ?_⟩
      simp only [List.length_map] at hi
      refine (hp i hi).1 j v ?_
      rw [List.getD_eq_getElem?_getD, List.getElem?_map, List.getElem?_eq_getElem hi] at hv
      exact hv
  · obtain ⟨i, hi, rfl⟩ := List.mem_iff_getElem.1 hy
    exact (hp i hi).2.1

set_option maxRecDepth 100000 in
theorem rd2 {T : TypeId} {f0 f1 : Field} {n : Nat} {cs : List Value} {x : DataW H × List MemPlace} (hs : Tryz.prog.underlying T = some (.struct #[f0, f1])) (hone : oneCellFields Tryz.prog #[f0, f1] = true) (hC : Tryz.prog.cellsOf T = 2)
    (h : DataW.trod enc Tryz.prog W 0 (fun _ => true) true n T cs = some x) (hw : Wok T x.1) : ∃ v0 v1 y0 y1 m, cs = [v0, v1] ∧ DataW.trod enc Tryz.prog W 0 (fun _ => true) true m f0.type [v0] = some y0 ∧ DataW.trod enc Tryz.prog W 0 (fun _ => true) true m f1.type [v1] = some y1 ∧ Wok f0.type y0.1 ∧ Wok f1.type y1.1 := by
  obtain ⟨y0, y1, m, rfl, hl, h0, h1⟩ := trod_struct2 hs h
  obtain ⟨o0, k0⟩ := hone_of hone 0 f0 rfl
  obtain ⟨o1, k1⟩ := hone_of hone 1 f1 rfl
  rw [hC] at hl
  match cs, hl with
  | [v0, v1], _ =>
    refine ⟨v0, v1, y0, y1, m, rfl, by simpa [o0, k0] using h0, by simpa [o1, k1] using h1, fun q hq => hw q ?_, fun q hq => hw q ?_⟩
    · simp only [DataW.weights, hs]; exact DataW.weights_mem_each (j := 0) rfl rfl q hq
    · simp only [DataW.weights, hs]; exact DataW.weights_mem_each (j := 1) rfl rfl q hq
set_option maxRecDepth 100000 in
theorem rd3 {T : TypeId} {f0 f1 f2 : Field} {n : Nat} {cs : List Value} {x : DataW H × List MemPlace} (hs : Tryz.prog.underlying T = some (.struct #[f0, f1, f2])) (hone : oneCellFields Tryz.prog #[f0, f1, f2] = true) (hC : Tryz.prog.cellsOf T = 3)
    (h : DataW.trod enc Tryz.prog W 0 (fun _ => true) true n T cs = some x) (hw : Wok T x.1) : ∃ v0 v1 v2 y0 y1 y2 m, cs = [v0, v1, v2] ∧ DataW.trod enc Tryz.prog W 0 (fun _ => true) true m f0.type [v0] = some y0 ∧ DataW.trod enc Tryz.prog W 0 (fun _ => true) true m f1.type [v1] = some y1 ∧
      DataW.trod enc Tryz.prog W 0 (fun _ => true) true m f2.type [v2] = some y2 ∧ Wok f0.type y0.1 ∧ Wok f1.type y1.1 ∧ Wok f2.type y2.1 := by
  obtain ⟨y0, y1, y2, m, rfl, hl, h0, h1, h2⟩ := trod_struct3 hs h
  obtain ⟨o0, k0⟩ := hone_of hone 0 f0 rfl
  obtain ⟨o1, k1⟩ := hone_of hone 1 f1 rfl
  obtain ⟨o2, k2⟩ := hone_of hone 2 f2 rfl
  rw [hC] at hl
  match cs, hl with
  | [v0, v1, v2], _ =>
    refine ⟨v0, v1, v2, y0, y1, y2, m, rfl, by simpa [o0, k0] using h0, by simpa [o1, k1] using h1, by simpa [o2, k2] using h2, fun q hq => hw q ?_, fun q hq => hw q ?_, fun q hq => hw q ?_⟩
    · simp only [DataW.weights, hs]; exact DataW.weights_mem_each (j := 0) rfl rfl q hq
    · simp only [DataW.weights, hs]; exact DataW.weights_mem_each (j := 1) rfl rfl q hq
    · simp only [DataW.weights, hs]; exact DataW.weights_mem_each (j := 2) rfl rfl q hq
theorem rd_lst {n : Nat} {v : Value} {x : DataW H × List MemPlace} (h : DataW.trod enc Tryz.prog W 0 (fun _ => true) true n 85 [v] = some x) (hw : Wok 85 x.1) : ∃ l : Lst, v = l.val ∧ ListAt W.heap.size W l.a l.t.len l.t ∧ l.t.len ≤ 140737488351232 := by
  obtain ⟨a, len, c, t, e, _, h2, h3⟩ := open_il n _ _ h hw
  simp only [List.cons.injEq, and_true] at e
  subst e
  have hl := h3.1
  subst hl
  exact ⟨⟨a, c, t⟩, rfl, h3, h2⟩
theorem rd_str {n : Nat} {v : Value} {x : DataW H × List MemPlace} (h : DataW.trod enc Tryz.prog W 0 (fun _ => true) true n 9 [v] = some x) (hw : Wok 9 x.1) : ∃ s : ByteArray, v = .string s ∧ s.size ≤ 140737488351232 := by
  obtain ⟨s, e, rfl, _⟩ := DataW.trod_string Tryz.underlying9 h
  simp only [List.cons.injEq, and_true] at e
  refine ⟨s, e, ?_⟩
  have := hw s.size (by simp [DataW.weights])
  simpa [reachBytes] using this
theorem one_ty {n : Nat} {cs : List Value} {x : DataW H × List MemPlace} (h : DataW.trod enc Tryz.prog W 0 (fun _ => true) true n 92 cs = some x) (hw : Wok 92 x.1) : ∃ a : Int × Int, cs = tyV a ∧ True := by
  obtain ⟨v0, v1, y0, y1, m, rfl, h0, h1, _, _⟩ := rd2 Tryz.underlying92 (by kernel_rfl) (by kernel_rfl) h hw
  obtain ⟨n0, e0, -, _⟩ := DataW.trod_int Tryz.underlying3 h0
  obtain ⟨n1, e1, -, _⟩ := DataW.trod_int Tryz.underlying3 h1
  simp only [List.cons.injEq, and_true] at e0 e1
  subst e0 e1
  exact ⟨(n0, n1), rfl, trivial⟩
theorem one_im {n : Nat} {cs : List Value} {x : DataW H × List MemPlace} (h : DataW.trod enc Tryz.prog W 0 (fun _ => true) true n 90 cs = some x) (hw : Wok 90 x.1) : ∃ a : Imp, cs = a.v ∧ a.mo.size ≤ 140737488351232 ∧ a.na.size ≤ 140737488351232 := by
  obtain ⟨v0, v1, v2, y0, y1, y2, m, rfl, h0, h1, h2, w0, w1, _⟩ := rd3 Tryz.underlying90 (by kernel_rfl) (by kernel_rfl) h hw
  obtain ⟨s0, rfl, b0⟩ := rd_str h0 w0
  obtain ⟨s1, rfl, b1⟩ := rd_str h1 w1
  obtain ⟨n2, e2, -, _⟩ := DataW.trod_int Tryz.underlying3 h2
  simp only [List.cons.injEq, and_true] at e2
  subst e2
  exact ⟨⟨s0, s1, n2⟩, rfl, b0, b1⟩
theorem one_li {n : Nat} {cs : List Value} {x : DataW H × List MemPlace} (h : DataW.trod enc Tryz.prog W 0 (fun _ => true) true n 83 cs = some x) (hw : Wok 83 x.1) : ∃ a : Li, cs = a.v ∧ 0 ≤ a.n := by
  obtain ⟨v0, v1, v2, y0, y1, y2, m, rfl, h0, h1, h2, _, _, _⟩ := rd3 Tryz.underlying83 (by kernel_rfl) (by kernel_rfl) h hw
  obtain ⟨n0, e0, -, wf0⟩ := DataW.trod_int Tryz.underlying28 h0
  obtain ⟨n1, e1, -, _⟩ := DataW.trod_int Tryz.underlying28 h1
  obtain ⟨n2, e2, -⟩ := DataW.trod_bool Tryz.underlying4 h2
  simp only [List.cons.injEq, and_true] at e0 e1 e2
  subst e0 e1 e2
  exact ⟨⟨n0, n1, n2⟩, rfl, (bounds_u32 wf0).1⟩
theorem one_ex {n : Nat} {cs : List Value} {x : DataW H × List MemPlace} (h : DataW.trod enc Tryz.prog W 0 (fun _ => true) true n 111 cs = some x) (hw : Wok 111 x.1) : ∃ a : Ex, cs = a.v ∧ a.na.size ≤ 140737488351232 ∧ 0 ≤ a.i ∧ a.i < 4294967296 := by
  obtain ⟨v0, v1, v2, y0, y1, y2, m, rfl, h0, h1, h2, w0, _, _⟩ := rd3 Tryz.underlying111 (by kernel_rfl) (by kernel_rfl) h hw
  obtain ⟨s0, rfl, b0⟩ := rd_str h0 w0
  obtain ⟨n1, e1, -, _⟩ := DataW.trod_int Tryz.underlying3 h1
  obtain ⟨n2, e2, -, wf2⟩ := DataW.trod_int Tryz.underlying28 h2
  simp only [List.cons.injEq, and_true] at e1 e2
  subst e1 e2
  have hb := bounds_u32 wf2
  exact ⟨⟨s0, n1, n2⟩, rfl, b0, hb.1, by have := hb.2; show n2 < _; omega⟩
/-- A list of instructions lies where it is said to. -/
def LGood (W : World) (l : Lst) : Prop := ListAt W.heap.size W l.a l.t.len l.t ∧ l.t.len ≤ 140737488351232
theorem one_gl {n : Nat} {cs : List Value} {x : DataW H × List MemPlace} (h : DataW.trod enc Tryz.prog W 0 (fun _ => true) true n 94 cs = some x) (hw : Wok 94 x.1) : ∃ a : Gl, cs = a.v ∧ LGood W a.l := by
  obtain ⟨v0, v1, y0, y1, m, rfl, h0, h1, _, w1⟩ := rd2 Tryz.underlying94 (by kernel_rfl) (by kernel_rfl) h hw
  obtain ⟨n0, e0, -⟩ := DataW.trod_bool Tryz.underlying4 h0
  obtain ⟨l, rfl, hl⟩ := rd_lst h1 w1
  simp only [List.cons.injEq, and_true] at e0
  subst e0
  exact ⟨⟨n0, l⟩, rfl, hl⟩
theorem open_u32s {n : Nat} {v : Value} {x : DataW H × List MemPlace} (h : DataW.trod enc Tryz.prog W 0 (fun _ => true) true n 50 [v] = some x) (hw : Wok 50 x.1) : ∃ a c zs, v = .slice a zs.length c ∧ TagsAt W.heap.size W a zs ∧ zs.length ≤ 140737488351232 ∧ ∀ z ∈ zs, 0 ≤ z ∧ z < 4294967296 := by
  obtain ⟨a, c, zs, e1, _, hz, hr, hg⟩ := open_rows (sz := 1) (nb := 4) (α := { z : Int // 0 ≤ z ∧ z < 4294967296 }) (fun z => [.int .u32 z.1]) (fun _ => True) Tryz.underlying50 (by kernel_rfl) (by omega) (by kernel_rfl : Tryz.prog.bytesOf 28 = 4) (by omega)
    (fun n cs x h _ => by
      obtain ⟨z, e, -, wf⟩ := DataW.trod_int Tryz.underlying28 h
      have := bounds_u32 wf
      exact ⟨⟨z, by omega, by omega⟩, e, trivial⟩) h hw
  simp only [List.cons.injEq, and_true] at e1
  subst e1
  refine ⟨a, c, zs.map (·.1), by simp, ?_, by simpa using hz, fun z hm => ?_⟩
  · rcases hr with h | ⟨b, off, ha, hb, hcell⟩
    · left
      rw [List.map_eq_nil_iff] at h
      subst h; rfl
    · refine .inr ⟨b, off, ha, hb, fun i hi => ?_⟩
      have hi' : i < zs.length := by simpa using hi
      have := hcell i (by simpa using hi') 0 (by omega) (.int .u32 zs[i].1) (by simp [hi'])
      rw [Nat.mul_one, Nat.add_zero] at this
      rw [this]
      simp [hi']
  · obtain ⟨y, _, rfl⟩ := List.mem_map.1 hm
    exact y.2
theorem one_el {n : Nat} {cs : List Value} {x : DataW H × List MemPlace} (h : DataW.trod enc Tryz.prog W 0 (fun _ => true) true n 109 cs = some x) (hw : Wok 109 x.1) : ∃ a : El, cs = a.v ∧ LGood W a.l ∧ TagsAt W.heap.size W a.fa a.fs ∧ a.fs.length ≤ 140737488351232 ∧ ∀ z ∈ a.fs, 0 ≤ z ∧ z < 4294967296 := by
  obtain ⟨v0, v1, y0, y1, m, rfl, h0, h1, w0, w1⟩ := rd2 Tryz.underlying109 (by kernel_rfl) (by kernel_rfl) h hw
  obtain ⟨l, rfl, hl⟩ := rd_lst h0 w0
  obtain ⟨a, c, zs, rfl, ht, hz, hr⟩ := open_u32s h1 w1
  exact ⟨⟨l, a, c, zs⟩, rfl, hl, ht, hz, hr⟩
theorem one_da {n : Nat} {cs : List Value} {x : DataW H × List MemPlace} (h : DataW.trod enc Tryz.prog W 0 (fun _ => true) true n 88 cs = some x) (hw : Wok 88 x.1) : ∃ a : Da, cs = a.v ∧ LGood W a.l ∧ BytesAt W.heap.size W a.ba a.bs ∧ a.bs.length ≤ 140737488351232 ∧ ∀ z ∈ a.bs, 0 ≤ z ∧ z < 256 := by
  obtain ⟨v0, v1, y0, y1, m, rfl, h0, h1, w0, w1⟩ := rd2 Tryz.underlying88 (by kernel_rfl) (by kernel_rfl) h hw
  obtain ⟨l, rfl, hl⟩ := rd_lst h0 w0
  obtain ⟨a, c, zs, e1, _, hz, hr, hg⟩ := open_rows (sz := 1) (nb := 1) (α := { z : Int // 0 ≤ z ∧ z < 256 }) (fun z => [.int .u8 z.1]) (fun _ => True) Tryz.underlying73 (by kernel_rfl) (by omega) (by kernel_rfl : Tryz.prog.bytesOf 5 = 1) (by omega)
    (fun n cs x h _ => by
      obtain ⟨z, e, -, wf⟩ := DataW.trod_int Tryz.underlying5 h
      have := bounds_u8 wf
      exact ⟨⟨z, by omega, by omega⟩, e, trivial⟩) h1 w1
  simp only [List.cons.injEq, and_true] at e1
  subst e1
  refine ⟨⟨l, a, c, zs.map (·.1)⟩, by simp [Da.v], hl, ?_, by simpa using hz, fun z hm => ?_⟩
  · rcases hr with h | ⟨b, off, ha, hb, hcell⟩
    · left
      rw [List.map_eq_nil_iff] at h
      subst h; rfl
    · refine .inr ⟨b, off, ha, hb, fun i hi => ?_⟩
      have hi' : i < zs.length := by simpa using hi
      have := hcell i (by simpa using hi') 0 (by omega) (.int .u8 zs[i].1) (by simp [hi'])
      rw [Nat.mul_one, Nat.add_zero] at this
      rw [this]
      simp [hi']
  · obtain ⟨y, _, rfl⟩ := List.mem_map.1 hm
    exact y.2
set_option maxRecDepth 100000 in
theorem one_fu {n : Nat} {cs : List Value} {x : DataW H × List MemPlace} (h : DataW.trod enc Tryz.prog W 0 (fun _ => true) true n 101 cs = some x) (hw : Wok 101 x.1) : ∃ a : Fn, cs = a.v ∧ LGood W a.l := by
  obtain ⟨y0, y1, m, rfl, hl, h0, h1⟩ := trod_struct2 Tryz.underlying101 h
  have w1 : Wok 99 y1.1 := fun q hq => hw q (by simp only [DataW.weights, Tryz.underlying101]; exact DataW.weights_mem_each (j := 1) rfl rfl q hq)
  rw [show Tryz.prog.cellsOf 101 = 3 by kernel_rfl] at hl
  match cs, hl with
  | [v0, v1, v2], _ =>
    have h0' : DataW.trod enc Tryz.prog W 0 (fun _ => true) true m 3 [v0] = some y0 := by
      have := h0
      dsimp only at this
      rw [show Tryz.prog.cellsOf 3 = 1 by kernel_rfl] at this
      exact this
    have h1' : DataW.trod enc Tryz.prog W 0 (fun _ => true) true m 99 [v1, v2] = some y1 := by
      have := h1
      dsimp only at this
      rw [show Tryz.prog.cellsOf 99 = 2 by kernel_rfl] at this
      exact this
    obtain ⟨u0, u1, z0, z1, m', e, k0, k1, _, w2⟩ := rd2 Tryz.underlying99 (by kernel_rfl) (by kernel_rfl) h1' w1
    simp only [List.cons.injEq, and_true] at e
    obtain ⟨rfl, rfl⟩ := e
    obtain ⟨n0, e0, -, _⟩ := DataW.trod_int Tryz.underlying3 h0'
    obtain ⟨n1, e1, -, _⟩ := DataW.trod_int Tryz.underlying3 k0
    obtain ⟨l, rfl, hg⟩ := rd_lst k1 w2
    simp only [List.cons.injEq, and_true] at e0 e1
    subst e0 e1
    exact ⟨⟨n0, n1, l⟩, rfl, hg⟩
end Go.Proofs.YtckdnhafookcgaaGreatDoor.Mod

namespace Go.Proofs.YtckdnhafookcgaaGreatDoor.Mod
open Go.RowKit Go.ChangeShapes Go.WideShapes Go.ChangeAt Go.Joins Go.Deep Go.Proofs.YtckdnhafookcgaaGreatDoor.Instr

variable {H : Type} {enc : TypeId × Value → H} {W : World}
theorem honeM : oneCellFields Tryz.prog (Tryz.prog.fieldsOf 32) = true := by kernel_rfl
/-- Numbers as large as their types let them be. -/
structure Md.ranged (m : Md) : Prop where
  n0 : ∀ l ∈ m.tb ++ m.me, 0 ≤ l.n
  ei : ∀ e ∈ m.ex, 0 ≤ e.i ∧ e.i < 4294967296
  ef : ∀ e ∈ m.el, ∀ z ∈ e.fs, 0 ≤ z ∧ z < 4294967296
  db : ∀ d ∈ m.da, ∀ z ∈ d.bs, 0 ≤ z ∧ z < 256
  sn : 0 ≤ m.sn ∧ m.sn < 4294967296
set_option maxRecDepth 100000 in
set_option maxHeartbeats 2000000 in
theorem open_moduleR {ts : List TypeId} {ds : List (DataW H)} {base : Nat} {v : Value} {d : DataW H} {p : List MemPlace}
    (hsz : (DataW.weightsEach Tryz.prog ts ds).all (· ≤ reachBytes) = true) (j : Nat) (ht : ts[j]? = some 32) (hd : ds[j]? = some d)
    (hv : Value.okWide Tryz.prog W .any base 32 v) (h : DataW.Trod enc Tryz.prog W 0 (fun _ => true) true 32 v d p) :
    ∃ m : Md, v = .agg m.v ∧ ModAt W.heap.size W m ∧ m.fits ∧ m.caps ∧ m.ranged := by
  obtain ⟨cs, rfl, hcs⟩ := okWide_struct Tryz.underlying32 hv
  rw [show Tryz.prog.cellsOf 32 = 11 by kernel_rfl] at hcs
  obtain ⟨fuel, hf⟩ := h
  obtain ⟨xs, n, _, hx, _, hlen, hff⟩ := DataW.trod_struct Tryz.underlying32 hf
  have hone := hone_of (show oneCellFields Tryz.prog _ = true from honeM)
  obtain ⟨l⟩ := cs
  have hl : l.length = 11 := by simpa using hcs
  have hwd : Wok 32 d := fun q hq => by
    have := List.all_eq_true.1 hsz _ (DataW.weights_mem_each ht hd q hq)
    simpa using this
  simp only [Prod.mk.injEq] at hx
  obtain ⟨rfl, _⟩ := hx
  match l, hl, xs, hlen with
  | [v0, v1, v2, v3, v4, v5, v6, v7, v8, v9, v10], _, [y0, y1, y2, y3, y4, y5, y6, y7, y8, y9, y10], _ =>
    have w0 : Wok 22 y0.1 := fun q hq => hwd q (by simp only [DataW.weights, Tryz.underlying32]; exact DataW.weights_mem_each (j := 0) rfl rfl q hq)
    have f0 : DataW.trod enc Tryz.prog W 0 (fun _ => true) true n 22 [v0] = some y0 := by
      have h : DataW.trod enc Tryz.prog W 0 (fun _ => true) true n 22 (((Value.agg #[v0, v1, v2, v3, v4, v5, v6, v7, v8, v9, v10]).cells.toList.drop 0).take (Tryz.prog.cellsOf 22)) = [y0, y1, y2, y3, y4, y5, y6, y7, y8, y9, y10][0]? := hff 0 _ rfl
      rw [show Tryz.prog.cellsOf 22 = 1 by kernel_rfl] at h
      exact h
    have w1 : Wok 23 y1.1 := fun q hq => hwd q (by simp only [DataW.weights, Tryz.underlying32]; exact DataW.weights_mem_each (j := 1) rfl rfl q hq)
    have f1 : DataW.trod enc Tryz.prog W 0 (fun _ => true) true n 23 [v1] = some y1 := by
      have h : DataW.trod enc Tryz.prog W 0 (fun _ => true) true n 23 (((Value.agg #[v0, v1, v2, v3, v4, v5, v6, v7, v8, v9, v10]).cells.toList.drop 1).take (Tryz.prog.cellsOf 23)) = [y0, y1, y2, y3, y4, y5, y6, y7, y8, y9, y10][1]? := hff 1 _ rfl
      rw [show Tryz.prog.cellsOf 23 = 1 by kernel_rfl] at h
      exact h
    have w2 : Wok 24 y2.1 := fun q hq => hwd q (by simp only [DataW.weights, Tryz.underlying32]; exact DataW.weights_mem_each (j := 2) rfl rfl q hq)
    have f2 : DataW.trod enc Tryz.prog W 0 (fun _ => true) true n 24 [v2] = some y2 := by
      have h : DataW.trod enc Tryz.prog W 0 (fun _ => true) true n 24 (((Value.agg #[v0, v1, v2, v3, v4, v5, v6, v7, v8, v9, v10]).cells.toList.drop 2).take (Tryz.prog.cellsOf 24)) = [y0, y1, y2, y3, y4, y5, y6, y7, y8, y9, y10][2]? := hff 2 _ rfl
      rw [show Tryz.prog.cellsOf 24 = 1 by kernel_rfl] at h
      exact h
    have w3 : Wok 25 y3.1 := fun q hq => hwd q (by simp only [DataW.weights, Tryz.underlying32]; exact DataW.weights_mem_each (j := 3) rfl rfl q hq)
    have f3 : DataW.trod enc Tryz.prog W 0 (fun _ => true) true n 25 [v3] = some y3 := by
      have h : DataW.trod enc Tryz.prog W 0 (fun _ => true) true n 25 (((Value.agg #[v0, v1, v2, v3, v4, v5, v6, v7, v8, v9, v10]).cells.toList.drop 3).take (Tryz.prog.cellsOf 25)) = [y0, y1, y2, y3, y4, y5, y6, y7, y8, y9, y10][3]? := hff 3 _ rfl
      rw [show Tryz.prog.cellsOf 25 = 1 by kernel_rfl] at h
      exact h
    have w4 : Wok 25 y4.1 := fun q hq => hwd q (by simp only [DataW.weights, Tryz.underlying32]; exact DataW.weights_mem_each (j := 4) rfl rfl q hq)
    have f4 : DataW.trod enc Tryz.prog W 0 (fun _ => true) true n 25 [v4] = some y4 := by
      have h : DataW.trod enc Tryz.prog W 0 (fun _ => true) true n 25 (((Value.agg #[v0, v1, v2, v3, v4, v5, v6, v7, v8, v9, v10]).cells.toList.drop 4).take (Tryz.prog.cellsOf 25)) = [y0, y1, y2, y3, y4, y5, y6, y7, y8, y9, y10][4]? := hff 4 _ rfl
      rw [show Tryz.prog.cellsOf 25 = 1 by kernel_rfl] at h
      exact h
    have w5 : Wok 26 y5.1 := fun q hq => hwd q (by simp only [DataW.weights, Tryz.underlying32]; exact DataW.weights_mem_each (j := 5) rfl rfl q hq)
    have f5 : DataW.trod enc Tryz.prog W 0 (fun _ => true) true n 26 [v5] = some y5 := by
      have h : DataW.trod enc Tryz.prog W 0 (fun _ => true) true n 26 (((Value.agg #[v0, v1, v2, v3, v4, v5, v6, v7, v8, v9, v10]).cells.toList.drop 5).take (Tryz.prog.cellsOf 26)) = [y0, y1, y2, y3, y4, y5, y6, y7, y8, y9, y10][5]? := hff 5 _ rfl
      rw [show Tryz.prog.cellsOf 26 = 1 by kernel_rfl] at h
      exact h
    have w6 : Wok 27 y6.1 := fun q hq => hwd q (by simp only [DataW.weights, Tryz.underlying32]; exact DataW.weights_mem_each (j := 6) rfl rfl q hq)
    have f6 : DataW.trod enc Tryz.prog W 0 (fun _ => true) true n 27 [v6] = some y6 := by
      have h : DataW.trod enc Tryz.prog W 0 (fun _ => true) true n 27 (((Value.agg #[v0, v1, v2, v3, v4, v5, v6, v7, v8, v9, v10]).cells.toList.drop 6).take (Tryz.prog.cellsOf 27)) = [y0, y1, y2, y3, y4, y5, y6, y7, y8, y9, y10][6]? := hff 6 _ rfl
      rw [show Tryz.prog.cellsOf 27 = 1 by kernel_rfl] at h
      exact h
    have w7 : Wok 4 y7.1 := fun q hq => hwd q (by simp only [DataW.weights, Tryz.underlying32]; exact DataW.weights_mem_each (j := 7) rfl rfl q hq)
    have f7 : DataW.trod enc Tryz.prog W 0 (fun _ => true) true n 4 [v7] = some y7 := by
      have h : DataW.trod enc Tryz.prog W 0 (fun _ => true) true n 4 (((Value.agg #[v0, v1, v2, v3, v4, v5, v6, v7, v8, v9, v10]).cells.toList.drop 7).take (Tryz.prog.cellsOf 4)) = [y0, y1, y2, y3, y4, y5, y6, y7, y8, y9, y10][7]? := hff 7 _ rfl
      rw [show Tryz.prog.cellsOf 4 = 1 by kernel_rfl] at h
      exact h
    have w8 : Wok 28 y8.1 := fun q hq => hwd q (by simp only [DataW.weights, Tryz.underlying32]; exact DataW.weights_mem_each (j := 8) rfl rfl q hq)
    have f8 : DataW.trod enc Tryz.prog W 0 (fun _ => true) true n 28 [v8] = some y8 := by
      have h : DataW.trod enc Tryz.prog W 0 (fun _ => true) true n 28 (((Value.agg #[v0, v1, v2, v3, v4, v5, v6, v7, v8, v9, v10]).cells.toList.drop 8).take (Tryz.prog.cellsOf 28)) = [y0, y1, y2, y3, y4, y5, y6, y7, y8, y9, y10][8]? := hff 8 _ rfl
      rw [show Tryz.prog.cellsOf 28 = 1 by kernel_rfl] at h
      exact h
    have w9 : Wok 29 y9.1 := fun q hq => hwd q (by simp only [DataW.weights, Tryz.underlying32]; exact DataW.weights_mem_each (j := 9) rfl rfl q hq)
    have f9 : DataW.trod enc Tryz.prog W 0 (fun _ => true) true n 29 [v9] = some y9 := by
      have h : DataW.trod enc Tryz.prog W 0 (fun _ => true) true n 29 (((Value.agg #[v0, v1, v2, v3, v4, v5, v6, v7, v8, v9, v10]).cells.toList.drop 9).take (Tryz.prog.cellsOf 29)) = [y0, y1, y2, y3, y4, y5, y6, y7, y8, y9, y10][9]? := hff 9 _ rfl
      rw [show Tryz.prog.cellsOf 29 = 1 by kernel_rfl] at h
      exact h
    have w10 : Wok 30 y10.1 := fun q hq => hwd q (by simp only [DataW.weights, Tryz.underlying32]; exact DataW.weights_mem_each (j := 10) rfl rfl q hq)
    have f10 : DataW.trod enc Tryz.prog W 0 (fun _ => true) true n 30 [v10] = some y10 := by
      have h : DataW.trod enc Tryz.prog W 0 (fun _ => true) true n 30 (((Value.agg #[v0, v1, v2, v3, v4, v5, v6, v7, v8, v9, v10]).cells.toList.drop 10).take (Tryz.prog.cellsOf 30)) = [y0, y1, y2, y3, y4, y5, y6, y7, y8, y9, y10][10]? := hff 10 _ rfl
      rw [show Tryz.prog.cellsOf 30 = 1 by kernel_rfl] at h
      exact h
    obtain ⟨a0, c0, l0, e0, k0, b0, r0, g0⟩ := open_rows (sz := 2) tyV _ Tryz.underlying22 (by kernel_rfl) (by omega) rfl (of_decide_eq_true (by kernel_rfl)) (fun _ _ _ h hw => one_ty h hw) f0 w0
    obtain ⟨a1, c1, l1, e1, k1, b1, r1, g1⟩ := open_rows (sz := 3) Imp.v _ Tryz.underlying23 (by kernel_rfl) (by omega) rfl (of_decide_eq_true (by kernel_rfl)) (fun _ _ _ h hw => one_im h hw) f1 w1
    obtain ⟨a2, c2, l2, e2, k2, b2, r2, g2⟩ := open_rows (sz := 3) Fn.v _ Tryz.underlying24 (by kernel_rfl) (by omega) rfl (of_decide_eq_true (by kernel_rfl)) (fun _ _ _ h hw => one_fu h hw) f2 w2
    obtain ⟨a3, c3, l3, e3, k3, b3, r3, g3⟩ := open_rows (sz := 3) Li.v _ Tryz.underlying25 (by kernel_rfl) (by omega) rfl (of_decide_eq_true (by kernel_rfl)) (fun _ _ _ h hw => one_li h hw) f3 w3
    obtain ⟨a4, c4, l4, e4, k4, b4, r4, g4⟩ := open_rows (sz := 3) Li.v _ Tryz.underlying25 (by kernel_rfl) (by omega) rfl (of_decide_eq_true (by kernel_rfl)) (fun _ _ _ h hw => one_li h hw) f4 w4
    obtain ⟨a5, c5, l5, e5, k5, b5, r5, g5⟩ := open_rows (sz := 2) Gl.v _ Tryz.underlying26 (by kernel_rfl) (by omega) rfl (of_decide_eq_true (by kernel_rfl)) (fun _ _ _ h hw => one_gl h hw) f5 w5
    obtain ⟨a6, c6, l6, e6, k6, b6, r6, g6⟩ := open_rows (sz := 3) Ex.v _ Tryz.underlying27 (by kernel_rfl) (by omega) rfl (of_decide_eq_true (by kernel_rfl)) (fun _ _ _ h hw => one_ex h hw) f6 w6
    obtain ⟨z7, e7, -⟩ := DataW.trod_bool Tryz.underlying4 f7
    obtain ⟨z8, e8, -, wf8⟩ := DataW.trod_int Tryz.underlying28 f8
    obtain ⟨a9, c9, l9, e9, k9, b9, r9, g9⟩ := open_rows (sz := 2) El.v _ Tryz.underlying29 (by kernel_rfl) (by omega) rfl (of_decide_eq_true (by kernel_rfl)) (fun _ _ _ h hw => one_el h hw) f9 w9
    obtain ⟨a10, c10, l10, e10, k10, b10, r10, g10⟩ := open_rows (sz := 2) Da.v _ Tryz.underlying30 (by kernel_rfl) (by omega) rfl (of_decide_eq_true (by kernel_rfl)) (fun _ _ _ h hw => one_da h hw) f10 w10
    simp only [List.cons.injEq, and_true] at e0 e1 e2 e3 e4 e5 e6 e7 e8 e9 e10
    subst e0 e1 e2 e3 e4 e5 e6 e7 e8 e9 e10
    have hcodes : ∀ l ∈ (⟨l0, l1, l2, l3, l4, l5, l6, z7, z8, l9, l10, ⟨a0, c0⟩, ⟨a1, c1⟩, ⟨a2, c2⟩, ⟨a3, c3⟩, ⟨a4, c4⟩, ⟨a5, c5⟩, ⟨a6, c6⟩, ⟨a9, c9⟩, ⟨a10, c10⟩⟩ : Md).codes, LGood W l := by
      intro l hl
      unfold Md.codes at hl
      simp only [List.mem_append, List.mem_map] at hl
      rcases hl with ⟨x, hx, rfl⟩ | ⟨x, hx, rfl⟩ | ⟨x, hx, rfl⟩ | ⟨x, hx, rfl⟩
      · exact g2 x hx
      · exact g5 x hx
      · exact (g9 x hx).1
      · exact (g10 x hx).1
    refine ⟨⟨l0, l1, l2, l3, l4, l5, l6, z7, z8, l9, l10, ⟨a0, c0⟩, ⟨a1, c1⟩, ⟨a2, c2⟩, ⟨a3, c3⟩, ⟨a4, c4⟩, ⟨a5, c5⟩, ⟨a6, c6⟩, ⟨a9, c9⟩, ⟨a10, c10⟩⟩, rfl,
      ⟨r0, r1, r2, r3, r4, r5, r6, r9, r10, fun l hl => (hcodes l hl).1, fun e he => (g9 e he).2.1, fun e he => (g10 e he).2.1⟩,
      ⟨b0, b1, b2, b3, b4, b5, b6, b9, b10, fun l hl => (hcodes l hl).2, fun e he => (g9 e he).2.2.1, fun e he => (g10 e he).2.2.1, fun e he => g1 e he, fun e he => (g6 e he).1⟩, ⟨k0, k1, k2, k5, k6, k9, k10⟩,
      ⟨fun l hl => (List.mem_append.1 hl).elim (fun h => g3 l h) (fun h => g4 l h), fun e he => (g6 e he).2, fun e he => (g9 e he).2.2.2, fun d hd => (g10 d hd).2.2.2, (bounds_u32 wf8).1, by have := (bounds_u32 wf8).2; show z8 < _; omega⟩⟩
end Go.Proofs.YtckdnhafookcgaaGreatDoor.Mod

namespace Go.Proofs
open Go.Shelf
def Tryz.lays260_ren : Go.Shelf.Ren := ⟨fun | 260 => 258 | n => n, fun | 9 => 9 | 21 => 21 | 3 => 3 | 4 => 4 | 5 => 5 | 119 => 321 | 0 => 0 | 46 => 322 | 139 => 325 | 138 => 324 | n => n, fun | 3 => 2 | 4 => 3 | n => n⟩
theorem Tryz.lays260 : Go.Proofs.Lays.n260 Tryz.prog Tryz.lays260_ren := {
  mixed := by kernel_rfl
  f260 := Tryz.func258.trans (congrArg some (by kernel_rfl))
  t0 := Tryz.underlying0
  a0 := Tryz.isAgg0
  z0 := Tryz.sizeOf0
  v0 := Tryz.zeroValue0
  t3 := Tryz.underlying3
  a3 := Tryz.isAgg3
  z3 := Tryz.sizeOf3
  v3 := Tryz.zeroValue3
  t4 := Tryz.underlying4
  a4 := Tryz.isAgg4
  z4 := Tryz.sizeOf4
  v4 := Tryz.zeroValue4
  t5 := Tryz.underlying5
  a5 := Tryz.isAgg5
  z5 := Tryz.sizeOf5
  v5 := Tryz.zeroValue5
  t9 := Tryz.underlying9
  a9 := Tryz.isAgg9
  z9 := Tryz.sizeOf9
  v9 := Tryz.zeroValue9
  t21 := Tryz.underlying21
  a21 := Tryz.isAgg21
  z21 := Tryz.sizeOf21
  v21 := Tryz.zeroValue21
  t46 := Tryz.underlying322
  a46 := Tryz.isAgg322
  z46 := Tryz.sizeOf322
  v46 := Tryz.zeroValue322
  t119 := Tryz.underlying321
  a119 := Tryz.isAgg321
  z119 := Tryz.sizeOf321
  t138 := Tryz.underlying324
  a138 := Tryz.isAgg324
  z138 := Tryz.sizeOf324
  v138 := Tryz.zeroValue324
  t139 := Tryz.underlying325
  a139 := Tryz.isAgg325
  z139 := Tryz.sizeOf325
  v139 := Tryz.zeroValue325
  g3 := by kernel_rfl
  g4 := by kernel_rfl }
def Tryz.lays197_ren : Go.Shelf.Ren := ⟨fun | 197 => 242 | 260 => 258 | n => n, fun | 9 => 9 | 21 => 21 | 3 => 3 | 4 => 4 | 5 => 5 | 105 => 296 | 119 => 321 | 0 => 0 | 46 => 322 | 139 => 325 | 138 => 324 | n => n, fun | 3 => 2 | 4 => 3 | n => n⟩
theorem Tryz.lays197 : Go.Proofs.Lays.n197 Tryz.prog Tryz.lays197_ren := {
  mixed := by kernel_rfl
  f197 := Tryz.func242.trans (congrArg some (by kernel_rfl))
  f260 := Tryz.func258.trans (congrArg some (by kernel_rfl))
  t0 := Tryz.underlying0
  a0 := Tryz.isAgg0
  z0 := Tryz.sizeOf0
  v0 := Tryz.zeroValue0
  t3 := Tryz.underlying3
  a3 := Tryz.isAgg3
  z3 := Tryz.sizeOf3
  v3 := Tryz.zeroValue3
  t4 := Tryz.underlying4
  a4 := Tryz.isAgg4
  z4 := Tryz.sizeOf4
  v4 := Tryz.zeroValue4
  t5 := Tryz.underlying5
  a5 := Tryz.isAgg5
  z5 := Tryz.sizeOf5
  v5 := Tryz.zeroValue5
  t9 := Tryz.underlying9
  a9 := Tryz.isAgg9
  z9 := Tryz.sizeOf9
  v9 := Tryz.zeroValue9
  t21 := Tryz.underlying21
  a21 := Tryz.isAgg21
  z21 := Tryz.sizeOf21
  v21 := Tryz.zeroValue21
  t46 := Tryz.underlying322
  a46 := Tryz.isAgg322
  z46 := Tryz.sizeOf322
  v46 := Tryz.zeroValue322
  t105 := Tryz.underlying296
  a105 := Tryz.isAgg296
  z105 := Tryz.sizeOf296
  v105 := Tryz.zeroValue296
  t119 := Tryz.underlying321
  a119 := Tryz.isAgg321
  z119 := Tryz.sizeOf321
  t138 := Tryz.underlying324
  a138 := Tryz.isAgg324
  z138 := Tryz.sizeOf324
  v138 := Tryz.zeroValue324
  t139 := Tryz.underlying325
  a139 := Tryz.isAgg325
  z139 := Tryz.sizeOf325
  v139 := Tryz.zeroValue325
  g3 := by kernel_rfl
  g4 := by kernel_rfl }
open Go.RowKit Go.Lib in
/-- **unicode/utf8.DecodeRuneInString AT EVERY STRING.** (LAID: no walk: one application.) -/
theorem Tryz.utf8_DecodeRuneInString (s : ByteArray) (w : World) (hT : Lib.Utf8Tabs 2 3 w) :
    Calls Tryz.prog 242 #[.string s] w fun e w' => e = .returned (.tuple #[.int .i32 (Lib.decodeGo s).1, .int .i64 (Lib.decodeGo s).2]) ∧ Below w.heap.size w w' := Any.utf8_DecodeRuneInString Tryz.lays197 s w hT
end Go.Proofs

namespace Go.Proofs.YtckdnhafookcgaaGreatDoor.Utf
open Go.RowKit

/-- The two tables of unicode/utf8 lie as the row lists them. -/
def Tabs (w : World) : Prop := Lib.Utf8Tabs 2 3 w
theorem Tabs.below {w w' : World} (h : Tabs w) (hb : Below w.heap.size w w') : Tabs w' := Utf8Tabs_below h hb
theorem Tabs.alloc {w : World} (h : Tabs w) (o : Obj) : Tabs (w.alloc o) := h.below ((Below.refl _ _).alloc (Nat.le_refl _) o)

theorem str_tail (zs : List Int) (i : Nat) : (strOfNums zs).extract i zs.length = strOfNums (zs.drop i) := by
  apply ByteArray.ext
  apply Array.toList_inj.1
  rw [ByteArray.data_extract, Array.toList_extract, strOfNums_data, strOfNums_data]
  simp
  rw [List.take_of_length_le (by simp)]

set_option maxHeartbeats 800000 in
theorem bad_any (zs : List Int) (hb : ∀ z ∈ zs, 0 ≤ z ∧ z < 256) (w : World) (hT : Tabs w) :
    Calls Tryz.prog 211 #[.string (strOfNums zs)] w fun e w' => e = .returned (.int .i64 (badL zs)) ∧ Below w.heap.size w w' := by
  have D1 : ∀ pos n k, atL (zs.drop pos) = some (n, k) → Utf8.decode (strOfNums zs) pos = (n.toNat, k) := fun pos n k h => decode_some hb h
  have D2 : ∀ pos, pos < zs.length → atL (zs.drop pos) = none → Utf8.decode (strOfNums zs) pos = (65533, 1) := fun pos h h' => decode_none hb h h'
  have D3 : ∀ pos, pos < zs.length → Lib.decodeGo ((strOfNums zs).extract pos zs.length) = Utf8.decode (strOfNums zs) pos := fun pos h => by
    rw [str_tail]
    unfold Lib.decodeGo
    rw [strOfNums_size, List.length_drop, if_neg (by omega), decode_eq (mem_drop_bytes hb pos), decode_eq hb]
    rfl
  have hs : (strOfNums zs).size = zs.length := strOfNums_size zs
  generalize strOfNums zs = s at *
  have H1 := hid D1
  have H2 := hid D2
  have H3 := hid D3
  clear D1 D2 D3 hb
  go_enter Tryz.func211, Tryz.ntmps211
  go_wp2
  go_loopw [3] (fun _ wr => ∃ pos : Nat, wr.heap[w.heap.size]? = some (.stringIter s pos) ∧ Below w.heap.size w wr ∧ pos ≤ zs.length ∧ (scan zs).2 = pos + (scan (zs.drop pos)).2)
    (fun _ wr => zs.length - wr.iterPos w.heap.size)
  case atStart => exact ⟨0, World.iter_heap w s 0, (Below.refl _ _).alloc (Nat.le_refl _) _, Nat.zero_le _, by simp⟩
  case round =>
    obtain ⟨pos, hk, hbw, hpos, hsc⟩ := hrel
    have HS := hid hsc
    clear hsc
    have hT' : Tabs wr := hT.below hbw
    by_cases hp : pos < s.size
    · cases ha : atL (zs.drop pos) with
      | none =>
        have hd := H2.out pos (by omega) ha
        have hnx : ∀ ty, (Instr.next (.pointer (some ⟨w.heap.size, 0, none⟩)) true ty).run Tryz.prog wr = .ok (.tuple #[.bool true, .int .i64 pos, .int .i32 65533]) (wr.iterAt w.heap.size s (pos + 1)) := fun ty => by
          rw [Lib.run_next_any_at wr w.heap.size s pos ty hk hp, hd]; rfl
        have hw1 := Lib.below_iterAt hbw (Nat.le_refl _) s (pos + 1)
        have hT1 : Tabs (wr.iterAt w.heap.size s (pos + 1)) := hT.below hw1
        have HF : Hid (badL zs = pos) := by
          have h := HS.out
          rw [scan_none ha] at h
          show _ = _
          rw [badL_some (by omega)]
          simp at h; omega
        have HD := hid ((H3.out pos (by omega)).trans hd)
        clear hd ha hT hT'
        generalize wr.iterAt w.heap.size s (pos + 1) = w1 at *
        go_wp2_with fail
        refine (Tryz.utf8_DecodeRuneInString _ _ hT1).mono ?_
        rw [HD.out]
        rintro e w2 ⟨rfl, hb2⟩
        go_wp2
        go_ret
        exact ⟨ret_int HF.out.symm, hw1.trans (hb2.mono (by have := hw1.size; omega))⟩
      | some q =>
        obtain ⟨n, k⟩ := q
        obtain ⟨hn, _, _, hk1, _, hkl⟩ := atL_some ha
        have hd := H1.out pos n k ha
        have hnx : ∀ ty, (Instr.next (.pointer (some ⟨w.heap.size, 0, none⟩)) true ty).run Tryz.prog wr = .ok (.tuple #[.bool true, .int .i64 pos, .int .i32 n]) (wr.iterAt w.heap.size s (pos + k)) := fun ty => by
          rw [Lib.run_next_any_at wr w.heap.size s pos ty hk hp, hd]
          have := hn.1
          simp only [Int.toNat_of_nonneg this]
        have hw1 := Lib.below_iterAt hbw (Nat.le_refl _) s (pos + k)
        have hT1 : Tabs (wr.iterAt w.heap.size s (pos + k)) := hT.below hw1
        have hk1' := Lib.iterAt_heap wr w.heap.size s pos (pos + k) hk
        have hit : (wr.iterAt w.heap.size s (pos + k)).iterPos w.heap.size = pos + k := by unfold World.iterPos; rw [hk1']
        have hit0 : wr.iterPos w.heap.size = pos := by unfold World.iterPos; rw [hk]
        have HF : Hid ((scan zs).2 = (pos + k) + (scan (zs.drop (pos + k))).2) := by
          have h := HS.out
          rw [scan_some ha, List.drop_drop] at h
          show _ = _
          simp only at h
          omega
        have hlk : pos + k ≤ zs.length := by simp at hkl; omega
        by_cases he : n = 65533
        · subst he
          obtain rfl := error_three ha
          have HD := hid ((H3.out pos (by omega)).trans hd)
          clear hd ha hT hT' hn
          generalize wr.iterAt w.heap.size s (pos + 3) = w1 at *
          go_wp2_with fail
          refine (Tryz.utf8_DecodeRuneInString _ _ hT1).mono ?_
          rw [HD.out]
          rintro e w2 ⟨rfl, hb2⟩
          have hlt : w.heap.size < w1.heap.size := (Array.getElem?_eq_some_iff.1 hk1').1
          have hk2 := (hb2.block _ hlt).trans hk1'
          have hit2 : w2.iterPos w.heap.size = pos + 3 := by unfold World.iterPos; rw [hk2]
          go_wp2
          go_roundw
          case rel => exact ⟨pos + 3, hk2, hw1.trans (hb2.mono (by omega)), hlk, HF.out⟩
          case measure => rw [hit2, hit0]; omega
        · clear hd ha hT hT'
          generalize wr.iterAt w.heap.size s (pos + k) = w1 at *
          go_wp2
          go_roundw
          case rel => exact ⟨pos + k, hk1', hw1, hlk, HF.out⟩
          case measure => rw [hit, hit0]; omega
    · have hnx : ∀ ty, (Instr.next (.pointer (some ⟨w.heap.size, 0, none⟩)) true ty).run Tryz.prog wr = _ := fun ty => Lib.run_next_end_at wr w.heap.size s pos ty hk hp
      have HF : Hid (badL zs = -1) := badL_none (by
        have h := HS.out
        rw [List.drop_eq_nil_of_le (by omega), scan_nil] at h
        simp at h; omega)
      go_wp2
      go_ret
      exact ⟨ret_int HF.out.symm, hbw⟩
end Go.Proofs.YtckdnhafookcgaaGreatDoor.Utf

namespace Go.Proofs.YtckdnhafookcgaaGreatDoor
open Go.RowKit Go.Lib

theorem u8Extra : U8Extra Tryz.prog Tryz.lays260_ren := ⟨by kernel_rfl, by kernel_rfl, by kernel_rfl, by kernel_rfl, by kernel_rfl, by kernel_rfl, by kernel_rfl⟩
theorem accept_eq : (Rows.laid_unicode_utf8_acceptRanges : DataW Unit) = acceptData := by kernel_rfl
end Go.Proofs.YtckdnhafookcgaaGreatDoor

namespace Go.Proofs.YtckdnhafookcgaaGreatDoor.Num
open Go.RowKit

/-- The table of arities, as the program's text lays it. -/
def arTab : List Int := List.replicate 69 0 ++ [1] ++ List.replicate 10 2 ++ List.replicate 23 0 ++ [1, 1, 1] ++ List.replicate 15 2
/-- The table of arities lies as it was laid. -/
def Arit (w : World) : Prop := ∀ j, j < 121 → w.cell? ⟨1, j, none⟩ = some (.int .u8 (arTab.getD j 0))
theorem Arit.below {w w' : World} (h : Arit w) (hb : Below w.heap.size w w') : Arit w' := fun j hj => keep hb (h j hj)
theorem arTab_at : ∀ j : Fin 121, arTab.getD j.val 0 = arity (j.val : Int) := by decide +kernel
theorem arity_range (op : Int) : 0 ≤ arity op ∧ arity op ≤ 2 := by unfold arity; split <;> (try split) <;> omega
theorem arity_out {op : Int} (h : op < 0 ∨ 121 ≤ op) : arity op = 0 := by unfold arity; rw [if_neg (by omega), if_neg (by omega)]

set_option maxHeartbeats 400000 in
theorem Arity_any (op : Int) (w : World) (hT : Arit w) : Calls Tryz.prog 249 #[.int .i64 op] w fun e w' => e = .returned (.int .i64 (arity op)) ∧ w = w' := by
  obtain ⟨v, hv⟩ : ∃ v, arity op = v := ⟨_, rfl⟩
  by_cases h : 0 ≤ op ∧ op < 121
  · have hc := hT op.toNat (by omega)
    rw [arTab_at ⟨op.toNat, by omega⟩] at hc
    simp only [Int.toNat_of_nonneg h.1] at hc
    have hr := arity_range op
    rw [hv] at hr hc ⊢
    obtain ⟨h0, h1⟩ := h
    obtain ⟨r0, r1⟩ := hr
    clear hv hT
    go_enter Tryz.func249, Tryz.ntmps249
    go_wp2
    go_ret
    exact ⟨rfl, rfl⟩
  · rw [arity_out (by omega)]
    clear hv hT
    have h' : op < 0 ∨ 121 ≤ op := by omega
    clear h
    rcases h' with h' | h'
    all_goals
      go_enter Tryz.func249, Tryz.ntmps249
      go_wp2
      go_ret
      exact ⟨rfl, rfl⟩
end Go.Proofs.YtckdnhafookcgaaGreatDoor.Num

namespace Go.Proofs.YtckdnhafookcgaaGreatDoor
open Go.RowKit Go.Lib

def laid4 : List (String × DataW Unit) := [("unicode/utf8.acceptRanges", Rows.laid_unicode_utf8_acceptRanges), ("gimlet/num.arities", Rows.laid_gimlet_num_arities), ("gimlet/instr.names", Rows.laid_gimlet_instr_names), ("unicode/utf8.first", Rows.laid_unicode_utf8_first)]
theorem arities_eq : (Rows.laid_gimlet_num_arities : DataW Unit) = tabData .u8 Num.arTab := by kernel_rfl
theorem arit_of {W : World} {l : List (String × DataW Unit)} (hm : ("gimlet/num.arities", Rows.laid_gimlet_num_arities) ∈ l) (hL : laidMet Tryz.prog l W) : Num.Arit W := by
  obtain ⟨g, t, cs, fuel, p, hg, hty, hvar, hd⟩ := Lib.laidMet.reads hL hm
  obtain rfl := Option.some.inj ((show Tryz.prog.globalNamed "gimlet/num.arities" = some 1 by kernel_rfl).symm.trans hg)
  obtain rfl := Option.some.inj ((show (Tryz.prog.globals[1]?).map (·.type) = some 315 by kernel_rfl).symm.trans hty)
  rw [arities_eq] at hd
  have hcs := cells_of_tab Tryz.underlying315 Tryz.underlying5 (by kernel_rfl) (by kernel_rfl) hd
  have hlen : Num.arTab.length = 121 := by decide +kernel
  intro j hj
  rw [World.var?_cell hg hvar j, ← Array.getElem?_toList, hcs]
  simp [List.getD, hlen, hj]
theorem tabs_4 {W : World} (hL : laidMet Tryz.prog laid4 W) : Instr.Nams W ∧ Utf.Tabs W ∧ Num.Arit W := by
  refine ⟨nams_of (.tail _ (.tail _ (.head _))) hL, utf8Tabs_of_reads (ρ := Tryz.lays260_ren) Tryz.lays260 u8Extra (Pinned.utf8First_eq ▸ Lib.laidMet.reads hL (.tail _ (.tail _ (.tail _ (.head _))))) ?_, arit_of (.tail _ (.head _)) hL⟩
  have h := Lib.laidMet.reads hL (.head _)
  rw [accept_eq] at h
  exact h
end Go.Proofs.YtckdnhafookcgaaGreatDoor

namespace Go.Proofs.YtckdnhafookcgaaGreatDoor.Stk
open Go.RowKit
set_option linter.unusedVariables false

/-- From address a on lie these rows, each of sz cells; below block n₀. -/
def Rows (n₀ : Nat) (w : World) (a : Option Addr) (sz : Nat) (rs : List (List Value)) : Prop :=
  rs = [] ∨ ∃ b off, a = some ⟨b, off, none⟩ ∧ b < n₀ ∧ ∀ i, i < rs.length → ∀ j, j < sz → ∀ v, (rs.getD i [])[j]? = some v → w.cell? ⟨b, off + i * sz + j, none⟩ = some v
theorem Rows.below {n₀ sz : Nat} {w w' : World} {a : Option Addr} {rs : List (List Value)} (hb : Below n₀ w w') (h : Rows n₀ w a sz rs) : Rows n₀ w' a sz rs := by
  rcases h with h | ⟨b, off, ha, hl, hc⟩
  · exact .inl h
  · exact .inr ⟨b, off, ha, hl, fun i hi j hj v hv => (hb.cell (p := ⟨b, off + i * sz + j, none⟩) hl).trans (hc i hi j hj v hv)⟩
theorem Rows.more {n₀ n₁ sz : Nat} {w : World} {a : Option Addr} {rs : List (List Value)} (hn : n₀ ≤ n₁) (h : Rows n₀ w a sz rs) : Rows n₁ w a sz rs := by
  rcases h with h | ⟨b, off, ha, hl, hc⟩
  · exact .inl h
  · exact .inr ⟨b, off, ha, by omega, hc⟩
theorem flat_length {α : Type} {sz : Nat} : ∀ (rs : List (List α)) (_ : ∀ r ∈ rs, r.length = sz), rs.flatten.length = rs.length * sz
  | [], _ => by simp
  | r :: rs, h => by
    rw [List.flatten_cons, List.length_append, h r (by simp), flat_length rs (fun x hx => h x (by simp [hx])), List.length_cons, Nat.succ_mul]
    omega
theorem flat_get {α : Type} {sz : Nat} : ∀ (rs : List (List α)) (_ : ∀ r ∈ rs, r.length = sz) (i j : Nat) (_ : i < rs.length) (_ : j < sz), rs.flatten[i * sz + j]? = (rs.getD i [])[j]?
  | [], _, i, _, hi, _ => by simp at hi
  | r :: rs, h, 0, j, _, hj => by
    rw [List.flatten_cons, Nat.zero_mul, Nat.zero_add, List.getElem?_append_left (by rw [h r (by simp)]; exact hj)]
    rfl
  | r :: rs, h, i + 1, j, hi, hj => by
    have hr := h r (by simp)
    have e : (i + 1) * sz = i * sz + sz := Nat.succ_mul i sz
    rw [List.flatten_cons, List.getElem?_append_right (by rw [hr, e]; omega), hr]
    have e2 : (i + 1) * sz + j - sz = i * sz + j := by rw [e]; omega
    rw [e2, flat_get rs (fun x hx => h x (by simp [hx])) i j (by simpa using hi) hj]
    rfl
/-- Rows that a call made itself, each of sz cells. -/
structure OwnR (e : TypeId) (sz base : Nat) (w : World) (v : Value) (rs : List (List Value)) : Prop where
  row : w.ownsRow base e sz v rs.length rs.flatten
  len : ∀ r ∈ rs, r.length = sz
theorem OwnR.start (e : TypeId) (sz base : Nat) (w : World) : OwnR e sz base w (.slice none 0 0) [] := ⟨World.ownsRow_nil _ _ _ _, by simp⟩
theorem OwnR.made (e : TypeId) (sz : Nat) (w : World) : OwnR e sz w.heap.size (w.alloc (.cells #[] e)) (.slice (some ⟨w.heap.size, 0, none⟩) 0 0) [] := ⟨World.ownsRow_made w #[] 0 (Nat.le_refl _) (by unfold maxLen; omega) (by simp), by simp⟩
theorem OwnR.below {e : TypeId} {sz base : Nat} {w w' : World} {v : Value} {rs : List (List Value)} (h : OwnR e sz base w v rs) (hb : Below w.heap.size w w') : OwnR e sz base w' v rs := by
  refine ⟨⟨h.row.1, ?_⟩, h.len⟩
  rcases h.row.2 with h0 | ⟨g, cap, cur, hv, hg, hh, rest⟩
  · exact .inl h0
  · exact .inr ⟨g, cap, cur, hv, hg, (hb.block g (Array.getElem?_eq_some_iff.1 hh).1).trans hh, rest⟩
theorem OwnR.mono {e : TypeId} {sz base base' : Nat} {w : World} {v : Value} {rs : List (List Value)} (h : OwnR e sz base w v rs) (hb : base' ≤ base) : OwnR e sz base' w v rs := by
  refine ⟨⟨h.row.1, ?_⟩, h.len⟩
  rcases h.row.2 with h0 | ⟨g, cap, cur, hv, hg, rest⟩
  · exact .inl h0
  · exact .inr ⟨g, cap, cur, hv, Nat.le_trans hb hg, rest⟩
/-- As a slice in memory. -/
theorem OwnR.rows {e : TypeId} {sz base : Nat} {w : World} {v : Value} {rs : List (List Value)} (h : OwnR e sz base w v rs) : ∃ a c, v = .slice a rs.length c ∧ Rows w.heap.size w a sz rs ∧ ∀ g, v.ownBlock = some g → base ≤ g := by
  have hl := World.ownsRow.lt h.row
  rcases h.row.2 with ⟨rfl, h0⟩ | ⟨g, cap, cur, rfl, hg, hh, h2, h3, h4, h5⟩
  · exact ⟨none, 0, by rw [h0], .inl (List.eq_nil_of_length_eq_zero h0), fun g hg => (hl g hg).1⟩
  · refine ⟨_, cap, rfl, .inr ⟨g, 0, rfl, (hl g rfl).2, fun i hi j hj u hu => ?_⟩, fun g hg => (hl g hg).1⟩
    have hf := flat_get rs h.len i j hi hj
    rw [hu] at hf
    have := World.ownsRow.cells h.row (g := g) rfl (i * sz + j) u hf
    have hplain : (⟨g, 0, none⟩ : Addr).add (i * sz + j) = ⟨g, 0 + i * sz + j, none⟩ := by unfold Addr.add; split <;> simp_all <;> omega
    rw [hplain] at this
    exact this

theorem run_append_none (w : World) (base : Nat) (t ty e : TypeId) (i : TypeInfo) (size c : Nat) (ht : Tryz.prog.underlying t = some (.slice e)) (hi : Tryz.prog.info? e = some i)
    (v : Value) (n : Nat) (xs : List Value) (hown : w.ownsRow base e size v n xs) :
    (Builtin.append_ #[t, t] ty #[v, .slice none 0 c]).run Tryz.prog w = .ok v w := by
  rcases hown.2 with ⟨rfl, rfl⟩ | ⟨g, cap, cur, rfl, _, _, hnc, _⟩
  · simp [Builtin.append_, run_underlying ht, sizeOf, typeInfo, hi, Builtin.lenOf, Builtin.firstCells]
  · simp [Builtin.append_, run_underlying ht, sizeOf, typeInfo, hi, Builtin.lenOf, Builtin.firstCells, hnc, storeCells]
section
variable {ops : Array Oper} {rest : List Oper} {o : Oper} {act : Act} {Q : Exit → Act → World → Prop}
theorem append_none (hgd : o.guard = none) (s x : Operand) (t : TypeId) (ho : o.op = .call { callee := .builtin .append, args := #[s, x], argTypes := #[t, t] })
    {w : World} (base : Nat) (e : TypeId) (i : TypeInfo) (size c : Nat) (ht : Tryz.prog.underlying t = some (.slice e)) (hi : Tryz.prog.info? e = some i)
    (v : Value) (n : Nat) (xs : List Value) (hs : act.eval s = v) (hown : w.ownsRow base e size v n xs) (hx : act.eval x = .slice none 0 c)
    (h : wpList Tryz.prog ops Q rest (act.put o.dst v) w) : wpList Tryz.prog ops Q (o :: rest) act w := by
  refine wpList_plain hgd fun K hK => ?_
  have hrun := run_append_none w base t o.type e i size c ht hi v n xs hown
  unfold Oper.wp
  simp [execOp, ho, resolve, invoke, builtin, hs, hx, hrun, Result.andThen]
  exact hK _ _ h
end
section
variable {ops : Array Oper} {rest : List Oper} {o : Oper} {act : Act} {Q : Exit → Act → World → Prop}
/-- Rows that lie somewhere are appended. -/
theorem append_rows {e ts : TypeId} {sz nb : Nat} {z : Value} (inf : (Tryz.prog.info? e).map (fun i => (i.zero, i.size, i.bytes)) = some (some z, sz, nb)) (hz : z.cells.size = sz) (h0 : 0 < sz) (hnb : nb ≤ 1000) (ut : Tryz.prog.underlying ts = some (.slice e))
    (hgd : o.guard = none) (s x : Operand) (ho : o.op = .call { callee := .builtin .append, args := #[s, x], argTypes := #[ts, ts] })
    {base : Nat} {w0 wr : World} {v : Value} {xs : List (List Value)} (ys : List (List Value)) (hs : act.eval s = v) (hown : OwnR e sz base wr v xs) (hb : Below base w0 wr) (hbase : base ≤ wr.heap.size)
    (ad : Addr) (m c : Nat) (hm : ys.length = m) (hx : act.eval x = .slice (some ad) m c) (hy : ∀ r ∈ ys, r.length = sz) (hnews : ∀ j u, ys.flatten[j]? = some u → wr.cell? (ad.add j) = some u) (h1 : ∀ r ∈ ys, ∀ u ∈ r, u.oneCell' = true)
    (hl : xs.length + m ≤ 1000000000)
    (h : ∀ v' w', OwnR e sz base w' v' (xs ++ ys) → Below base w0 w' → base ≤ w'.heap.size → wr.grownBy w' v.ownBlock → wpList Tryz.prog ops Q rest (act.put o.dst v') w') :
    wpList Tryz.prog ops Q (o :: rest) act wr := by
  obtain ⟨i0, hi, hz0, hz1, hz2⟩ := info_parts inf
  subst hm
  refine wpList_append_own _ hgd s x ts ho base e i0 z sz nb ut hi hz0 hz1 hz2 hz h0 v xs.length _ hs hown.row ad ys.length c ys.flatten hx (flat_length ys hy)
    hnews (fun u hu => ?_) (by unfold maxLen; omega) ?_ hbase (fun v' w' hown' hgrow _ => ?_)
  · obtain ⟨r, hr, hur⟩ := List.mem_flatten.1 hu
    exact h1 r hr u hur
  · calc (xs.length + ys.length) * nb ≤ 1000000000 * 1000 := Nat.mul_le_mul hl hnb
      _ ≤ _ := by omega
  · refine h v' w' ⟨?_, ?_⟩ (hb.grown hgrow hbase (fun k hk => (World.ownsRow.lt hown.row k hk).1)) (by have := hgrow.size; omega) hgrow
    · rw [List.length_append, List.flatten_append]; exact hown'
    · intro r hr
      rcases List.mem_append.1 hr with hr | hr
      · exact hown.len r hr
      · exact hy r hr
end
section
variable {ops : Array Oper} {rest : List Oper} {o : Oper} {act : Act} {Q : Exit → Act → World → Prop}
/-- A whole list that lies somewhere is appended. -/
theorem append_list {e ts : TypeId} {sz nb : Nat} {z : Value} (inf : (Tryz.prog.info? e).map (fun i => (i.zero, i.size, i.bytes)) = some (some z, sz, nb)) (hz : z.cells.size = sz) (h0 : 0 < sz) (hnb : nb ≤ 1000) (ut : Tryz.prog.underlying ts = some (.slice e))
    (hgd : o.guard = none) (s x : Operand) (ho : o.op = .call { callee := .builtin .append, args := #[s, x], argTypes := #[ts, ts] })
    {base : Nat} {wr : World} {v : Value} (hs : act.eval s = v) (hown : OwnR e sz base wr v []) (hbase : base ≤ wr.heap.size)
    (a2 : Option Addr) (n c : Nat) (hx : act.eval x = .slice a2 n c) (ys : List (List Value)) (hn : ys.length = n) (hy : Rows wr.heap.size wr a2 sz ys) (hlen : ∀ r ∈ ys, r.length = sz) (h1 : ∀ r ∈ ys, ∀ u ∈ r, u.oneCell' = true)
    (hl : ys.length ≤ 1000000000)
    (h : ∀ v' w', OwnR e sz base w' v' ys → Below base wr w' → base ≤ w'.heap.size → wpList Tryz.prog ops Q rest (act.put o.dst v') w') :
    wpList Tryz.prog ops Q (o :: rest) act wr := by
  obtain ⟨i0, hi, hz0, hz1, hz2⟩ := info_parts inf
  subst hn
  have hb0 := Below.refl base wr
  rcases hy with h2 | ⟨b, off, rfl, hlt, hc⟩
  · subst h2
    cases a2 with
    | none => exact append_none hgd s x ts ho base e i0 sz c ut hi v _ _ hs hown.row hx (h v wr hown hb0 hbase)
    | some ad =>
      refine append_rows inf hz h0 hnb ut hgd s x ho (xs := []) [] hs hown hb0 hbase ad 0 c rfl hx (by simp) (by simp) (by simp) (by simp) (fun v' w' h3 h4 h5 _ => h v' w' h3 h4 h5)
  · refine append_rows inf hz h0 hnb ut hgd s x ho (xs := []) ys hs hown hb0 hbase ⟨b, off, none⟩ ys.length c rfl hx hlen (fun j u hj => ?_) h1 (by simpa using hl) (fun v' w' h3 h4 h5 _ => h v' w' h3 h4 h5)
    have hfl := flat_length ys hlen
    have hjl : j < ys.length * sz := by
      rcases Nat.lt_or_ge j (ys.length * sz) with h | h
      · exact h
      · rw [List.getElem?_eq_none (by omega)] at hj; cases hj
    have hq : j / sz < ys.length := (Nat.div_lt_iff_lt_mul h0).2 hjl
    have hr : j % sz < sz := Nat.mod_lt _ h0
    have hjj : j / sz * sz + j % sz = j := by rw [Nat.mul_comm]; exact Nat.div_add_mod j sz
    have hg := flat_get ys hlen (j / sz) (j % sz) hq hr
    rw [hjj, hj] at hg
    have := hc (j / sz) hq (j % sz) hr u hg.symm
    rw [Nat.add_assoc, hjj] at this
    have hplain : (⟨b, off, none⟩ : Addr).add j = ⟨b, off + j, none⟩ := by unfold Addr.add; split <;> simp_all
    rw [hplain]
    exact this
end
section
variable {ops : Array Oper} {rest : List Oper} {o : Oper} {act : Act} {Q : Exit → Act → World → Prop}
end
theorem OwnR.madeG {W : World} (e : TypeId) (sz g : Nat) (hg : g = W.heap.size) : OwnR e sz g (W.alloc (.cells #[] e)) (.slice (some ⟨g, 0, none⟩) 0 0) [] := by
  subst hg; exact OwnR.made e sz W
theorem OwnR.alloc {e : TypeId} {sz base : Nat} {w : World} {v : Value} {rs : List (List Value)} (h : OwnR e sz base w v rs) (o : Obj) : OwnR e sz base (w.alloc o) v rs := h.below ((Below.refl _ _).alloc (Nat.le_refl _) o)
/-- A store below it turns no row. -/
theorem OwnR.setCell {e : TypeId} {sz base : Nat} {w : World} {v : Value} {rs : List (List Value)} (h : OwnR e sz base w v rs) {p : Addr} (hp : p.block < base) (u : Value) : OwnR e sz base (w.setCell p u) v rs := by
  refine ⟨⟨h.row.1, ?_⟩, h.len⟩
  rcases h.row.2 with h0 | ⟨g, cap, cur, hv, hg, hh, rest⟩
  · exact .inl h0
  · exact .inr ⟨g, cap, cur, hv, hg, (Below.heap_setCell w p u g (by omega)).trans hh, rest⟩
end Go.Proofs.YtckdnhafookcgaaGreatDoor.Stk

namespace Go.Proofs.YtckdnhafookcgaaGreatDoor.Stk
open Go.RowKit
set_option linter.unusedVariables false

/-- A frame. -/
structure Fr where
  (op ba re : Int)
  de : Bool
def Fr.v (f : Fr) : List Value := [.int .i64 f.op, .int .i64 f.ba, .int .i64 f.re, .bool f.de]
def Fr.none : Fr := ⟨0, 0, 0, false⟩
def opens (op : Int) : Bool := decide (op = 2) || decide (op = 3) || decide (op = 4) || decide (op = 5)
def wrongRe (r : Int) : Bool := decide (r < 0) || decide (1 < r)
/-- Is a frame behind one of base b wrong? -/
def badF (h b : Int) (f : Fr) : Bool := !opens f.op || decide (f.ba < b) || decide (h < f.ba) || wrongRe f.re
def badL (h : Int) : Int → List Fr → Bool
  | _, [] => false
  | b, f :: l => badF h b f || badL h f.ba l
def badFirst (f : Fr) : Bool := decide (f.op ≠ 0) || decide (f.ba ≠ 0) || wrongRe f.re
def badAll (h : Int) : List Fr → Bool
  | [] => true
  | f :: l => decide (1000 < l.length + 1) || (badFirst f || badL h 0 l)
def valid (h : Int) (l : List Fr) : Bool := decide (0 ≤ h) && decide (h ≤ 1073741824) && !badAll h l
def chk (h : Int) (l : List Fr) : Int := if valid h l then 0 else 2
def lastF (l : List Fr) : Fr := l.getD (l.length - 1) Fr.none
/-- A stand, and an error. -/
structure R where
  h : Int
  l : List Fr
  e : Int
def bad (e : Int) : R := ⟨0, [], e⟩
def newR (r : Int) : R := if wrongRe r then bad 2 else ⟨0, [⟨0, 0, r, false⟩], 0⟩
def pushR (h : Int) (l : List Fr) (n : Int) : R := if valid h l = false then bad 2 else if n < 0 then bad 2 else if 1073741824 - h < n then bad 8 else ⟨h + n, l, 0⟩
/-- What stands when n words have been taken in a frame. -/
def without (h n : Int) (f : Fr) : Int × Int := if h - f.ba < n ∧ f.de = false then (0, 200) else (if f.ba ≤ h - n then h - n else f.ba, 0)
def popR (h : Int) (l : List Fr) (n : Int) : R := if valid h l = false then bad 2 else if n < 0 then bad 2 else if (without h n (lastF l)).2 = 0 then ⟨(without h n (lastF l)).1, l, 0⟩ else bad (without h n (lastF l)).2
def deadR (h : Int) (l : List Fr) : R := if valid h l = false then bad 2 else ⟨(lastF l).ba, l.set (l.length - 1) { lastF l with de := true }, 0⟩
def enterR (h : Int) (l : List Fr) (op r : Int) : R := if valid h l = false then bad 2 else if opens op = false ∨ wrongRe r = true then bad 2 else if l.length = 1000 then bad 8 else ⟨h, l ++ [⟨op, h, r, false⟩], 0⟩
def leaveR (h : Int) (l : List Fr) : R :=
  if valid h l = false then bad 2 else if (without h (lastF l).re (lastF l)).2 ≠ 0 then bad (without h (lastF l).re (lastF l)).2 else if (lastF l).ba < (without h (lastF l).re (lastF l)).1 then bad 201
  else ⟨(without h (lastF l).re (lastF l)).1 + (lastF l).re, l.take (l.length - 1), 0⟩
def labelR (h : Int) (l : List Fr) (n : Int) : Int × Int :=
  if valid h l = false then (0, 2) else if n < 0 ∨ (l.length : Int) ≤ n then (0, 6) else if (l.getD (l.length - 1 - n.toNat) Fr.none).op = 3 then (0, 0) else ((l.getD (l.length - 1 - n.toNat) Fr.none).re, 0)

theorem valid_yes {h : Int} {l : List Fr} (hv : valid h l = true) : 0 ≤ h ∧ h ≤ 1073741824 ∧ l ≠ [] ∧ l.length ≤ 1000 := by
  unfold valid at hv
  simp only [Bool.and_eq_true, decide_eq_true_eq, Bool.not_eq_true'] at hv
  obtain ⟨⟨h1, h2⟩, h3⟩ := hv
  cases l with
  | nil => simp [badAll] at h3
  | cons f l =>
    simp only [badAll, Bool.or_eq_false_iff, decide_eq_false_iff_not] at h3
    exact ⟨h1, h2, by simp, by simp; omega⟩
theorem badF_no {h b : Int} {f : Fr} (hv : badF h b f = false) : opens f.op = true ∧ b ≤ f.ba ∧ f.ba ≤ h ∧ 0 ≤ f.re ∧ f.re ≤ 1 := by
  unfold badF wrongRe at hv
  simp only [Bool.or_eq_false_iff, decide_eq_false_iff_not, Bool.not_eq_false', Int.not_lt] at hv
  obtain ⟨⟨⟨h1, h2⟩, h3⟩, h4, h5⟩ := hv
  exact ⟨h1, h2, h3, h4, h5⟩
/-- What each frame of a list that may be is. -/
def fine (h : Int) (f : Fr) : Prop := 0 ≤ f.ba ∧ f.ba ≤ h ∧ 0 ≤ f.re ∧ f.re ≤ 1
theorem badL_no {h : Int} : ∀ {b : Int} {l : List Fr}, 0 ≤ b → badL h b l = false → ∀ f ∈ l, fine h f
  | _, [], _, _, f, hf => by simp at hf
  | b, g :: l, hb, hv, f, hf => by
    simp only [badL, Bool.or_eq_false_iff] at hv
    obtain ⟨h1, h2, h3, h4, h5⟩ := badF_no hv.1
    rcases List.mem_cons.1 hf with rfl | hf
    · exact ⟨by omega, h3, h4, h5⟩
    · exact badL_no (by omega) hv.2 f hf
theorem valid_fine {h : Int} {l : List Fr} (hv : valid h l = true) : ∀ f ∈ l, fine h f := by
  have ⟨h1, _⟩ := valid_yes hv
  unfold valid at hv
  simp only [Bool.and_eq_true, decide_eq_true_eq, Bool.not_eq_true'] at hv
  obtain ⟨_, h3⟩ := hv
  cases l with
  | nil => simp
  | cons g l =>
    simp only [badAll, Bool.or_eq_false_iff, badFirst, wrongRe, decide_eq_false_iff_not, Int.not_lt, ne_eq, Decidable.not_not] at h3
    obtain ⟨_, ⟨⟨h4, h5⟩, h6, h7⟩, h8⟩ := h3
    intro f hf
    rcases List.mem_cons.1 hf with rfl | hf
    · exact ⟨by omega, by omega, h6, h7⟩
    · exact badL_no (by omega) h8 f hf
theorem lastF_mem {l : List Fr} (h : l ≠ []) : lastF l ∈ l := by
  have hl : 0 < l.length := List.length_pos_iff.2 h
  unfold lastF
  rw [List.getD_eq_getElem?_getD, List.getElem?_eq_getElem (by omega)]
  exact List.getElem_mem _
theorem lastF_fine {h : Int} {l : List Fr} (hv : valid h l = true) : fine h (lastF l) := valid_fine hv _ (lastF_mem (valid_yes hv).2.2.1)
/-- From the k-th one on. -/
theorem badL_at {h b : Int} {l : List Fr} {k : Nat} (hk : k < l.length) : badL h b (l.drop k) = (badF h b l[k] || badL h l[k].ba (l.drop (k + 1))) := by
  rw [List.drop_eq_getElem_cons hk]; rfl
end Go.Proofs.YtckdnhafookcgaaGreatDoor.Stk

namespace Go.Proofs.YtckdnhafookcgaaGreatDoor.Instr
open Go.RowKit

def takesTab : List Int := [0, 0, 0, 0, 0, 0, 0, 0, 0, 0, 0, 0, 0, 0, 0, 0, 0, 0, 0, 0, 0, 0, 0, 0, 0, 0, 1, 3, 0, 0, 0, 0, 0, 1, 1, 0, 1, 0, 0, 0, 1, 0, 0, 0, 1, 1, 1, 1, 0, 0, 0, 0, 0, 0, 2, 0, 0, 0, 2, 2, 0, 0, 0, 0, 1, 0]
def leavesTab : List Int := [0, 0, 0, 0, 0, 0, 0, 0, 0, 0, 0, 0, 0, 0, 0, 0, 0, 0, 0, 0, 0, 0, 0, 0, 0, 0, 0, 1, 0, 0, 0, 0, 1, 0, 1, 1, 0, 0, 0, 0, 1, 0, 0, 0, 1, 1, 1, 1, 0, 0, 0, 0, 0, 0, 0, 0, 0, 0, 0, 0, 0, 0, 0, 1, 1, 1]
def knownTab : List Bool := [false, true, false, false, false, false, false, false, false, false, false, false, false, false, false, false, false, false, false, false, false, false, false, false, false, false, true, true, false, false, false, false, true, true, true, true, true, false, false, false, true, false, false, false, true, true, true, true, false, false, false, false, false, false, true, false, false, false, true, true, false, false, false, true, true, true]
def shapeCells : List Value := (List.range 66).flatMap fun j => [.int .u8 (takesTab.getD j 0), .int .u8 (leavesTab.getD j 0), .bool (knownTab.getD j false)]
def shapeParts : List (Nat × Value) := [(1, .agg #[.int .u8 0, .int .u8 0, .bool true]), (26, .agg #[.int .u8 1, .int .u8 0, .bool true]), (27, .agg #[.int .u8 3, .int .u8 1, .bool true]), (32, .agg #[.int .u8 0, .int .u8 1, .bool true]), (33, .agg #[.int .u8 1, .int .u8 0, .bool true]), (34, .agg #[.int .u8 1, .int .u8 1, .bool true]), (35, .agg #[.int .u8 0, .int .u8 1, .bool true]), (36, .agg #[.int .u8 1, .int .u8 0, .bool true]), (40, .agg #[.int .u8 1, .int .u8 1, .bool true]), (44, .agg #[.int .u8 1, .int .u8 1, .bool true]), (45, .agg #[.int .u8 1, .int .u8 1, .bool true]), (46, .agg #[.int .u8 1, .int .u8 1, .bool true]), (47, .agg #[.int .u8 1, .int .u8 1, .bool true]), (54, .agg #[.int .u8 2, .int .u8 0, .bool true]), (58, .agg #[.int .u8 2, .int .u8 0, .bool true]), (59, .agg #[.int .u8 2, .int .u8 0, .bool true]), (63, .agg #[.int .u8 0, .int .u8 1, .bool true]), (64, .agg #[.int .u8 1, .int .u8 1, .bool true]), (65, .agg #[.int .u8 0, .int .u8 1, .bool true])]
theorem shape_built : Tryz.prog.built 316 shapeParts = some shapeCells.toArray := by kernel_rfl
theorem shapeCells_all : ((List.range 66).map fun j => (shapeCells[j * 3]?, shapeCells[j * 3 + 1]?, shapeCells[j * 3 + 2]?)) = (List.range 66).map fun j => (some (.int .u8 (takesTab.getD j 0)), some (.int .u8 (leavesTab.getD j 0)), some (.bool (knownTab.getD j false))) := by kernel_rfl
theorem shapeCells_at (j : Nat) (h : j < 66) : shapeCells[j * 3]? = some (.int .u8 (takesTab.getD j 0)) ∧ shapeCells[j * 3 + 1]? = some (.int .u8 (leavesTab.getD j 0)) ∧ shapeCells[j * 3 + 2]? = some (.bool (knownTab.getD j false)) := by
  have h1 := (List.map_inj_left.1 shapeCells_all) j (List.mem_range.2 h)
  simp only [Prod.mk.injEq] at h1
  exact h1
/-- What an operation that is not of num takes and leaves, and whether it has a shape. -/
def takesO (op : Int) : Int := if 0 ≤ op ∧ op < 66 then takesTab.getD op.toNat 0 else 0
def leavesO (op : Int) : Int := if 0 ≤ op ∧ op < 66 then leavesTab.getD op.toNat 0 else 0
def knownO (op : Int) : Bool := if 0 ≤ op ∧ op < 66 then knownTab.getD op.toNat false else false

section
variable {ops : Array Oper} {rest : List Oper} {o : Oper} {act : Act} {w : World} {Q : Exit → Act → World → Prop}
theorem build_shapes (hgd : o.guard = none) (parts : Array (Nat × Operand)) (ho : o.op = .build 316 parts) (he : (parts.map fun (i, x) => (i, act.eval x)).toList = shapeParts)
    (h : ∀ C : Array Value, C = shapeCells.toArray → wpList Tryz.prog ops Q rest (act.put o.dst (.agg C)) w) : wpList Tryz.prog ops Q (o :: rest) act w := by
  refine wpList_build hgd 316 parts ho ?_ ?_
  · rw [he, shape_built]; rfl
  · rw [he, shape_built]; exact h _ rfl
end
theorem zero56 : Tryz.zeroCells316.size = 198 := by kernel_rfl
theorem info56 : (Tryz.prog.info? 316).map (·.size) = some 198 := by kernel_rfl
theorem all56 : shapeCells.toArray.all (·.oneCell') = true := by kernel_rfl

set_option maxRecDepth 100000 in
set_option maxHeartbeats 2000000 in
theorem shapeOf_in (op : Int) (w : World) (h0 : 0 ≤ op) (h1 : op < 66) (x y : Int) (z : Bool) (hx : takesTab.getD op.toNat 0 = x) (hy : leavesTab.getD op.toNat 0 = y) (hz : knownTab.getD op.toNat false = z) :
    Calls Tryz.prog 250 #[.int .i64 op] w fun e w' => e = .returned (.agg #[.int .u8 x, .int .u8 y, .bool z]) ∧ Below w.heap.size w w' := by
  have hc := shapeCells_at op.toNat (by omega)
  simp only [hx, hy, hz] at hc
  have HC := hid hc
  clear hc hx hy hz
  go_enter Tryz.func250, Tryz.ntmps250
  go_wp2_with (refine build_shapes rfl _ rfl (by simp [shapeParts, go_sem]) ?_; intro C hC; replace hC := hid hC; refine Hid.out ?_)
  refine hid ?_
  have hs : C.size = 198 := by rw [hC.out]; kernel_rfl
  have ha : C.all (·.oneCell') = true := by rw [hC.out]; exact all56
  have hc0 : C[op.toNat * 3]? = some (.int .u8 x) := by rw [hC.out]; simpa using HC.out.1
  have hc1 : C[op.toNat * 3 + 1]? = some (.int .u8 y) := by rw [hC.out]; simpa using HC.out.2.1
  have hc2 : C[op.toNat * 3 + 2]? = some (.bool z) := by rw [hC.out]; simpa using HC.out.2.2
  clear HC hC
  have hst := run_storeAt_new (P := Tryz.prog) (w.alloc (.cells #[.int .u8 0, .int .u8 0, .bool false] 304)) 316 Tryz.zeroCells316 C (by rw [info56, hs]) (by rw [zero56, hs]) ha
  have hst2 := run_storeCells_new (P := Tryz.prog) (w.alloc (.cells #[.int .u8 0, .int .u8 0, .bool false] 304)) 316 Tryz.zeroCells316 C (by rw [info56, hs]) (by rw [zero56, hs]) ha
  rw [World.size_alloc] at hst hst2
  clear ha
  go_wp2
  refine bodyPost_ret (v := .agg #[.int .u8 x, .int .u8 y, .bool z]) (by simp [results, Tryz.f250, go_sem]) rfl ?_
  exact ⟨rfl, thenA (thenA (Below.refl _ _) _) _⟩
set_option maxRecDepth 100000 in
set_option maxHeartbeats 4000000 in
theorem shapeOf_out (op : Int) (w : World) (h : op < 0 ∨ 66 ≤ op) :
    Calls Tryz.prog 250 #[.int .i64 op] w fun e w' => e = .returned (.agg #[.int .u8 0, .int .u8 0, .bool false]) ∧ Below w.heap.size w w' := by
  rcases h with h | h
  all_goals
    go_enter Tryz.func250, Tryz.ntmps250
    go_wp2_with (refine build_shapes rfl _ rfl (by simp [shapeParts, go_sem]) ?_; intro C hC; replace hC := hid hC; refine Hid.out ?_)
    refine hid ?_
    have hs : C.size = 198 := by rw [hC.out]; kernel_rfl
    have ha : C.all (·.oneCell') = true := by rw [hC.out]; exact all56
    clear hC
    have hst := run_storeAt_new (P := Tryz.prog) (w.alloc (.cells #[.int .u8 0, .int .u8 0, .bool false] 304)) 316 Tryz.zeroCells316 C (by rw [info56, hs]) (by rw [zero56, hs]) ha
    have hst2 := run_storeCells_new (P := Tryz.prog) (w.alloc (.cells #[.int .u8 0, .int .u8 0, .bool false] 304)) 316 Tryz.zeroCells316 C (by rw [info56, hs]) (by rw [zero56, hs]) ha
    rw [World.size_alloc] at hst hst2
    clear ha
    go_wp2
    refine bodyPost_ret (v := .agg #[.int .u8 0, .int .u8 0, .bool false]) (by simp [results, Tryz.f250, go_sem]) rfl ?_
    exact ⟨rfl, thenA (thenA (Below.refl _ _) _) _⟩
theorem shapeOf_any (op : Int) (w : World) :
    Calls Tryz.prog 250 #[.int .i64 op] w fun e w' => e = .returned (.agg #[.int .u8 (takesO op), .int .u8 (leavesO op), .bool (knownO op)]) ∧ Below w.heap.size w w' := by
  unfold takesO leavesO knownO
  by_cases h : 0 ≤ op ∧ op < 66
  · rw [if_pos h, if_pos h, if_pos h]
    exact shapeOf_in op w h.1 h.2 _ _ _ rfl rfl rfl
  · rw [if_neg h, if_neg h, if_neg h]
    exact shapeOf_out op w (by omega)
def takesP (op : Int) : Int := if 0 < Num.arity op then Num.arity op else takesO op
def leavesP (op : Int) : Int := if 0 < Num.arity op then 1 else leavesO op
def knownP (op : Int) : Bool := if 0 < Num.arity op then true else knownO op
theorem takesO_range (op : Int) : 0 ≤ takesO op ∧ takesO op ≤ 3 := by
  unfold takesO
  split
  · have : ∀ j : Fin 66, 0 ≤ takesTab.getD j.val 0 ∧ takesTab.getD j.val 0 ≤ 3 := by decide +kernel
    exact this ⟨op.toNat, by omega⟩
  · omega
theorem leavesO_range (op : Int) : 0 ≤ leavesO op ∧ leavesO op ≤ 1 := by
  unfold leavesO
  split
  · have : ∀ j : Fin 66, 0 ≤ leavesTab.getD j.val 0 ∧ leavesTab.getD j.val 0 ≤ 1 := by decide +kernel
    exact this ⟨op.toNat, by omega⟩
  · omega
set_option maxHeartbeats 1000000 in
theorem Shape_any (op : Int) (w : World) (hT : Num.Arit w) :
    Calls Tryz.prog 226 #[.int .i64 op] w fun e w' => e = .returned (.tuple #[.int .i64 (takesP op), .int .i64 (leavesP op), .bool (knownP op)]) ∧ Below w.heap.size w w' := by
  have CN := Num.Arity_any op w hT
  have CS := shapeOf_any op w
  have hr := takesO_range op
  have hr2 := leavesO_range op
  unfold takesP leavesP knownP
  obtain ⟨n, hn⟩ : ∃ n, Num.arity op = n := ⟨_, rfl⟩
  obtain ⟨x, hx⟩ : ∃ x, takesO op = x := ⟨_, rfl⟩
  obtain ⟨y, hy⟩ : ∃ y, leavesO op = y := ⟨_, rfl⟩
  obtain ⟨z, hz⟩ : ∃ z, knownO op = z := ⟨_, rfl⟩
  rw [hn] at CN
  rw [hx, hy, hz] at CS
  rw [hx] at hr
  rw [hy] at hr2
  rw [hn, hx, hy, hz]
  obtain ⟨r0, r1⟩ := hr
  obtain ⟨r2, r3⟩ := hr2
  clear hn hx hy hz hT
  have C := hid CN
  have D := hid CS
  clear CN CS
  by_cases h : 0 < n
  · rw [if_pos h, if_pos h, if_pos h]
    clear D
    go_enter Tryz.func226, Tryz.ntmps226
    go_wp2_with fail
    refine C.out.mono ?_
    clear C
    rintro e w1 ⟨rfl, rfl⟩
    go_wp2
    go_ret3
    exact ⟨rfl, Below.refl _ _⟩
  · rw [if_neg h, if_neg h, if_neg h]
    have h' : n ≤ 0 := by omega
    clear h
    go_enter Tryz.func226, Tryz.ntmps226
    go_wp2_with fail
    refine C.out.mono ?_
    clear C
    rintro e w1 ⟨rfl, rfl⟩
    go_wp2_with fail
    refine D.out.mono ?_
    clear D
    rintro e w1 ⟨rfl, hb⟩
    go_wp2_with fail
    go_quiet (fail)
    go_wp2
    go_ret3
    exact ⟨rfl, drewN (thenA hb _)⟩
end Go.Proofs.YtckdnhafookcgaaGreatDoor.Instr

namespace Go.Proofs.YtckdnhafookcgaaGreatDoor.Val
open Go.RowKit Go.Proofs.YtckdnhafookcgaaGreatDoor.Instr Go.Proofs.YtckdnhafookcgaaGreatDoor.Mod
open Go.Proofs.YtckdnhafookcgaaGreatDoor.Stk (Fr R pushR popR deadR enterR leaveR labelR newR)

/-- A checker's own: the stand, how many instructions have been begun, which one is checked, the first error. -/
structure St where
  h : Int
  l : List Fr
  cnt : Int
  at_ : Int
  er : Int
def St.put (s : St) (r : R) : St := ⟨r.h, r.l, s.cnt, s.at_, r.e⟩
def failS (e : Int) (s : St) : St := if s.er = 0 then ⟨s.h, s.l, s.cnt, s.at_, e⟩ else s
def pushS (n : Int) (s : St) : St := if s.er = 0 then s.put (pushR s.h s.l n) else s
def popS (n : Int) (s : St) : St := if s.er = 0 then s.put (popR s.h s.l n) else s
def deadS (s : St) : St := if s.er = 0 then s.put (deadR s.h s.l) else s
def enterS (op re : Int) (s : St) : St := if s.er = 0 then s.put (enterR s.h s.l op re) else s
def leaveS (own : Int) (s : St) : St := if s.er = 0 then St.put ⟨s.h, s.l, s.cnt, own, s.er⟩ (leaveR s.h s.l) else s
def labelS (n : Int) (s : St) : Int × St := if s.er = 0 then ((labelR s.h s.l n).1, failS (labelR s.h s.l n).2 s) else (0, s)
def tagsS (k : Int) : List Int → Bool → St → Bool × St
  | [], b, s => (b, s)
  | t :: r, b, s => tagsS k r (decide ((labelS t s).1 = k) && b) (labelS t s).2
def tableS (tags : List Int) (last : Int) (s : St) : St :=
  if (tagsS (labelS last s).1 tags true (labelS last s).2).1 then (tagsS (labelS last s).1 tags true (labelS last s).2).2 else failS 214 (tagsS (labelS last s).1 tags true (labelS last s).2).2
def brS (a : Int) (s : St) : St := deadS (popS (labelS a s).1 (labelS a s).2)
def brIfS (a : Int) (s : St) : St := pushS (labelS a s).1 (popS (labelS a s).1 (popS 1 (labelS a s).2))
/-- What an instruction calls. -/
def calleeP (m : Md) (x : Ix) : (Int × Int) × Bool :=
  if x.op = 16 then m.typeOf x.a.toNat else if m.tb.length = 0 ∨ (m.ty.length : Int) ≤ x.a then ((0, 0), false) else (m.ty.getD x.a.toNat (0, 0), true)
def lacksP (m : Md) (lo : Int) (x : Ix) : Int :=
  if x.op = 16 ∨ x.op = 17 then (if (calleeP m x).2 then 0 else 6)
  else if x.op = 32 ∨ x.op = 33 ∨ x.op = 34 then (if x.a < lo then 0 else 6)
  else if x.op = 35 ∨ x.op = 36 then (if x.a < (m.gl.length : Int) then (if x.op = 36 ∧ (m.gl.map (·.mu)).getD x.a.toNat false = false then 212 else 0) else 6)
  else if storedP x.op then (if m.me.length = 0 then 6 else if alignP x.op < x.a then 211 else 0)
  else if x.op = 63 ∨ x.op = 64 then (if m.me.length = 0 then 6 else 0) else 0
def callS (t : Int × Int) (s : St) : St := pushS t.2 (popS t.1 s)
def St.back (s b : St) : St := ⟨b.h, b.l, s.cnt, s.at_, s.er⟩
def eitherS (re : Int) (L E : St → St) (s : St) : St := E (enterS 5 re ((L (enterS 4 re (popS 1 s))).back (popS 1 s)))
/-- One instruction, behind what it lacks. -/
def opS (m : Md) (re : Int) (x : Ix) (L E : St → St) (s : St) : St :=
  if x.op = 0 then deadS s
  else if x.op = 2 ∨ x.op = 3 then L (enterS x.op x.res s)
  else if x.op = 4 then eitherS x.res L E s
  else if x.op = 14 then brS x.a (popS 1 (tableS x.tags x.a s))
  else if x.op = 12 then brS x.a s
  else if x.op = 13 then brIfS x.a s
  else if x.op = 15 then deadS (popS re s)
  else if x.op = 17 then callS (calleeP m x).1 (popS 1 s)
  else if x.op = 16 then callS (calleeP m x).1 s
  else pushS (leavesP x.op) (popS (takesP x.op) s)
def insS (m : Md) (lo re : Int) (x : Ix) (L E : St → St) (s : St) : St := opS m re x L E (failS (lacksP m lo x) s)
def St.next (s : St) : St := ⟨s.h, s.l, s.cnt + 1, s.cnt + 1, s.er⟩
/-- A list, but for its end. -/
def runS (m : Md) (lo re : Int) : Il → St → St
  | .nil, s => s
  | .cons x l e r, s => if s.er = 0 then runS m lo re r (insS m lo re x (fun s => leaveS s.at_ (runS m lo re l s)) (fun s => leaveS s.at_ (runS m lo re e s)) s.next) else s
def listS (m : Md) (lo re : Int) (t : Il) (s : St) : St := leaveS s.at_ (runS m lo re t s)
theorem runS_cons (m : Md) (lo re : Int) (x : Ix) (l e r : Il) (s : St) : runS m lo re (.cons x l e r) s = if s.er = 0 then runS m lo re r (insS m lo re x (listS m lo re l) (listS m lo re e) s.next) else s := rfl
theorem runS_er (m : Md) (lo re : Int) (t : Il) (s : St) (h : s.er ≠ 0) : runS m lo re t s = s := by
  cases t with
  | nil => rfl
  | cons x l e r => rw [runS_cons, if_neg h]
def startS (re : Int) : St := ⟨(newR re).h, (newR re).l, 0, 0, (newR re).e⟩
/-- The first error of a function, and where. -/
def Md.bodyP (m : Md) (n : Nat) : Int × Int :=
  if (m.typeOf (m.im.length + n)).2 = false then (6, 0)
  else
    let f := m.fu.getD n ⟨0, 0, ⟨none, 0, .nil⟩⟩
    let t := (m.typeOf (m.im.length + n)).1
    let s := listS m (t.1 + f.lo) t.2 f.l.t (startS t.2)
    (s.er, s.at_)
/-- How many have been begun, behind each step: as many as there are. -/
theorem failS_cnt (e : Int) (s : St) : (failS e s).cnt = s.cnt := by unfold failS; split <;> rfl
theorem pushS_cnt (e : Int) (s : St) : (pushS e s).cnt = s.cnt := by unfold pushS; split <;> rfl
theorem popS_cnt (e : Int) (s : St) : (popS e s).cnt = s.cnt := by unfold popS; split <;> rfl
theorem deadS_cnt (s : St) : (deadS s).cnt = s.cnt := by unfold deadS; split <;> rfl
theorem enterS_cnt (o e : Int) (s : St) : (enterS o e s).cnt = s.cnt := by unfold enterS; split <;> rfl
theorem leaveS_cnt (e : Int) (s : St) : (leaveS e s).cnt = s.cnt := by unfold leaveS; split <;> rfl
theorem labelS_cnt (n : Int) (s : St) : (labelS n s).2.cnt = s.cnt := by unfold labelS; split <;> simp [failS_cnt]
theorem tagsS_cnt (k : Int) : ∀ (l : List Int) (b : Bool) (s : St), (tagsS k l b s).2.cnt = s.cnt
  | [], _, _ => rfl
  | t :: r, b, s => by rw [tagsS, tagsS_cnt k r, labelS_cnt]
theorem tableS_cnt (tags : List Int) (last : Int) (s : St) : (tableS tags last s).cnt = s.cnt := by unfold tableS; split <;> simp [failS_cnt, tagsS_cnt, labelS_cnt]
theorem brS_cnt (a : Int) (s : St) : (brS a s).cnt = s.cnt := by simp [brS, deadS_cnt, popS_cnt, labelS_cnt]
theorem brIfS_cnt (a : Int) (s : St) : (brIfS a s).cnt = s.cnt := by simp [brIfS, pushS_cnt, popS_cnt, labelS_cnt]
theorem callS_cnt (t : Int × Int) (s : St) : (callS t s).cnt = s.cnt := by simp [callS, pushS_cnt, popS_cnt]
theorem opS_cnt {m : Md} {re : Int} {x : Ix} {L E : St → St} {a b : Int} (ha : 0 ≤ a) (hb : 0 ≤ b) (hL : ∀ s, s.cnt ≤ (L s).cnt ∧ (L s).cnt ≤ s.cnt + a) (hE : ∀ s, s.cnt ≤ (E s).cnt ∧ (E s).cnt ≤ s.cnt + b) (s : St) : s.cnt ≤ (opS m re x L E s).cnt ∧ (opS m re x L E s).cnt ≤ s.cnt + a + b := by
  have h0 : ∀ s' : St, s'.cnt = s.cnt → s.cnt ≤ s'.cnt ∧ s'.cnt ≤ s.cnt + a + b := fun s' h => by omega
  unfold opS
  split; · exact h0 _ (deadS_cnt _)
  split
  · have := hL (enterS x.op x.res s); rw [enterS_cnt] at this; omega
  split
  · unfold eitherS
    have h1 := hE (enterS 5 x.res ((L (enterS 4 x.res (popS 1 s))).back (popS 1 s)))
    have h2 := hL (enterS 4 x.res (popS 1 s))
    rw [enterS_cnt] at h1 h2
    rw [popS_cnt] at h2
    have h3 : ((L (enterS 4 x.res (popS 1 s))).back (popS 1 s)).cnt = (L (enterS 4 x.res (popS 1 s))).cnt := rfl
    omega
  split; · exact h0 _ (by rw [brS_cnt, popS_cnt, tableS_cnt])
  split; · exact h0 _ (brS_cnt _ _)
  split; · exact h0 _ (brIfS_cnt _ _)
  split; · exact h0 _ (by rw [deadS_cnt, popS_cnt])
  split; · exact h0 _ (by rw [callS_cnt, popS_cnt])
  split; · exact h0 _ (callS_cnt _ _)
  exact h0 _ (by rw [pushS_cnt, popS_cnt])
theorem runS_cnt (m : Md) (lo re : Int) : ∀ (t : Il) (s : St), s.cnt ≤ (runS m lo re t s).cnt ∧ (runS m lo re t s).cnt ≤ s.cnt + t.count
  | .nil, s => by simp [runS, Il.count]
  | .cons x l e r, s => by
    rw [runS_cons]
    split
    · have hL : ∀ s, s.cnt ≤ (listS m lo re l s).cnt ∧ (listS m lo re l s).cnt ≤ s.cnt + l.count := fun s => by unfold listS; rw [leaveS_cnt]; exact runS_cnt m lo re l s
      have hE : ∀ s, s.cnt ≤ (listS m lo re e s).cnt ∧ (listS m lo re e s).cnt ≤ s.cnt + e.count := fun s => by unfold listS; rw [leaveS_cnt]; exact runS_cnt m lo re e s
      have h1 := runS_cnt m lo re r (insS m lo re x (listS m lo re l) (listS m lo re e) s.next)
      have h2 := opS_cnt (m := m) (re := re) (x := x) (by omega) (by omega) hL hE (failS (lacksP m lo x) s.next)
      rw [failS_cnt] at h2
      have h3 : s.next.cnt = s.cnt + 1 := rfl
      unfold insS at h1 ⊢
      simp only [Il.count]
      omega
    · simp only [Il.count]; omega
theorem listS_cnt (m : Md) (lo re : Int) (t : Il) (s : St) : s.cnt ≤ (listS m lo re t s).cnt ∧ (listS m lo re t s).cnt ≤ s.cnt + t.count := by
  unfold listS; rw [leaveS_cnt]; exact runS_cnt m lo re t s
end Go.Proofs.YtckdnhafookcgaaGreatDoor.Val

namespace Go.Proofs.YtckdnhafookcgaaGreatDoor.Stk
open Go.RowKit
set_option linter.unusedVariables false

def wrongH (h : Int) : Bool := decide (h < 0) || decide (1073741824 < h)
theorem wrongHeight_any (h : Int) (w : World) : Calls Tryz.prog 267 #[.int .i64 h] w fun e w' => e = .returned (.bool (wrongH h)) ∧ w = w' := by
  have H : Hid (wrongH h = (decide (h < 0) || decide (1073741824 < h))) := rfl
  by_cases g : h < 0
  · have HE : Hid (wrongH h = true) := by show _ = _; rw [H.out]; simp [g]
    go_enter Tryz.func267, Tryz.ntmps267
    go_wp2
    go_ret
    exact ⟨ret_bool HE.out.symm, rfl⟩
  · have h' : decide (h < 0) = false := by simpa using g
    have HE : Hid (wrongH h = decide (1073741824 < h)) := by show _ = _; rw [H.out, h', Bool.false_or]
    clear H
    go_enter Tryz.func267, Tryz.ntmps267
    go_wp2
    go_ret
    exact ⟨ret_bool HE.out.symm, rfl⟩
theorem wrongResults_any (h : Int) (w : World) : Calls Tryz.prog 195 #[.int .i64 h] w fun e w' => e = .returned (.bool (wrongRe h)) ∧ w = w' := by
  have H : Hid (wrongRe h = (decide (h < 0) || decide (1 < h))) := rfl
  by_cases g : h < 0
  · have HE : Hid (wrongRe h = true) := by show _ = _; rw [H.out]; simp [g]
    go_enter Tryz.func195, Tryz.ntmps195
    go_wp2
    go_ret
    exact ⟨ret_bool HE.out.symm, rfl⟩
  · have h' : decide (h < 0) = false := by simpa using g
    have HE : Hid (wrongRe h = decide (1 < h)) := by show _ = _; rw [H.out, h', Bool.false_or]
    clear H
    go_enter Tryz.func195, Tryz.ntmps195
    go_wp2
    go_ret
    exact ⟨ret_bool HE.out.symm, rfl⟩
theorem opensList_any (op : Int) (w : World) : Calls Tryz.prog 259 #[.int .i64 op] w fun e w' => e = .returned (.bool (opens op)) ∧ w = w' := by
  have H : Hid (opens op = (decide (op = 2) || decide (op = 3) || decide (op = 4) || decide (op = 5))) := rfl
  by_cases g2 : op = 2
  · have HE : Hid (opens op = true) := by show _ = _; rw [H.out]; simp [g2]
    subst g2
    clear H
    go_enter Tryz.func259, Tryz.ntmps259
    go_wp2
    go_ret
    exact ⟨ret_bool HE.out.symm, rfl⟩
  by_cases g3 : op = 3
  · have HE : Hid (opens op = true) := by show _ = _; rw [H.out]; simp [g3]
    subst g3
    clear H
    go_enter Tryz.func259, Tryz.ntmps259
    go_wp2
    go_ret
    exact ⟨ret_bool HE.out.symm, rfl⟩
  by_cases g4 : op = 4
  · have HE : Hid (opens op = true) := by show _ = _; rw [H.out]; simp [g4]
    subst g4
    clear H
    go_enter Tryz.func259, Tryz.ntmps259
    go_wp2
    go_ret
    exact ⟨ret_bool HE.out.symm, rfl⟩
  by_cases g5 : op = 5
  · have HE : Hid (opens op = true) := by show _ = _; rw [H.out]; simp [g5]
    subst g5
    clear H
    go_enter Tryz.func259, Tryz.ntmps259
    go_wp2
    go_ret
    exact ⟨ret_bool HE.out.symm, rfl⟩
  have HE : Hid (opens op = false) := by show _ = _; rw [H.out]; simp [g2, g3, g4, g5]
  have q2 : (op == 2) = false := by simp [g2]
  have q3 : (op == 3) = false := by simp [g3]
  have q4 : (op == 4) = false := by simp [g4]
  have q5 : (op == 5) = false := by simp [g5]
  clear H
  go_enter Tryz.func259, Tryz.ntmps259
  go_wp2
  go_ret
  exact ⟨ret_bool HE.out.symm, rfl⟩
theorem s64_in {x : Int} (h0 : -9223372036854775808 ≤ x) (h1 : x ≤ 9223372036854775807) : IntKind.i64.wrap x = x := by rw [IntKind.wrap_i64]; omega
/-- What is left when n words are taken in a frame. -/
theorem without_any (h n : Int) (f : Fr) (w : World) (h0 : 0 ≤ h) (h1 : h ≤ 1073741824) (b0 : 0 ≤ f.ba) (b1 : f.ba ≤ h) (n0 : 0 ≤ n) (n1 : n ≤ 9223372036854775807) :
    Calls Tryz.prog 252 #[.int .i64 h, .int .i64 n, .agg #[.int .i64 f.op, .int .i64 f.ba, .int .i64 f.re, .bool f.de]] w fun e w' => e = .returned (.tuple #[.int .i64 (without h n f).1, .int .i64 (without h n f).2]) ∧ Below w.heap.size w w' := by
  have HW : Hid (without h n f = if h - f.ba < n ∧ f.de = false then (0, 200) else (if f.ba ≤ h - n then h - n else f.ba, 0)) := rfl
  generalize hR : without h n f = R at HW ⊢
  obtain ⟨op, ba, re, de⟩ := f
  dsimp only at *
  clear hR
  have k1 : IntKind.i64.wrap (h - ba) = h - ba := s64_in (by omega) (by omega)
  have k2 : IntKind.i64.wrap (h - n) = h - n := s64_in (by omega) (by omega)
  by_cases g1 : h - ba < n
  · cases de with
    | false =>
      have HR : Hid (R = (0, 200)) := by show _ = _; rw [HW.out]; simp [g1]
      clear HW
      go_enter Tryz.func252, Tryz.ntmps252
      go_wp2
      go_ret2
      exact ⟨by rw [HR.out]; rfl, (Below.refl _ _).alloc (Nat.le_refl _) _⟩
    | true =>
      have HR : Hid (R = (ba, 0)) := by show _ = _; rw [HW.out]; simp; omega
      clear HW
      go_enter Tryz.func252, Tryz.ntmps252
      go_wp2
      go_ret2
      exact ⟨by rw [HR.out]; simp <;> omega, (Below.refl _ _).alloc (Nat.le_refl _) _⟩
  · have HR : Hid (R = (h - n, 0)) := by show _ = _; rw [HW.out, if_neg (fun h => g1 h.1), if_pos (by omega)]
    clear HW
    go_enter Tryz.func252, Tryz.ntmps252
    go_wp2
    go_ret2
    exact ⟨by rw [HR.out]; simp <;> omega, (Below.refl _ _).alloc (Nat.le_refl _) _⟩
end Go.Proofs.YtckdnhafookcgaaGreatDoor.Stk

namespace Go.Proofs.YtckdnhafookcgaaGreatDoor.Kind
open Go.RowKit

theorem eqType (a b c d : Int) (w : World) : (Op.equalIn 10000 92 (.agg #[.int .i64 a, .int .i64 b]) (.agg #[.int .i64 c, .int .i64 d])).run Tryz.prog w = .ok (a == c && b == d) w := by
  have u3 := Tryz.underlying3
  have a3 := Tryz.isAgg3
  have z3 := Tryz.sizeOf3
  have hS : Tryz.prog.underlying 92 = some (.struct (Tryz.prog.fieldsOf 92)) := by kernel_rfl
  have hp : Tryz.prog.stoodInHeld 92 = false := by kernel_rfl
  rw [show (10000 : Nat) = 9999 + 1 from rfl, run_equalIn_agg w 9999 92 _ _ hS hp]
  simp only [Program.fieldsOf, Tryz.underlying92]
  go_simp
  by_cases h1 : a = c <;> by_cases h2 : b = d <;> simp [h1, h2]
theorem guardType (op : BinOp) (x y : Operand) (xs ys : Array Value) (w : World) : (eqGuard op 92 x y (.agg xs) (.agg ys)).run Tryz.prog w = .ok () w :=
  run_eqGuard_agg w op _ x y xs ys (by kernel_rfl)
theorem eqLim (a b c d : Int) (s t : Bool) (w : World) : (Op.equalIn 10000 83 (.agg #[.int .u32 a, .int .u32 b, .bool s]) (.agg #[.int .u32 c, .int .u32 d, .bool t])).run Tryz.prog w = .ok (a == c && b == d && s == t) w := by
  have u3 := Tryz.underlying28
  have a3 := Tryz.isAgg28
  have z3 := Tryz.sizeOf28
  have u4 := Tryz.underlying4
  have a4 := Tryz.isAgg4
  have z4 := Tryz.sizeOf4
  have hS : Tryz.prog.underlying 83 = some (.struct (Tryz.prog.fieldsOf 83)) := by kernel_rfl
  have hp : Tryz.prog.stoodInHeld 83 = false := by kernel_rfl
  rw [show (10000 : Nat) = 9999 + 1 from rfl, run_equalIn_agg w 9999 83 _ _ hS hp]
  simp only [Program.fieldsOf, Tryz.underlying83]
  go_simp
  by_cases h1 : a = c <;> by_cases h2 : b = d <;> by_cases h3 : s = t <;> simp [h1, h2, h3]
theorem guardLim (op : BinOp) (x y : Operand) (xs ys : Array Value) (w : World) : (eqGuard op 83 x y (.agg xs) (.agg ys)).run Tryz.prog w = .ok () w :=
  run_eqGuard_agg w op _ x y xs ys (by kernel_rfl)
end Go.Proofs.YtckdnhafookcgaaGreatDoor.Kind

namespace Go.Proofs.YtckdnhafookcgaaGreatDoor.Mem
open Go.RowKit Go.Proofs.YtckdnhafookcgaaGreatDoor.Instr Go.Proofs.YtckdnhafookcgaaGreatDoor.Num
set_option linter.unusedVariables false

structure Mm where
  n : Nat
  most : Nat
  f : Nat → Int
/-- How many bytes an operation is for. -/
def wd (op : Int) : Nat := if op = 40 ∨ op = 54 then 4 else if op = 46 ∨ op = 47 ∨ op = 59 then 2 else 1
/-- The bytes from s on are zs. -/
def putF (f : Nat → Int) (s : Nat) (zs : List Int) : Nat → Int := fun a => if s ≤ a ∧ a < s + zs.length then zs.getD (a - s) 0 else f a
def Mm.has (m : Mm) (s k : Nat) : Bool := decide (s + k ≤ m.n * 65536)
def rowF (f : Nat → Int) (s : Nat) : Nat → List Int
  | 0 => []
  | n + 1 => f s :: rowF f (s + 1) n
def Mm.write (m : Mm) (s : Nat) (zs : List Int) : Mm × Int := if m.has s zs.length then ({ m with f := putF m.f s zs }, 0) else (m, 220)
/-- As a memory should be. -/
structure Mm.ok (m : Mm) : Prop where
  n : m.n ≤ m.most
  most : m.most ≤ 65536
  byte : ∀ a, 0 ≤ m.f a ∧ m.f a < 256

theorem rowF_length (f : Nat → Int) : ∀ (n s : Nat), (rowF f s n).length = n
  | 0, _ => rfl
  | n + 1, s => by simp [rowF, rowF_length f n]
theorem rowF_getD (f : Nat → Int) : ∀ (n s i : Nat), i < n → (rowF f s n).getD i 0 = f (s + i)
  | 0, _, i, h => absurd h (Nat.not_lt_zero _)
  | n + 1, s, 0, _ => rfl
  | n + 1, s, i + 1, h => by
    have := rowF_getD f n (s + 1) i (by omega)
    simp only [rowF, List.getD_cons_succ]
    rw [this]; congr 1; omega
theorem putF_nil (f : Nat → Int) (s : Nat) : putF f s [] = f := by
  funext a; unfold putF; rw [if_neg (by simp)]
theorem putF_append (f : Nat → Int) (s : Nat) (xs ys : List Int) : putF (putF f s xs) (s + xs.length) ys = putF f s (xs ++ ys) := by
  funext a
  unfold putF
  rw [List.length_append]
  by_cases h1 : s + xs.length ≤ a ∧ a < s + xs.length + ys.length
  · rw [if_pos h1, if_pos (by omega), List.getD_eq_getElem?_getD, List.getD_eq_getElem?_getD, List.getElem?_append_right (by omega), show a - (s + xs.length) = a - s - xs.length by omega]
  · rw [if_neg h1]
    by_cases h2 : s ≤ a ∧ a < s + xs.length
    · rw [if_pos h2, if_pos (by omega), List.getD_eq_getElem?_getD, List.getD_eq_getElem?_getD, List.getElem?_append_left (by omega)]
    · rw [if_neg h2, if_neg (by omega)]
theorem putF_byte {f : Nat → Int} (hf : ∀ a, 0 ≤ f a ∧ f a < 256) {zs : List Int} (hz : ∀ z ∈ zs, 0 ≤ z ∧ z < 256) (s a : Nat) : 0 ≤ putF f s zs a ∧ putF f s zs a < 256 := by
  unfold putF
  split
  · rename_i h
    rw [getD_lt (by omega)]; exact hz _ (List.getElem_mem _)
  · exact hf a
theorem putF_other (f : Nat → Int) (s : Nat) (zs : List Int) (a : Nat) (h : a < s ∨ s + zs.length ≤ a) : putF f s zs a = f a := by
  unfold putF; rw [if_neg (by omega)]
end Go.Proofs.YtckdnhafookcgaaGreatDoor.Mem

namespace Go.Proofs.YtckdnhafookcgaaGreatDoor.Leb
open Go.RowKit

theorem m4 : (max (0 : Int) 4).toNat = 4 := rfl
theorem m0 : (max (0 : Int) (-3)).toNat = 0 := rfl
end Go.Proofs.YtckdnhafookcgaaGreatDoor.Leb

namespace Go.Proofs.YtckdnhafookcgaaGreatDoor.Leb
open Go.RowKit

/-- What a read gives back: number, place behind it, error, its place; all that was there stays. -/
def Got (k : IntKind) (w : World) (r : Int × Int × Int × Int) (e : Ending) (w' : World) : Prop :=
  e = .returned (.tuple #[.int k r.1, .int .i64 r.2.1, .agg #[.int .i64 r.2.2.1, .int .i64 r.2.2.2]]) ∧ Below w.heap.size w w'

end Go.Proofs.YtckdnhafookcgaaGreatDoor.Leb
