import Derived.Test.YtepbjkkakfpjgaaGreatDoorEt01
import Derived.Test.YtepbjkkakfpjgaaGreatDoorProg
import Derived.Lib.SmallJoins
import Derived.Deep.Strs
import Derived.Lib.TrimUEq
import Derived.Lib.MapLaws
import Derived.Shelf.Small.Bits
import Derived.Shelf.Bits.Mul64
import Derived.Shelf.Unicode.DecodeSlow
import Derived.Shelf.Unicode.DecodeAny
import Derived.Lib.OthersKept
import Derived.PinnedBridge
import Derived.Lib.LaidU8
import Derived.Lay
import Derived.Laws.OwnMore
import Derived.WalkSmall
import Derived.Deep.AppendLies
namespace Go.Proofs.YtepbjkkakfpjgaaGreatDoor.Mod
open Go.RowKit Go.ChangeShapes Go.WideShapes Go.ChangeAt Go.Joins Go.Deep Go.Proofs.YtepbjkkakfpjgaaGreatDoor.Instr
variable {H : Type} {enc : TypeId × Value → H} {W : World}
def Wok (T : TypeId) (d : DataW H) : Prop := ∀ q ∈ d.weights Tryz.prog T, q ≤ reachBytes
theorem exists_list {α : Type} {P : Nat → α → Prop} : ∀ n : Nat, (∀ i, i < n → ∃ a, P i a) → ∃ l : List α, l.length = n ∧ ∀ (i : Nat) (h : i < l.length), P i l[i]
 | 0, _ => ⟨[], rfl, fun i h => absurd h (Nat.not_lt_zero _)⟩
 | n + 1, h => by
  obtain ⟨l, hl, hp⟩ := exists_list n (fun i hi => h i (by omega))
  obtain ⟨a, ha⟩ := h n (by omega)
  refine ⟨l ++ [a], by simp [hl], fun i hi => ?_⟩
  by_cases hn : i < l.length
  ·rw [List.getElem_append_left hn]; exact hp i hn
  ·have : i = n := by simp at hi; omega
   subst this
   rw [List.getElem_append_right (by omega)]
   simpa [hl] using ha
theorem cells_get {w : World} {b o sz : Nat} {cs : List Value} (h : w.cells? 0 ⟨b, o, none⟩ sz = some cs) : cs.length = sz ∧ ∀ j v, cs[j]? = some v → w.cell? ⟨b, o + j, none⟩ = some v := by
 unfold World.cells? at h
 rw [if_pos (Nat.zero_le _)] at h
 have hl := mapM_some_length h
 refine ⟨by simpa using hl, fun j v hv => ?_⟩
 have hj : j < sz := by
  have := (List.getElem?_eq_some_iff.1 hv).1
  simp at hl; omega
 have := mapM_some_get h j j (by simp [hj])
 rw [plainAdd] at this
 rw [this, hv]
theorem cells_spot {w : World} {b o sz : Nat} {sp : Option Nat} {cs : List Value} (hs : 0 < sz) (h : w.cells? 0 ((⟨b, o, sp⟩ : Addr).add 0) sz = some cs) : sp = none := by
 unfold World.cells? at h
 rw [if_pos (Nat.zero_le _)] at h
 have hl := mapM_some_length h
 have hg := mapM_some_get h 0 0 (by simp [hs])
 have h0 : ∃ v, cs[0]? = some v := ⟨_, List.getElem?_eq_getElem (by simp at hl; omega)⟩
 obtain ⟨v, hv⟩ := h0
 rw [hv] at hg
 have hp := World.cell?_spot hg
 unfold Addr.add at hp
 (repeat' split at hp) <;> simp_all
theorem open_rows {α : Type} {T S : TypeId} {sz nb : Nat} (V : α → List Value) (Good : α → Prop) (hS : Tryz.prog.underlying S = some (.slice T)) (hc : Tryz.prog.cellsOf T = sz) (hs0 : 0 < sz) (hb : Tryz.prog.bytesOf T = nb) (hnb : 1 ≤ nb)
  (one : ∀ n cs x, DataW.trod enc Tryz.prog W 0 (fun _ => true) true n T cs = some x → Wok T x.1 → ∃ a : α, cs = V a ∧ Good a)
  {fuel : Nat} {cs : List Value} {x : DataW H × List MemPlace} (h : DataW.trod enc Tryz.prog W 0 (fun _ => true) true fuel S cs = some x) (hw : Wok S x.1) :
  ∃ (a : Option Addr) (c : Nat) (l : List α), cs = [.slice a l.length c] ∧ l.length ≤ c ∧ l.length ≤ 140737488351232 ∧ Rows W.heap.size W a sz (l.map V) ∧ ∀ y ∈ l, Good y := by
 rcases DataW.trod_slice hS h with ⟨rfl, _⟩ | ⟨a, len, cap, elems, rest, n, hfu, rfl, rfl, _, hlc, _, hlen, hel, _, _⟩
 ·exact ⟨none, 0, [], rfl, by simp, by simp, .inl rfl, by simp⟩
 have hbound : (elems.length + rest.length) * nb ≤ reachBytes := by
  have : (elems.length + rest.length) * Tryz.prog.bytesOf T ≤ reachBytes := hw _ (by simp [DataW.weights, hS])
  rw [hb] at this; exact this
 have hbig : len ≤ 140737488351232 := by
  simp only [reachBytes] at hbound
  have : elems.length * 1 ≤ (elems.length + rest.length) * nb := Nat.mul_le_mul (by omega) hnb
  omega
 have hwe : ∀ (i : Nat) (y : DataW H × List MemPlace), elems[i]? = some y → Wok T y.1 := by
  intro i y hy m hm
  refine hw m ?_
  have h1 : (elems.map (·.1))[i]? = some y.1 := by simp [hy]
  have := weights_all h1 m hm
  simp only [DataW.weights, hS, List.mem_cons, List.mem_append]
  exact .inr (.inl this)
 obtain ⟨b, o, sp⟩ := a
 have hspot : 0 < len → sp = none := by
  intro hi
  have h1 := hel 0 hi
  rw [hc, List.getElem?_eq_getElem (by omega), Nat.zero_mul] at h1
  obtain ⟨cs', hcs, _⟩ := Option.bind_eq_some_iff.1 h1
  exact cells_spot hs0 hcs
 have each : ∀ i, i < len → ∃ y : α, (∀ j v, (V y)[j]? = some v → W.cell? ⟨b, o + i * sz + j, none⟩ = some v) ∧ Good y ∧ sp = none := by
  intro i hi
  have h1 := hel i hi
  rw [hc, List.getElem?_eq_getElem (by omega)] at h1
  obtain ⟨cs', hcs, ht⟩ := Option.bind_eq_some_iff.1 h1
  have hsp := hspot (by omega)
  subst hsp
  rw [plainAdd] at hcs
  obtain ⟨y, rfl, hg⟩ := one n cs' _ ht (hwe i _ (List.getElem?_eq_getElem (by omega)))
  exact ⟨y, (cells_get hcs).2, hg, rfl⟩
 obtain ⟨l, hl, hp⟩ := exists_list len each
 refine ⟨some ⟨b, o, sp⟩, cap, l, by rw [hl], by omega, by omega, ?_, fun y hy => ?_⟩
 ·by_cases h0 : len = 0
  ·left
   have : l = [] := List.eq_nil_of_length_eq_zero (by omega)
   rw [this]; rfl
  ·obtain ⟨hc0, _, rfl⟩ := hp 0 (by omega)
   obtain ⟨cs', hcs, _⟩ := Option.bind_eq_some_iff.1 (show _ = some (elems[0]'(by omega)) by rw [hel 0 (by omega)]; exact List.getElem?_eq_getElem _)
   rw [hc, plainAdd] at hcs
   obtain ⟨hl0, hg0⟩ := cells_get hcs
   have hv0 : ∃ v, cs'[0]? = some v := ⟨_, List.getElem?_eq_getElem (by omega)⟩
   obtain ⟨v0, hv0⟩ := hv0
   refine .inr ⟨b, o, rfl, World.block_lt_of_cell? W _ (hg0 0 v0 hv0), fun i hi j _ v hv => ?_⟩
   simp only [List.length_map] at hi
   refine (hp i hi).1 j v ?_
   rw [List.getD_eq_getElem?_getD, List.getElem?_map, List.getElem?_eq_getElem hi] at hv
   exact hv
 ·obtain ⟨i, hi, rfl⟩ := List.mem_iff_getElem.1 hy
  exact (hp i hi).2.1
set_option maxRecDepth 100000 in
theorem rd2 {T : TypeId} {f0 f1 : Field} {n : Nat} {cs : List Value} {x : DataW H × List MemPlace} (hs : Tryz.prog.underlying T = some (.struct #[f0, f1])) (hone : oneCellFields Tryz.prog #[f0, f1] = true) (hC : Tryz.prog.cellsOf T = 2)
  (h : DataW.trod enc Tryz.prog W 0 (fun _ => true) true n T cs = some x) (hw : Wok T x.1) : ∃ v0 v1 y0 y1 m, cs = [v0, v1] ∧ DataW.trod enc Tryz.prog W 0 (fun _ => true) true m f0.type [v0] = some y0 ∧ DataW.trod enc Tryz.prog W 0 (fun _ => true) true m f1.type [v1] = some y1 ∧ Wok f0.type y0.1 ∧ Wok f1.type y1.1 := by
 obtain ⟨y0, y1, m, rfl, hl, h0, h1⟩ := trod_struct2 hs h
 obtain ⟨o0, k0⟩ := hone_of hone 0 f0 rfl
 obtain ⟨o1, k1⟩ := hone_of hone 1 f1 rfl
 rw [hC] at hl
 match cs, hl with
 | [v0, v1], _ =>
  refine ⟨v0, v1, y0, y1, m, rfl, by simpa [o0, k0] using h0, by simpa [o1, k1] using h1, fun q hq => hw q ?_, fun q hq => hw q ?_⟩
  ·simp only [DataW.weights, hs]; exact DataW.weights_mem_each (j := 0) rfl rfl q hq
  ·simp only [DataW.weights, hs]; exact DataW.weights_mem_each (j := 1) rfl rfl q hq
set_option maxRecDepth 100000 in
theorem rd3 {T : TypeId} {f0 f1 f2 : Field} {n : Nat} {cs : List Value} {x : DataW H × List MemPlace} (hs : Tryz.prog.underlying T = some (.struct #[f0, f1, f2])) (hone : oneCellFields Tryz.prog #[f0, f1, f2] = true) (hC : Tryz.prog.cellsOf T = 3)
  (h : DataW.trod enc Tryz.prog W 0 (fun _ => true) true n T cs = some x) (hw : Wok T x.1) : ∃ v0 v1 v2 y0 y1 y2 m, cs = [v0, v1, v2] ∧ DataW.trod enc Tryz.prog W 0 (fun _ => true) true m f0.type [v0] = some y0 ∧ DataW.trod enc Tryz.prog W 0 (fun _ => true) true m f1.type [v1] = some y1 ∧
   DataW.trod enc Tryz.prog W 0 (fun _ => true) true m f2.type [v2] = some y2 ∧ Wok f0.type y0.1 ∧ Wok f1.type y1.1 ∧ Wok f2.type y2.1 := by
 obtain ⟨y0, y1, y2, m, rfl, hl, h0, h1, h2⟩ := trod_struct3 hs h
 obtain ⟨o0, k0⟩ := hone_of hone 0 f0 rfl
 obtain ⟨o1, k1⟩ := hone_of hone 1 f1 rfl
 obtain ⟨o2, k2⟩ := hone_of hone 2 f2 rfl
 rw [hC] at hl
 match cs, hl with
 | [v0, v1, v2], _ =>
  refine ⟨v0, v1, v2, y0, y1, y2, m, rfl, by simpa [o0, k0] using h0, by simpa [o1, k1] using h1, by simpa [o2, k2] using h2, fun q hq => hw q ?_, fun q hq => hw q ?_, fun q hq => hw q ?_⟩
  ·simp only [DataW.weights, hs]; exact DataW.weights_mem_each (j := 0) rfl rfl q hq
  ·simp only [DataW.weights, hs]; exact DataW.weights_mem_each (j := 1) rfl rfl q hq
  ·simp only [DataW.weights, hs]; exact DataW.weights_mem_each (j := 2) rfl rfl q hq
theorem rd_lst {n : Nat} {v : Value} {x : DataW H × List MemPlace} (h : DataW.trod enc Tryz.prog W 0 (fun _ => true) true n 45 [v] = some x) (hw : Wok 45 x.1) : ∃ l : Lst, v = l.val ∧ ListAt W.heap.size W l.a l.t.len l.t ∧ l.t.len ≤ 140737488351232 := by
 obtain ⟨a, len, c, t, e, _, h2, h3⟩ := open_il n _ _ h hw
 simp only [List.cons.injEq, and_true] at e
 subst e
 have hl := h3.1
 subst hl
 exact ⟨⟨a, c, t⟩, rfl, h3, h2⟩
theorem rd_str {n : Nat} {v : Value} {x : DataW H × List MemPlace} (h : DataW.trod enc Tryz.prog W 0 (fun _ => true) true n 9 [v] = some x) (hw : Wok 9 x.1) : ∃ s : ByteArray, v = .string s ∧ s.size ≤ 140737488351232 := by
 obtain ⟨s, e, rfl, _⟩ := DataW.trod_string Tryz.underlying9 h
 simp only [List.cons.injEq, and_true] at e
 refine ⟨s, e, ?_⟩
 have := hw s.size (by simp [DataW.weights])
 simpa [reachBytes] using this
theorem one_ty {n : Nat} {cs : List Value} {x : DataW H × List MemPlace} (h : DataW.trod enc Tryz.prog W 0 (fun _ => true) true n 50 cs = some x) (hw : Wok 50 x.1) : ∃ a : Int × Int, cs = tyV a ∧ True := by
 obtain ⟨v0, v1, y0, y1, m, rfl, h0, h1, _, _⟩ := rd2 Tryz.underlying50 (by kernel_rfl) (by kernel_rfl) h hw
 obtain ⟨n0, e0, -, _⟩ := DataW.trod_int Tryz.underlying3 h0
 obtain ⟨n1, e1, -, _⟩ := DataW.trod_int Tryz.underlying3 h1
 simp only [List.cons.injEq, and_true] at e0 e1
 subst e0 e1
 exact ⟨(n0, n1), rfl, trivial⟩
theorem one_im {n : Nat} {cs : List Value} {x : DataW H × List MemPlace} (h : DataW.trod enc Tryz.prog W 0 (fun _ => true) true n 73 cs = some x) (hw : Wok 73 x.1) : ∃ a : Imp, cs = a.v ∧ a.mo.size ≤ 140737488351232 ∧ a.na.size ≤ 140737488351232 := by
 obtain ⟨v0, v1, v2, y0, y1, y2, m, rfl, h0, h1, h2, w0, w1, _⟩ := rd3 Tryz.underlying73 (by kernel_rfl) (by kernel_rfl) h hw
 obtain ⟨s0, rfl, b0⟩ := rd_str h0 w0
 obtain ⟨s1, rfl, b1⟩ := rd_str h1 w1
 obtain ⟨n2, e2, -, _⟩ := DataW.trod_int Tryz.underlying3 h2
 simp only [List.cons.injEq, and_true] at e2
 subst e2
 exact ⟨⟨s0, s1, n2⟩, rfl, b0, b1⟩
theorem one_li {n : Nat} {cs : List Value} {x : DataW H × List MemPlace} (h : DataW.trod enc Tryz.prog W 0 (fun _ => true) true n 60 cs = some x) (hw : Wok 60 x.1) : ∃ a : Li, cs = a.v ∧ 0 ≤ a.n := by
 obtain ⟨v0, v1, v2, y0, y1, y2, m, rfl, h0, h1, h2, _, _, _⟩ := rd3 Tryz.underlying60 (by kernel_rfl) (by kernel_rfl) h hw
 obtain ⟨n0, e0, -, wf0⟩ := DataW.trod_int Tryz.underlying28 h0
 obtain ⟨n1, e1, -, _⟩ := DataW.trod_int Tryz.underlying28 h1
 obtain ⟨n2, e2, -⟩ := DataW.trod_bool Tryz.underlying4 h2
 simp only [List.cons.injEq, and_true] at e0 e1 e2
 subst e0 e1 e2
 exact ⟨⟨n0, n1, n2⟩, rfl, (bounds_u32 wf0).1⟩
theorem one_ex {n : Nat} {cs : List Value} {x : DataW H × List MemPlace} (h : DataW.trod enc Tryz.prog W 0 (fun _ => true) true n 75 cs = some x) (hw : Wok 75 x.1) : ∃ a : Ex, cs = a.v ∧ a.na.size ≤ 140737488351232 ∧ 0 ≤ a.i ∧ a.i < 4294967296 := by
 obtain ⟨v0, v1, v2, y0, y1, y2, m, rfl, h0, h1, h2, w0, _, _⟩ := rd3 Tryz.underlying75 (by kernel_rfl) (by kernel_rfl) h hw
 obtain ⟨s0, rfl, b0⟩ := rd_str h0 w0
 obtain ⟨n1, e1, -, _⟩ := DataW.trod_int Tryz.underlying3 h1
 obtain ⟨n2, e2, -, wf2⟩ := DataW.trod_int Tryz.underlying28 h2
 simp only [List.cons.injEq, and_true] at e1 e2
 subst e1 e2
 have hb := bounds_u32 wf2
 exact ⟨⟨s0, n1, n2⟩, rfl, b0, hb.1, by have := hb.2; show n2 < _; omega⟩
def LGood (W : World) (l : Lst) : Prop := ListAt W.heap.size W l.a l.t.len l.t ∧ l.t.len ≤ 140737488351232
theorem one_gl {n : Nat} {cs : List Value} {x : DataW H × List MemPlace} (h : DataW.trod enc Tryz.prog W 0 (fun _ => true) true n 68 cs = some x) (hw : Wok 68 x.1) : ∃ a : Gl, cs = a.v ∧ LGood W a.l := by
 obtain ⟨v0, v1, y0, y1, m, rfl, h0, h1, _, w1⟩ := rd2 Tryz.underlying68 (by kernel_rfl) (by kernel_rfl) h hw
 obtain ⟨n0, e0, -⟩ := DataW.trod_bool Tryz.underlying4 h0
 obtain ⟨l, rfl, hl⟩ := rd_lst h1 w1
 simp only [List.cons.injEq, and_true] at e0
 subst e0
 exact ⟨⟨n0, l⟩, rfl, hl⟩
theorem open_u32s {n : Nat} {v : Value} {x : DataW H × List MemPlace} (h : DataW.trod enc Tryz.prog W 0 (fun _ => true) true n 69 [v] = some x) (hw : Wok 69 x.1) : ∃ a c zs, v = .slice a zs.length c ∧ TagsAt W.heap.size W a zs ∧ zs.length ≤ 140737488351232 ∧ ∀ z ∈ zs, 0 ≤ z ∧ z < 4294967296 := by
 obtain ⟨a, c, zs, e1, _, hz, hr, hg⟩ := open_rows (sz := 1) (nb := 4) (α := { z : Int // 0 ≤ z ∧ z < 4294967296 }) (fun z => [.int .u32 z.1]) (fun _ => True) Tryz.underlying69 (by kernel_rfl) (by omega) (by kernel_rfl : Tryz.prog.bytesOf 28 = 4) (by omega)
  (fun n cs x h _ => by
    obtain ⟨z, e, -, wf⟩ := DataW.trod_int Tryz.underlying28 h
    have := bounds_u32 wf
    exact ⟨⟨z, by omega, by omega⟩, e, trivial⟩) h hw
 simp only [List.cons.injEq, and_true] at e1
 subst e1
 refine ⟨a, c, zs.map (·.1), by simp, ?_, by simpa using hz, fun z hm => ?_⟩
 ·rcases hr with h | ⟨b, off, ha, hb, hcell⟩
  ·left
   rw [List.map_eq_nil_iff] at h
   subst h; rfl
  ·refine .inr ⟨b, off, ha, hb, fun i hi => ?_⟩
   have hi' : i < zs.length := by simpa using hi
   have := hcell i (by simpa using hi') 0 (by omega) (.int .u32 zs[i].1) (by simp [hi'])
   rw [Nat.mul_one, Nat.add_zero] at this
   rw [this]
   simp [hi']
 ·obtain ⟨y, _, rfl⟩ := List.mem_map.1 hm
  exact y.2
theorem one_el {n : Nat} {cs : List Value} {x : DataW H × List MemPlace} (h : DataW.trod enc Tryz.prog W 0 (fun _ => true) true n 71 cs = some x) (hw : Wok 71 x.1) : ∃ a : El, cs = a.v ∧ LGood W a.l ∧ TagsAt W.heap.size W a.fa a.fs ∧ a.fs.length ≤ 140737488351232 ∧ ∀ z ∈ a.fs, 0 ≤ z ∧ z < 4294967296 := by
 obtain ⟨v0, v1, y0, y1, m, rfl, h0, h1, w0, w1⟩ := rd2 Tryz.underlying71 (by kernel_rfl) (by kernel_rfl) h hw
 obtain ⟨l, rfl, hl⟩ := rd_lst h0 w0
 obtain ⟨a, c, zs, rfl, ht, hz, hr⟩ := open_u32s h1 w1
 exact ⟨⟨l, a, c, zs⟩, rfl, hl, ht, hz, hr⟩
theorem one_da {n : Nat} {cs : List Value} {x : DataW H × List MemPlace} (h : DataW.trod enc Tryz.prog W 0 (fun _ => true) true n 47 cs = some x) (hw : Wok 47 x.1) : ∃ a : Da, cs = a.v ∧ LGood W a.l ∧ BytesAt W.heap.size W a.ba a.bs ∧ a.bs.length ≤ 140737488351232 ∧ ∀ z ∈ a.bs, 0 ≤ z ∧ z < 256 := by
 obtain ⟨v0, v1, y0, y1, m, rfl, h0, h1, w0, w1⟩ := rd2 Tryz.underlying47 (by kernel_rfl) (by kernel_rfl) h hw
 obtain ⟨l, rfl, hl⟩ := rd_lst h0 w0
 obtain ⟨a, c, zs, e1, _, hz, hr, hg⟩ := open_rows (sz := 1) (nb := 1) (α := { z : Int // 0 ≤ z ∧ z < 256 }) (fun z => [.int .u8 z.1]) (fun _ => True) Tryz.underlying35 (by kernel_rfl) (by omega) (by kernel_rfl : Tryz.prog.bytesOf 5 = 1) (by omega)
  (fun n cs x h _ => by
    obtain ⟨z, e, -, wf⟩ := DataW.trod_int Tryz.underlying5 h
    have := bounds_u8 wf
    exact ⟨⟨z, by omega, by omega⟩, e, trivial⟩) h1 w1
 simp only [List.cons.injEq, and_true] at e1
 subst e1
 refine ⟨⟨l, a, c, zs.map (·.1)⟩, by simp [Da.v], hl, ?_, by simpa using hz, fun z hm => ?_⟩
 ·rcases hr with h | ⟨b, off, ha, hb, hcell⟩
  ·left
   rw [List.map_eq_nil_iff] at h
   subst h; rfl
  ·refine .inr ⟨b, off, ha, hb, fun i hi => ?_⟩
   have hi' : i < zs.length := by simpa using hi
   have := hcell i (by simpa using hi') 0 (by omega) (.int .u8 zs[i].1) (by simp [hi'])
   rw [Nat.mul_one, Nat.add_zero] at this
   rw [this]
   simp [hi']
 ·obtain ⟨y, _, rfl⟩ := List.mem_map.1 hm
  exact y.2
set_option maxRecDepth 100000 in
theorem one_fu {n : Nat} {cs : List Value} {x : DataW H × List MemPlace} (h : DataW.trod enc Tryz.prog W 0 (fun _ => true) true n 66 cs = some x) (hw : Wok 66 x.1) : ∃ a : Fn, cs = a.v ∧ LGood W a.l := by
 obtain ⟨y0, y1, m, rfl, hl, h0, h1⟩ := trod_struct2 Tryz.underlying66 h
 have w1 : Wok 64 y1.1 := fun q hq => hw q (by simp only [DataW.weights, Tryz.underlying66]; exact DataW.weights_mem_each (j := 1) rfl rfl q hq)
 rw [show Tryz.prog.cellsOf 66 = 3 by kernel_rfl] at hl
 match cs, hl with
 | [v0, v1, v2], _ =>
  have h0' : DataW.trod enc Tryz.prog W 0 (fun _ => true) true m 3 [v0] = some y0 := by
   have := h0
   dsimp only at this
   rw [show Tryz.prog.cellsOf 3 = 1 by kernel_rfl] at this
   exact this
  have h1' : DataW.trod enc Tryz.prog W 0 (fun _ => true) true m 64 [v1, v2] = some y1 := by
   have := h1
   dsimp only at this
   rw [show Tryz.prog.cellsOf 64 = 2 by kernel_rfl] at this
   exact this
  obtain ⟨u0, u1, z0, z1, m', e, k0, k1, _, w2⟩ := rd2 Tryz.underlying64 (by kernel_rfl) (by kernel_rfl) h1' w1
  simp only [List.cons.injEq, and_true] at e
  obtain ⟨rfl, rfl⟩ := e
  obtain ⟨n0, e0, -, _⟩ := DataW.trod_int Tryz.underlying3 h0'
  obtain ⟨n1, e1, -, _⟩ := DataW.trod_int Tryz.underlying3 k0
  obtain ⟨l, rfl, hg⟩ := rd_lst k1 w2
  simp only [List.cons.injEq, and_true] at e0 e1
  subst e0 e1
  exact ⟨⟨n0, n1, l⟩, rfl, hg⟩
end Go.Proofs.YtepbjkkakfpjgaaGreatDoor.Mod
namespace Go.Proofs.YtepbjkkakfpjgaaGreatDoor.Mod
open Go.RowKit Go.ChangeShapes Go.WideShapes Go.ChangeAt Go.Joins Go.Deep Go.Proofs.YtepbjkkakfpjgaaGreatDoor.Instr
variable {H : Type} {enc : TypeId × Value → H} {W : World}
theorem honeM : oneCellFields Tryz.prog (Tryz.prog.fieldsOf 32) = true := by kernel_rfl
structure Md.ranged (m : Md) : Prop where
 n0 : ∀ l ∈ m.tb ++ m.me, 0 ≤ l.n
 ei : ∀ e ∈ m.ex, 0 ≤ e.i ∧ e.i < 4294967296
 ef : ∀ e ∈ m.el, ∀ z ∈ e.fs, 0 ≤ z ∧ z < 4294967296
 db : ∀ d ∈ m.da, ∀ z ∈ d.bs, 0 ≤ z ∧ z < 256
 sn : 0 ≤ m.sn ∧ m.sn < 4294967296
set_option maxRecDepth 100000 in
set_option maxHeartbeats 2000000 in
theorem open_moduleR {ts : List TypeId} {ds : List (DataW H)} {base : Nat} {v : Value} {d : DataW H} {p : List MemPlace}
  (hsz : (DataW.weightsEach Tryz.prog ts ds).all (· ≤ reachBytes) = true) (j : Nat) (ht : ts[j]? = some 32) (hd : ds[j]? = some d)
  (hv : Value.okWide Tryz.prog W .any base 32 v) (h : DataW.Trod enc Tryz.prog W 0 (fun _ => true) true 32 v d p) :
  ∃ m : Md, v = .agg m.v ∧ ModAt W.heap.size W m ∧ m.fits ∧ m.caps ∧ m.ranged := by
 obtain ⟨cs, rfl, hcs⟩ := okWide_struct Tryz.underlying32 hv
 rw [show Tryz.prog.cellsOf 32 = 11 by kernel_rfl] at hcs
 obtain ⟨fuel, hf⟩ := h
 obtain ⟨xs, n, _, hx, _, hlen, hff⟩ := DataW.trod_struct Tryz.underlying32 hf
 have hone := hone_of (show oneCellFields Tryz.prog _ = true from honeM)
 obtain ⟨l⟩ := cs
 have hl : l.length = 11 := by simpa using hcs
 have hwd : Wok 32 d := fun q hq => by
  have := List.all_eq_true.1 hsz _ (DataW.weights_mem_each ht hd q hq)
  simpa using this
 simp only [Prod.mk.injEq] at hx
 obtain ⟨rfl, _⟩ := hx
 match l, hl, xs, hlen with
 | [v0, v1, v2, v3, v4, v5, v6, v7, v8, v9, v10], _, [y0, y1, y2, y3, y4, y5, y6, y7, y8, y9, y10], _ =>
  have w0 : Wok 22 y0.1 := fun q hq => hwd q (by simp only [DataW.weights, Tryz.underlying32]; exact DataW.weights_mem_each (j := 0) rfl rfl q hq)
  have f0 : DataW.trod enc Tryz.prog W 0 (fun _ => true) true n 22 [v0] = some y0 := by
   have h : DataW.trod enc Tryz.prog W 0 (fun _ => true) true n 22 (((Value.agg #[v0, v1, v2, v3, v4, v5, v6, v7, v8, v9, v10]).cells.toList.drop 0).take (Tryz.prog.cellsOf 22)) = [y0, y1, y2, y3, y4, y5, y6, y7, y8, y9, y10][0]? := hff 0 _ rfl
   rw [show Tryz.prog.cellsOf 22 = 1 by kernel_rfl] at h
   exact h
  have w1 : Wok 23 y1.1 := fun q hq => hwd q (by simp only [DataW.weights, Tryz.underlying32]; exact DataW.weights_mem_each (j := 1) rfl rfl q hq)
  have f1 : DataW.trod enc Tryz.prog W 0 (fun _ => true) true n 23 [v1] = some y1 := by
   have h : DataW.trod enc Tryz.prog W 0 (fun _ => true) true n 23 (((Value.agg #[v0, v1, v2, v3, v4, v5, v6, v7, v8, v9, v10]).cells.toList.drop 1).take (Tryz.prog.cellsOf 23)) = [y0, y1, y2, y3, y4, y5, y6, y7, y8, y9, y10][1]? := hff 1 _ rfl
   rw [show Tryz.prog.cellsOf 23 = 1 by kernel_rfl] at h
   exact h
  have w2 : Wok 24 y2.1 := fun q hq => hwd q (by simp only [DataW.weights, Tryz.underlying32]; exact DataW.weights_mem_each (j := 2) rfl rfl q hq)
  have f2 : DataW.trod enc Tryz.prog W 0 (fun _ => true) true n 24 [v2] = some y2 := by
   have h : DataW.trod enc Tryz.prog W 0 (fun _ => true) true n 24 (((Value.agg #[v0, v1, v2, v3, v4, v5, v6, v7, v8, v9, v10]).cells.toList.drop 2).take (Tryz.prog.cellsOf 24)) = [y0, y1, y2, y3, y4, y5, y6, y7, y8, y9, y10][2]? := hff 2 _ rfl
   rw [show Tryz.prog.cellsOf 24 = 1 by kernel_rfl] at h
   exact h
  have w3 : Wok 25 y3.1 := fun q hq => hwd q (by simp only [DataW.weights, Tryz.underlying32]; exact DataW.weights_mem_each (j := 3) rfl rfl q hq)
  have f3 : DataW.trod enc Tryz.prog W 0 (fun _ => true) true n 25 [v3] = some y3 := by
   have h : DataW.trod enc Tryz.prog W 0 (fun _ => true) true n 25 (((Value.agg #[v0, v1, v2, v3, v4, v5, v6, v7, v8, v9, v10]).cells.toList.drop 3).take (Tryz.prog.cellsOf 25)) = [y0, y1, y2, y3, y4, y5, y6, y7, y8, y9, y10][3]? := hff 3 _ rfl
   rw [show Tryz.prog.cellsOf 25 = 1 by kernel_rfl] at h
   exact h
  have w4 : Wok 25 y4.1 := fun q hq => hwd q (by simp only [DataW.weights, Tryz.underlying32]; exact DataW.weights_mem_each (j := 4) rfl rfl q hq)
  have f4 : DataW.trod enc Tryz.prog W 0 (fun _ => true) true n 25 [v4] = some y4 := by
   have h : DataW.trod enc Tryz.prog W 0 (fun _ => true) true n 25 (((Value.agg #[v0, v1, v2, v3, v4, v5, v6, v7, v8, v9, v10]).cells.toList.drop 4).take (Tryz.prog.cellsOf 25)) = [y0, y1, y2, y3, y4, y5, y6, y7, y8, y9, y10][4]? := hff 4 _ rfl
   rw [show Tryz.prog.cellsOf 25 = 1 by kernel_rfl] at h
   exact h
  have w5 : Wok 26 y5.1 := fun q hq => hwd q (by simp only [DataW.weights, Tryz.underlying32]; exact DataW.weights_mem_each (j := 5) rfl rfl q hq)
  have f5 : DataW.trod enc Tryz.prog W 0 (fun _ => true) true n 26 [v5] = some y5 := by
   have h : DataW.trod enc Tryz.prog W 0 (fun _ => true) true n 26 (((Value.agg #[v0, v1, v2, v3, v4, v5, v6, v7, v8, v9, v10]).cells.toList.drop 5).take (Tryz.prog.cellsOf 26)) = [y0, y1, y2, y3, y4, y5, y6, y7, y8, y9, y10][5]? := hff 5 _ rfl
   rw [show Tryz.prog.cellsOf 26 = 1 by kernel_rfl] at h
   exact h
  have w6 : Wok 27 y6.1 := fun q hq => hwd q (by simp only [DataW.weights, Tryz.underlying32]; exact DataW.weights_mem_each (j := 6) rfl rfl q hq)
  have f6 : DataW.trod enc Tryz.prog W 0 (fun _ => true) true n 27 [v6] = some y6 := by
   have h : DataW.trod enc Tryz.prog W 0 (fun _ => true) true n 27 (((Value.agg #[v0, v1, v2, v3, v4, v5, v6, v7, v8, v9, v10]).cells.toList.drop 6).take (Tryz.prog.cellsOf 27)) = [y0, y1, y2, y3, y4, y5, y6, y7, y8, y9, y10][6]? := hff 6 _ rfl
   rw [show Tryz.prog.cellsOf 27 = 1 by kernel_rfl] at h
   exact h
  have w7 : Wok 4 y7.1 := fun q hq => hwd q (by simp only [DataW.weights, Tryz.underlying32]; exact DataW.weights_mem_each (j := 7) rfl rfl q hq)
  have f7 : DataW.trod enc Tryz.prog W 0 (fun _ => true) true n 4 [v7] = some y7 := by
   have h : DataW.trod enc Tryz.prog W 0 (fun _ => true) true n 4 (((Value.agg #[v0, v1, v2, v3, v4, v5, v6, v7, v8, v9, v10]).cells.toList.drop 7).take (Tryz.prog.cellsOf 4)) = [y0, y1, y2, y3, y4, y5, y6, y7, y8, y9, y10][7]? := hff 7 _ rfl
   rw [show Tryz.prog.cellsOf 4 = 1 by kernel_rfl] at h
   exact h
  have w8 : Wok 28 y8.1 := fun q hq => hwd q (by simp only [DataW.weights, Tryz.underlying32]; exact DataW.weights_mem_each (j := 8) rfl rfl q hq)
  have f8 : DataW.trod enc Tryz.prog W 0 (fun _ => true) true n 28 [v8] = some y8 := by
   have h : DataW.trod enc Tryz.prog W 0 (fun _ => true) true n 28 (((Value.agg #[v0, v1, v2, v3, v4, v5, v6, v7, v8, v9, v10]).cells.toList.drop 8).take (Tryz.prog.cellsOf 28)) = [y0, y1, y2, y3, y4, y5, y6, y7, y8, y9, y10][8]? := hff 8 _ rfl
   rw [show Tryz.prog.cellsOf 28 = 1 by kernel_rfl] at h
   exact h
  have w9 : Wok 29 y9.1 := fun q hq => hwd q (by simp only [DataW.weights, Tryz.underlying32]; exact DataW.weights_mem_each (j := 9) rfl rfl q hq)
  have f9 : DataW.trod enc Tryz.prog W 0 (fun _ => true) true n 29 [v9] = some y9 := by
   have h : DataW.trod enc Tryz.prog W 0 (fun _ => true) true n 29 (((Value.agg #[v0, v1, v2, v3, v4, v5, v6, v7, v8, v9, v10]).cells.toList.drop 9).take (Tryz.prog.cellsOf 29)) = [y0, y1, y2, y3, y4, y5, y6, y7, y8, y9, y10][9]? := hff 9 _ rfl
   rw [show Tryz.prog.cellsOf 29 = 1 by kernel_rfl] at h
   exact h
  have w10 : Wok 30 y10.1 := fun q hq => hwd q (by simp only [DataW.weights, Tryz.underlying32]; exact DataW.weights_mem_each (j := 10) rfl rfl q hq)
  have f10 : DataW.trod enc Tryz.prog W 0 (fun _ => true) true n 30 [v10] = some y10 := by
   have h : DataW.trod enc Tryz.prog W 0 (fun _ => true) true n 30 (((Value.agg #[v0, v1, v2, v3, v4, v5, v6, v7, v8, v9, v10]).cells.toList.drop 10).take (Tryz.prog.cellsOf 30)) = [y0, y1, y2, y3, y4, y5, y6, y7, y8, y9, y10][10]? := hff 10 _ rfl
   rw [show Tryz.prog.cellsOf 30 = 1 by kernel_rfl] at h
   exact h
  obtain ⟨a0, c0, l0, e0, k0, b0, r0, g0⟩ := open_rows (sz := 2) tyV _ Tryz.underlying22 (by kernel_rfl) (by omega) rfl (of_decide_eq_true (by kernel_rfl)) (fun _ _ _ h hw => one_ty h hw) f0 w0
  obtain ⟨a1, c1, l1, e1, k1, b1, r1, g1⟩ := open_rows (sz := 3) Imp.v _ Tryz.underlying23 (by kernel_rfl) (by omega) rfl (of_decide_eq_true (by kernel_rfl)) (fun _ _ _ h hw => one_im h hw) f1 w1
  obtain ⟨a2, c2, l2, e2, k2, b2, r2, g2⟩ := open_rows (sz := 3) Fn.v _ Tryz.underlying24 (by kernel_rfl) (by omega) rfl (of_decide_eq_true (by kernel_rfl)) (fun _ _ _ h hw => one_fu h hw) f2 w2
  obtain ⟨a3, c3, l3, e3, k3, b3, r3, g3⟩ := open_rows (sz := 3) Li.v _ Tryz.underlying25 (by kernel_rfl) (by omega) rfl (of_decide_eq_true (by kernel_rfl)) (fun _ _ _ h hw => one_li h hw) f3 w3
  obtain ⟨a4, c4, l4, e4, k4, b4, r4, g4⟩ := open_rows (sz := 3) Li.v _ Tryz.underlying25 (by kernel_rfl) (by omega) rfl (of_decide_eq_true (by kernel_rfl)) (fun _ _ _ h hw => one_li h hw) f4 w4
  obtain ⟨a5, c5, l5, e5, k5, b5, r5, g5⟩ := open_rows (sz := 2) Gl.v _ Tryz.underlying26 (by kernel_rfl) (by omega) rfl (of_decide_eq_true (by kernel_rfl)) (fun _ _ _ h hw => one_gl h hw) f5 w5
  obtain ⟨a6, c6, l6, e6, k6, b6, r6, g6⟩ := open_rows (sz := 3) Ex.v _ Tryz.underlying27 (by kernel_rfl) (by omega) rfl (of_decide_eq_true (by kernel_rfl)) (fun _ _ _ h hw => one_ex h hw) f6 w6
  obtain ⟨z7, e7, -⟩ := DataW.trod_bool Tryz.underlying4 f7
  obtain ⟨z8, e8, -, wf8⟩ := DataW.trod_int Tryz.underlying28 f8
  obtain ⟨a9, c9, l9, e9, k9, b9, r9, g9⟩ := open_rows (sz := 2) El.v _ Tryz.underlying29 (by kernel_rfl) (by omega) rfl (of_decide_eq_true (by kernel_rfl)) (fun _ _ _ h hw => one_el h hw) f9 w9
  obtain ⟨a10, c10, l10, e10, k10, b10, r10, g10⟩ := open_rows (sz := 2) Da.v _ Tryz.underlying30 (by kernel_rfl) (by omega) rfl (of_decide_eq_true (by kernel_rfl)) (fun _ _ _ h hw => one_da h hw) f10 w10
  simp only [List.cons.injEq, and_true] at e0 e1 e2 e3 e4 e5 e6 e7 e8 e9 e10
  subst e0 e1 e2 e3 e4 e5 e6 e7 e8 e9 e10
  have hcodes : ∀ l ∈ (⟨l0, l1, l2, l3, l4, l5, l6, z7, z8, l9, l10, ⟨a0, c0⟩, ⟨a1, c1⟩, ⟨a2, c2⟩, ⟨a3, c3⟩, ⟨a4, c4⟩, ⟨a5, c5⟩, ⟨a6, c6⟩, ⟨a9, c9⟩, ⟨a10, c10⟩⟩ : Md).codes, LGood W l := by
   intro l hl
   unfold Md.codes at hl
   simp only [List.mem_append, List.mem_map] at hl
   rcases hl with ⟨x, hx, rfl⟩ | ⟨x, hx, rfl⟩ | ⟨x, hx, rfl⟩ | ⟨x, hx, rfl⟩
   ·exact g2 x hx
   ·exact g5 x hx
   ·exact (g9 x hx).1
   ·exact (g10 x hx).1
  refine ⟨⟨l0, l1, l2, l3, l4, l5, l6, z7, z8, l9, l10, ⟨a0, c0⟩, ⟨a1, c1⟩, ⟨a2, c2⟩, ⟨a3, c3⟩, ⟨a4, c4⟩, ⟨a5, c5⟩, ⟨a6, c6⟩, ⟨a9, c9⟩, ⟨a10, c10⟩⟩, rfl,
    ⟨r0, r1, r2, r3, r4, r5, r6, r9, r10, fun l hl => (hcodes l hl).1, fun e he => (g9 e he).2.1, fun e he => (g10 e he).2.1⟩,
    ⟨b0, b1, b2, b3, b4, b5, b6, b9, b10, fun l hl => (hcodes l hl).2, fun e he => (g9 e he).2.2.1, fun e he => (g10 e he).2.2.1, fun e he => g1 e he, fun e he => (g6 e he).1⟩, ⟨k0, k1, k2, k5, k6, k9, k10⟩,
    ⟨fun l hl => (List.mem_append.1 hl).elim (fun h => g3 l h) (fun h => g4 l h), fun e he => (g6 e he).2, fun e he => (g9 e he).2.2.2, fun d hd => (g10 d hd).2.2.2, (bounds_u32 wf8).1, by have := (bounds_u32 wf8).2; show z8 < _; omega⟩⟩
end Go.Proofs.YtepbjkkakfpjgaaGreatDoor.Mod
namespace Go.Proofs.YtepbjkkakfpjgaaGreatDoor.Utf
open Go.Lib (decodeN decodeN_shape decode_N)
theorem decodeN_some {l : List Int} (hb : ∀ z ∈ l, 0 ≤ z ∧ z < 256) {n : Int} {k : Nat} (h : atL l = some (n, k)) :
  decodeN l.length (l.getD 0 0).toNat (l.getD 1 0).toNat (l.getD 2 0).toNat (l.getD 3 0).toNat = (n.toNat, k) := by
 obtain ⟨⟨r0, r1, r2⟩, ht, hk, _, _, hkl⟩ := atL_some h
 have hl : l = oneL n ++ l.drop k := by rw [← ht, List.take_append_drop]
 generalize l.drop k = r at hl
 subst hl
 subst hk
 clear ht hkl h
 obtain ⟨m, rfl⟩ := Int.eq_ofNat_of_zero_le r0
 unfold oneL
 by_cases a : (m : Int) < 128
 ·rw [if_pos a]
  have c0 : m < 128 := by omega
  simp [decodeN, c0]
 by_cases b : (m : Int) < 2048
 ·rw [if_neg a, if_pos b]
  have e0 : (192 + (m : Int) / 64).toNat = 192 + m / 64 := by omega
  have e1 : (128 + (m : Int) % 64).toNat = 128 + m % 64 := by omega
  simp only [List.cons_append, List.nil_append, List.length_cons, List.getD_cons_zero, List.getD_cons_succ, e0, e1, Int.toNat_natCast]
  unfold decodeN
  rw [if_neg (by omega), if_pos (by omega), if_pos (by omega)]
  simp only [Prod.mk.injEq, List.length_nil]
  exact ⟨by omega, trivial⟩
 by_cases d : (m : Int) < 65536
 ·rw [if_neg a, if_neg b, if_pos d]
  have e0 : (224 + (m : Int) / 4096).toNat = 224 + m / 4096 := by omega
  have e1 : (128 + (m : Int) / 64 % 64).toNat = 128 + m / 64 % 64 := by omega
  have e2 : (128 + (m : Int) % 64).toNat = 128 + m % 64 := by omega
  simp only [List.cons_append, List.nil_append, List.length_cons, List.getD_cons_zero, List.getD_cons_succ, e0, e1, e2, Int.toNat_natCast]
  unfold decodeN
  rw [if_neg (by omega), if_neg (by omega), if_pos (by omega), if_pos (by omega)]
  simp only [Prod.mk.injEq, List.length_nil]
  exact ⟨by omega, trivial⟩
 ·rw [if_neg a, if_neg b, if_neg d]
  have e0 : (240 + (m : Int) / 262144).toNat = 240 + m / 262144 := by omega
  have e1 : (128 + (m : Int) / 4096 % 64).toNat = 128 + m / 4096 % 64 := by omega
  have e2 : (128 + (m : Int) / 64 % 64).toNat = 128 + m / 64 % 64 := by omega
  have e3 : (128 + (m : Int) % 64).toNat = 128 + m % 64 := by omega
  simp only [List.cons_append, List.nil_append, List.length_cons, List.getD_cons_zero, List.getD_cons_succ, e0, e1, e2, e3, Int.toNat_natCast]
  unfold decodeN
  rw [if_neg (by omega), if_neg (by omega), if_neg (by omega), if_pos (by omega), if_pos (by omega)]
  simp only [Prod.mk.injEq, List.length_nil]
  exact ⟨by omega, trivial⟩
theorem decodeN_none {l : List Int} (hb : ∀ z ∈ l, 0 ≤ z ∧ z < 256) (h0 : l ≠ []) (h : atL l = none) :
  decodeN l.length (l.getD 0 0).toNat (l.getD 1 0).toNat (l.getD 2 0).toNat (l.getD 3 0).toNat = (65533, 1) := by
 have no : ∀ (n : Int) (r : List Int), Rune n → l = oneL n ++ r → False := fun n r hr hl => by
  rw [hl, atL_one hr] at h; cases h
 have hne : 0 < l.length := List.length_pos_iff.2 h0
 have g : ∀ j, j < l.length → 0 ≤ l.getD j 0 ∧ l.getD j 0 < 256 := fun j hj => by
  have : l.getD j 0 = l[j] := by simp [hj]
  rw [this]; exact hb _ (List.getElem_mem hj)
 have d : ∀ j, j < l.length → l.drop j = l.getD j 0 :: l.drop (j + 1) := fun j hj => by
  rw [List.drop_eq_getElem_cons hj]; simp [hj]
 obtain ⟨g0, g0'⟩ := g 0 hne
 have d0 := d 0 hne
 rw [List.drop_zero] at d0
 rcases decodeN_shape l.length (l.getD 0 0).toNat (l.getD 1 0).toNat (l.getD 2 0).toNat (l.getD 3 0).toNat with ⟨c, e⟩ | ⟨c1, c2, c3, cv, e⟩ | ⟨c1, c2, c3, c4, cv, cs, e⟩ | ⟨c1, c2, c3, c4, c5, cv, cw, e⟩ | e
 ·refine (no (l.getD 0 0) (l.drop 1) ⟨by omega, by omega, by omega⟩ (d0.trans ?_)).elim
  generalize l.getD 0 0 = x at *
  unfold oneL
  rw [if_pos (by omega)]
  rfl
 ·obtain ⟨g1, g1'⟩ := g 1 c2
  have hl := d0.trans (congrArg (l.getD 0 0 :: ·) (d 1 c2))
  refine (no ((l.getD 0 0) % 32 * 64 + (l.getD 1 0) % 64) (l.drop 2) ⟨by omega, by omega, by omega⟩ (hl.trans ?_)).elim
  generalize l.getD 0 0 = x at *
  generalize l.getD 1 0 = y at *
  unfold oneL
  rw [if_neg (by omega), if_pos (by omega)]
  simp only [List.cons_append, List.nil_append, List.cons.injEq]
  exact ⟨by omega, by omega, trivial⟩
 ·obtain ⟨g1, g1'⟩ := g 1 (by omega)
  obtain ⟨g2, g2'⟩ := g 2 c2
  have hl := d0.trans (congrArg (l.getD 0 0 :: ·) ((d 1 (by omega)).trans (congrArg (l.getD 1 0 :: ·) (d 2 c2))))
  refine (no ((l.getD 0 0) % 16 * 4096 + (l.getD 1 0) % 64 * 64 + (l.getD 2 0) % 64) (l.drop 3) ⟨by omega, by omega, by omega⟩ (hl.trans ?_)).elim
  generalize l.getD 0 0 = x at *
  generalize l.getD 1 0 = y at *
  generalize l.getD 2 0 = z at *
  unfold oneL
  rw [if_neg (by omega), if_neg (by omega), if_pos (by omega)]
  simp only [List.cons_append, List.nil_append, List.cons.injEq]
  exact ⟨by omega, by omega, by omega, trivial⟩
 ·obtain ⟨g1, g1'⟩ := g 1 (by omega)
  obtain ⟨g2, g2'⟩ := g 2 (by omega)
  obtain ⟨g3, g3'⟩ := g 3 c2
  have hl := d0.trans (congrArg (l.getD 0 0 :: ·) ((d 1 (by omega)).trans (congrArg (l.getD 1 0 :: ·) ((d 2 (by omega)).trans (congrArg (l.getD 2 0 :: ·) (d 3 c2))))))
  refine (no ((l.getD 0 0) % 8 * 262144 + (l.getD 1 0) % 64 * 4096 + (l.getD 2 0) % 64 * 64 + (l.getD 3 0) % 64) (l.drop 4) ⟨by omega, by omega, by omega⟩ (hl.trans ?_)).elim
  generalize l.getD 0 0 = x at *
  generalize l.getD 1 0 = y at *
  generalize l.getD 2 0 = z at *
  generalize l.getD 3 0 = u at *
  unfold oneL
  rw [if_neg (by omega), if_neg (by omega), if_neg (by omega)]
  simp only [List.cons_append, List.nil_append, List.cons.injEq]
  exact ⟨by omega, by omega, by omega, by omega, trivial⟩
 ·exact e
theorem str_byte {zs : List Int} (hb : ∀ z ∈ zs, 0 ≤ z ∧ z < 256) (j : Nat) : ((strOfNums zs).data.toList.getD j 0).toNat = (zs.getD j 0).toNat := by
 rw [strOfNums_data]
 by_cases h : j < zs.length
 ·have := hb _ (List.getElem_mem h)
  simp [h]
  omega
 ·simp [List.getD_eq_getElem?_getD, List.getElem?_eq_none (Nat.le_of_not_lt h)]
theorem getD_drop0 (zs : List Int) (i j : Nat) : zs.getD (i + j) 0 = (zs.drop i).getD j 0 := by
 simp [List.getD_eq_getElem?_getD, List.getElem?_drop]
theorem decode_eq {zs : List Int} (hb : ∀ z ∈ zs, 0 ≤ z ∧ z < 256) (i : Nat) :
  Utf8.decode (strOfNums zs) i = decodeN (zs.drop i).length ((zs.drop i).getD 0 0).toNat ((zs.drop i).getD 1 0).toNat ((zs.drop i).getD 2 0).toNat ((zs.drop i).getD 3 0).toNat := by
 rw [decode_N, str_byte hb, str_byte hb, str_byte hb, str_byte hb, strOfNums_data, List.length_map, List.length_drop]
 rw [← getD_drop0, ← getD_drop0, ← getD_drop0, ← getD_drop0]
 rfl
theorem mem_drop_bytes {zs : List Int} (hb : ∀ z ∈ zs, 0 ≤ z ∧ z < 256) (i : Nat) : ∀ z ∈ zs.drop i, 0 ≤ z ∧ z < 256 := fun z hz => hb z (List.mem_of_mem_drop hz)
theorem decode_some {zs : List Int} (hb : ∀ z ∈ zs, 0 ≤ z ∧ z < 256) {i : Nat} {n : Int} {k : Nat} (h : atL (zs.drop i) = some (n, k)) : Utf8.decode (strOfNums zs) i = (n.toNat, k) := by
 rw [decode_eq hb]; exact decodeN_some (mem_drop_bytes hb i) h
theorem decode_none {zs : List Int} (hb : ∀ z ∈ zs, 0 ≤ z ∧ z < 256) {i : Nat} (hi : i < zs.length) (h : atL (zs.drop i) = none) : Utf8.decode (strOfNums zs) i = (65533, 1) := by
 rw [decode_eq hb]
 refine decodeN_none (mem_drop_bytes hb i) (fun h0 => ?_) h
 have := congrArg List.length h0
 simp at this; omega
theorem error_three {l : List Int} {k : Nat} (h : atL l = some (65533, k)) : k = 3 := by
 obtain ⟨_, _, hk, _⟩ := atL_some h
 rw [hk]; decide
end Go.Proofs.YtepbjkkakfpjgaaGreatDoor.Utf
namespace Go.Proofs
open Go.Shelf
def Tryz.lays128_ren : Go.Shelf.Ren := ⟨fun | 128 => 215 | n => n, fun | 51 => 28 | 3 => 3 | 4 => 4 | 46 => 220 | 5 => 5 | 9 => 9 | n => n, fun | n => n⟩
theorem Tryz.lays128 : Go.Proofs.Lays.n128 Tryz.prog Tryz.lays128_ren := {
  mixed := by kernel_rfl
  f128 := Tryz.func215.trans (congrArg some (by kernel_rfl))
  t3 := Tryz.underlying3
  a3 := Tryz.isAgg3
  z3 := Tryz.sizeOf3
  v3 := Tryz.zeroValue3
  t4 := Tryz.underlying4
  a4 := Tryz.isAgg4
  z4 := Tryz.sizeOf4
  v4 := Tryz.zeroValue4
  t5 := Tryz.underlying5
  a5 := Tryz.isAgg5
  z5 := Tryz.sizeOf5
  v5 := Tryz.zeroValue5
  t9 := Tryz.underlying9
  a9 := Tryz.isAgg9
  z9 := Tryz.sizeOf9
  v9 := Tryz.zeroValue9
  t46 := Tryz.underlying220
  a46 := Tryz.isAgg220
  z46 := Tryz.sizeOf220
  v46 := Tryz.zeroValue220
  t51 := Tryz.underlying28
  a51 := Tryz.isAgg28
  z51 := Tryz.sizeOf28
  v51 := Tryz.zeroValue28 }
theorem Tryz.bits_Len32 (x : Int) (w : World) (h0 : 0 ≤ x) (h1 : x ≤ 4294967295) :
  Calls Tryz.prog 215 #[.int .u32 x] w fun e w' => e = .returned (.int .i64 (Lib.bitLen x.toNat)) ∧ w' = w := Any.bits_Len32 Tryz.lays128 x w h0 h1
open Go.RowKit Go.Lib in
def Tryz.lays212_ren : Go.Shelf.Ren := ⟨fun | 212 => 235 | 263 => 243 | 264 => 244 | n => n, fun | 46 => 220 | 51 => 28 | 146 => 242 | 53 => 138 | 148 => 244 | n => n, fun | n => n⟩
theorem Tryz.lays212 : Go.Proofs.Lays.n212 Tryz.prog Tryz.lays212_ren := {
  mixed := by kernel_rfl
  f212 := Tryz.func235.trans (congrArg some (by kernel_rfl))
  f263 := Tryz.func243.trans (congrArg some (by kernel_rfl))
  f264 := Tryz.func244.trans (congrArg some (by kernel_rfl))
  t46 := Tryz.underlying220
  a46 := Tryz.isAgg220
  z46 := Tryz.sizeOf220
  v46 := Tryz.zeroValue220
  t51 := Tryz.underlying28
  a51 := Tryz.isAgg28
  z51 := Tryz.sizeOf28
  v51 := Tryz.zeroValue28
  t53 := Tryz.underlying138
  a53 := Tryz.isAgg138
  z53 := Tryz.sizeOf138
  v53 := Tryz.zeroValue138
  t146 := Tryz.underlying242
  a146 := Tryz.isAgg242
  z146 := Tryz.sizeOf242
  v146 := Tryz.zeroValue242
  t148 := Tryz.underlying244
  a148 := Tryz.isAgg244
  z148 := Tryz.sizeOf244
  v148 := Tryz.zeroValue244 }
open Go.RowKit Go.Lib in
theorem Tryz.bits_Mul (x y : Nat) (hx : x < 18446744073709551616) (hy : y < 18446744073709551616) (w : World) :
  Calls Tryz.prog 235 #[.int .u64 x, .int .u64 y] w fun e w' => e = .returned (.tuple #[.int .u64 ((x * y / 18446744073709551616 : Nat) : Int), .int .u64 ((x * y % 18446744073709551616 : Nat) : Int)]) ∧ w' = w := Any.bits_Mul Tryz.lays212 x y hx hy w
def Tryz.lays260_ren : Go.Shelf.Ren := ⟨fun | 260 => 222 | n => n, fun | 9 => 9 | 21 => 21 | 3 => 3 | 4 => 4 | 5 => 5 | 119 => 232 | 0 => 0 | 46 => 220 | 139 => 235 | 138 => 234 | n => n, fun | 3 => 1 | 4 => 2 | n => n⟩
theorem Tryz.lays260 : Go.Proofs.Lays.n260 Tryz.prog Tryz.lays260_ren := {
  mixed := by kernel_rfl
  f260 := Tryz.func222.trans (congrArg some (by kernel_rfl))
  t0 := Tryz.underlying0
  a0 := Tryz.isAgg0
  z0 := Tryz.sizeOf0
  v0 := Tryz.zeroValue0
  t3 := Tryz.underlying3
  a3 := Tryz.isAgg3
  z3 := Tryz.sizeOf3
  v3 := Tryz.zeroValue3
  t4 := Tryz.underlying4
  a4 := Tryz.isAgg4
  z4 := Tryz.sizeOf4
  v4 := Tryz.zeroValue4
  t5 := Tryz.underlying5
  a5 := Tryz.isAgg5
  z5 := Tryz.sizeOf5
  v5 := Tryz.zeroValue5
  t9 := Tryz.underlying9
  a9 := Tryz.isAgg9
  z9 := Tryz.sizeOf9
  v9 := Tryz.zeroValue9
  t21 := Tryz.underlying21
  a21 := Tryz.isAgg21
  z21 := Tryz.sizeOf21
  v21 := Tryz.zeroValue21
  t46 := Tryz.underlying220
  a46 := Tryz.isAgg220
  z46 := Tryz.sizeOf220
  v46 := Tryz.zeroValue220
  t119 := Tryz.underlying232
  a119 := Tryz.isAgg232
  z119 := Tryz.sizeOf232
  t138 := Tryz.underlying234
  a138 := Tryz.isAgg234
  z138 := Tryz.sizeOf234
  v138 := Tryz.zeroValue234
  t139 := Tryz.underlying235
  a139 := Tryz.isAgg235
  z139 := Tryz.sizeOf235
  v139 := Tryz.zeroValue235
  g3 := by kernel_rfl
  g4 := by kernel_rfl }
open Go.RowKit Go.Lib in
def Tryz.lays197_ren : Go.Shelf.Ren := ⟨fun | 197 => 206 | 260 => 222 | n => n, fun | 9 => 9 | 21 => 21 | 3 => 3 | 4 => 4 | 5 => 5 | 105 => 212 | 119 => 232 | 0 => 0 | 46 => 220 | 139 => 235 | 138 => 234 | n => n, fun | 3 => 1 | 4 => 2 | n => n⟩
theorem Tryz.lays197 : Go.Proofs.Lays.n197 Tryz.prog Tryz.lays197_ren := {
  mixed := by kernel_rfl
  f197 := Tryz.func206.trans (congrArg some (by kernel_rfl))
  f260 := Tryz.func222.trans (congrArg some (by kernel_rfl))
  t0 := Tryz.underlying0
  a0 := Tryz.isAgg0
  z0 := Tryz.sizeOf0
  v0 := Tryz.zeroValue0
  t3 := Tryz.underlying3
  a3 := Tryz.isAgg3
  z3 := Tryz.sizeOf3
  v3 := Tryz.zeroValue3
  t4 := Tryz.underlying4
  a4 := Tryz.isAgg4
  z4 := Tryz.sizeOf4
  v4 := Tryz.zeroValue4
  t5 := Tryz.underlying5
  a5 := Tryz.isAgg5
  z5 := Tryz.sizeOf5
  v5 := Tryz.zeroValue5
  t9 := Tryz.underlying9
  a9 := Tryz.isAgg9
  z9 := Tryz.sizeOf9
  v9 := Tryz.zeroValue9
  t21 := Tryz.underlying21
  a21 := Tryz.isAgg21
  z21 := Tryz.sizeOf21
  v21 := Tryz.zeroValue21
  t46 := Tryz.underlying220
  a46 := Tryz.isAgg220
  z46 := Tryz.sizeOf220
  v46 := Tryz.zeroValue220
  t105 := Tryz.underlying212
  a105 := Tryz.isAgg212
  z105 := Tryz.sizeOf212
  v105 := Tryz.zeroValue212
  t119 := Tryz.underlying232
  a119 := Tryz.isAgg232
  z119 := Tryz.sizeOf232
  t138 := Tryz.underlying234
  a138 := Tryz.isAgg234
  z138 := Tryz.sizeOf234
  v138 := Tryz.zeroValue234
  t139 := Tryz.underlying235
  a139 := Tryz.isAgg235
  z139 := Tryz.sizeOf235
  v139 := Tryz.zeroValue235
  g3 := by kernel_rfl
  g4 := by kernel_rfl }
open Go.RowKit Go.Lib in
theorem Tryz.utf8_DecodeRuneInString (s : ByteArray) (w : World) (hT : Lib.Utf8Tabs 1 2 w) :
  Calls Tryz.prog 206 #[.string s] w fun e w' => e = .returned (.tuple #[.int .i32 (Lib.decodeGo s).1, .int .i64 (Lib.decodeGo s).2]) ∧ Below w.heap.size w w' := Any.utf8_DecodeRuneInString Tryz.lays197 s w hT
end Go.Proofs
namespace Go.Proofs.YtepbjkkakfpjgaaGreatDoor.Utf
open Go.RowKit
def Tabs (w : World) : Prop := Lib.Utf8Tabs 1 2 w
theorem Tabs.below {w w' : World} (h : Tabs w) (hb : Below w.heap.size w w') : Tabs w' := Utf8Tabs_below h hb
theorem str_tail (zs : List Int) (i : Nat) : (strOfNums zs).extract i zs.length = strOfNums (zs.drop i) := by
 apply ByteArray.ext
 apply Array.toList_inj.1
 rw [ByteArray.data_extract, Array.toList_extract, strOfNums_data, strOfNums_data]
 simp
 rw [List.take_of_length_le (by simp)]
set_option maxHeartbeats 800000 in
theorem bad_any (zs : List Int) (hb : ∀ z ∈ zs, 0 ≤ z ∧ z < 256) (w : World) (hT : Tabs w) :
  Calls Tryz.prog 180 #[.string (strOfNums zs)] w fun e w' => e = .returned (.int .i64 (badL zs)) ∧ Below w.heap.size w w' := by
 have D1 : ∀ pos n k, atL (zs.drop pos) = some (n, k) → Utf8.decode (strOfNums zs) pos = (n.toNat, k) := fun pos n k h => decode_some hb h
 have D2 : ∀ pos, pos < zs.length → atL (zs.drop pos) = none → Utf8.decode (strOfNums zs) pos = (65533, 1) := fun pos h h' => decode_none hb h h'
 have D3 : ∀ pos, pos < zs.length → Lib.decodeGo ((strOfNums zs).extract pos zs.length) = Utf8.decode (strOfNums zs) pos := fun pos h => by
  rw [str_tail]
  unfold Lib.decodeGo
  rw [strOfNums_size, List.length_drop, if_neg (by omega), decode_eq (mem_drop_bytes hb pos), decode_eq hb]
  rfl
 have hs : (strOfNums zs).size = zs.length := strOfNums_size zs
 generalize strOfNums zs = s at *
 have H1 := hid D1
 have H2 := hid D2
 have H3 := hid D3
 clear D1 D2 D3 hb
 go_enter Tryz.func180, Tryz.ntmps180
 go_wp2
 go_loopw [3] (fun _ wr => ∃ pos : Nat, wr.heap[w.heap.size]? = some (.stringIter s pos) ∧ Below w.heap.size w wr ∧ pos ≤ zs.length ∧ (scan zs).2 = pos + (scan (zs.drop pos)).2)
  (fun _ wr => zs.length - wr.iterPos w.heap.size)
 case atStart => exact ⟨0, World.iter_heap w s 0, (Below.refl _ _).alloc (Nat.le_refl _) _, Nat.zero_le _, by simp⟩
 case round =>
  obtain ⟨pos, hk, hbw, hpos, hsc⟩ := hrel
  have HS := hid hsc
  clear hsc
  have hT' : Tabs wr := hT.below hbw
  by_cases hp : pos < s.size
  ·cases ha : atL (zs.drop pos) with
   | none =>
    have hd := H2.out pos (by omega) ha
    have hnx : ∀ ty, (Instr.next (.pointer (some ⟨w.heap.size, 0, none⟩)) true ty).run Tryz.prog wr = .ok (.tuple #[.bool true, .int .i64 pos, .int .i32 65533]) (wr.iterAt w.heap.size s (pos + 1)) := fun ty => by
     rw [Lib.run_next_any_at wr w.heap.size s pos ty hk hp, hd]; rfl
    have hw1 := Lib.below_iterAt hbw (Nat.le_refl _) s (pos + 1)
    have hT1 : Tabs (wr.iterAt w.heap.size s (pos + 1)) := hT.below hw1
    have HF : Hid (badL zs = pos) := by
     have h := HS.out
     rw [scan_none ha] at h
     show _ = _
     rw [badL_some (by omega)]
     simp at h; omega
    have HD := hid ((H3.out pos (by omega)).trans hd)
    clear hd ha hT hT'
    generalize wr.iterAt w.heap.size s (pos + 1) = w1 at *
    go_wp2_with fail
    refine (Tryz.utf8_DecodeRuneInString _ _ hT1).mono ?_
    rw [HD.out]
    rintro e w2 ⟨rfl, hb2⟩
    go_wp2
    go_ret
    exact ⟨ret_int HF.out.symm, hw1.trans (hb2.mono (by have := hw1.size; omega))⟩
   | some q =>
    obtain ⟨n, k⟩ := q
    obtain ⟨hn, _, _, hk1, _, hkl⟩ := atL_some ha
    have hd := H1.out pos n k ha
    have hnx : ∀ ty, (Instr.next (.pointer (some ⟨w.heap.size, 0, none⟩)) true ty).run Tryz.prog wr = .ok (.tuple #[.bool true, .int .i64 pos, .int .i32 n]) (wr.iterAt w.heap.size s (pos + k)) := fun ty => by
     rw [Lib.run_next_any_at wr w.heap.size s pos ty hk hp, hd]
     have := hn.1
     simp only [Int.toNat_of_nonneg this]
    have hw1 := Lib.below_iterAt hbw (Nat.le_refl _) s (pos + k)
    have hT1 : Tabs (wr.iterAt w.heap.size s (pos + k)) := hT.below hw1
    have hk1' := Lib.iterAt_heap wr w.heap.size s pos (pos + k) hk
    have hit : (wr.iterAt w.heap.size s (pos + k)).iterPos w.heap.size = pos + k := by unfold World.iterPos; rw [hk1']
    have hit0 : wr.iterPos w.heap.size = pos := by unfold World.iterPos; rw [hk]
    have HF : Hid ((scan zs).2 = (pos + k) + (scan (zs.drop (pos + k))).2) := by
     have h := HS.out
     rw [scan_some ha, List.drop_drop] at h
     show _ = _
     simp only at h
     omega
    have hlk : pos + k ≤ zs.length := by simp at hkl; omega
    by_cases he : n = 65533
    ·subst he
     obtain rfl := error_three ha
     have HD := hid ((H3.out pos (by omega)).trans hd)
     clear hd ha hT hT' hn
     generalize wr.iterAt w.heap.size s (pos + 3) = w1 at *
     go_wp2_with fail
     refine (Tryz.utf8_DecodeRuneInString _ _ hT1).mono ?_
     rw [HD.out]
     rintro e w2 ⟨rfl, hb2⟩
     have hlt : w.heap.size < w1.heap.size := (Array.getElem?_eq_some_iff.1 hk1').1
     have hk2 := (hb2.block _ hlt).trans hk1'
     have hit2 : w2.iterPos w.heap.size = pos + 3 := by unfold World.iterPos; rw [hk2]
     go_wp2
     go_roundw
     case rel => exact ⟨pos + 3, hk2, hw1.trans (hb2.mono (by omega)), hlk, HF.out⟩
     case measure => rw [hit2, hit0]; omega
    ·clear hd ha hT hT'
     generalize wr.iterAt w.heap.size s (pos + k) = w1 at *
     go_wp2
     go_roundw
     case rel => exact ⟨pos + k, hk1', hw1, hlk, HF.out⟩
     case measure => rw [hit, hit0]; omega
  ·have hnx : ∀ ty, (Instr.next (.pointer (some ⟨w.heap.size, 0, none⟩)) true ty).run Tryz.prog wr = _ := fun ty => Lib.run_next_end_at wr w.heap.size s pos ty hk hp
   have HF : Hid (badL zs = -1) := badL_none (by
     have h := HS.out
     rw [List.drop_eq_nil_of_le (by omega), scan_nil] at h
     simp at h; omega)
   go_wp2
   go_ret
   exact ⟨ret_int HF.out.symm, hbw⟩
end Go.Proofs.YtepbjkkakfpjgaaGreatDoor.Utf
namespace Go.Proofs.YtepbjkkakfpjgaaGreatDoor
open Go.RowKit Go.Lib
theorem u8Extra : U8Extra Tryz.prog Tryz.lays260_ren := ⟨by kernel_rfl, by kernel_rfl, by kernel_rfl, by kernel_rfl, by kernel_rfl, by kernel_rfl, by kernel_rfl⟩
def laid3 : List (String × DataW Unit) := [("unicode/utf8.acceptRanges", Rows.laid_unicode_utf8_acceptRanges), ("gimlet/instr.names", Rows.laid_gimlet_instr_names), ("unicode/utf8.first", Rows.laid_unicode_utf8_first)]
theorem accept_eq : (Rows.laid_unicode_utf8_acceptRanges : DataW Unit) = acceptData := by kernel_rfl
theorem tabs_3 {W : World} (hL : laidMet Tryz.prog laid3 W) : Instr.Nams W ∧ Utf.Tabs W := by
 refine ⟨nams_of (.tail _ (.head _)) hL, utf8Tabs_of_reads (ρ := Tryz.lays260_ren) Tryz.lays260 u8Extra (Pinned.utf8First_eq ▸ Lib.laidMet.reads hL (.tail _ (.tail _ (.head _)))) ?_⟩
 have h := Lib.laidMet.reads hL (.head _)
 rw [accept_eq] at h
 exact h
end Go.Proofs.YtepbjkkakfpjgaaGreatDoor
namespace Go.Proofs.YtepbjkkakfpjgaaGreatDoor.Instr
def Ix.bare (x : Ix) : Ix := ⟨x.op, x.res, x.a, x.b, x.n, x.tags, none, 0, none, x.ln, 0, none, x.en, 0⟩
def Il.bare : Il → Il
 | .nil => .nil
 | .cons x l e r => .cons x.bare l.bare e.bare r.bare
def Il.app : Il → Il → Il
 | .nil, t => t
 | .cons x l e r, t => .cons x l e (r.app t)
def Il.fit : Il → Prop
 | .nil => True
 | .cons x l e r => l.len = x.ln ∧ e.len = x.en ∧ l.fit ∧ e.fit ∧ r.fit
def Il.nums : Il → Prop
 | .nil => True
 | .cons x l e r => (0 ≤ x.a ∧ x.a < 4294967296) ∧ (0 ≤ x.b ∧ x.b < 4294967296) ∧ (-2147483648 ≤ x.n ∧ x.n < 2147483648) ∧ (∀ z ∈ x.tags, 0 ≤ z ∧ z < 4294967296) ∧ l.nums ∧ e.nums ∧ r.nums
theorem app_nil : ∀ t : Il, t.app .nil = t
 | .nil => rfl
 | .cons x l e r => by rw [Il.app, app_nil r]
theorem app_assoc : ∀ t u v : Il, (t.app u).app v = t.app (u.app v)
 | .nil, _, _ => rfl
 | .cons x l e r, u, v => by simp only [Il.app, app_assoc r]
theorem app_len : ∀ t u : Il, (t.app u).len = t.len + u.len
 | .nil, u => by simp [Il.app, Il.len]
 | .cons x l e r, u => by simp only [Il.app, Il.len, app_len r]; omega
theorem bare_app : ∀ t u : Il, (t.app u).bare = t.bare.app u.bare
 | .nil, _ => rfl
 | .cons x l e r, u => by simp only [Il.app, Il.bare, bare_app r]
theorem bare_len : ∀ t : Il, t.bare.len = t.len
 | .nil => rfl
 | .cons x l e r => by simp only [Il.bare, Il.len, bare_len r]
theorem bare_count : ∀ t : Il, t.bare.count = t.count
 | .nil => rfl
 | .cons x l e r => by simp only [Il.bare, Il.count, bare_count l, bare_count e, bare_count r]
theorem bare_deep : ∀ t : Il, t.bare.deep = t.deep
 | .nil => rfl
 | .cons x l e r => by simp only [Il.bare, Il.deep, bare_deep l, bare_deep e, bare_deep r]
theorem bare_tags : ∀ t : Il, t.bare.tags = t.tags
 | .nil => rfl
 | .cons x l e r => by simp only [Il.bare, Il.tags, bare_tags l, bare_tags e, bare_tags r]; rfl
theorem bare_all : ∀ t : Il, t.bare.all = t.all
 | .nil => rfl
 | .cons x l e r => by simp only [Il.bare, Il.all, bare_all l, bare_all e, bare_all r]; rfl
theorem bare_check (t : Il) : checkP t.bare = checkP t := by unfold checkP; rw [bare_all, bare_count, bare_deep, bare_tags]
end Go.Proofs.YtepbjkkakfpjgaaGreatDoor.Instr
namespace Go.Proofs.YtepbjkkakfpjgaaGreatDoor.Body
open Leb Kind Go.Proofs.YtepbjkkakfpjgaaGreatDoor.Instr
def kindP (op : Int) : Nat :=
 if op = 2 ∨ op = 3 ∨ op = 4 then 1
 else if op = 12 ∨ op = 13 ∨ op = 16 ∨ op = 32 ∨ op = 33 ∨ op = 34 ∨ op = 35 ∨ op = 36 then 2
 else if op = 17 then 3
 else if op = 14 then 4
 else if op = 40 ∨ op = 44 ∨ op = 45 ∨ op = 46 ∨ op = 47 ∨ op = 54 ∨ op = 58 ∨ op = 59 then 5
 else if op = 63 ∨ op = 64 then 6
 else if op = 65 then 7 else 0
def encTags (l : List Int) : List Int := encU l.length ++ l.flatMap encU
def encRest (x : Ix) : List Int :=
 match kindP x.op with
 | 1 => [if x.res = 0 then 64 else 127]
 | 2 => encU x.a
 | 3 => encU x.a ++ [0]
 | 4 => encTags x.tags ++ encU x.a
 | 5 => encU x.a ++ encU x.b
 | 6 => [0]
 | 7 => encS x.n
 | _ => []
def encL : Il → List Int
 | .nil => []
 | .cons x l e r => x.op :: (encRest x ++ ((if kindP x.op = 1 then encL l ++ ((if x.en = 0 then [] else 5 :: encL e) ++ [11]) else []) ++ encL r))
def encP (t : Il) : List Int := encL t ++ [11]
def locL (n : Int) : List Int := if n = 0 then [0] else 1 :: (encU n ++ [127])
def codeL (n : Int) (t : Il) : List Int := locL n ++ encP t
def byteR (zs : List Int) (s : Rd) : Int × Rd :=
 if s.2.1 = 0 then (if s.1 = zs.length then (0, s.1, 4, s.1) else (zs.getD s.1.toNat 0, s.1 + 1, 0, 0)) else (0, s)
def tagR (zs : List Int) (ok : Int → Bool) (s : Rd) : Int × Rd := ((byteR zs s).1, if ok (byteR zs s).1 then (byteR zs s).2 else refuseR (byteR zs s).2 140 s.1)
def sgnR (zs : List Int) (s : Rd) : Int × Rd :=
 if s.2.1 = 0 then
  if (getL true zs s.1).2.2.1 = 0 then ((getL true zs s.1).1, (getL true zs s.1).2.1, 0, 0) else (0, s.1, (getL true zs s.1).2.2.1, (getL true zs s.1).2.2.2)
 else (0, s)
def isRes (c : Int) : Bool := decide (c = 64) || decide (c = 127)
def isNone (c : Int) : Bool := decide (c = 0)
def tagsR (zs : List Int) : Nat → Rd → List Int × Rd
 | 0, s => ([], s)
 | k + 1, s => if s.2.1 = 0 then ((numR zs s).1 :: (tagsR zs k (numR zs s).2).1, (tagsR zs k (numR zs s).2).2) else ([], s)
def labelsR (zs : List Int) (s : Rd) : List Int × Rd :=
 tagsR zs (numR zs s).1.toNat (if 16384 < (numR zs s).1 then refuseR (numR zs s).2 141 s.1 else (numR zs s).2)
structure Fx where
 x : Ix
 s : Rd
def plainX (op res a b n : Int) (tags : List Int) : Ix := ⟨op, res, a, b, n, tags, none, 0, none, 0, 0, none, 0, 0⟩
def restR (zs : List Int) (op : Int) (s : Rd) : Fx :=
 match kindP op with
 | 1 => ⟨plainX op (if (tagR zs isRes s).1 = 127 then 1 else 0) 0 0 0 [], (tagR zs isRes s).2⟩
 | 2 => ⟨plainX op 0 (numR zs s).1 0 0 [], (numR zs s).2⟩
 | 3 => ⟨plainX op 0 (numR zs s).1 0 0 [], (tagR zs isNone (numR zs s).2).2⟩
 | 4 => ⟨plainX op 0 (numR zs (labelsR zs s).2).1 0 0 (labelsR zs s).1, (numR zs (labelsR zs s).2).2⟩
 | 5 => ⟨plainX op 0 (numR zs s).1 (numR zs (numR zs s).2).1 0 [], (numR zs (numR zs s).2).2⟩
 | 6 => ⟨plainX op 0 0 0 0 [], (tagR zs isNone s).2⟩
 | 7 => ⟨plainX op 0 0 0 (sgnR zs s).1 [], (sgnR zs s).2⟩
 | _ => ⟨plainX op 0 0 0 0 [], s⟩
def opR (zs : List Int) (oth : Bool) (deep : Nat) (cnt : Int) (s : Rd) : Int × Rd :=
 ((byteR zs s).1, if (byteR zs s).1 = 11 ∨ ((byteR zs s).1 = 5 ∧ oth = true) then (byteR zs s).2
   else if nameL (byteR zs s).1 = [] then refuseR (byteR zs s).2 160 s.1
   else if 900 < deep ∨ 262144 ≤ cnt then refuseR (byteR zs s).2 141 s.1 else (byteR zs s).2)
structure Lr where
 t : Il
 q : Int
 n : Int
 s : Rd
structure Or where
 x : Ix
 l : Il
 e : Il
 n : Int
 s : Rd
def Ix.hold (x : Ix) (l e : Il) : Ix := ⟨x.op, x.res, x.a, x.b, x.n, x.tags, none, 0, none, l.len, 0, none, e.len, 0⟩
def oneG (zs : List Int) (rec : Nat → Bool → Int → Rd → Lr) (op : Int) (deep : Nat) (cnt : Int) (s : Rd) : Or :=
 if kindP op = 1 ∧ (restR zs op s).s.2.1 = 0 then
  if (rec (deep + 1) (decide (op = 4)) cnt (restR zs op s).s).s.2.1 = 0 ∧ (rec (deep + 1) (decide (op = 4)) cnt (restR zs op s).s).q = 5 then
   let l := rec (deep + 1) (decide (op = 4)) cnt (restR zs op s).s
   let e := rec (deep + 1) false l.n l.s
   ⟨Ix.hold (restR zs op s).x l.t e.t, l.t, e.t, e.n, e.s⟩
  else
   let l := rec (deep + 1) (decide (op = 4)) cnt (restR zs op s).s
   ⟨Ix.hold (restR zs op s).x l.t .nil, l.t, .nil, l.n, l.s⟩
 else ⟨(restR zs op s).x, .nil, .nil, cnt, (restR zs op s).s⟩
def stepG (zs : List Int) (rec : Nat → Bool → Int → Rd → Lr) (deep : Nat) (oth : Bool) (cnt : Int) (s : Rd) : Lr :=
 if (opR zs oth deep cnt s).2.2.1 ≠ 0 then ⟨.nil, 11, cnt, (opR zs oth deep cnt s).2⟩
 else if (opR zs oth deep cnt s).1 = 11 ∨ (opR zs oth deep cnt s).1 = 5 then ⟨.nil, (opR zs oth deep cnt s).1, cnt, (opR zs oth deep cnt s).2⟩
 else
  let o := oneG zs rec (opR zs oth deep cnt s).1 deep (cnt + 1) (opR zs oth deep cnt s).2
  let r := rec deep oth o.n o.s
  ⟨.cons o.x o.l o.e r.t, r.q, r.n, r.s⟩
def listG (zs : List Int) : Nat → Nat → Bool → Int → Rd → Lr
 | 0 => fun _ _ cnt s => ⟨.nil, 11, cnt, s⟩
 | m + 1 => stepG zs (listG zs m)
def On (s s' : Rd) : Prop := s'.2.1 = 0 → s.2.1 = 0 ∧ s.1 ≤ s'.1
theorem On.trans {a b c : Rd} (h : On a b) (g : On b c) : On a c := fun hc => ⟨(h (g hc).1).1, Int.le_trans (h (g hc).1).2 (g hc).2⟩
def listF (zs : List Int) (deep : Nat) (oth : Bool) (cnt : Int) (s : Rd) : Lr := listG zs (zs.length + 3) deep oth cnt s
end Go.Proofs.YtepbjkkakfpjgaaGreatDoor.Body
/-
  BODY: reading by a stack of open lists, as a plain function; it gives what reading list by list gives.
-/
namespace Go.Proofs.YtepbjkkakfpjgaaGreatDoor.Body
open Leb Kind Go.Proofs.YtepbjkkakfpjgaaGreatDoor.Instr
structure Fr where
 x : Ix
 fl : Il
 t : Il
 oth : Bool
end Go.Proofs.YtepbjkkakfpjgaaGreatDoor.Body
/-
  BODY: what is put is got: an instruction's fields by its operation; its bytes read; a list's bytes read, whatever follows.
-/
namespace Go.Proofs.YtepbjkkakfpjgaaGreatDoor.Body
open Go.RowKit Leb Go.Proofs.YtepbjkkakfpjgaaGreatDoor.Instr
open Kind (Rd numR refuseR)
theorem over6 : ∀ b1 b2 b3 b4 b5 b6 b7 : Bool, bits .andNot .u8 (bit b1 1 + bit b2 2 + bit b3 4 + bit b4 8 + bit b5 16 + bit b6 32 + bit b7 64) 6 = 0 ↔ (b1 || b4 || b5 || b6 || b7) = false := by decide
theorem over33 : ∀ b1 b2 b3 b4 b5 b6 b7 : Bool, bits .andNot .u8 (bit b1 1 + bit b2 2 + bit b3 4 + bit b4 8 + bit b5 16 + bit b6 32 + bit b7 64) 33 = 0 ↔ (b2 || b3 || b4 || b5 || b7) = false := by decide
theorem over97 : ∀ b1 b2 b3 b4 b5 b6 b7 : Bool, bits .andNot .u8 (bit b1 1 + bit b2 2 + bit b3 4 + bit b4 8 + bit b5 16 + bit b6 32 + bit b7 64) 97 = 0 ↔ (b2 || b3 || b4 || b5) = false := by decide
theorem over2 : ∀ b1 b2 b3 b4 b5 b6 b7 : Bool, bits .andNot .u8 (bit b1 1 + bit b2 2 + bit b3 4 + bit b4 8 + bit b5 16 + bit b6 32 + bit b7 64) 2 = 0 ↔ (b1 || b3 || b4 || b5 || b6 || b7) = false := by decide
theorem over18 : ∀ b1 b2 b3 b4 b5 b6 b7 : Bool, bits .andNot .u8 (bit b1 1 + bit b2 2 + bit b3 4 + bit b4 8 + bit b5 16 + bit b6 32 + bit b7 64) 18 = 0 ↔ (b1 || b3 || b4 || b6 || b7) = false := by decide
theorem over8 : ∀ b1 b2 b3 b4 b5 b6 b7 : Bool, bits .andNot .u8 (bit b1 1 + bit b2 2 + bit b3 4 + bit b4 8 + bit b5 16 + bit b6 32 + bit b7 64) 8 = 0 ↔ (b1 || b2 || b3 || b5 || b6 || b7) = false := by decide
theorem over0 : ∀ b1 b2 b3 b4 b5 b6 b7 : Bool, bits .andNot .u8 (bit b1 1 + bit b2 2 + bit b3 4 + bit b4 8 + bit b5 16 + bit b6 32 + bit b7 64) 0 = 0 ↔ (b1 || b2 || b3 || b4 || b5 || b6 || b7) = false := by decide
theorem used_kind (op : Int) : (usedP op = 6 ∧ kindP op = 5) ∨ (usedP op = 33 ∧ kindP op = 1 ∧ op ≠ 4) ∨ (usedP op = 97 ∧ kindP op = 1 ∧ op = 4) ∨ (usedP op = 2 ∧ (kindP op = 2 ∨ kindP op = 3)) ∨
  (usedP op = 18 ∧ kindP op = 4) ∨ (usedP op = 8 ∧ kindP op = 7) ∨ (usedP op = 0 ∧ (kindP op = 0 ∨ kindP op = 6)) := by
 unfold usedP kindP
 (repeat' split) <;> simp <;> omega
theorem lawful_iff (x : Ix) : lawfulP x = true ↔ nameL x.op ≠ [] ∧ (x.res = 0 ∨ x.res = 1) ∧ (x.res = 0 ∨ kindP x.op = 1) ∧ (x.a = 0 ∨ kindP x.op = 2 ∨ kindP x.op = 3 ∨ kindP x.op = 4 ∨ kindP x.op = 5) ∧ (x.b = 0 ∨ kindP x.op = 5) ∧
  (x.n = 0 ∨ kindP x.op = 7) ∧ (x.tags.length = 0 ∨ kindP x.op = 4) ∧ (x.ln = 0 ∨ kindP x.op = 1) ∧ (x.en = 0 ∨ (kindP x.op = 1 ∧ x.op = 4)) := by
 unfold lawfulP overP filledP
 simp only [Bool.and_eq_true, Bool.or_eq_true, decide_eq_true_eq, and_assoc]
 refine and_congr_right fun _ => ?_
 rw [and_comm]
 refine and_congr_right fun _ => ?_
 rcases used_kind x.op with ⟨hu, hk⟩ | ⟨hu, hk, h4⟩ | ⟨hu, hk, h4⟩ | ⟨hu, hk⟩ | ⟨hu, hk⟩ | ⟨hu, hk⟩ | ⟨hu, hk⟩ <;> rw [hu]
 ·rw [over6]; simp [hk, and_assoc]
 ·rw [over33]; simp [hk, h4, and_assoc]
 ·rw [over97]; simp [show kindP 4 = 1 by decide, h4, and_assoc]
 ·rw [over2]; rcases hk with hk | hk <;> simp [hk, and_assoc]
 ·rw [over18]; simp [hk, and_assoc]
 ·rw [over8]; simp [hk, and_assoc]
 ·rw [over0]; rcases hk with hk | hk <;> simp [hk, and_assoc]
theorem name_range {op : Int} (h : nameL op ≠ []) : 0 ≤ op ∧ op < 121 ∧ op ≠ 5 ∧ op ≠ 11 := by
 unfold nameL at h
 by_cases h1 : 0 ≤ op ∧ op < 121
 ·refine ⟨h1.1, h1.2, ?_, ?_⟩ <;> (rintro rfl; exact h (by decide))
 ·rw [if_neg h1] at h; exact absurd rfl h
-- what lies at a place
structure May (x : Ix) : Prop where
 law : lawfulP x = true
 a : 0 ≤ x.a ∧ x.a < 4294967296
 b : 0 ≤ x.b ∧ x.b < 4294967296
 n : -2147483648 ≤ x.n ∧ x.n < 2147483648
 tags : ∀ z ∈ x.tags, 0 ≤ z ∧ z < 4294967296
 few : x.tags.length ≤ 16384
theorem encRest0 {x : Ix} (h : kindP x.op = 0) : encRest x = [] := by simp [encRest, h]
theorem encRest1 {x : Ix} (h : kindP x.op = 1) : encRest x = [if x.res = 0 then 64 else 127] := by simp [encRest, h]
theorem encRest2 {x : Ix} (h : kindP x.op = 2) : encRest x = encU x.a := by simp [encRest, h]
theorem encRest3 {x : Ix} (h : kindP x.op = 3) : encRest x = encU x.a ++ [0] := by simp [encRest, h]
theorem encRest4 {x : Ix} (h : kindP x.op = 4) : encRest x = encTags x.tags ++ encU x.a := by simp [encRest, h]
theorem encRest5 {x : Ix} (h : kindP x.op = 5) : encRest x = encU x.a ++ encU x.b := by simp [encRest, h]
theorem encRest6 {x : Ix} (h : kindP x.op = 6) : encRest x = [0] := by simp [encRest, h]
theorem encRest7 {x : Ix} (h : kindP x.op = 7) : encRest x = encS x.n := by simp [encRest, h]
section
variable {zs : List Int} {op : Int} {s : Rd}
end
theorem kind_cases (op : Int) : kindP op = 0 ∨ kindP op = 1 ∨ kindP op = 2 ∨ kindP op = 3 ∨ kindP op = 4 ∨ kindP op = 5 ∨ kindP op = 6 ∨ kindP op = 7 := by
 unfold kindP; (repeat' split) <;> simp
def MayT : Il → Prop
 | .nil => True
 | .cons x l e r => May x ∧ l.len = x.ln ∧ e.len = x.en ∧ MayT l ∧ MayT e ∧ MayT r
theorem mayT_of : ∀ t : Il, t.all = true → t.tags = false → t.fit → t.nums → MayT t
 | .nil, _, _, _, _ => trivial
 | .cons x l e r, ha, ht, hf, hn => by
  simp only [Il.all, Bool.and_eq_true] at ha
  simp only [Il.tags, Bool.or_eq_false_iff, decide_eq_false_iff_not] at ht
  obtain ⟨f1, f2, f3, f4, f5⟩ := hf
  obtain ⟨n1, n2, n3, n4, n5, n6, n7⟩ := hn
  exact ⟨⟨ha.1.1.1, n1, n2, n3, n4, by omega⟩, f1, f2, mayT_of l ha.1.1.2 ht.1.1.2 f3 n5, mayT_of e ha.1.2 ht.1.2 f4 n6, mayT_of r ha.2 ht.2 f5 n7⟩
theorem len_zero : ∀ {t : Il}, t.len = 0 → t = .nil
 | .nil, _ => rfl
 | .cons _ _ _ _, h => by simp [Il.len] at h
def Lr.pre (t : Il) (r : Lr) : Lr := ⟨t.app r.t, r.q, r.n, r.s⟩
end Go.Proofs.YtepbjkkakfpjgaaGreatDoor.Body
/-
  BODY: bytes that end too early: the fault is told where they end.
-/
namespace Go.Proofs.YtepbjkkakfpjgaaGreatDoor.Body
open Leb Go.Proofs.YtepbjkkakfpjgaaGreatDoor.Instr
open Kind (Rd numR refuseR)
end Go.Proofs.YtepbjkkakfpjgaaGreatDoor.Body
/-
  BODY: what is got may be, and is put in no more bytes.
-/
namespace Go.Proofs.YtepbjkkakfpjgaaGreatDoor.Body
open Leb Go.Proofs.YtepbjkkakfpjgaaGreatDoor.Instr
open Kind (Rd numR refuseR)
section
variable {zs : List Int} (hz : ∀ c ∈ zs, 0 ≤ c ∧ c < 256)
include hz
end
end Go.Proofs.YtepbjkkakfpjgaaGreatDoor.Body
namespace Go.Proofs.YtepbjkkakfpjgaaGreatDoor
open Go.RowKit
structure Touch (S : Nat → Prop) (w w' : World) : Prop where
 os : w'.os = w.os
 tape : w'.tape = w.tape
 output : w'.output = w.output
 size : w.heap.size ≤ w'.heap.size
 block : ∀ j, j < w.heap.size → ¬ S j → w'.heap[j]? = w.heap[j]?
theorem Touch.refl (S : Nat → Prop) (w : World) : Touch S w w := ⟨rfl, rfl, rfl, Nat.le_refl _, fun _ _ _ => rfl⟩
theorem Touch.trans {S : Nat → Prop} {a b c : World} (h : Touch S a b) (g : Touch S b c) : Touch S a c :=
 ⟨g.os.trans h.os, g.tape.trans h.tape, g.output.trans h.output, Nat.le_trans h.size g.size, fun j hj hk => (g.block j (Nat.lt_of_lt_of_le hj h.size) hk).trans (h.block j hj hk)⟩
theorem Touch.mono {S T : Nat → Prop} {a b : World} (h : Touch S a b) (hs : ∀ j, S j → T j) : Touch T a b := ⟨h.os, h.tape, h.output, h.size, fun j hj hk => h.block j hj (fun hs' => hk (hs j hs'))⟩
theorem Touch.of_save {k : Nat} {w w' : World} (h : Save k w w') : Touch (fun j => j = k) w w' := ⟨h.os, h.tape, h.output, h.size, fun j hj hk => h.block j hj hk⟩
theorem Touch.of_below {S : Nat → Prop} {w w' : World} (h : Below w.heap.size w w') : Touch S w w' := ⟨h.os, h.tape, h.output, h.size, fun j hj _ => h.block j hj⟩
theorem Touch.of_grown {w w' : World} {row : Option Nat} (h : w.grownBy w' row) : Touch (fun j => row = some j) w w' := ⟨h.os, h.tape, h.output, h.size, fun j hj hk => h.block j hj (fun e => hk e.symm)⟩
theorem Touch.alloc {S : Nat → Prop} {a b : World} (h : Touch S a b) (o : Obj) : Touch S a (b.alloc o) := h.trans (.of_below ((Below.refl _ _).alloc (Nat.le_refl _) o))
theorem Touch.setCell {S : Nat → Prop} {a b : World} (h : Touch S a b) {p : Addr} (hp : S p.block ∨ a.heap.size ≤ p.block) (v : Value) : Touch S a (b.setCell p v) :=
 ⟨h.os, h.tape, h.output, by have := h.size; simpa [World.setCell] using this, fun j hj hk => (Below.heap_setCell _ _ _ _ (by rcases hp with hp | hp; rintro rfl; exact hk hp; omega)).trans (h.block j hj hk)⟩
theorem Touch.below {S : Nat → Prop} {B : Nat} {a b : World} (h : Touch S a b) (hB : B ≤ a.heap.size) (hs : ∀ j, S j → B ≤ j) : Below B a b :=
 ⟨h.os, h.tape, h.output, h.size, fun j hj => h.block j (by omega) (fun hj' => by have := hs j hj'; omega)⟩
theorem Touch.cell {S : Nat → Prop} {w w' : World} (h : Touch S w w') {p : Addr} {v : Value} (hk : ¬ S p.block) (hc : w.cell? p = some v) : w'.cell? p = some v :=
 (World.cell?_of_block (w := w) (h.block p.block (World.block_lt_of_cell? w _ hc) hk)).trans hc
theorem touch_row {S : Nat → Prop} {w w' : World} {base size n : Nat} {e : TypeId} {v : Value} {xs : List Value} (h : w.ownsRow base e size v n xs) (ht : Touch S w w') (hk : ∀ g, v.ownBlock = some g → ¬ S g) : w'.ownsRow base e size v n xs := by
 refine ⟨h.1, ?_⟩
 rcases h.2 with h0 | ⟨g, cap, cur, rfl, hg, hh, rest⟩
 ·exact .inl h0
 ·exact .inr ⟨g, cap, cur, rfl, hg, (ht.block g (Array.getElem?_eq_some_iff.1 hh).1 (hk g rfl)).trans hh, rest⟩
theorem plain_add (b i : Nat) : (⟨b, 0, none⟩ : Addr).add i = ⟨b, i, none⟩ := by unfold Addr.add; split <;> simp_all
def Soft (w : World) (q : Nat) : Prop := ∃ cs e, w.heap[q]? = some (.cells cs e (0, 0))
theorem Soft.touch {S : Nat → Prop} {w w' : World} {q : Nat} (h : Soft w q) (ht : Touch S w w') (hk : ¬ S q) : Soft w' q := by
 obtain ⟨cs, e, h⟩ := h
 exact ⟨cs, e, (ht.block q (Array.getElem?_eq_some_iff.1 h).1 hk).trans h⟩
theorem Soft.frozen {w : World} {q : Nat} (h : Soft w q) (i : Nat) : w.frozen? ⟨q, i, none⟩ = false := by
 obtain ⟨cs, e, h⟩ := h
 simp [World.frozen?, h]
theorem Soft.lt {w : World} {q : Nat} (h : Soft w q) : q < w.heap.size := by
 obtain ⟨cs, e, h⟩ := h
 exact (Array.getElem?_eq_some_iff.1 h).1
namespace Instr
def blkOf (n : Nat) (a : Option Addr) : List Nat := if n = 0 then [] else match a with
 | some p => [p.block]
 | none => []
def Il.foot : Il → List Nat
 | .nil => []
 | .cons x l e r => (blkOf x.tags.length x.ta ++ (blkOf x.ln x.la ++ l.foot) ++ (blkOf x.en x.ea ++ e.foot)) ++ r.foot
def Il.cells : Il → List Value
 | .nil => []
 | .cons x _ _ r => x.vals.toList ++ r.cells
def Il.kids (w : World) : Il → Prop
 | .nil => True
 | .cons x l e r => x.ok ∧ TagsAt w.heap.size w x.ta x.tags ∧ ListAt w.heap.size w x.la x.ln l ∧ ListAt w.heap.size w x.ea x.en e ∧ r.kids w
theorem foot_app : ∀ t u : Il, (t.app u).foot = t.foot ++ u.foot
 | .nil, _ => rfl
 | .cons x l e r, u => by simp only [Il.app, Il.foot, foot_app r, List.append_assoc]
theorem cells_app : ∀ t u : Il, (t.app u).cells = t.cells ++ u.cells
 | .nil, _ => rfl
 | .cons x l e r, u => by simp only [Il.app, Il.cells, cells_app r, List.append_assoc]
theorem kids_app {w : World} : ∀ t u : Il, t.kids w → u.kids w → (t.app u).kids w
 | .nil, _, _, h => h
 | .cons _ _ _ r, u, ⟨h1, h2, h3, h4, h5⟩, h => ⟨h1, h2, h3, h4, kids_app r u h5 h⟩
theorem TagsAt.touch {S : Nat → Prop} {n₀ : Nat} {w w' : World} {a : Option Addr} {zs : List Int} (h : TagsAt n₀ w a zs) (ht : Touch S w w') (hk : ∀ q ∈ blkOf zs.length a, ¬ S q) : TagsAt n₀ w' a zs := by
 rcases h with h | ⟨b, off, rfl, hl, hc⟩
 ·exact .inl h
 ·by_cases h0 : zs = []
  ·exact .inl h0
  ·have hne : zs.length ≠ 0 := fun h => h0 (List.eq_nil_of_length_eq_zero h)
   exact .inr ⟨b, off, rfl, hl, fun i hi => ht.cell (p := ⟨b, off + i, none⟩) (hk b (by simp [blkOf, hne])) (hc i hi)⟩
theorem Items.touch {S : Nat → Prop} {n₀ : Nat} {w w' : World} (ht : Touch S w w') : ∀ {t : Il} {b off : Nat}, Items n₀ w b off t → ¬ S b → (∀ q ∈ t.foot, ¬ S q) → Items n₀ w' b off t
 | .nil, _, _, _, _, _ => trivial
 | .cons x l e r, b, off, ⟨hl, hx, ⟨c0, c1, c2, c3, c4, c5, c6, c7⟩, htg, ⟨l1, l2⟩, ⟨e1, e2⟩, hr⟩, hb, hf => by
  have k : ∀ j v, w.cell? ⟨b, off + j, none⟩ = some v → w'.cell? ⟨b, off + j, none⟩ = some v := fun j v h => ht.cell (p := ⟨b, off + j, none⟩) hb h
  simp only [Il.foot, List.mem_append] at hf
  refine ⟨hl, hx, ⟨k 0 _ c0, k 1 _ c1, k 2 _ c2, k 3 _ c3, k 4 _ c4, k 5 _ c5, k 6 _ c6, k 7 _ c7⟩, htg.touch ht (fun q hq => hf q (.inl (.inl (.inl hq)))), ⟨l1, ?_⟩, ⟨e1, ?_⟩, Items.touch ht hr hb (fun q hq => hf q (.inr hq))⟩
  ·rcases l2 with h | ⟨b', o', ha, hi⟩
   ·exact .inl h
   ·cases l with
    | nil => exact .inl rfl
    | cons y m f s =>
     have hne : x.ln ≠ 0 := by rw [← l1]; simp [Il.len]
     exact .inr ⟨b', o', ha, Items.touch ht hi (hf b' (.inl (.inl (.inr (.inl (by simp [blkOf, hne, ha])))))) (fun q hq => hf q (.inl (.inl (.inr (.inr hq)))))⟩
  ·rcases e2 with h | ⟨b', o', ha, hi⟩
   ·exact .inl h
   ·cases e with
    | nil => exact .inl rfl
    | cons y m f s =>
     have hne : x.en ≠ 0 := by rw [← e1]; simp [Il.len]
     exact .inr ⟨b', o', ha, Items.touch ht hi (hf b' (.inl (.inr (.inl (by simp [blkOf, hne, ha]))))) (fun q hq => hf q (.inl (.inr (.inr hq))))⟩
theorem ListAt.touch {S : Nat → Prop} {n₀ : Nat} {w w' : World} {a : Option Addr} {n : Nat} {t : Il} (h : ListAt n₀ w a n t) (ht : Touch S w w') (hk : ∀ q ∈ blkOf n a ++ t.foot, ¬ S q) : ListAt n₀ w' a n t := by
 obtain ⟨h1, h2⟩ := h
 refine ⟨h1, ?_⟩
 rcases h2 with h | ⟨b', o', ha, hi⟩
 ·exact .inl h
 ·cases t with
  | nil => exact .inl rfl
  | cons y m f s =>
   have hne : n ≠ 0 := by rw [← h1]; simp [Il.len]
   exact .inr ⟨b', o', ha, Items.touch ht hi (hk b' (by simp [blkOf, hne, ha])) (fun q hq => hk q (by simp [hq]))⟩
theorem kids_touch {S : Nat → Prop} {w w' : World} (ht : Touch S w w') : ∀ {t : Il}, t.kids w → (∀ q ∈ t.foot, ¬ S q) → t.kids w'
 | .nil, _, _ => trivial
 | .cons x l e r, ⟨h1, h2, h3, h4, h5⟩, hf => by
  simp only [Il.foot, List.mem_append] at hf
  exact ⟨h1, (h2.touch ht (fun q hq => hf q (.inl (.inl (.inl hq))))).more ht.size, ListAt.more ht.size (h3.touch ht (fun q hq => hf q (.inl (.inl (.inr (List.mem_append.1 hq)))))),
    ListAt.more ht.size (h4.touch ht (fun q hq => hf q (.inl (.inr (List.mem_append.1 hq))))), kids_touch ht h5 (fun q hq => hf q (.inr hq))⟩
theorem tags_lt {n₀ : Nat} {w : World} {a : Option Addr} {zs : List Int} (h : TagsAt n₀ w a zs) : ∀ q ∈ blkOf zs.length a, q < n₀ := by
 intro q hq
 rcases h with rfl | ⟨b, off, rfl, hl, _⟩
 ·simp [blkOf] at hq
 ·unfold blkOf at hq
  split at hq
  ·simp at hq
  ·simp at hq; omega
mutual
theorem items_lt {n₀ : Nat} {w : World} : ∀ {t : Il} {b off : Nat}, Items n₀ w b off t → ∀ q ∈ t.foot, q < n₀
 | .nil, _, _, _, q, hq => by simp [Il.foot] at hq
 | .cons x l e r, b, off, ⟨_, _, _, ht, hl, he, hr⟩, q, hq => by
  simp only [Il.foot, List.mem_append] at hq
  rcases hq with ((hq | hq) | hq) | hq
  ·exact tags_lt ht q hq
  ·exact list_lt (t := l) hl q (List.mem_append.2 hq)
  ·exact list_lt (t := e) he q (List.mem_append.2 hq)
  ·exact items_lt hr q hq
theorem list_lt {n₀ : Nat} {w : World} {a : Option Addr} {n : Nat} : ∀ {t : Il}, ListAt n₀ w a n t → ∀ q ∈ blkOf n a ++ t.foot, q < n₀
 | .nil, ⟨h1, _⟩, q, hq => by simp [← h1, blkOf, Il.len, Il.foot] at hq
 | .cons x l e r, ⟨h1, h2⟩, q, hq => by
  rcases h2 with h | ⟨b, off, rfl, hb, hx, hc, ht, hl, he, hr⟩
  ·cases h
  ·rcases List.mem_append.1 hq with hq | hq
   ·unfold blkOf at hq
    split at hq
    ·simp at hq
    ·simp at hq; omega
   ·simp only [Il.foot, List.mem_append] at hq
    rcases hq with ((hq | hq) | hq) | hq
    ·exact tags_lt ht q hq
    ·exact list_lt (t := l) hl q (List.mem_append.2 hq)
    ·exact list_lt (t := e) he q (List.mem_append.2 hq)
    ·exact items_lt hr q hq
end
theorem kids_lt {w : World} : ∀ {t : Il}, t.kids w → ∀ q ∈ t.foot, q < w.heap.size
 | .nil, _, q, hq => by simp [Il.foot] at hq
 | .cons x l e r, ⟨_, ht, hl, he, hr⟩, q, hq => by
  simp only [Il.foot, List.mem_append] at hq
  rcases hq with ((hq | hq) | hq) | hq
  ·exact tags_lt ht q hq
  ·exact list_lt hl q (List.mem_append.2 hq)
  ·exact list_lt he q (List.mem_append.2 hq)
  ·exact kids_lt hr q hq
theorem items_of {w : World} {g : Nat} (hg : g < w.heap.size) : ∀ (t : Il) (off : Nat), (∀ j u, t.cells[j]? = some u → w.cell? ⟨g, off + j, none⟩ = some u) → t.kids w → Items w.heap.size w g off t
 | .nil, _, _, _ => trivial
 | .cons x l e r, off, hc, ⟨h1, h2, h3, h4, h5⟩ => by
  have h8 : ∀ q u, q < 8 → x.vals.toList[q]? = some u → w.cell? ⟨g, off + q, none⟩ = some u := fun q u hq hu => hc q u (by
    rw [Il.cells, List.getElem?_append_left (by simpa [Ix.vals] using hq)]; exact hu)
  refine ⟨hg, h1, ⟨h8 0 _ (by omega) rfl, h8 1 _ (by omega) rfl, h8 2 _ (by omega) rfl, h8 3 _ (by omega) rfl, h8 4 _ (by omega) rfl, h8 5 _ (by omega) rfl, h8 6 _ (by omega) rfl, h8 7 _ (by omega) rfl⟩, h2, h3, h4, items_of hg r (off + 8) (fun j u hu => ?_) h5⟩
  have := hc (8 + j) u (by
    rw [Il.cells, List.getElem?_append_right (by simp [Ix.vals])]
    simpa [Ix.vals] using hu)
  rw [show off + 8 + j = off + (8 + j) by omega]
  exact this
theorem list_of_row {w : World} {base : Nat} {v : Value} {t : Il} (h : w.ownsRow base 126 8 v t.len t.cells) (hk : t.kids w) : ∃ a c, v = .slice a t.len c ∧ ListAt w.heap.size w a t.len t ∧ blkOf t.len a = (if t.len = 0 then [] else match v.ownBlock with
    | some g => [g]
    | none => []) := by
 rcases h.2 with ⟨rfl, h0⟩ | ⟨g, cap, cur, rfl, _, hh, _⟩
 ·refine ⟨none, 0, by rw [h0], ⟨rfl, .inl (len_zero h0)⟩, by simp [blkOf, h0]⟩
 ·have hlt : g < w.heap.size := (Array.getElem?_eq_some_iff.1 hh).1
  refine ⟨_, _, rfl, ⟨rfl, .inr ⟨g, 0, rfl, items_of hlt t 0 (fun j u hu => ?_) hk⟩⟩, by simp [blkOf, Value.ownBlock]⟩
  have := World.ownsRow.cells h (g := g) rfl j u hu
  rw [plain_add] at this
  rw [Nat.zero_add]
  exact this
where len_zero : ∀ {t : Il}, t.len = 0 → t = .nil
 | .nil, _ => rfl
 | .cons _ _ _ _, h => by simp [Il.len] at h
end Instr
end Go.Proofs.YtepbjkkakfpjgaaGreatDoor
/-
  BODY: the open lists in memory: a row of them, each with a row of its instructions; how a top one turns.
-/
namespace Go.Proofs.YtepbjkkakfpjgaaGreatDoor.Body
open Go.RowKit Go.Proofs.YtepbjkkakfpjgaaGreatDoor.Instr
open Kind (Rd numR refuseR)
end Go.Proofs.YtepbjkkakfpjgaaGreatDoor.Body
namespace Go.Proofs.YtepbjkkakfpjgaaGreatDoor.Body
open Go.RowKit Go.Proofs.YtepbjkkakfpjgaaGreatDoor.Instr
open Kind (Rd numR refuseR)
structure Og where
 x : Ix
 fl : Il
 t : Il
 v : Value
 oth : Bool
def Og.cells (o : Og) : List Value := o.x.vals.toList ++ [o.v, .bool o.oth]
def rowBlk (v : Value) : List Nat := match v.ownBlock with
 | some g => [g]
 | none => []
def Og.inner (o : Og) : List Nat := o.t.foot ++ (blkOf o.x.ln o.x.la ++ o.fl.foot)
def Og.foot (o : Og) : List Nat := rowBlk o.v ++ o.inner
def Og.fr (o : Og) : Fr := ⟨plainX o.x.op o.x.res 0 0 0 [], o.fl.bare, o.t.bare, o.oth⟩
structure Half (base : Nat) (w : World) (o : Og) : Prop where
 kids : o.t.kids w
 own : ListAt w.heap.size w o.x.la o.x.ln o.fl
 tags : o.x.tags = []
 zero : o.x.a = 0 ∧ o.x.b = 0 ∧ o.x.n = 0
 ok : o.x.ok
 en : o.x.ea = none ∧ o.x.en = 0 ∧ o.x.ec = 0
 first : o.oth = false → o.x.la = none ∧ o.x.ln = 0 ∧ o.x.lc = 0
 low : ∀ q ∈ o.inner, base ≤ q
 few : o.t.len ≤ 4000000
 soft : ∀ q ∈ o.inner, Soft w q
structure OpenOk (base : Nat) (w : World) (o : Og) : Prop where
 half : Half base w o
 row : w.ownsRow base 126 8 o.v o.t.len o.t.cells
theorem OpenOk.low {base : Nat} {w : World} {o : Og} (h : OpenOk base w o) : ∀ q ∈ o.foot, base ≤ q := by
 intro q hq
 rcases List.mem_append.1 hq with hq | hq
 ·unfold rowBlk at hq
  split at hq
  ·rename_i g hg
   simp at hq
   subst hq
   exact (World.ownsRow.lt h.row q hg).1
  ·simp at hq
 ·exact h.half.low q hq
theorem Half.lt {base : Nat} {w : World} {o : Og} (h : Half base w o) : ∀ q ∈ o.inner, q < w.heap.size := by
 intro q hq
 rcases List.mem_append.1 hq with hq | hq
 ·exact kids_lt h.kids q hq
 ·exact list_lt h.own q hq
theorem OpenOk.lt {base : Nat} {w : World} {o : Og} (h : OpenOk base w o) : ∀ q ∈ o.foot, q < w.heap.size := by
 intro q hq
 rcases List.mem_append.1 hq with hq | hq
 ·unfold rowBlk at hq
  split at hq
  ·rename_i g hg
   simp at hq
   subst hq
   exact (World.ownsRow.lt h.row q hg).2
  ·simp at hq
 ·exact h.half.lt q hq
end Go.Proofs.YtepbjkkakfpjgaaGreatDoor.Body
namespace Go.Proofs.YtepbjkkakfpjgaaGreatDoor.Leb
open Go.RowKit
theorem bitLen_small : ∀ n : Fin 128, Lib.bitLen n.val ≤ 7 ∧ (1 ≤ n.val → 1 ≤ Lib.bitLen n.val) ∧ (n.val < 64 → Lib.bitLen n.val ≤ 6) := by decide +kernel
theorem bitLen_7 {x : Nat} (h : x < 128) : Lib.bitLen x ≤ 7 ∧ (1 ≤ x → 1 ≤ Lib.bitLen x) ∧ (x < 64 → Lib.bitLen x ≤ 6) := bitLen_small ⟨x, h⟩
theorem sizeU_len (n : Nat) (h : n < 4294967296) : max 1 ((Lib.bitLen n + 6) / 7) = sizeU n := by
 unfold sizeU
 by_cases h1 : n < 128
 ·have := bitLen_7 h1
  rw [if_pos (by omega)]; omega
 ·by_cases h2 : n < 16384
  ·have := Lib.bitLen_shift 7 n (by omega) (by omega)
   have := bitLen_7 (x := n / 2 ^ 7) (by omega)
   rw [if_neg (by omega), if_pos (by omega)]; omega
  ·by_cases h3 : n < 2097152
   ·have := Lib.bitLen_shift 14 n (by omega) (by omega)
    have := bitLen_7 (x := n / 2 ^ 14) (by omega)
    rw [if_neg (by omega), if_neg (by omega), if_pos (by omega)]; omega
   ·by_cases h4 : n < 268435456
    ·have := Lib.bitLen_shift 21 n (by omega) (by omega)
     have := bitLen_7 (x := n / 2 ^ 21) (by omega)
     rw [if_neg (by omega), if_neg (by omega), if_neg (by omega), if_pos (by omega)]; omega
    ·have := Lib.bitLen_shift 28 n (by omega) (by omega)
     have := bitLen_7 (x := n / 2 ^ 28) (by omega)
     rw [if_neg (by omega), if_neg (by omega), if_neg (by omega), if_neg (by omega)]; omega
theorem sizeS_len (n : Nat) (h : n < 2147483648) : (Lib.bitLen n + 7) / 7 = sizeS n := by
 unfold sizeS
 by_cases h1 : n < 64
 ·have := bitLen_7 (x := n) (by omega)
  rw [if_pos (by omega)]; omega
 ·by_cases h2 : n < 8192
  ·have := Lib.bitLen_shift 6 n (by omega) (by omega)
   have := bitLen_7 (x := n / 2 ^ 6) (by omega)
   rw [if_neg (by omega), if_pos (by omega)]; omega
  ·by_cases h3 : n < 1048576
   ·have := Lib.bitLen_shift 13 n (by omega) (by omega)
    have := bitLen_7 (x := n / 2 ^ 13) (by omega)
    rw [if_neg (by omega), if_neg (by omega), if_pos (by omega)]; omega
   ·by_cases h4 : n < 134217728
    ·have := Lib.bitLen_shift 20 n (by omega) (by omega)
     have := bitLen_7 (x := n / 2 ^ 20) (by omega)
     rw [if_neg (by omega), if_neg (by omega), if_neg (by omega), if_pos (by omega)]; omega
    ·have := Lib.bitLen_shift 27 n (by omega) (by omega)
     have := bitLen_7 (x := n / 2 ^ 27) (by omega)
     rw [if_neg (by omega), if_neg (by omega), if_neg (by omega), if_neg (by omega)]; omega
theorem sizeS_neg (n : Int) : sizeS (-n - 1) = sizeS n := by unfold sizeS; (repeat' split) <;> omega
theorem bitLen_le32 (n : Nat) (h : n < 4294967296) : Lib.bitLen n ≤ 35 := by
 by_cases h1 : n < 128
 ·have := bitLen_7 h1; omega
 ·by_cases h2 : n < 268435456
  ·by_cases h3 : n < 16384
   ·have := Lib.bitLen_shift 7 n (by omega) (by omega)
    have := bitLen_7 (x := n / 2 ^ 7) (by omega)
    omega
   ·by_cases h4 : n < 2097152
    ·have := Lib.bitLen_shift 14 n (by omega) (by omega)
     have := bitLen_7 (x := n / 2 ^ 14) (by omega)
     omega
    ·have := Lib.bitLen_shift 21 n (by omega) (by omega)
     have := bitLen_7 (x := n / 2 ^ 21) (by omega)
     omega
  ·have := Lib.bitLen_shift 28 n (by omega) (by omega)
   have := bitLen_7 (x := n / 2 ^ 28) (by omega)
   omega
theorem xor_m1 (n : Int) (h0 : -2147483648 ≤ n) (h1 : n < 2147483648) : bits .xor .i32 n (-1) = -n - 1 := by
 show IntKind.i32.wrap ((BitVec.ofInt 32 n ^^^ BitVec.ofInt 32 (-1)).toNat : Int) = _
 have h : BitVec.ofInt 32 (-1) = BitVec.allOnes 32 := by decide
 rw [h, BitVec.xor_allOnes, BitVec.toNat_not, BitVec.toNat_ofInt, IntKind.wrap_i32]
 omega
theorem xor_0 (n : Int) (h0 : -2147483648 ≤ n) (h1 : n < 2147483648) : bits .xor .i32 n 0 = n := by
 show IntKind.i32.wrap ((BitVec.ofInt 32 n ^^^ BitVec.ofInt 32 0).toNat : Int) = _
 have h : BitVec.ofInt 32 0 = 0#32 := by decide
 rw [h, BitVec.xor_zero, BitVec.toNat_ofInt, IntKind.wrap_i32]
 omega
set_option maxHeartbeats 400000 in
theorem sizeU_any (n : Int) (w : World) (h0 : 0 ≤ n) (h1 : n < 4294967296) : Calls Tryz.prog 200 #[.int .u32 n] w fun e w' => e = .returned (.int .i64 (sizeU n)) ∧ w = w' := by
 obtain ⟨m, rfl⟩ := Int.eq_ofNat_of_zero_le h0
 have HL := hid (sizeU_len m (by omega))
 have hb := bitLen_le32 m (by omega)
 go_enter Tryz.func200, Tryz.ntmps200
 go_wp2_with (go_at_call 215; refine (Tryz.bits_Len32 _ _ (by omega) (by omega)).mono ?_; rintro e w' ⟨rfl, rfl⟩)
 go_ret
 exact ⟨ret_int (by have := HL.out; omega), rfl⟩
theorem m0 : (max (0 : Int) (-3)).toNat = 0 := rfl
end Go.Proofs.YtepbjkkakfpjgaaGreatDoor.Leb
namespace Go.Proofs.YtepbjkkakfpjgaaGreatDoor.Leb
open Go.RowKit
theorem and127_64 {c : Int} (h0 : 0 ≤ c) (h1 : c < 2 ^ 64) : bits .and .u64 c 127 = c % 128 := bits_mask .u64 64 (by decide) (fun n h h' => by rw [IntKind.wrap_u64]; omega) 7 (by decide) c h0 h1
theorem or128 {c : Int} (h0 : 0 ≤ c) (h1 : c < 128) : bits .or .u8 c 128 = c + 128 := by
 have hh : ∀ n : Fin 128, bits .or .u8 (n.val : Int) 128 = (n.val : Int) + 128 := by decide +kernel
 obtain ⟨m, rfl⟩ := Int.eq_ofNat_of_zero_le h0
 exact hh ⟨m, by omega⟩
def U64 (u : Int) : Prop := 0 ≤ u ∧ u < 2 ^ 64
theorem U64.div {u : Int} (h : U64 u) : U64 (u / 128) := by unfold U64 at *; omega
theorem put_more {xs : List Int} {k s : Nat} {u u0 : Int} (hk : k + 1 < s) (h : xs ++ putL (s - k) u = putL s u0) :
  (xs ++ [u % 128 + 128]) ++ putL (s - (k + 1)) (u / 128) = putL s u0 := by
 obtain ⟨d, hd⟩ : ∃ d, s - k = d + 2 := ⟨s - k - 2, by omega⟩
 have : s - (k + 1) = d + 1 := by omega
 rw [hd, putL] at h
 rw [this, ← h]; simp
theorem put_last {xs : List Int} {k s : Nat} {u u0 : Int} (hk : k + 1 = s) (h : xs ++ putL (s - k) u = putL s u0) : xs ++ [u % 128] = putL s u0 := by
 have : s - k = 1 := by omega
 rw [this, putL] at h
 exact h
set_option maxRecDepth 100000 in
set_option maxHeartbeats 1600000 in
theorem put_any (u : Int) (s : Nat) (w : World) (hu : U64 u) (hs : 1 ≤ s) (hs9 : s ≤ 9) :
  Calls Tryz.prog 199 #[.int .u64 u, .int .i64 s] w (Gives w (putL s u)) := by
 obtain ⟨i0, hi, hz0, hz1, hz2⟩ := info_parts infoByte
 go_enter Tryz.func199, Tryz.ntmps199
 go_wp2_with (at_make; refine wpList_make_own _ rfl _ _ 35 rfl w.heap.size 5 i0 (.int .u8 0) 1 Tryz.underlying35 hi hz0 hz1 _ _ _ s rfl rfl (by omega) ?b2 ?b3 (Nat.le_refl _) ?_)
 case b2 => rw [hz2]; omega
 case b3 => unfold maxLen; omega
 intro w0 hown0 hgrow0
 go_wp2
 go_loopw [0, 5] (fun su out wr => ∃ (k : Nat) (U : Int) (xs : List Int), k < s ∧ xs.length = k ∧ U64 U ∧ su = .int .u64 U ∧ Own w.heap.size wr out xs ∧ (∃ a c, out = .slice a k c) ∧ xs ++ putL (s - k) U = putL s u ∧ Below w.heap.size w wr)
  (fun _ out _ => match out with | .slice _ n _ => s - n | _ => 0)
 case atStart => exact ⟨0, u, [], by omega, rfl, hu, rfl, hown0, ⟨_, _, rfl⟩, rfl, (Below.refl _ _).grown hgrow0 (Nat.le_refl _) (fun k h => by cases h)⟩
 case round =>
  obtain ⟨k, U, xs, hk, hx, hU, rfl, hown, ⟨a, c, rfl⟩, hp, hb⟩ := hrel
  have hm := and127_64 hU.1 hU.2
  have ho := or128 (c := U % 128) (by omega) (by omega)
  have hu0 := hU.1
  have HP := hid hp
  have HX := hid hx
  clear hp hx
  have hsz := hb.size
  by_cases hl : s ≤ k + 1
  ·have HF := hid (put_last (by omega) HP.out)
   clear HP
   go_wp2_with (first | (at_builtin; refine wpList_append_own _ rfl (.tmp 19) (.tmp 21) 35 rfl w.heap.size 5 i0 (.int .u8 0) 1 1 Tryz.underlying35 hi hz0 hz1 hz2 rfl (by decide) _ _ _ rfl (hown.alloc _) ⟨wr.heap.size, 0, none⟩ 1 1 [.int .u8 (U % 128)] rfl rfl ?c1 ?c2 ?c3 ?c4 ?c5 ?_))
   case c1 =>
    intro j v hj
    match j, hj with
    | 0, hj => simp at hj; subst hj; simp [Addr.add]
   case c2 => intro v hv; simp at hv; subst hv; rfl
   case c3 => have := HX.out; unfold maxLen; omega
   case c4 => have := HX.out; omega
   case c5 => simp; omega
   intro v' w1 hown' hgrow _
   go_wp2
   go_ret
   have hown1 := Own.of_snoc HX.out (by rw [HX.out] at hown'; exact hown')
   rw [HF.out] at hown1
   exact ⟨v', rfl, hown1, below_append hown hb _ hsz hgrow⟩
  ·have HF := hid (put_more (by omega) HP.out)
   clear HP
   go_wp2_with (first | (at_builtin; refine wpList_append_own _ rfl (.tmp 23) (.tmp 26) 35 rfl w.heap.size 5 i0 (.int .u8 0) 1 1 Tryz.underlying35 hi hz0 hz1 hz2 rfl (by decide) _ _ _ rfl (hown.alloc _) ⟨wr.heap.size, 0, none⟩ 1 1 [.int .u8 (U % 128 + 128)] rfl rfl ?d1 ?d2 ?d3 ?d4 ?d5 ?_))
   case d1 =>
    intro j v hj
    match j, hj with
    | 0, hj => simp at hj; subst hj; simp [Addr.add]
   case d2 => intro v hv; simp at hv; subst hv; rfl
   case d3 => have := HX.out; unfold maxLen; omega
   case d4 => have := HX.out; omega
   case d5 => simp; omega
   intro v' w1 hown' hgrow _
   go_wp2
   go_roundw
   case rel =>
    have hown1 := Own.of_snoc HX.out (by rw [HX.out] at hown'; exact hown')
    have hsl := hown1.slice
    have hlen : (xs ++ [U % 128 + 128]).length = k + 1 := by rw [List.length_append, HX.out]; rfl
    rw [hlen] at hsl
    exact ⟨k + 1, U / 128, xs ++ [U % 128 + 128], by omega, hlen, hU.div, rfl, hown1, hsl, HF.out, below_append hown hb _ hsz hgrow⟩
   case measure =>
    have hown1 := Own.of_snoc HX.out (by rw [HX.out] at hown'; exact hown')
    obtain ⟨a', c', h'⟩ := hown1.slice
    have hlen : (xs ++ [U % 128 + 128]).length = k + 1 := by rw [List.length_append, HX.out]; rfl
    rw [hlen] at h'
    rw [h']
    simp
    omega
set_option maxHeartbeats 400000 in
theorem putU_any (n : Int) (w : World) (h0 : 0 ≤ n) (h1 : n < 4294967296) : Calls Tryz.prog 175 #[.int .u32 n] w (Gives w (encU n)) := by
 have hs := sizeU_pos n
 have hu : U64 n := ⟨h0, by omega⟩
 go_enter Tryz.func175, Tryz.ntmps175
 go_wp2_with (go_at_call 200; refine (sizeU_any _ _ (by omega) (by omega)).mono ?_; rintro e w' ⟨rfl, rfl⟩)
 refine (put_any n (sizeU n) w hu (by omega) (by omega)).mono ?_
 rintro e w' ⟨v, rfl, ho, hb⟩
 go_wp2
 go_ret
 exact ⟨v, rfl, ho, hb⟩
end Go.Proofs.YtepbjkkakfpjgaaGreatDoor.Leb
namespace Go.Proofs.YtepbjkkakfpjgaaGreatDoor.Leb
open Go.RowKit
set_option maxHeartbeats 400000 in
theorem sizeS_any (n : Int) (w : World) (h0 : -2147483648 ≤ n) (h1 : n < 2147483648) : Calls Tryz.prog 245 #[.int .i32 n] w fun e w' => e = .returned (.int .i64 (sizeS n)) ∧ w = w' := by
 by_cases hs : 0 ≤ n
 ·obtain ⟨m, rfl⟩ := Int.eq_ofNat_of_zero_le hs
  have HL := hid (sizeS_len m (by omega))
  have hb := bitLen_le32 m (by omega)
  have hd : (m : Int) / 2147483648 = 0 := by omega
  have hx := xor_0 m (by omega) (by omega)
  go_enter Tryz.func245, Tryz.ntmps245
  go_wp2_with (go_at_call 215; refine (Tryz.bits_Len32 _ _ (by omega) (by omega)).mono ?_; rintro e w' ⟨rfl, rfl⟩)
  go_ret
  exact ⟨ret_int (by have := HL.out; omega), rfl⟩
 ·obtain ⟨m, hm⟩ := Int.eq_ofNat_of_zero_le (show 0 ≤ -n - 1 by omega)
  obtain rfl : n = -(m : Int) - 1 := by omega
  have HL := hid (sizeS_len m (by omega))
  have HN := hid (sizeS_neg m)
  have hb := bitLen_le32 m (by omega)
  have hd : (-(m : Int) - 1) / 2147483648 = -1 := by omega
  have hx : bits .xor .i32 (-(m : Int) - 1) (-1) = m := by rw [xor_m1 _ (by omega) (by omega)]; omega
  clear hm
  go_enter Tryz.func245, Tryz.ntmps245
  go_wp2_with (go_at_call 215; refine (Tryz.bits_Len32 _ _ (by omega) (by omega)).mono ?_; rintro e w' ⟨rfl, rfl⟩)
  go_ret
  exact ⟨ret_int (by rw [HN.out]; have := HL.out; omega), rfl⟩
end Go.Proofs.YtepbjkkakfpjgaaGreatDoor.Leb
namespace Go.Proofs.YtepbjkkakfpjgaaGreatDoor.Leb
open Go.RowKit
set_option maxHeartbeats 400000 in
theorem putS_any (n : Int) (w : World) (h0 : -2147483648 ≤ n) (h1 : n < 2147483648) : Calls Tryz.prog 240 #[.int .i32 n] w (Gives w (encS n)) := by
 have hs := sizeS_pos n
 have HW := hid (putL_wrap (sizeS n) (by omega) n)
 have hu : U64 (IntKind.u64.wrap n) := by rw [IntKind.wrap_u64]; exact ⟨by omega, by omega⟩
 go_enter Tryz.func240, Tryz.ntmps240
 go_wp2_with (go_at_call 245; refine (sizeS_any _ _ (by omega) (by omega)).mono ?_; rintro e w' ⟨rfl, rfl⟩)
 refine (put_any (IntKind.u64.wrap n) (sizeS n) w hu (by omega) (by omega)).mono ?_
 rintro e w' ⟨v, rfl, ho, hb⟩
 rw [IntKind.wrap_u64, HW.out] at ho
 go_wp2
 go_ret
 exact ⟨v, rfl, ho, hb⟩
end Go.Proofs.YtepbjkkakfpjgaaGreatDoor.Leb
namespace Go.Proofs.YtepbjkkakfpjgaaGreatDoor.Leb
open Go.RowKit
def Got (k : IntKind) (w : World) (r : Int × Int × Int × Int) (e : Ending) (w' : World) : Prop :=
 e = .returned (.tuple #[.int k r.1, .int .i64 r.2.1, .agg #[.int .i64 r.2.2.1, .int .i64 r.2.2.2]]) ∧ Below w.heap.size w w'
end Go.Proofs.YtepbjkkakfpjgaaGreatDoor.Leb
