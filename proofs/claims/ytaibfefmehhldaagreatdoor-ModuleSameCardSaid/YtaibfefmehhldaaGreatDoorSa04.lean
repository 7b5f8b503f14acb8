import Derived.Test.YtaibfefmehhldaaGreatDoorSa01
import Derived.Test.YtaibfefmehhldaaGreatDoorProg
import Derived.Lib.SmallJoins
import Derived.Deep.Strs
import Derived.Shelf.Unicode.Decode
import Derived.Shelf.Unicode.DecodeSlow
import Derived.Shelf.Unicode.DecodeAny
import Derived.Ground.SlgnProg
import Derived.Shelf.SlicesE.Clone
import Derived.Lib.OthersKept
import Derived.PinnedBridge
import Derived.Lib.LaidU8
import Derived.Lay
import Derived.Laws.AppendOwn
import Derived.Laws.AppendOwnNone
import Derived.Deep.AppendLies
import Derived.Laws.OwnMore
import Derived.WalkSmall
import Derived.Lib.BitFns
namespace Go.Proofs.YtaibfefmehhldaaGreatDoor.Instr
end Go.Proofs.YtaibfefmehhldaaGreatDoor.Instr
namespace Go.Proofs.YtaibfefmehhldaaGreatDoor.Leb
end Go.Proofs.YtaibfefmehhldaaGreatDoor.Leb
namespace Go.Proofs.YtaibfefmehhldaaGreatDoor.Kind
end Go.Proofs.YtaibfefmehhldaaGreatDoor.Kind
namespace Go.Proofs.YtaibfefmehhldaaGreatDoor.Mod
open Go.RowKit Go.ChangeShapes Go.WideShapes Go.ChangeAt Go.Joins Go.Deep Go.Proofs.YtaibfefmehhldaaGreatDoor.Instr

variable {H : Type} {enc : TypeId × Value → H} {W : World}
def Wok (T : TypeId) (d : DataW H) : Prop := ∀ q ∈ d.weights Tryz.prog T, q ≤ reachBytes

theorem exists_list {α : Type} {P : Nat → α → Prop} : ∀ n : Nat, (∀ i, i < n → ∃ a, P i a) → ∃ l : List α, l.length = n ∧ ∀ (i : Nat) (h : i < l.length), P i l[i]
  | 0, _ => ⟨[], rfl, fun i h => absurd h (Nat.not_lt_zero _)⟩
  | n + 1, h => by
    obtain ⟨l, hl, hp⟩ := exists_list n (fun i hi => h i (by omega))
    obtain ⟨a, ha⟩ := h n (by omega)
    refine ⟨l ++ [a], by simp [hl], fun i hi => ?_⟩
    by_cases hn : i < l.length
    · rw [List.getElem_append_left hn]; exact hp i hn
    · have : i = n := by simp at hi; omega
      subst this
      rw [List.getElem_append_right (by omega)]
      simpa [hl] using ha
theorem cells_get {w : World} {b o sz : Nat} {cs : List Value} (h : w.cells? 0 ⟨b, o, none⟩ sz = some cs) : cs.length = sz ∧ ∀ j v, cs[j]? = some v → w.cell? ⟨b, o + j, none⟩ = some v := by
  unfold World.cells? at h
  rw [if_pos (Nat.zero_le _)] at h
  have hl := mapM_some_length h
  refine ⟨by simpa using hl, fun j v hv => ?_⟩
  have hj : j < sz := by
    have := (List.getElem?_eq_some_iff.1 hv).1
    simp at hl; omega
  have := mapM_some_get h j j (by simp [hj])
  rw [plainAdd] at this
  rw [this, hv]
theorem cells_spot {w : World} {b o sz : Nat} {sp : Option Nat} {cs : List Value} (hs : 0 < sz) (h : w.cells? 0 ((⟨b, o, sp⟩ : Addr).add 0) sz = some cs) : sp = none := by
  unfold World.cells? at h
  rw [if_pos (Nat.zero_le _)] at h
  have hl := mapM_some_length h
  have hg := mapM_some_get h 0 0 (by simp [hs])
  have h0 : ∃ v, cs[0]? = some v := ⟨_, List.getElem?_eq_getElem (by simp at hl; omega)⟩
  obtain ⟨v, hv⟩ := h0
  rw [hv] at hg
  have hp := World.cell?_spot hg
  unfold Addr.add at hp
  (repeat' split at hp) <;> simp_all
/-- A slice of records of sz cells each. -/
theorem open_rows {α : Type} {T S : TypeId} {sz nb : Nat} (V : α → List Value) (Good : α → Prop) (hS : Tryz.prog.underlying S = some (.slice T)) (hc : Tryz.prog.cellsOf T = sz) (hs0 : 0 < sz) (hb : Tryz.prog.bytesOf T = nb) (hnb : 1 ≤ nb)
    (one : ∀ n cs x, DataW.trod enc Tryz.prog W 0 (fun _ => true) true n T cs = some x → Wok T x.1 → ∃ a : α, cs = V a ∧ Good a)
    {fuel : Nat} {cs : List Value} {x : DataW H × List MemPlace} (h : DataW.trod enc Tryz.prog W 0 (fun _ => true) true fuel S cs = some x) (hw : Wok S x.1) :
    ∃ (a : Option Addr) (c : Nat) (l : List α), cs = [.slice a l.length c] ∧ l.length ≤ c ∧ l.length ≤ 140737488351232 ∧ Rows W.heap.size W a sz (l.map V) ∧ ∀ y ∈ l, Good y := by
  rcases DataW.trod_slice hS h with ⟨rfl, _⟩ | ⟨a, len, cap, elems, rest, n, hfu, rfl, rfl, _, hlc, _, hlen, hel, _, _⟩
  · exact ⟨none, 0, [], rfl, by simp, by simp, .inl rfl, by simp⟩
  have hbound : (elems.length + rest.length) * nb ≤ reachBytes := by
    have : (elems.length + rest.length) * Tryz.prog.bytesOf T ≤ reachBytes := hw _ (by simp [DataW.weights, hS])
    rw [hb] at this; exact this
  have hbig : len ≤ 140737488351232 := by
    simp only [reachBytes] at hbound
    have : elems.length * 1 ≤ (elems.length + rest.length) * nb := Nat.mul_le_mul (by omega) hnb
    omega
  have hwe : ∀ (i : Nat) (y : DataW H × List MemPlace), elems[i]? = some y → Wok T y.1 := by
    intro i y hy m hm
    refine hw m ?_
    have h1 : (elems.map (·.1))[i]? = some y.1 := by simp [hy]
    have := weights_all h1 m hm
    simp only [DataW.weights, hS, List.mem_cons, List.mem_append]
    exact .inr (.inl this)
  obtain ⟨b, o, sp⟩ := a
  have hspot : 0 < len → sp = none := by
    intro hi
    have h1 := hel 0 hi
    rw [hc, List.getElem?_eq_getElem (by omega), Nat.zero_mul] at h1
    obtain ⟨cs', hcs, _⟩ := Option.bind_eq_some_iff.1 h1
    exact cells_spot hs0 hcs
  have each : ∀ i, i < len → ∃ y : α, (∀ j v, (V y)[j]? = some v → W.cell? ⟨b, o + i * sz + j, none⟩ = some v) ∧ Good y ∧ sp = none := by
    intro i hi
    have h1 := hel i hi
    rw [hc, List.getElem?_eq_getElem (by omega)] at h1
    obtain ⟨cs', hcs, ht⟩ := Option.bind_eq_some_iff.1 h1
    have hsp := hspot (by omega)
    subst hsp
    rw [plainAdd] at hcs
    obtain ⟨y, rfl, hg⟩ := one n cs' _ ht (hwe i _ (List.getElem?_eq_getElem (by omega)))
    exact ⟨y, (cells_get hcs).2, hg, rfl⟩
  obtain ⟨l, hl, hp⟩ := exists_list len each
  refine ⟨some ⟨b, o, sp⟩, cap, l, by rw [hl], by omega, by omega, ?_, fun y hy => ?_⟩
  · by_cases h0 : len = 0
    · left
      have : l = [] := List.eq_nil_of_length_eq_zero (by omega)
      rw [this]; rfl
    · obtain ⟨hc0, _, rfl⟩ := hp 0 (by omega)
      obtain ⟨cs', hcs, _⟩ := Option.bind_eq_some_iff.1 (show _ = some (elems[0]'(by omega)) by rw [hel 0 (by omega)]; exact List.getElem?_eq_getElem _)
      rw [hc, plainAdd] at hcs
      obtain ⟨hl0, hg0⟩ := cells_get hcs
      have hv0 : ∃ v, cs'[0]? = some v := ⟨_, List.getElem?_eq_getElem (by omega)⟩
      obtain ⟨v0, hv0⟩ := hv0
      refine .inr ⟨b, o, rfl, World.block_lt_of_cell? W _ (hg0 0 v0 hv0), fun i hi j _ v hv => ?_⟩
      simp only [List.length_map] at hi
      refine (hp i hi).1 j v ?_
      rw [List.getD_eq_getElem?_getD, List.getElem?_map, List.getElem?_eq_getElem hi] at hv
      exact hv
  · obtain ⟨i, hi, rfl⟩ := List.mem_iff_getElem.1 hy
    exact (hp i hi).2.1

set_option maxRecDepth 100000 in
theorem rd2 {T : TypeId} {f0 f1 : Field} {n : Nat} {cs : List Value} {x : DataW H × List MemPlace} (hs : Tryz.prog.underlying T = some (.struct #[f0, f1])) (hone : oneCellFields Tryz.prog #[f0, f1] = true) (hC : Tryz.prog.cellsOf T = 2)
    (h : DataW.trod enc Tryz.prog W 0 (fun _ => true) true n T cs = some x) (hw : Wok T x.1) : ∃ v0 v1 y0 y1 m, cs = [v0, v1] ∧ DataW.trod enc Tryz.prog W 0 (fun _ => true) true m f0.type [v0] = some y0 ∧ DataW.trod enc Tryz.prog W 0 (fun _ => true) true m f1.type [v1] = some y1 ∧ Wok f0.type y0.1 ∧ Wok f1.type y1.1 := by
  obtain ⟨y0, y1, m, rfl, hl, h0, h1⟩ := trod_struct2 hs h
  obtain ⟨o0, k0⟩ := hone_of hone 0 f0 rfl
  obtain ⟨o1, k1⟩ := hone_of hone 1 f1 rfl
  rw [hC] at hl
  match cs, hl with
  | [v0, v1], _ =>
    refine ⟨v0, v1, y0, y1, m, rfl, by simpa [o0, k0] using h0, by simpa [o1, k1] using h1, fun q hq => hw q ?_, fun q hq => hw q ?_⟩
    · simp only [DataW.weights, hs]; exact DataW.weights_mem_each (j := 0) rfl rfl q hq
    · simp only [DataW.weights, hs]; exact DataW.weights_mem_each (j := 1) rfl rfl q hq
set_option maxRecDepth 100000 in
theorem rd3 {T : TypeId} {f0 f1 f2 : Field} {n : Nat} {cs : List Value} {x : DataW H × List MemPlace} (hs : Tryz.prog.underlying T = some (.struct #[f0, f1, f2])) (hone : oneCellFields Tryz.prog #[f0, f1, f2] = true) (hC : Tryz.prog.cellsOf T = 3)
    (h : DataW.trod enc Tryz.prog W 0 (fun _ => true) true n T cs = some x) (hw : Wok T x.1) : ∃ v0 v1 v2 y0 y1 y2 m, cs = [v0, v1, v2] ∧ DataW.trod enc Tryz.prog W 0 (fun _ => true) true m f0.type [v0] = some y0 ∧ DataW.trod enc Tryz.prog W 0 (fun _ => true) true m f1.type [v1] = some y1 ∧
      DataW.trod enc Tryz.prog W 0 (fun _ => true) true m f2.type [v2] = some y2 ∧ Wok f0.type y0.1 ∧ Wok f1.type y1.1 ∧ Wok f2.type y2.1 := by
  obtain ⟨y0, y1, y2, m, rfl, hl, h0, h1, h2⟩ := trod_struct3 hs h
  obtain ⟨o0, k0⟩ := hone_of hone 0 f0 rfl
  obtain ⟨o1, k1⟩ := hone_of hone 1 f1 rfl
  obtain ⟨o2, k2⟩ := hone_of hone 2 f2 rfl
  rw [hC] at hl
  match cs, hl with
  | [v0, v1, v2], _ =>
    refine ⟨v0, v1, v2, y0, y1, y2, m, rfl, by simpa [o0, k0] using h0, by simpa [o1, k1] using h1, by simpa [o2, k2] using h2, fun q hq => hw q ?_, fun q hq => hw q ?_, fun q hq => hw q ?_⟩
    · simp only [DataW.weights, hs]; exact DataW.weights_mem_each (j := 0) rfl rfl q hq
    · simp only [DataW.weights, hs]; exact DataW.weights_mem_each (j := 1) rfl rfl q hq
    · simp only [DataW.weights, hs]; exact DataW.weights_mem_each (j := 2) rfl rfl q hq
theorem rd_lst {n : Nat} {v : Value} {x : DataW H × List MemPlace} (h : DataW.trod enc Tryz.prog W 0 (fun _ => true) true n 39 [v] = some x) (hw : Wok 39 x.1) : ∃ l : Lst, v = l.val ∧ ListAt W.heap.size W l.a l.t.len l.t ∧ l.t.len ≤ 140737488351232 := by
  obtain ⟨a, len, c, t, e, _, h2, h3⟩ := open_il n _ _ h hw
  simp only [List.cons.injEq, and_true] at e
  subst e
  have hl := h3.1
  subst hl
  exact ⟨⟨a, c, t⟩, rfl, h3, h2⟩
theorem rd_str {n : Nat} {v : Value} {x : DataW H × List MemPlace} (h : DataW.trod enc Tryz.prog W 0 (fun _ => true) true n 9 [v] = some x) (hw : Wok 9 x.1) : ∃ s : ByteArray, v = .string s ∧ s.size ≤ 140737488351232 := by
  obtain ⟨s, e, rfl, _⟩ := DataW.trod_string Tryz.underlying9 h
  simp only [List.cons.injEq, and_true] at e
  refine ⟨s, e, ?_⟩
  have := hw s.size (by simp [DataW.weights])
  simpa [reachBytes] using this
theorem one_ty {n : Nat} {cs : List Value} {x : DataW H × List MemPlace} (h : DataW.trod enc Tryz.prog W 0 (fun _ => true) true n 59 cs = some x) (hw : Wok 59 x.1) : ∃ a : Int × Int, cs = tyV a ∧ True := by
  obtain ⟨v0, v1, y0, y1, m, rfl, h0, h1, _, _⟩ := rd2 Tryz.underlying59 (by kernel_rfl) (by kernel_rfl) h hw
  obtain ⟨n0, e0, -, _⟩ := DataW.trod_int Tryz.underlying3 h0
  obtain ⟨n1, e1, -, _⟩ := DataW.trod_int Tryz.underlying3 h1
  simp only [List.cons.injEq, and_true] at e0 e1
  subst e0 e1
  exact ⟨(n0, n1), rfl, trivial⟩
theorem one_im {n : Nat} {cs : List Value} {x : DataW H × List MemPlace} (h : DataW.trod enc Tryz.prog W 0 (fun _ => true) true n 53 cs = some x) (hw : Wok 53 x.1) : ∃ a : Imp, cs = a.v ∧ a.mo.size ≤ 140737488351232 ∧ a.na.size ≤ 140737488351232 := by
  obtain ⟨v0, v1, v2, y0, y1, y2, m, rfl, h0, h1, h2, w0, w1, _⟩ := rd3 Tryz.underlying53 (by kernel_rfl) (by kernel_rfl) h hw
  obtain ⟨s0, rfl, b0⟩ := rd_str h0 w0
  obtain ⟨s1, rfl, b1⟩ := rd_str h1 w1
  obtain ⟨n2, e2, -, _⟩ := DataW.trod_int Tryz.underlying3 h2
  simp only [List.cons.injEq, and_true] at e2
  subst e2
  exact ⟨⟨s0, s1, n2⟩, rfl, b0, b1⟩
theorem one_li {n : Nat} {cs : List Value} {x : DataW H × List MemPlace} (h : DataW.trod enc Tryz.prog W 0 (fun _ => true) true n 68 cs = some x) (hw : Wok 68 x.1) : ∃ a : Li, cs = a.v ∧ 0 ≤ a.n := by
  obtain ⟨v0, v1, v2, y0, y1, y2, m, rfl, h0, h1, h2, _, _, _⟩ := rd3 Tryz.underlying68 (by kernel_rfl) (by kernel_rfl) h hw
  obtain ⟨n0, e0, -, wf0⟩ := DataW.trod_int Tryz.underlying28 h0
  obtain ⟨n1, e1, -, _⟩ := DataW.trod_int Tryz.underlying28 h1
  obtain ⟨n2, e2, -⟩ := DataW.trod_bool Tryz.underlying4 h2
  simp only [List.cons.injEq, and_true] at e0 e1 e2
  subst e0 e1 e2
  exact ⟨⟨n0, n1, n2⟩, rfl, (bounds_u32 wf0).1⟩
theorem one_ex {n : Nat} {cs : List Value} {x : DataW H × List MemPlace} (h : DataW.trod enc Tryz.prog W 0 (fun _ => true) true n 55 cs = some x) (hw : Wok 55 x.1) : ∃ a : Ex, cs = a.v ∧ a.na.size ≤ 140737488351232 ∧ 0 ≤ a.i ∧ a.i < 4294967296 := by
  obtain ⟨v0, v1, v2, y0, y1, y2, m, rfl, h0, h1, h2, w0, _, _⟩ := rd3 Tryz.underlying55 (by kernel_rfl) (by kernel_rfl) h hw
  obtain ⟨s0, rfl, b0⟩ := rd_str h0 w0
  obtain ⟨n1, e1, -, _⟩ := DataW.trod_int Tryz.underlying3 h1
  obtain ⟨n2, e2, -, wf2⟩ := DataW.trod_int Tryz.underlying28 h2
  simp only [List.cons.injEq, and_true] at e1 e2
  subst e1 e2
  have hb := bounds_u32 wf2
  exact ⟨⟨s0, n1, n2⟩, rfl, b0, hb.1, by have := hb.2; show n2 < _; omega⟩
/-- A list of instructions lies where it is said to. -/
def LGood (W : World) (l : Lst) : Prop := ListAt W.heap.size W l.a l.t.len l.t ∧ l.t.len ≤ 140737488351232
theorem one_gl {n : Nat} {cs : List Value} {x : DataW H × List MemPlace} (h : DataW.trod enc Tryz.prog W 0 (fun _ => true) true n 45 cs = some x) (hw : Wok 45 x.1) : ∃ a : Gl, cs = a.v ∧ LGood W a.l := by
  obtain ⟨v0, v1, y0, y1, m, rfl, h0, h1, _, w1⟩ := rd2 Tryz.underlying45 (by kernel_rfl) (by kernel_rfl) h hw
  obtain ⟨n0, e0, -⟩ := DataW.trod_bool Tryz.underlying4 h0
  obtain ⟨l, rfl, hl⟩ := rd_lst h1 w1
  simp only [List.cons.injEq, and_true] at e0
  subst e0
  exact ⟨⟨n0, l⟩, rfl, hl⟩
theorem open_u32s {n : Nat} {v : Value} {x : DataW H × List MemPlace} (h : DataW.trod enc Tryz.prog W 0 (fun _ => true) true n 46 [v] = some x) (hw : Wok 46 x.1) : ∃ a c zs, v = .slice a zs.length c ∧ TagsAt W.heap.size W a zs ∧ zs.length ≤ 140737488351232 ∧ ∀ z ∈ zs, 0 ≤ z ∧ z < 4294967296 := by
  obtain ⟨a, c, zs, e1, _, hz, hr, hg⟩ := open_rows (sz := 1) (nb := 4) (α := { z : Int // 0 ≤ z ∧ z < 4294967296 }) (fun z => [.int .u32 z.1]) (fun _ => True) Tryz.underlying46 (by kernel_rfl) (by omega) (by kernel_rfl : Tryz.prog.bytesOf 28 = 4) (by omega)
    (fun n cs x h _ => by
      obtain ⟨z, e, -, wf⟩ := DataW.trod_int Tryz.underlying28 h
      have := bounds_u32 wf
      exact ⟨⟨z, by omega, by omega⟩, e, trivial⟩) h hw
  simp only [List.cons.injEq, and_true] at e1
  subst e1
  refine ⟨a, c, zs.map (·.1), by simp, ?_, by simpa using hz, fun z hm => ?_⟩
  · rcases hr with h | ⟨b, off, ha, hb, hcell⟩
    · left
      rw [List.map_eq_nil_iff] at h
      subst h; rfl
    · refine .inr ⟨b, off, ha, hb, fun i hi => ?_⟩
      have hi' : i < zs.length := by simpa using hi
      have := hcell i (by simpa using hi') 0 (by omega) (.int .u32 zs[i].1) (by simp [hi'])
      rw [Nat.mul_one, Nat.add_zero] at this
      rw [this]
      simp [hi']
  · obtain ⟨y, _, rfl⟩ := List.mem_map.1 hm
    exact y.2
theorem one_el {n : Nat} {cs : List Value} {x : DataW H × List MemPlace} (h : DataW.trod enc Tryz.prog W 0 (fun _ => true) true n 48 cs = some x) (hw : Wok 48 x.1) : ∃ a : El, cs = a.v ∧ LGood W a.l ∧ TagsAt W.heap.size W a.fa a.fs ∧ a.fs.length ≤ 140737488351232 ∧ ∀ z ∈ a.fs, 0 ≤ z ∧ z < 4294967296 := by
  obtain ⟨v0, v1, y0, y1, m, rfl, h0, h1, w0, w1⟩ := rd2 Tryz.underlying48 (by kernel_rfl) (by kernel_rfl) h hw
  obtain ⟨l, rfl, hl⟩ := rd_lst h0 w0
  obtain ⟨a, c, zs, rfl, ht, hz, hr⟩ := open_u32s h1 w1
  exact ⟨⟨l, a, c, zs⟩, rfl, hl, ht, hz, hr⟩
theorem one_da {n : Nat} {cs : List Value} {x : DataW H × List MemPlace} (h : DataW.trod enc Tryz.prog W 0 (fun _ => true) true n 51 cs = some x) (hw : Wok 51 x.1) : ∃ a : Da, cs = a.v ∧ LGood W a.l ∧ BytesAt W.heap.size W a.ba a.bs ∧ a.bs.length ≤ 140737488351232 ∧ ∀ z ∈ a.bs, 0 ≤ z ∧ z < 256 := by
  obtain ⟨v0, v1, y0, y1, m, rfl, h0, h1, w0, w1⟩ := rd2 Tryz.underlying51 (by kernel_rfl) (by kernel_rfl) h hw
  obtain ⟨l, rfl, hl⟩ := rd_lst h0 w0
  obtain ⟨a, c, zs, e1, _, hz, hr, hg⟩ := open_rows (sz := 1) (nb := 1) (α := { z : Int // 0 ≤ z ∧ z < 256 }) (fun z => [.int .u8 z.1]) (fun _ => True) Tryz.underlying49 (by kernel_rfl) (by omega) (by kernel_rfl : Tryz.prog.bytesOf 5 = 1) (by omega)
    (fun n cs x h _ => by
      obtain ⟨z, e, -, wf⟩ := DataW.trod_int Tryz.underlying5 h
      have := bounds_u8 wf
      exact ⟨⟨z, by omega, by omega⟩, e, trivial⟩) h1 w1
  simp only [List.cons.injEq, and_true] at e1
  subst e1
  refine ⟨⟨l, a, c, zs.map (·.1)⟩, by simp [Da.v], hl, ?_, by simpa using hz, fun z hm => ?_⟩
  · rcases hr with h | ⟨b, off, ha, hb, hcell⟩
    · left
      rw [List.map_eq_nil_iff] at h
      subst h; rfl
    · refine .inr ⟨b, off, ha, hb, fun i hi => ?_⟩
      have hi' : i < zs.length := by simpa using hi
      have := hcell i (by simpa using hi') 0 (by omega) (.int .u8 zs[i].1) (by simp [hi'])
      rw [Nat.mul_one, Nat.add_zero] at this
      rw [this]
      simp [hi']
  · obtain ⟨y, _, rfl⟩ := List.mem_map.1 hm
    exact y.2
set_option maxRecDepth 100000 in
theorem one_fu {n : Nat} {cs : List Value} {x : DataW H × List MemPlace} (h : DataW.trod enc Tryz.prog W 0 (fun _ => true) true n 43 cs = some x) (hw : Wok 43 x.1) : ∃ a : Fn, cs = a.v ∧ LGood W a.l := by
  obtain ⟨y0, y1, m, rfl, hl, h0, h1⟩ := trod_struct2 Tryz.underlying43 h
  have w1 : Wok 41 y1.1 := fun q hq => hw q (by simp only [DataW.weights, Tryz.underlying43]; exact DataW.weights_mem_each (j := 1) rfl rfl q hq)
  rw [show Tryz.prog.cellsOf 43 = 3 by kernel_rfl] at hl
  match cs, hl with
  | [v0, v1, v2], _ =>
    have h0' : DataW.trod enc Tryz.prog W 0 (fun _ => true) true m 3 [v0] = some y0 := by
      have := h0
      dsimp only at this
      rw [show Tryz.prog.cellsOf 3 = 1 by kernel_rfl] at this
      exact this
    have h1' : DataW.trod enc Tryz.prog W 0 (fun _ => true) true m 41 [v1, v2] = some y1 := by
      have := h1
      dsimp only at this
      rw [show Tryz.prog.cellsOf 41 = 2 by kernel_rfl] at this
      exact this
    obtain ⟨u0, u1, z0, z1, m', e, k0, k1, _, w2⟩ := rd2 Tryz.underlying41 (by kernel_rfl) (by kernel_rfl) h1' w1
    simp only [List.cons.injEq, and_true] at e
    obtain ⟨rfl, rfl⟩ := e
    obtain ⟨n0, e0, -, _⟩ := DataW.trod_int Tryz.underlying3 h0'
    obtain ⟨n1, e1, -, _⟩ := DataW.trod_int Tryz.underlying3 k0
    obtain ⟨l, rfl, hg⟩ := rd_lst k1 w2
    simp only [List.cons.injEq, and_true] at e0 e1
    subst e0 e1
    exact ⟨⟨n0, n1, l⟩, rfl, hg⟩
end Go.Proofs.YtaibfefmehhldaaGreatDoor.Mod

namespace Go.Proofs.YtaibfefmehhldaaGreatDoor.Mod
open Go.RowKit Go.ChangeShapes Go.WideShapes Go.ChangeAt Go.Joins Go.Deep Go.Proofs.YtaibfefmehhldaaGreatDoor.Instr

variable {H : Type} {enc : TypeId × Value → H} {W : World}
theorem honeM : oneCellFields Tryz.prog (Tryz.prog.fieldsOf 32) = true := by kernel_rfl
/-- Numbers as large as their types let them be. -/
structure Md.ranged (m : Md) : Prop where
  n0 : ∀ l ∈ m.tb ++ m.me, 0 ≤ l.n
  ei : ∀ e ∈ m.ex, 0 ≤ e.i ∧ e.i < 4294967296
  ef : ∀ e ∈ m.el, ∀ z ∈ e.fs, 0 ≤ z ∧ z < 4294967296
  db : ∀ d ∈ m.da, ∀ z ∈ d.bs, 0 ≤ z ∧ z < 256
  sn : 0 ≤ m.sn ∧ m.sn < 4294967296
set_option maxRecDepth 100000 in
set_option maxHeartbeats 2000000 in
theorem open_moduleR {ts : List TypeId} {ds : List (DataW H)} {base : Nat} {v : Value} {d : DataW H} {p : List MemPlace}
    (hsz : (DataW.weightsEach Tryz.prog ts ds).all (· ≤ reachBytes) = true) (j : Nat) (ht : ts[j]? = some 32) (hd : ds[j]? = some d)
    (hv : Value.okWide Tryz.prog W .any base 32 v) (h : DataW.Trod enc Tryz.prog W 0 (fun _ => true) true 32 v d p) :
    ∃ m : Md, v = .agg m.v ∧ ModAt W.heap.size W m ∧ m.fits ∧ m.caps ∧ m.ranged := by
  obtain ⟨cs, rfl, hcs⟩ := okWide_struct Tryz.underlying32 hv
  rw [show Tryz.prog.cellsOf 32 = 11 by kernel_rfl] at hcs
  obtain ⟨fuel, hf⟩ := h
  obtain ⟨xs, n, _, hx, _, hlen, hff⟩ := DataW.trod_struct Tryz.underlying32 hf
  have hone := hone_of (show oneCellFields Tryz.prog _ = true from honeM)
  obtain ⟨l⟩ := cs
  have hl : l.length = 11 := by simpa using hcs
  have hwd : Wok 32 d := fun q hq => by
    have := List.all_eq_true.1 hsz _ (DataW.weights_mem_each ht hd q hq)
    simpa using this
  simp only [Prod.mk.injEq] at hx
  obtain ⟨rfl, _⟩ := hx
  match l, hl, xs, hlen with
  | [v0, v1, v2, v3, v4, v5, v6, v7, v8, v9, v10], _, [y0, y1, y2, y3, y4, y5, y6, y7, y8, y9, y10], _ =>
    have w0 : Wok 22 y0.1 := fun q hq => hwd q (by simp only [DataW.weights, Tryz.underlying32]; exact DataW.weights_mem_each (j := 0) rfl rfl q hq)
    have f0 : DataW.trod enc Tryz.prog W 0 (fun _ => true) true n 22 [v0] = some y0 := by
      have h : DataW.trod enc Tryz.prog W 0 (fun _ => true) true n 22 (((Value.agg #[v0, v1, v2, v3, v4, v5, v6, v7, v8, v9, v10]).cells.toList.drop 0).take (Tryz.prog.cellsOf 22)) = [y0, y1, y2, y3, y4, y5, y6, y7, y8, y9, y10][0]? := hff 0 _ rfl
      rw [show Tryz.prog.cellsOf 22 = 1 by kernel_rfl] at h
      exact h
    have w1 : Wok 23 y1.1 := fun q hq => hwd q (by simp only [DataW.weights, Tryz.underlying32]; exact DataW.weights_mem_each (j := 1) rfl rfl q hq)
    have f1 : DataW.trod enc Tryz.prog W 0 (fun _ => true) true n 23 [v1] = some y1 := by
      have h : DataW.trod enc Tryz.prog W 0 (fun _ => true) true n 23 (((Value.agg #[v0, v1, v2, v3, v4, v5, v6, v7, v8, v9, v10]).cells.toList.drop 1).take (Tryz.prog.cellsOf 23)) = [y0, y1, y2, y3, y4, y5, y6, y7, y8, y9, y10][1]? := hff 1 _ rfl
      rw [show Tryz.prog.cellsOf 23 = 1 by kernel_rfl] at h
      exact h
    have w2 : Wok 24 y2.1 := fun q hq => hwd q (by simp only [DataW.weights, Tryz.underlying32]; exact DataW.weights_mem_each (j := 2) rfl rfl q hq)
    have f2 : DataW.trod enc Tryz.prog W 0 (fun _ => true) true n 24 [v2] = some y2 := by
      have h : DataW.trod enc Tryz.prog W 0 (fun _ => true) true n 24 (((Value.agg #[v0, v1, v2, v3, v4, v5, v6, v7, v8, v9, v10]).cells.toList.drop 2).take (Tryz.prog.cellsOf 24)) = [y0, y1, y2, y3, y4, y5, y6, y7, y8, y9, y10][2]? := hff 2 _ rfl
      rw [show Tryz.prog.cellsOf 24 = 1 by kernel_rfl] at h
      exact h
    have w3 : Wok 25 y3.1 := fun q hq => hwd q (by simp only [DataW.weights, Tryz.underlying32]; exact DataW.weights_mem_each (j := 3) rfl rfl q hq)
    have f3 : DataW.trod enc Tryz.prog W 0 (fun _ => true) true n 25 [v3] = some y3 := by
      have h : DataW.trod enc Tryz.prog W 0 (fun _ => true) true n 25 (((Value.agg #[v0, v1, v2, v3, v4, v5, v6, v7, v8, v9, v10]).cells.toList.drop 3).take (Tryz.prog.cellsOf 25)) = [y0, y1, y2, y3, y4, y5, y6, y7, y8, y9, y10][3]? := hff 3 _ rfl
      rw [show Tryz.prog.cellsOf 25 = 1 by kernel_rfl] at h
      exact h
    have w4 : Wok 25 y4.1 := fun q hq => hwd q (by simp only [DataW.weights, Tryz.underlying32]; exact DataW.weights_mem_each (j := 4) rfl rfl q hq)
    have f4 : DataW.trod enc Tryz.prog W 0 (fun _ => true) true n 25 [v4] = some y4 := by
      have h : DataW.trod enc Tryz.prog W 0 (fun _ => true) true n 25 (((Value.agg #[v0, v1, v2, v3, v4, v5, v6, v7, v8, v9, v10]).cells.toList.drop 4).take (Tryz.prog.cellsOf 25)) = [y0, y1, y2, y3, y4, y5, y6, y7, y8, y9, y10][4]? := hff 4 _ rfl
      rw [show Tryz.prog.cellsOf 25 = 1 by kernel_rfl] at h
      exact h
    have w5 : Wok 26 y5.1 := fun q hq => hwd q (by simp only [DataW.weights, Tryz.underlying32]; exact DataW.weights_mem_each (j := 5) rfl rfl q hq)
    have f5 : DataW.trod enc Tryz.prog W 0 (fun _ => true) true n 26 [v5] = some y5 := by
      have h : DataW.trod enc Tryz.prog W 0 (fun _ => true) true n 26 (((Value.agg #[v0, v1, v2, v3, v4, v5, v6, v7, v8, v9, v10]).cells.toList.drop 5).take (Tryz.prog.cellsOf 26)) = [y0, y1, y2, y3, y4, y5, y6, y7, y8, y9, y10][5]? := hff 5 _ rfl
      rw [show Tryz.prog.cellsOf 26 = 1 by kernel_rfl] at h
      exact h
    have w6 : Wok 27 y6.1 := fun q hq => hwd q (by simp only [DataW.weights, Tryz.underlying32]; exact DataW.weights_mem_each (j := 6) rfl rfl q hq)
    have f6 : DataW.trod enc Tryz.prog W 0 (fun _ => true) true n 27 [v6] = some y6 := by
      have h : DataW.trod enc Tryz.prog W 0 (fun _ => true) true n 27 (((Value.agg #[v0, v1, v2, v3, v4, v5, v6, v7, v8, v9, v10]).cells.toList.drop 6).take (Tryz.prog.cellsOf 27)) = [y0, y1, y2, y3, y4, y5, y6, y7, y8, y9, y10][6]? := hff 6 _ rfl
      rw [show Tryz.prog.cellsOf 27 = 1 by kernel_rfl] at h
      exact h
    have w7 : Wok 4 y7.1 := fun q hq => hwd q (by simp only [DataW.weights, Tryz.underlying32]; exact DataW.weights_mem_each (j := 7) rfl rfl q hq)
    have f7 : DataW.trod enc Tryz.prog W 0 (fun _ => true) true n 4 [v7] = some y7 := by
      have h : DataW.trod enc Tryz.prog W 0 (fun _ => true) true n 4 (((Value.agg #[v0, v1, v2, v3, v4, v5, v6, v7, v8, v9, v10]).cells.toList.drop 7).take (Tryz.prog.cellsOf 4)) = [y0, y1, y2, y3, y4, y5, y6, y7, y8, y9, y10][7]? := hff 7 _ rfl
      rw [show Tryz.prog.cellsOf 4 = 1 by kernel_rfl] at h
      exact h
    have w8 : Wok 28 y8.1 := fun q hq => hwd q (by simp only [DataW.weights, Tryz.underlying32]; exact DataW.weights_mem_each (j := 8) rfl rfl q hq)
    have f8 : DataW.trod enc Tryz.prog W 0 (fun _ => true) true n 28 [v8] = some y8 := by
      have h : DataW.trod enc Tryz.prog W 0 (fun _ => true) true n 28 (((Value.agg #[v0, v1, v2, v3, v4, v5, v6, v7, v8, v9, v10]).cells.toList.drop 8).take (Tryz.prog.cellsOf 28)) = [y0, y1, y2, y3, y4, y5, y6, y7, y8, y9, y10][8]? := hff 8 _ rfl
      rw [show Tryz.prog.cellsOf 28 = 1 by kernel_rfl] at h
      exact h
    have w9 : Wok 29 y9.1 := fun q hq => hwd q (by simp only [DataW.weights, Tryz.underlying32]; exact DataW.weights_mem_each (j := 9) rfl rfl q hq)
    have f9 : DataW.trod enc Tryz.prog W 0 (fun _ => true) true n 29 [v9] = some y9 := by
      have h : DataW.trod enc Tryz.prog W 0 (fun _ => true) true n 29 (((Value.agg #[v0, v1, v2, v3, v4, v5, v6, v7, v8, v9, v10]).cells.toList.drop 9).take (Tryz.prog.cellsOf 29)) = [y0, y1, y2, y3, y4, y5, y6, y7, y8, y9, y10][9]? := hff 9 _ rfl
      rw [show Tryz.prog.cellsOf 29 = 1 by kernel_rfl] at h
      exact h
    have w10 : Wok 30 y10.1 := fun q hq => hwd q (by simp only [DataW.weights, Tryz.underlying32]; exact DataW.weights_mem_each (j := 10) rfl rfl q hq)
    have f10 : DataW.trod enc Tryz.prog W 0 (fun _ => true) true n 30 [v10] = some y10 := by
      have h : DataW.trod enc Tryz.prog W 0 (fun _ => true) true n 30 (((Value.agg #[v0, v1, v2, v3, v4, v5, v6, v7, v8, v9, v10]).cells.toList.drop 10).take (Tryz.prog.cellsOf 30)) = [y0, y1, y2, y3, y4, y5, y6, y7, y8, y9, y10][10]? := hff 10 _ rfl
      rw [show Tryz.prog.cellsOf 30 = 1 by kernel_rfl] at h
      exact h
    obtain ⟨a0, c0, l0, e0, k0, b0, r0, g0⟩ := open_rows (sz := 2) tyV _ Tryz.underlying22 (by kernel_rfl) (by omega) rfl (of_decide_eq_true (by kernel_rfl)) (fun _ _ _ h hw => one_ty h hw) f0 w0
    obtain ⟨a1, c1, l1, e1, k1, b1, r1, g1⟩ := open_rows (sz := 3) Imp.v _ Tryz.underlying23 (by kernel_rfl) (by omega) rfl (of_decide_eq_true (by kernel_rfl)) (fun _ _ _ h hw => one_im h hw) f1 w1
    obtain ⟨a2, c2, l2, e2, k2, b2, r2, g2⟩ := open_rows (sz := 3) Fn.v _ Tryz.underlying24 (by kernel_rfl) (by omega) rfl (of_decide_eq_true (by kernel_rfl)) (fun _ _ _ h hw => one_fu h hw) f2 w2
    obtain ⟨a3, c3, l3, e3, k3, b3, r3, g3⟩ := open_rows (sz := 3) Li.v _ Tryz.underlying25 (by kernel_rfl) (by omega) rfl (of_decide_eq_true (by kernel_rfl)) (fun _ _ _ h hw => one_li h hw) f3 w3
    obtain ⟨a4, c4, l4, e4, k4, b4, r4, g4⟩ := open_rows (sz := 3) Li.v _ Tryz.underlying25 (by kernel_rfl) (by omega) rfl (of_decide_eq_true (by kernel_rfl)) (fun _ _ _ h hw => one_li h hw) f4 w4
    obtain ⟨a5, c5, l5, e5, k5, b5, r5, g5⟩ := open_rows (sz := 2) Gl.v _ Tryz.underlying26 (by kernel_rfl) (by omega) rfl (of_decide_eq_true (by kernel_rfl)) (fun _ _ _ h hw => one_gl h hw) f5 w5
    obtain ⟨a6, c6, l6, e6, k6, b6, r6, g6⟩ := open_rows (sz := 3) Ex.v _ Tryz.underlying27 (by kernel_rfl) (by omega) rfl (of_decide_eq_true (by kernel_rfl)) (fun _ _ _ h hw => one_ex h hw) f6 w6
    obtain ⟨z7, e7, -⟩ := DataW.trod_bool Tryz.underlying4 f7
    obtain ⟨z8, e8, -, wf8⟩ := DataW.trod_int Tryz.underlying28 f8
    obtain ⟨a9, c9, l9, e9, k9, b9, r9, g9⟩ := open_rows (sz := 2) El.v _ Tryz.underlying29 (by kernel_rfl) (by omega) rfl (of_decide_eq_true (by kernel_rfl)) (fun _ _ _ h hw => one_el h hw) f9 w9
    obtain ⟨a10, c10, l10, e10, k10, b10, r10, g10⟩ := open_rows (sz := 2) Da.v _ Tryz.underlying30 (by kernel_rfl) (by omega) rfl (of_decide_eq_true (by kernel_rfl)) (fun _ _ _ h hw => one_da h hw) f10 w10
    simp only [List.cons.injEq, and_true] at e0 e1 e2 e3 e4 e5 e6 e7 e8 e9 e10
    subst e0 e1 e2 e3 e4 e5 e6 e7 e8 e9 e10
    have hcodes : ∀ l ∈ (⟨l0, l1, l2, l3, l4, l5, l6, z7, z8, l9, l10, ⟨a0, c0⟩, ⟨a1, c1⟩, ⟨a2, c2⟩, ⟨a3, c3⟩, ⟨a4, c4⟩, ⟨a5, c5⟩, ⟨a6, c6⟩, ⟨a9, c9⟩, ⟨a10, c10⟩⟩ : Md).codes, LGood W l := by
      intro l hl
      unfold Md.codes at hl
      simp only [List.mem_append, List.mem_map] at hl
      rcases hl with ⟨x, hx, rfl⟩ | ⟨x, hx, rfl⟩ | ⟨x, hx, rfl⟩ | ⟨x, hx, rfl⟩
      · exact g2 x hx
      · exact g5 x hx
      · exact (g9 x hx).1
      · exact (g10 x hx).1
    refine ⟨⟨l0, l1, l2, l3, l4, l5, l6, z7, z8, l9, l10, ⟨a0, c0⟩, ⟨a1, c1⟩, ⟨a2, c2⟩, ⟨a3, c3⟩, ⟨a4, c4⟩, ⟨a5, c5⟩, ⟨a6, c6⟩, ⟨a9, c9⟩, ⟨a10, c10⟩⟩, rfl,
      ⟨r0, r1, r2, r3, r4, r5, r6, r9, r10, fun l hl => (hcodes l hl).1, fun e he => (g9 e he).2.1, fun e he => (g10 e he).2.1⟩,
      ⟨b0, b1, b2, b3, b4, b5, b6, b9, b10, fun l hl => (hcodes l hl).2, fun e he => (g9 e he).2.2.1, fun e he => (g10 e he).2.2.1, fun e he => g1 e he, fun e he => (g6 e he).1⟩, ⟨k0, k1, k2, k5, k6, k9, k10⟩,
      ⟨fun l hl => (List.mem_append.1 hl).elim (fun h => g3 l h) (fun h => g4 l h), fun e he => (g6 e he).2, fun e he => (g9 e he).2.2.2, fun d hd => (g10 d hd).2.2.2, (bounds_u32 wf8).1, by have := (bounds_u32 wf8).2; show z8 < _; omega⟩⟩
end Go.Proofs.YtaibfefmehhldaaGreatDoor.Mod

namespace Go.Proofs
open Go.Shelf
def Tryz.lays197_ren : Go.Shelf.Ren := ⟨fun | 197 => 123 | 260 => 126 | n => n, fun | 9 => 9 | 21 => 21 | 3 => 3 | 4 => 4 | 5 => 5 | 105 => 161 | 119 => 166 | 0 => 0 | 46 => 167 | 139 => 170 | 138 => 169 | n => n, fun | 3 => 1 | 4 => 2 | n => n⟩
theorem Tryz.lays197 : Go.Proofs.Lays.n197 Tryz.prog Tryz.lays197_ren := {
  mixed := by kernel_rfl
  f197 := Tryz.func123.trans (congrArg some (by kernel_rfl))
  f260 := Tryz.func126.trans (congrArg some (by kernel_rfl))
  t0 := Tryz.underlying0
  a0 := Tryz.isAgg0
  z0 := Tryz.sizeOf0
  v0 := Tryz.zeroValue0
  t3 := Tryz.underlying3
  a3 := Tryz.isAgg3
  z3 := Tryz.sizeOf3
  v3 := Tryz.zeroValue3
  t4 := Tryz.underlying4
  a4 := Tryz.isAgg4
  z4 := Tryz.sizeOf4
  v4 := Tryz.zeroValue4
  t5 := Tryz.underlying5
  a5 := Tryz.isAgg5
  z5 := Tryz.sizeOf5
  v5 := Tryz.zeroValue5
  t9 := Tryz.underlying9
  a9 := Tryz.isAgg9
  z9 := Tryz.sizeOf9
  v9 := Tryz.zeroValue9
  t21 := Tryz.underlying21
  a21 := Tryz.isAgg21
  z21 := Tryz.sizeOf21
  v21 := Tryz.zeroValue21
  t46 := Tryz.underlying167
  a46 := Tryz.isAgg167
  z46 := Tryz.sizeOf167
  v46 := Tryz.zeroValue167
  t105 := Tryz.underlying161
  a105 := Tryz.isAgg161
  z105 := Tryz.sizeOf161
  v105 := Tryz.zeroValue161
  t119 := Tryz.underlying166
  a119 := Tryz.isAgg166
  z119 := Tryz.sizeOf166
  t138 := Tryz.underlying169
  a138 := Tryz.isAgg169
  z138 := Tryz.sizeOf169
  v138 := Tryz.zeroValue169
  t139 := Tryz.underlying170
  a139 := Tryz.isAgg170
  z139 := Tryz.sizeOf170
  v139 := Tryz.zeroValue170
  g3 := by kernel_rfl
  g4 := by kernel_rfl }
def Tryz.lays260_ren : Go.Shelf.Ren := ⟨fun | 260 => 126 | n => n, fun | 9 => 9 | 21 => 21 | 3 => 3 | 4 => 4 | 5 => 5 | 119 => 166 | 0 => 0 | 46 => 167 | 139 => 170 | 138 => 169 | n => n, fun | 3 => 1 | 4 => 2 | n => n⟩
theorem Tryz.lays260 : Go.Proofs.Lays.n260 Tryz.prog Tryz.lays260_ren := {
  mixed := by kernel_rfl
  f260 := Tryz.func126.trans (congrArg some (by kernel_rfl))
  t0 := Tryz.underlying0
  a0 := Tryz.isAgg0
  z0 := Tryz.sizeOf0
  v0 := Tryz.zeroValue0
  t3 := Tryz.underlying3
  a3 := Tryz.isAgg3
  z3 := Tryz.sizeOf3
  v3 := Tryz.zeroValue3
  t4 := Tryz.underlying4
  a4 := Tryz.isAgg4
  z4 := Tryz.sizeOf4
  v4 := Tryz.zeroValue4
  t5 := Tryz.underlying5
  a5 := Tryz.isAgg5
  z5 := Tryz.sizeOf5
  v5 := Tryz.zeroValue5
  t9 := Tryz.underlying9
  a9 := Tryz.isAgg9
  z9 := Tryz.sizeOf9
  v9 := Tryz.zeroValue9
  t21 := Tryz.underlying21
  a21 := Tryz.isAgg21
  z21 := Tryz.sizeOf21
  v21 := Tryz.zeroValue21
  t46 := Tryz.underlying167
  a46 := Tryz.isAgg167
  z46 := Tryz.sizeOf167
  v46 := Tryz.zeroValue167
  t119 := Tryz.underlying166
  a119 := Tryz.isAgg166
  z119 := Tryz.sizeOf166
  t138 := Tryz.underlying169
  a138 := Tryz.isAgg169
  z138 := Tryz.sizeOf169
  v138 := Tryz.zeroValue169
  t139 := Tryz.underlying170
  a139 := Tryz.isAgg170
  z139 := Tryz.sizeOf170
  v139 := Tryz.zeroValue170
  g3 := by kernel_rfl
  g4 := by kernel_rfl }
open Go.RowKit Go.Lib in
/-- **unicode/utf8.DecodeRuneInString AT EVERY STRING.** (LAID: no walk: one application.) -/
theorem Tryz.utf8_DecodeRuneInString (s : ByteArray) (w : World) (hT : Lib.Utf8Tabs 1 2 w) :
    Calls Tryz.prog 123 #[.string s] w fun e w' => e = .returned (.tuple #[.int .i32 (Lib.decodeGo s).1, .int .i64 (Lib.decodeGo s).2]) ∧ Below w.heap.size w w' := Any.utf8_DecodeRuneInString Tryz.lays197 s w hT
end Go.Proofs

namespace Go.Proofs.YtaibfefmehhldaaGreatDoor.Utf
open Go.RowKit

/-- The two tables of unicode/utf8 lie as the row lists them. -/
def Tabs (w : World) : Prop := Lib.Utf8Tabs 1 2 w
theorem Tabs.below {w w' : World} (h : Tabs w) (hb : Below w.heap.size w w') : Tabs w' := Utf8Tabs_below h hb
theorem Tabs.alloc {w : World} (h : Tabs w) (o : Obj) : Tabs (w.alloc o) := h.below ((Below.refl _ _).alloc (Nat.le_refl _) o)

theorem str_tail (zs : List Int) (i : Nat) : (strOfNums zs).extract i zs.length = strOfNums (zs.drop i) := by
  apply ByteArray.ext
  apply Array.toList_inj.1
  rw [ByteArray.data_extract, Array.toList_extract, strOfNums_data, strOfNums_data]
  simp
  rw [List.take_of_length_le (by simp)]

set_option maxHeartbeats 800000 in
theorem bad_any (zs : List Int) (hb : ∀ z ∈ zs, 0 ≤ z ∧ z < 256) (w : World) (hT : Tabs w) :
    Calls Tryz.prog 114 #[.string (strOfNums zs)] w fun e w' => e = .returned (.int .i64 (badL zs)) ∧ Below w.heap.size w w' := by
  have D1 : ∀ pos n k, atL (zs.drop pos) = some (n, k) → Utf8.decode (strOfNums zs) pos = (n.toNat, k) := fun pos n k h => decode_some hb h
  have D2 : ∀ pos, pos < zs.length → atL (zs.drop pos) = none → Utf8.decode (strOfNums zs) pos = (65533, 1) := fun pos h h' => decode_none hb h h'
  have D3 : ∀ pos, pos < zs.length → Lib.decodeGo ((strOfNums zs).extract pos zs.length) = Utf8.decode (strOfNums zs) pos := fun pos h => by
    rw [str_tail]
    unfold Lib.decodeGo
    rw [strOfNums_size, List.length_drop, if_neg (by omega), decode_eq (mem_drop_bytes hb pos), decode_eq hb]
    rfl
  have hs : (strOfNums zs).size = zs.length := strOfNums_size zs
  generalize strOfNums zs = s at *
  have H1 := hid D1
  have H2 := hid D2
  have H3 := hid D3
  clear D1 D2 D3 hb
  go_enter Tryz.func114, Tryz.ntmps114
  go_wp2
  go_loopw [3] (fun _ wr => ∃ pos : Nat, wr.heap[w.heap.size]? = some (.stringIter s pos) ∧ Below w.heap.size w wr ∧ pos ≤ zs.length ∧ (scan zs).2 = pos + (scan (zs.drop pos)).2)
    (fun _ wr => zs.length - wr.iterPos w.heap.size)
  case atStart => exact ⟨0, World.iter_heap w s 0, (Below.refl _ _).alloc (Nat.le_refl _) _, Nat.zero_le _, by simp⟩
  case round =>
    obtain ⟨pos, hk, hbw, hpos, hsc⟩ := hrel
    have HS := hid hsc
    clear hsc
    have hT' : Tabs wr := hT.below hbw
    by_cases hp : pos < s.size
    · cases ha : atL (zs.drop pos) with
      | none =>
        have hd := H2.out pos (by omega) ha
        have hnx : ∀ ty, (Instr.next (.pointer (some ⟨w.heap.size, 0, none⟩)) true ty).run Tryz.prog wr = .ok (.tuple #[.bool true, .int .i64 pos, .int .i32 65533]) (wr.iterAt w.heap.size s (pos + 1)) := fun ty => by
          rw [Lib.run_next_any_at wr w.heap.size s pos ty hk hp, hd]; rfl
        have hw1 := Lib.below_iterAt hbw (Nat.le_refl _) s (pos + 1)
        have hT1 : Tabs (wr.iterAt w.heap.size s (pos + 1)) := hT.below hw1
        have HF : Hid (badL zs = pos) := by
          have h := HS.out
          rw [scan_none ha] at h
          show _ = _
          rw [badL_some (by omega)]
          simp at h; omega
        have HD := hid ((H3.out pos (by omega)).trans hd)
        clear hd ha hT hT'
        generalize wr.iterAt w.heap.size s (pos + 1) = w1 at *
        go_wp2_with fail
        refine (Tryz.utf8_DecodeRuneInString _ _ hT1).mono ?_
        rw [HD.out]
        rintro e w2 ⟨rfl, hb2⟩
        go_wp2
        go_ret
        exact ⟨ret_int HF.out.symm, hw1.trans (hb2.mono (by have := hw1.size; omega))⟩
      | some q =>
        obtain ⟨n, k⟩ := q
        obtain ⟨hn, _, _, hk1, _, hkl⟩ := atL_some ha
        have hd := H1.out pos n k ha
        have hnx : ∀ ty, (Instr.next (.pointer (some ⟨w.heap.size, 0, none⟩)) true ty).run Tryz.prog wr = .ok (.tuple #[.bool true, .int .i64 pos, .int .i32 n]) (wr.iterAt w.heap.size s (pos + k)) := fun ty => by
          rw [Lib.run_next_any_at wr w.heap.size s pos ty hk hp, hd]
          have := hn.1
          simp only [Int.toNat_of_nonneg this]
        have hw1 := Lib.below_iterAt hbw (Nat.le_refl _) s (pos + k)
        have hT1 : Tabs (wr.iterAt w.heap.size s (pos + k)) := hT.below hw1
        have hk1' := Lib.iterAt_heap wr w.heap.size s pos (pos + k) hk
        have hit : (wr.iterAt w.heap.size s (pos + k)).iterPos w.heap.size = pos + k := by unfold World.iterPos; rw [hk1']
        have hit0 : wr.iterPos w.heap.size = pos := by unfold World.iterPos; rw [hk]
        have HF : Hid ((scan zs).2 = (pos + k) + (scan (zs.drop (pos + k))).2) := by
          have h := HS.out
          rw [scan_some ha, List.drop_drop] at h
          show _ = _
          simp only at h
          omega
        have hlk : pos + k ≤ zs.length := by simp at hkl; omega
        by_cases he : n = 65533
        · subst he
          obtain rfl := error_three ha
          have HD := hid ((H3.out pos (by omega)).trans hd)
          clear hd ha hT hT' hn
          generalize wr.iterAt w.heap.size s (pos + 3) = w1 at *
          go_wp2_with fail
          refine (Tryz.utf8_DecodeRuneInString _ _ hT1).mono ?_
          rw [HD.out]
          rintro e w2 ⟨rfl, hb2⟩
          have hlt : w.heap.size < w1.heap.size := (Array.getElem?_eq_some_iff.1 hk1').1
          have hk2 := (hb2.block _ hlt).trans hk1'
          have hit2 : w2.iterPos w.heap.size = pos + 3 := by unfold World.iterPos; rw [hk2]
          go_wp2
          go_roundw
          case rel => exact ⟨pos + 3, hk2, hw1.trans (hb2.mono (by omega)), hlk, HF.out⟩
          case measure => rw [hit2, hit0]; omega
        · clear hd ha hT hT'
          generalize wr.iterAt w.heap.size s (pos + k) = w1 at *
          go_wp2
          go_roundw
          case rel => exact ⟨pos + k, hk1', hw1, hlk, HF.out⟩
          case measure => rw [hit, hit0]; omega
    · have hnx : ∀ ty, (Instr.next (.pointer (some ⟨w.heap.size, 0, none⟩)) true ty).run Tryz.prog wr = _ := fun ty => Lib.run_next_end_at wr w.heap.size s pos ty hk hp
      have HF : Hid (badL zs = -1) := badL_none (by
        have h := HS.out
        rw [List.drop_eq_nil_of_le (by omega), scan_nil] at h
        simp at h; omega)
      go_wp2
      go_ret
      exact ⟨ret_int HF.out.symm, hbw⟩
end Go.Proofs.YtaibfefmehhldaaGreatDoor.Utf

namespace Go.Proofs.YtaibfefmehhldaaGreatDoor
open Go.RowKit Go.Lib

theorem u8Extra : U8Extra Tryz.prog Tryz.lays260_ren := ⟨by kernel_rfl, by kernel_rfl, by kernel_rfl, by kernel_rfl, by kernel_rfl, by kernel_rfl, by kernel_rfl⟩
def laid3 : List (String × DataW Unit) := [("unicode/utf8.acceptRanges", Rows.laid_unicode_utf8_acceptRanges), ("gimlet/instr.names", Rows.laid_gimlet_instr_names), ("unicode/utf8.first", Rows.laid_unicode_utf8_first)]
theorem accept_eq : (Rows.laid_unicode_utf8_acceptRanges : DataW Unit) = acceptData := by kernel_rfl
theorem tabs_3 {W : World} (hL : laidMet Tryz.prog laid3 W) : Instr.Nams W ∧ Utf.Tabs W := by
  refine ⟨nams_of (.tail _ (.head _)) hL, utf8Tabs_of_reads (ρ := Tryz.lays260_ren) Tryz.lays260 u8Extra (Pinned.utf8First_eq ▸ Lib.laidMet.reads hL (.tail _ (.tail _ (.head _)))) ?_⟩
  have h := Lib.laidMet.reads hL (.head _)
  rw [accept_eq] at h
  exact h
end Go.Proofs.YtaibfefmehhldaaGreatDoor

namespace Go.Proofs.YtaibfefmehhldaaGreatDoor.Mod
open Go.RowKit Go.Proofs.YtaibfefmehhldaaGreatDoor.Instr

/-- A block of a copy: from lo on, below hi, none of its cells frozen. -/
def Blk (lo hi : Nat) (w : World) (b : Nat) : Prop := lo ≤ b ∧ b < hi ∧ ∃ cs e, w.heap[b]? = some (.cells cs e (0, 0))
def TagsO (lo hi : Nat) (w : World) (a : Option Addr) (zs : List Int) : Prop :=
  zs = [] ∨ ∃ b off, a = some ⟨b, off, none⟩ ∧ Blk lo hi w b ∧ ∀ i, i < zs.length → w.cell? ⟨b, off + i, none⟩ = some (.int .u32 (zs.getD i 0))
def ItemsO (lo hi : Nat) (w : World) : Nat → Nat → Il → Prop
  | _, _, .nil => True
  | b, off, .cons x l e r =>
    Blk lo hi w b ∧ x.ok ∧
    (∀ j v, x.vals[j]? = some v → w.cell? ⟨b, off + j, none⟩ = some v) ∧
    TagsO lo hi w x.ta x.tags ∧
    (l.len = x.ln ∧ (l = .nil ∨ ∃ b' o', x.la = some ⟨b', o', none⟩ ∧ ItemsO lo hi w b' o' l)) ∧
    (e.len = x.en ∧ (e = .nil ∨ ∃ b' o', x.ea = some ⟨b', o', none⟩ ∧ ItemsO lo hi w b' o' e)) ∧
    ItemsO lo hi w b (off + 8) r
def ListO (lo hi : Nat) (w : World) (a : Option Addr) (n : Nat) (t : Il) : Prop := t.len = n ∧ (t = .nil ∨ ∃ b off, a = some ⟨b, off, none⟩ ∧ ItemsO lo hi w b off t)
theorem TagsO.at {lo hi : Nat} {w : World} {a : Option Addr} {zs : List Int} (h : TagsO lo hi w a zs) : TagsAt hi w a zs := by
  rcases h with h | ⟨b, off, ha, hb, hc⟩
  · exact .inl h
  · exact .inr ⟨b, off, ha, hb.2.1, hc⟩
theorem ItemsO.at {lo hi : Nat} {w : World} : ∀ {t : Il} {b off : Nat}, ItemsO lo hi w b off t → Items hi w b off t
  | .nil, _, _, _ => trivial
  | .cons x l e r, b, off, ⟨hb, hx, hc, ht, ⟨l1, l2⟩, ⟨e1, e2⟩, hr⟩ => by
    refine ⟨hb.2.1, hx, ⟨hc 0 _ rfl, hc 1 _ rfl, hc 2 _ rfl, hc 3 _ rfl, hc 4 _ rfl, hc 5 _ rfl, hc 6 _ rfl, hc 7 _ rfl⟩, ht.at, ⟨l1, ?_⟩, ⟨e1, ?_⟩, ItemsO.at hr⟩
    · rcases l2 with h | ⟨b', o', h1, h2⟩
      · exact .inl h
      · exact .inr ⟨b', o', h1, ItemsO.at h2⟩
    · rcases e2 with h | ⟨b', o', h1, h2⟩
      · exact .inl h
      · exact .inr ⟨b', o', h1, ItemsO.at h2⟩
theorem ListO.at {lo hi : Nat} {w : World} {a : Option Addr} {n : Nat} {t : Il} (h : ListO lo hi w a n t) : ListAt hi w a n t := by
  refine ⟨h.1, ?_⟩
  rcases h.2 with h | ⟨b, off, h1, h2⟩
  · exact .inl h
  · exact .inr ⟨b, off, h1, h2.at⟩

/-- What a cell may be written over with. -/
inductive KRel : Value → Value → Prop
  | same (v : Value) : KRel v v
  | i64 (x y : Int) : 0 ≤ y → y < 1000 → KRel (.int .i64 x) (.int .i64 y)
  | u32 (x y : Int) : 0 ≤ y → y < 1000 → KRel (.int .u32 x) (.int .u32 y)
  | i32 (x y : Int) : 0 ≤ y → y < 1000 → KRel (.int .i32 x) (.int .i32 y)
  | u8 (x y : Int) : KRel (.int .u8 x) (.int .u8 y)
  | slice (a : Option Addr) (n c : Nat) : KRel (.slice a n c) (.slice none 0 0)
  | str (s t : ByteArray) : t.size ≤ 4 → KRel (.string s) (.string t)
  | bool (b : Bool) : KRel (.bool b) (.bool false)
theorem KRel.trans {u v z : Value} (h : KRel u v) (g : KRel v z) : KRel u z := by
  cases g with
  | same => exact h
  | i64 x y h1 h2 => cases h with
    | same => exact .i64 _ _ h1 h2
    | i64 => exact .i64 _ _ h1 h2
  | u32 x y h1 h2 => cases h with
    | same => exact .u32 _ _ h1 h2
    | u32 => exact .u32 _ _ h1 h2
  | i32 x y h1 h2 => cases h with
    | same => exact .i32 _ _ h1 h2
    | i32 => exact .i32 _ _ h1 h2
  | u8 x y => cases h with
    | same => exact .u8 _ _
    | u8 => exact .u8 _ _
  | slice a n c => cases h with
    | same => exact .slice _ _ _
    | slice => exact .slice _ _ _
  | str s t h1 => cases h with
    | same => exact .str _ _ h1
    | str => exact .str _ _ h1
  | bool b => cases h with
    | same => exact .bool _
    | bool => exact .bool _
theorem KRel.i64_of {x : Int} {v : Value} (h : KRel (.int .i64 x) v) : ∃ y, v = .int .i64 y ∧ (y = x ∨ 0 ≤ y ∧ y < 1000) := by
  cases h with
  | same => exact ⟨x, rfl, .inl rfl⟩
  | i64 _ y h1 h2 => exact ⟨y, rfl, .inr ⟨h1, h2⟩⟩
theorem KRel.u32_of {x : Int} {v : Value} (h : KRel (.int .u32 x) v) : ∃ y, v = .int .u32 y ∧ (y = x ∨ 0 ≤ y ∧ y < 1000) := by
  cases h with
  | same => exact ⟨x, rfl, .inl rfl⟩
  | u32 _ y h1 h2 => exact ⟨y, rfl, .inr ⟨h1, h2⟩⟩
theorem KRel.i32_of {x : Int} {v : Value} (h : KRel (.int .i32 x) v) : ∃ y, v = .int .i32 y ∧ (y = x ∨ 0 ≤ y ∧ y < 1000) := by
  cases h with
  | same => exact ⟨x, rfl, .inl rfl⟩
  | i32 _ y h1 h2 => exact ⟨y, rfl, .inr ⟨h1, h2⟩⟩
theorem KRel.u8_of {x : Int} {v : Value} (h : KRel (.int .u8 x) v) : ∃ y, v = .int .u8 y := by
  cases h with
  | same => exact ⟨x, rfl⟩
  | u8 _ y => exact ⟨y, rfl⟩
theorem KRel.slice_of {a : Option Addr} {n c : Nat} {v : Value} (h : KRel (.slice a n c) v) : v = .slice a n c ∨ v = .slice none 0 0 := by
  cases h with
  | same => exact .inl rfl
  | slice => exact .inr rfl

/-- Writes of the same kind, in the blocks from lo on and below hi. -/
structure Ov (lo hi : Nat) (w w' : World) : Prop where
  kept : Kept lo hi w w'
  cells : ∀ (b o : Nat) (v : Value), w.cell? ⟨b, o, none⟩ = some v → ∃ v', w'.cell? ⟨b, o, none⟩ = some v' ∧ KRel v v'
  soft : ∀ b : Nat, (∃ cs e, w.heap[b]? = some (Obj.cells cs e (0, 0))) → ∃ cs e, w'.heap[b]? = some (Obj.cells cs e (0, 0))
theorem Ov.refl (lo hi : Nat) (w : World) : Ov lo hi w w := ⟨Kept.refl _ _ _, fun _ _ v h => ⟨v, h, .same v⟩, fun _ h => h⟩
theorem Ov.trans {lo hi : Nat} {a b c : World} (h : Ov lo hi a b) (g : Ov lo hi b c) : Ov lo hi a c :=
  ⟨h.kept.trans g.kept, fun q o v hv => by
    obtain ⟨v1, h1, r1⟩ := h.cells q o v hv
    obtain ⟨v2, h2, r2⟩ := g.cells q o v1 h1
    exact ⟨v2, h2, r1.trans r2⟩, fun q hq => g.soft q (h.soft q hq)⟩
theorem Blk.ov {lo hi b : Nat} {w w' : World} (h : Blk lo hi w b) (o : Ov lo hi w w') : Blk lo hi w' b := ⟨h.1, h.2.1, o.soft b h.2.2⟩
theorem small_ok {x y : Int} (h : y = x ∨ 0 ≤ y ∧ y < 1000) (P : Int → Prop) (hx : P x) (hs : ∀ z, 0 ≤ z → z < 1000 → P z) : P y := by
  rcases h with h | h
  · rw [h]; exact hx
  · exact hs y h.1 h.2
theorem TagsO.ov {lo hi : Nat} {w w' : World} (o : Ov lo hi w w') {a : Option Addr} {zs : List Int} (h : TagsO lo hi w a zs) (hz : ∀ z ∈ zs, 0 ≤ z ∧ z < 4294967296) :
    ∃ ys : List Int, ys.length = zs.length ∧ TagsO lo hi w' a ys ∧ ∀ z ∈ ys, 0 ≤ z ∧ z < 4294967296 := by
  rcases h with h | ⟨b, off, ha, hb, hc⟩
  · exact ⟨[], by rw [h], .inl rfl, by simp⟩
  · have hx : ∀ i, ∃ y : Int, i < zs.length → w'.cell? ⟨b, off + i, none⟩ = some (.int .u32 y) ∧ 0 ≤ y ∧ y < 4294967296 := by
      intro i
      by_cases hi : i < zs.length
      · obtain ⟨v', h1, h2⟩ := o.cells b (off + i) _ (hc i hi)
        obtain ⟨y, rfl, hy⟩ := h2.u32_of
        refine ⟨y, fun _ => ⟨h1, ?_⟩⟩
        have hm : zs.getD i 0 ∈ zs := by rw [getD_lt hi]; exact List.getElem_mem hi
        exact small_ok hy (fun y => 0 ≤ y ∧ y < 4294967296) (hz _ hm) (fun z h1 h2 => ⟨h1, by omega⟩)
      · exact ⟨0, fun h => absurd h hi⟩
    let f := fun i => Classical.choose (hx i)
    have hf : ∀ i, i < zs.length → w'.cell? ⟨b, off + i, none⟩ = some (.int .u32 (f i)) ∧ 0 ≤ f i ∧ f i < 4294967296 := fun i => Classical.choose_spec (hx i)
    refine ⟨(List.range zs.length).map f, by simp, .inr ⟨b, off, ha, hb.ov o, fun i hi => ?_⟩, fun z hz => ?_⟩
    · rw [List.length_map, List.length_range] at hi
      rw [getD_lt (by simpa using hi), List.getElem_map, List.getElem_range]
      exact (hf i hi).1
    · obtain ⟨i, hi, rfl⟩ := List.mem_map.1 hz
      exact (hf i (List.mem_range.1 hi)).2
/-- A list stays a list, of no more instructions. -/
theorem ItemsO.ov {lo hi : Nat} {w w' : World} (o : Ov lo hi w w') : ∀ {t : Il} {b off : Nat}, ItemsO lo hi w b off t → ∃ u : Il, u.len = t.len ∧ u.count ≤ t.count ∧ ItemsO lo hi w' b off u
  | .nil, _, _, _ => ⟨.nil, rfl, Nat.le_refl _, trivial⟩
  | .cons x l e r, b, off, ⟨hb, hx, hc, ht, ⟨l1, l2⟩, ⟨e1, e2⟩, hr⟩ => by
    obtain ⟨r', hr1, hr2, hr3⟩ := ItemsO.ov o hr
    obtain ⟨v0, g0, k0⟩ := o.cells b (off + 0) _ (hc 0 _ rfl)
    obtain ⟨v1, g1, k1⟩ := o.cells b (off + 1) _ (hc 1 _ rfl)
    obtain ⟨v2, g2, k2⟩ := o.cells b (off + 2) _ (hc 2 _ rfl)
    obtain ⟨v3, g3, k3⟩ := o.cells b (off + 3) _ (hc 3 _ rfl)
    obtain ⟨v4, g4, k4⟩ := o.cells b (off + 4) _ (hc 4 _ rfl)
    obtain ⟨v5, g5, k5⟩ := o.cells b (off + 5) _ (hc 5 _ rfl)
    obtain ⟨v6, g6, k6⟩ := o.cells b (off + 6) _ (hc 6 _ rfl)
    obtain ⟨v7, g7, k7⟩ := o.cells b (off + 7) _ (hc 7 _ rfl)
    obtain ⟨y0, rfl, q0⟩ := k0.i64_of
    obtain ⟨y1, rfl, q1⟩ := k1.i64_of
    obtain ⟨y2, rfl, q2⟩ := k2.u32_of
    obtain ⟨y3, rfl, q3⟩ := k3.u32_of
    obtain ⟨y4, rfl, q4⟩ := k4.i32_of
    obtain ⟨ys, ta, tc, rfl, ht1, ht2, ht3⟩ : ∃ (ys : List Int) (ta : Option Addr) (tc : Nat), v5 = .slice ta ys.length tc ∧ TagsO lo hi w' ta ys ∧ (∀ z ∈ ys, 0 ≤ z ∧ z < 4294967296) ∧ ys.length ≤ 140737488351232 := by
      rcases k5.slice_of with h | h
      · obtain ⟨ys, h1, h2, h3⟩ := ht.ov o hx.tags
        exact ⟨ys, x.ta, x.tc, by rw [h, h1], h2, h3, by rw [h1]; exact hx.tn⟩
      · exact ⟨[], none, 0, h, .inl rfl, by simp, by simp⟩
    have sub : ∀ (l : Il) (la : Option Addr) (ln lc : Nat) (v : Value), l.len = ln → (l = .nil ∨ ∃ b' o', la = some ⟨b', o', none⟩ ∧ ∃ u : Il, u.len = l.len ∧ u.count ≤ l.count ∧ ItemsO lo hi w' b' o' u) → ln ≤ 140737488351232 → KRel (.slice la ln lc) v →
        ∃ (u : Il) (ua : Option Addr) (uc : Nat), v = .slice ua u.len uc ∧ u.count ≤ l.count ∧ u.len ≤ 140737488351232 ∧ (u = .nil ∨ ∃ b' o', ua = some ⟨b', o', none⟩ ∧ ItemsO lo hi w' b' o' u) := by
      intro l la ln lc v h1 h2 h3 h4
      rcases h4.slice_of with h | h
      · rcases h2 with h2 | ⟨b', o', h5, u, h6, h7, h8⟩
        · subst h2
          exact ⟨.nil, la, lc, by rw [h, ← h1], Nat.le_refl _, by rw [h1]; exact h3, .inl rfl⟩
        · exact ⟨u, la, lc, by rw [h, h6, h1], h7, by rw [h6, h1]; exact h3, .inr ⟨b', o', h5, h8⟩⟩
      · exact ⟨.nil, none, 0, h, Nat.zero_le _, Nat.zero_le _, .inl rfl⟩
    obtain ⟨l', la, lc, rfl, cl, nl, sl⟩ := sub l x.la x.ln x.lc v6 l1 (by
      rcases l2 with h | ⟨b', o', h1, h2⟩
      · exact .inl h
      · exact .inr ⟨b', o', h1, ItemsO.ov o h2⟩) hx.ln k6
    obtain ⟨e', ea, ec, rfl, ce, ne, se⟩ := sub e x.ea x.en x.ec v7 e1 (by
      rcases e2 with h | ⟨b', o', h1, h2⟩
      · exact .inl h
      · exact .inr ⟨b', o', h1, ItemsO.ov o h2⟩) hx.en k7
    refine ⟨.cons ⟨y0, y1, y2, y3, y4, ys, ta, tc, la, l'.len, lc, ea, e'.len, ec⟩ l' e' r', by simp only [Il.len, hr1], by simp only [Il.count]; omega, hb.ov o, ?_, ?_, ht1, ⟨rfl, sl⟩, ⟨rfl, se⟩, hr3⟩
    · exact ⟨small_ok q0 (fun y => -9223372036854775808 ≤ y ∧ y ≤ 9223372036854775807) hx.op (fun z h1 h2 => by constructor <;> omega),
        small_ok q1 (fun y => -9223372036854775808 ≤ y ∧ y ≤ 9223372036854775807) hx.res (fun z h1 h2 => by constructor <;> omega),
        small_ok q2 (fun y => 0 ≤ y ∧ y < 4294967296) hx.a (fun z h1 h2 => by constructor <;> omega),
        small_ok q3 (fun y => 0 ≤ y ∧ y < 4294967296) hx.b (fun z h1 h2 => by constructor <;> omega),
        small_ok q4 (fun y => -2147483648 ≤ y ∧ y < 2147483648) hx.n (fun z h1 h2 => by constructor <;> omega), ht2, ht3, nl, ne⟩
    · intro j v hj
      match j with
      | 0 => cases hj; exact g0
      | 1 => cases hj; exact g1
      | 2 => cases hj; exact g2
      | 3 => cases hj; exact g3
      | 4 => cases hj; exact g4
      | 5 => cases hj; exact g5
      | 6 => cases hj; exact g6
      | 7 => cases hj; exact g7
      | j + 8 => simp [Ix.vals] at hj
theorem ListO.ov {lo hi : Nat} {w w' : World} (o : Ov lo hi w w') {a : Option Addr} {n : Nat} {t : Il} (h : ListO lo hi w a n t) : ∃ u : Il, u.count ≤ t.count ∧ ListO lo hi w' a n u := by
  rcases h.2 with h2 | ⟨b, off, h1, h2⟩
  · exact ⟨t, Nat.le_refl _, h.1, .inl h2⟩
  · obtain ⟨u, u1, u2, u3⟩ := h2.ov o
    exact ⟨u, u2, by rw [u1]; exact h.1, .inr ⟨b, off, h1, u3⟩⟩
/-- A slice whose cells, up to its capacity, are bytes. -/
def RoomO (lo hi : Nat) (w : World) (a : Option Addr) (n c : Nat) : Prop := n ≤ c ∧ c ≤ 9223372036854775807 ∧ (a = none ∧ c = 0 ∨ ∃ b off, a = some ⟨b, off, none⟩ ∧ Blk lo hi w b ∧ ∀ i, i < c → ∃ z, w.cell? ⟨b, off + i, none⟩ = some (.int .u8 z))
theorem RoomO.ov {lo hi n c : Nat} {w w' : World} (o : Ov lo hi w w') {a : Option Addr} (h : RoomO lo hi w a n c) : RoomO lo hi w' a n c := by
  refine ⟨h.1, h.2.1, ?_⟩
  rcases h.2.2 with h | ⟨b, off, h1, h2, h3⟩
  · exact .inl h
  · refine .inr ⟨b, off, h1, h2.ov o, fun i hi => ?_⟩
    obtain ⟨z, hz⟩ := h3 i hi
    obtain ⟨v, h4, h5⟩ := o.cells b (off + i) _ hz
    obtain ⟨y, rfl⟩ := h5.u8_of
    exact ⟨y, h4⟩
end Go.Proofs.YtaibfefmehhldaaGreatDoor.Mod

namespace Go.Proofs.YtaibfefmehhldaaGreatDoor.Instr

/-- Whatever lists and labels lie elsewhere, it is this instruction. -/
def Ix.bare (x : Ix) : Ix := ⟨x.op, x.res, x.a, x.b, x.n, x.tags, none, 0, none, x.ln, 0, none, x.en, 0⟩
def Il.bare : Il → Il
  | .nil => .nil
  | .cons x l e r => .cons x.bare l.bare e.bare r.bare
def Il.app : Il → Il → Il
  | .nil, t => t
  | .cons x l e r, t => .cons x l e (r.app t)
/-- The lists of each have as many as it says. -/
def Il.fit : Il → Prop
  | .nil => True
  | .cons x l e r => l.len = x.ln ∧ e.len = x.en ∧ l.fit ∧ e.fit ∧ r.fit
theorem app_nil : ∀ t : Il, t.app .nil = t
  | .nil => rfl
  | .cons x l e r => by rw [Il.app, app_nil r]
theorem app_assoc : ∀ t u v : Il, (t.app u).app v = t.app (u.app v)
  | .nil, _, _ => rfl
  | .cons x l e r, u, v => by simp only [Il.app, app_assoc r]
theorem app_len : ∀ t u : Il, (t.app u).len = t.len + u.len
  | .nil, u => by simp [Il.app, Il.len]
  | .cons x l e r, u => by simp only [Il.app, Il.len, app_len r]; omega
theorem bare_app : ∀ t u : Il, (t.app u).bare = t.bare.app u.bare
  | .nil, _ => rfl
  | .cons x l e r, u => by simp only [Il.app, Il.bare, bare_app r]
theorem bare_len : ∀ t : Il, t.bare.len = t.len
  | .nil => rfl
  | .cons x l e r => by simp only [Il.bare, Il.len, bare_len r]
end Go.Proofs.YtaibfefmehhldaaGreatDoor.Instr
namespace Go.Proofs.YtaibfefmehhldaaGreatDoor.Body
open Go.Proofs.YtaibfefmehhldaaGreatDoor.Leb Go.Proofs.YtaibfefmehhldaaGreatDoor.Kind Go.Proofs.YtaibfefmehhldaaGreatDoor.Instr

def plainX (op res a b n : Int) (tags : List Int) : Ix := ⟨op, res, a, b, n, tags, none, 0, none, 0, 0, none, 0, 0⟩
/-- What reading a list gives: instructions, what ended them, how many there have been, the state. -/
structure Lr where
  t : Il
  q : Int
  n : Int
  s : Rd
/-- One with its lists, read by 'rec'. -/
structure Or where
  x : Ix
  l : Il
  e : Il
  n : Int
  s : Rd
/-- What a reader does never goes back. -/
def On (s s' : Rd) : Prop := s'.2.1 = 0 → s.2.1 = 0 ∧ s.1 ≤ s'.1
theorem On.refl (s : Rd) : On s s := fun h => ⟨h, Int.le_refl _⟩
theorem On.trans {a b c : Rd} (h : On a b) (g : On b c) : On a c := fun hc => ⟨(h (g hc).1).1, Int.le_trans (h (g hc).1).2 (g hc).2⟩
end Go.Proofs.YtaibfefmehhldaaGreatDoor.Body

/-
  BODY: reading by a stack of open lists, as a plain function; it gives what reading list by list gives.
-/
namespace Go.Proofs.YtaibfefmehhldaaGreatDoor.Body
open Go.Proofs.YtaibfefmehhldaaGreatDoor.Leb Go.Proofs.YtaibfefmehhldaaGreatDoor.Kind Go.Proofs.YtaibfefmehhldaaGreatDoor.Instr

/-- A list whose end has not been read: its owner, the owner's first list if this is its second, what has been read of it. -/
structure Fr where
  x : Ix
  fl : Il
  t : Il
  oth : Bool
end Go.Proofs.YtaibfefmehhldaaGreatDoor.Body

/-
  BODY: what is put is got: an instruction's fields by its operation; its bytes read; a list's bytes read, whatever follows.
-/
namespace Go.Proofs.YtaibfefmehhldaaGreatDoor.Body
open Go.RowKit Go.Proofs.YtaibfefmehhldaaGreatDoor.Leb Go.Proofs.YtaibfefmehhldaaGreatDoor.Instr
open Go.Proofs.YtaibfefmehhldaaGreatDoor.Kind (Rd)

section
variable {zs : List Int} {op : Int} {s : Rd}
end
theorem len_zero : ∀ {t : Il}, t.len = 0 → t = .nil
  | .nil, _ => rfl
  | .cons _ _ _ _, h => by simp [Il.len] at h

def Lr.pre (t : Il) (r : Lr) : Lr := ⟨t.app r.t, r.q, r.n, r.s⟩
end Go.Proofs.YtaibfefmehhldaaGreatDoor.Body

/-
  BODY: bytes that end too early: the fault is told where they end.
-/
namespace Go.Proofs.YtaibfefmehhldaaGreatDoor.Body
open Go.Proofs.YtaibfefmehhldaaGreatDoor.Leb Go.Proofs.YtaibfefmehhldaaGreatDoor.Instr
open Go.Proofs.YtaibfefmehhldaaGreatDoor.Kind (Rd)

end Go.Proofs.YtaibfefmehhldaaGreatDoor.Body

/-
  BODY: what is got may be, and is put in no more bytes.
-/
namespace Go.Proofs.YtaibfefmehhldaaGreatDoor.Body
open Go.Proofs.YtaibfefmehhldaaGreatDoor.Leb Go.Proofs.YtaibfefmehhldaaGreatDoor.Instr
open Go.Proofs.YtaibfefmehhldaaGreatDoor.Kind (Rd)

section
variable {zs : List Int} (hz : ∀ c ∈ zs, 0 ≤ c ∧ c < 256)
include hz
end
end Go.Proofs.YtaibfefmehhldaaGreatDoor.Body

namespace Go.Proofs.YtaibfefmehhldaaGreatDoor.Mod
open Go.RowKit Go.Proofs.YtaibfefmehhldaaGreatDoor.Instr

def Lst.bare (l : Lst) : Lst := ⟨none, 0, l.t.bare⟩
def Fn.bare (f : Fn) : Fn := ⟨f.ty, f.lo, f.l.bare⟩
def Gl.bare (g : Gl) : Gl := ⟨g.mu, g.l.bare⟩
def El.bare (e : El) : El := ⟨e.l.bare, none, 0, e.fs⟩
def Da.bare (d : Da) : Da := ⟨d.l.bare, none, 0, d.bs⟩
/-- A module, but for where its parts lie. -/
def Md.bare (m : Md) : Md :=
  ⟨m.ty, m.im, m.fu.map Fn.bare, m.tb, m.me, m.gl.map Gl.bare, m.ex, m.st, m.sn, m.el.map El.bare, m.da.map Da.bare, ⟨none, 0⟩, ⟨none, 0⟩, ⟨none, 0⟩, ⟨none, 0⟩, ⟨none, 0⟩, ⟨none, 0⟩, ⟨none, 0⟩, ⟨none, 0⟩, ⟨none, 0⟩⟩
theorem bare_codes (m : Md) : m.bare.codes = m.codes.map Lst.bare := by
  unfold Md.codes Md.bare
  simp only [List.map_append, List.map_map]
  rfl
/-- Whether a statement holds, as a bool. -/
noncomputable def is (p : Prop) : Bool := @decide p (Classical.propDecidable p)
theorem is_yes {p : Prop} (h : p) : is p = true := by unfold is; exact @decide_eq_true p (Classical.propDecidable p) h
theorem is_no {p : Prop} (h : ¬ p) : is p = false := by unfold is; exact @decide_eq_false p (Classical.propDecidable p) h
/-- The parts that make two modules the same. -/
structure Same (a b : Md) : Prop where
  ty : a.ty = b.ty
  im : a.im = b.im
  fu : a.fu.map Fn.bare = b.fu.map Fn.bare
  tb : a.tb = b.tb
  me : a.me = b.me
  gl : a.gl.map Gl.bare = b.gl.map Gl.bare
  ex : a.ex = b.ex
  st : a.st = b.st
  sn : a.sn = b.sn
  el : a.el.map El.bare = b.el.map El.bare
  da : a.da.map Da.bare = b.da.map Da.bare
theorem same_iff {a b : Md} : a.bare = b.bare ↔ Same a b := by
  constructor
  · intro h
    unfold Md.bare at h
    simp only [Md.mk.injEq] at h
    obtain ⟨h1, h2, h3, h4, h5, h6, h7, h8, h9, h10, h11, _⟩ := h
    exact ⟨h1, h2, h3, h4, h5, h6, h7, h8, h9, h10, h11⟩
  · rintro ⟨h1, h2, h3, h4, h5, h6, h7, h8, h9, h10, h11⟩
    unfold Md.bare
    rw [h1, h2, h3, h4, h5, h6, h7, h8, h9, h10, h11]
/-- Two lists are the same item by item. -/
theorem list_same {α : Type} {l r : List α} {n : Nat} (hl : l.length = n) (hr : r.length = n) (h : ∀ j (h1 : j < l.length) (h2 : j < r.length), j < n → l[j] = r[j]) : l = r := by
  refine List.ext_getElem (by omega) fun j h1 h2 => h j h1 h2 (by omega)
theorem same_step {α : Type} {l r : List α} {k : Nat} (h1 : k < l.length) (h2 : k < r.length) (h : ∀ j (h1 : j < l.length) (h2 : j < r.length), j < k → l[j] = r[j]) (hx : l[k] = r[k]) : ∀ j (h1 : j < l.length) (h2 : j < r.length), j < k + 1 → l[j] = r[j] := by
  intro j g1 g2 hj
  by_cases e : j = k
  · subst e; exact hx
  · exact h j g1 g2 (by omega)
theorem same_zero {α : Type} (l r : List α) : ∀ j (h1 : j < l.length) (h2 : j < r.length), j < 0 → l[j] = r[j] := fun _ _ _ h => absurd h (Nat.not_lt_zero _)
end Go.Proofs.YtaibfefmehhldaaGreatDoor.Mod

namespace Go.Proofs.YtaibfefmehhldaaGreatDoor.Mod
open Go.RowKit Go.Proofs.YtaibfefmehhldaaGreatDoor.Instr

theorem flat_length {α : Type} {sz : Nat} : ∀ (rs : List (List α)) (_ : ∀ r ∈ rs, r.length = sz), rs.flatten.length = rs.length * sz
  | [], _ => by simp
  | r :: rs, h => by
    rw [List.flatten_cons, List.length_append, h r (by simp), flat_length rs (fun x hx => h x (by simp [hx])), List.length_cons, Nat.succ_mul]
    omega
theorem flat_get {α : Type} {sz : Nat} : ∀ (rs : List (List α)) (_ : ∀ r ∈ rs, r.length = sz) (i j : Nat) (_ : i < rs.length) (_ : j < sz), rs.flatten[i * sz + j]? = (rs.getD i [])[j]?
  | [], _, i, _, hi, _ => by simp at hi
  | r :: rs, h, 0, j, _, hj => by
    rw [List.flatten_cons, Nat.zero_mul, Nat.zero_add, List.getElem?_append_left (by rw [h r (by simp)]; exact hj)]
    rfl
  | r :: rs, h, i + 1, j, hi, hj => by
    have hr := h r (by simp)
    have e : (i + 1) * sz = i * sz + sz := Nat.succ_mul i sz
    rw [List.flatten_cons, List.getElem?_append_right (by rw [hr, e]; omega), hr]
    have e2 : (i + 1) * sz + j - sz = i * sz + j := by rw [e]; omega
    rw [e2, flat_get rs (fun x hx => h x (by simp [hx])) i j (by simpa using hi) hj]
    rfl
/-- Rows that a call made itself, each of sz cells. -/
structure OwnR (e : TypeId) (sz base : Nat) (w : World) (v : Value) (rs : List (List Value)) : Prop where
  row : w.ownsRow base e sz v rs.length rs.flatten
  len : ∀ r ∈ rs, r.length = sz
theorem OwnR.start (e : TypeId) (sz base : Nat) (w : World) : OwnR e sz base w (.slice none 0 0) [] := ⟨World.ownsRow_nil _ _ _ _, by simp⟩
theorem OwnR.made (e : TypeId) (sz : Nat) (w : World) : OwnR e sz w.heap.size (w.alloc (.cells #[] e)) (.slice (some ⟨w.heap.size, 0, none⟩) 0 0) [] := ⟨World.ownsRow_made w #[] 0 (Nat.le_refl _) (by unfold maxLen; omega) (by simp), by simp⟩
theorem OwnR.below {e : TypeId} {sz base : Nat} {w w' : World} {v : Value} {rs : List (List Value)} (h : OwnR e sz base w v rs) (hb : Below w.heap.size w w') : OwnR e sz base w' v rs := by
  refine ⟨⟨h.row.1, ?_⟩, h.len⟩
  rcases h.row.2 with h0 | ⟨g, cap, cur, hv, hg, hh, rest⟩
  · exact .inl h0
  · exact .inr ⟨g, cap, cur, hv, hg, (hb.block g (Array.getElem?_eq_some_iff.1 hh).1).trans hh, rest⟩
theorem OwnR.mono {e : TypeId} {sz base base' : Nat} {w : World} {v : Value} {rs : List (List Value)} (h : OwnR e sz base w v rs) (hb : base' ≤ base) : OwnR e sz base' w v rs := by
  refine ⟨⟨h.row.1, ?_⟩, h.len⟩
  rcases h.row.2 with h0 | ⟨g, cap, cur, hv, hg, rest⟩
  · exact .inl h0
  · exact .inr ⟨g, cap, cur, hv, Nat.le_trans hb hg, rest⟩
/-- As a slice in memory. -/
theorem OwnR.rows {e : TypeId} {sz base : Nat} {w : World} {v : Value} {rs : List (List Value)} (h : OwnR e sz base w v rs) : ∃ a c, v = .slice a rs.length c ∧ Rows w.heap.size w a sz rs ∧ ∀ g, v.ownBlock = some g → base ≤ g := by
  have hl := World.ownsRow.lt h.row
  rcases h.row.2 with ⟨rfl, h0⟩ | ⟨g, cap, cur, rfl, hg, hh, h2, h3, h4, h5⟩
  · exact ⟨none, 0, by rw [h0], .inl (List.eq_nil_of_length_eq_zero h0), fun g hg => (hl g hg).1⟩
  · refine ⟨_, cap, rfl, .inr ⟨g, 0, rfl, (hl g rfl).2, fun i hi j hj u hu => ?_⟩, fun g hg => (hl g hg).1⟩
    have hf := flat_get rs h.len i j hi hj
    rw [hu] at hf
    have := World.ownsRow.cells h.row (g := g) rfl (i * sz + j) u hf
    have hplain : (⟨g, 0, none⟩ : Addr).add (i * sz + j) = ⟨g, 0 + i * sz + j, none⟩ := by unfold Addr.add; split <;> simp_all <;> omega
    rw [hplain] at this
    exact this

section
variable {ops : Array Oper} {rest : List Oper} {o : Oper} {act : Act} {Q : Exit → Act → World → Prop}
/-- Rows that lie somewhere are appended. -/
theorem append_rows {e ts : TypeId} {sz nb : Nat} {z : Value} (inf : (Tryz.prog.info? e).map (fun i => (i.zero, i.size, i.bytes)) = some (some z, sz, nb)) (hz : z.cells.size = sz) (h0 : 0 < sz) (hnb : nb ≤ 1000) (ut : Tryz.prog.underlying ts = some (.slice e))
    (hgd : o.guard = none) (s x : Operand) (ho : o.op = .call { callee := .builtin .append, args := #[s, x], argTypes := #[ts, ts] })
    {base : Nat} {w0 wr : World} {v : Value} {xs : List (List Value)} (ys : List (List Value)) (hs : act.eval s = v) (hown : OwnR e sz base wr v xs) (hb : Below base w0 wr) (hbase : base ≤ wr.heap.size)
    (ad : Addr) (m c : Nat) (hm : ys.length = m) (hx : act.eval x = .slice (some ad) m c) (hy : ∀ r ∈ ys, r.length = sz) (hnews : ∀ j u, ys.flatten[j]? = some u → wr.cell? (ad.add j) = some u) (h1 : ∀ r ∈ ys, ∀ u ∈ r, u.oneCell' = true)
    (hl : xs.length + m ≤ 1000000000)
    (h : ∀ v' w', OwnR e sz base w' v' (xs ++ ys) → Below base w0 w' → base ≤ w'.heap.size → wr.grownBy w' v.ownBlock → wpList Tryz.prog ops Q rest (act.put o.dst v') w') :
    wpList Tryz.prog ops Q (o :: rest) act wr := by
  obtain ⟨i0, hi, hz0, hz1, hz2⟩ := info_parts inf
  subst hm
  refine wpList_append_own _ hgd s x ts ho base e i0 z sz nb ut hi hz0 hz1 hz2 hz h0 v xs.length _ hs hown.row ad ys.length c ys.flatten hx (flat_length ys hy)
    hnews (fun u hu => ?_) (by unfold maxLen; omega) ?_ hbase (fun v' w' hown' hgrow _ => ?_)
  · obtain ⟨r, hr, hur⟩ := List.mem_flatten.1 hu
    exact h1 r hr u hur
  · calc (xs.length + ys.length) * nb ≤ 1000000000 * 1000 := Nat.mul_le_mul hl hnb
      _ ≤ _ := by omega
  · refine h v' w' ⟨?_, ?_⟩ (hb.grown hgrow hbase (fun k hk => (World.ownsRow.lt hown.row k hk).1)) (by have := hgrow.size; omega) hgrow
    · rw [List.length_append, List.flatten_append]; exact hown'
    · intro r hr
      rcases List.mem_append.1 hr with hr | hr
      · exact hown.len r hr
      · exact hy r hr
/-- The same in a region that draws its order: a literal's rows, whose block is known. -/
theorem step_rows {e ts : TypeId} {sz nb : Nat} {z : Value} {E : Prop} {K : Act → World → Prop} (inf : (Tryz.prog.info? e).map (fun i => (i.zero, i.size, i.bytes)) = some (some z, sz, nb)) (hz : z.cells.size = sz) (h0 : 0 < sz) (hnb : nb ≤ 1000) (ut : Tryz.prog.underlying ts = some (.slice e))
    (hgd : o.guard = none) (s x : Operand) (ho : o.op = .call { callee := .builtin .append, args := #[s, x], argTypes := #[ts, ts] })
    {base : Nat} {w0 wr : World} {v : Value} {xs : List (List Value)} (ys : List (List Value)) (hs : act.eval s = v) (hown : OwnR e sz base wr v xs) (hb : Below base w0 wr) (hbase : base ≤ wr.heap.size)
    (ad : Addr) (m c : Nat) (hm : ys.length = m) (hx : act.eval x = .slice (some ad) m c) (hy : ∀ r ∈ ys, r.length = sz) (hnews : ∀ j u, ys.flatten[j]? = some u → wr.cell? (ad.add j) = some u) (h1 : ∀ r ∈ ys, ∀ u ∈ r, u.oneCell' = true)
    (hl : xs.length + m ≤ 1000000000)
    (h : ∀ v' w', OwnR e sz base w' v' (xs ++ ys) → Below base w0 w' → base ≤ w'.heap.size → wr.grownBy w' v.ownBlock → K (act.put o.dst v') w') :
    if Region.wanted o (yielded ops act.tmps) = true then Oper.wp Tryz.prog o act wr K Q else E := by
  obtain ⟨i0, hi, hz0, hz1, hz2⟩ := info_parts inf
  subst hm
  have hw : Region.wanted o (yielded ops act.tmps) = true := by simp [Region.wanted, hgd]
  rw [if_pos hw]
  refine wp_append_own _ s x ts ho base e i0 z sz nb ut hi hz0 hz1 hz2 hz h0 v xs.length _ hs hown.row ad ys.length c ys.flatten hx (flat_length ys hy)
    hnews (fun u hu => ?_) (by unfold maxLen; omega) ?_ hbase (fun v' w' hown' hgrow _ => ?_)
  · obtain ⟨r, hr, hur⟩ := List.mem_flatten.1 hu
    exact h1 r hr u hur
  · calc (xs.length + ys.length) * nb ≤ 1000000000 * 1000 := Nat.mul_le_mul hl hnb
      _ ≤ _ := by omega
  · refine h v' w' ⟨?_, ?_⟩ (hb.grown hgrow hbase (fun k hk => (World.ownsRow.lt hown.row k hk).1)) (by have := hgrow.size; omega) hgrow
    · rw [List.length_append, List.flatten_append]; exact hown'
    · intro r hr
      rcases List.mem_append.1 hr with hr | hr
      · exact hown.len r hr
      · exact hy r hr
end
end Go.Proofs.YtaibfefmehhldaaGreatDoor.Mod

namespace Go.Proofs.YtaibfefmehhldaaGreatDoor
open Go.RowKit

/-- Of what was there only blocks of S have turned. -/
structure Touch (S : Nat → Prop) (w w' : World) : Prop where
  os : w'.os = w.os
  tape : w'.tape = w.tape
  output : w'.output = w.output
  size : w.heap.size ≤ w'.heap.size
  block : ∀ j, j < w.heap.size → ¬ S j → w'.heap[j]? = w.heap[j]?
theorem Touch.refl (S : Nat → Prop) (w : World) : Touch S w w := ⟨rfl, rfl, rfl, Nat.le_refl _, fun _ _ _ => rfl⟩
theorem Touch.trans {S : Nat → Prop} {a b c : World} (h : Touch S a b) (g : Touch S b c) : Touch S a c :=
  ⟨g.os.trans h.os, g.tape.trans h.tape, g.output.trans h.output, Nat.le_trans h.size g.size, fun j hj hk => (g.block j (Nat.lt_of_lt_of_le hj h.size) hk).trans (h.block j hj hk)⟩
theorem Touch.mono {S T : Nat → Prop} {a b : World} (h : Touch S a b) (hs : ∀ j, S j → T j) : Touch T a b := ⟨h.os, h.tape, h.output, h.size, fun j hj hk => h.block j hj (fun hs' => hk (hs j hs'))⟩
theorem Touch.of_save {k : Nat} {w w' : World} (h : Save k w w') : Touch (fun j => j = k) w w' := ⟨h.os, h.tape, h.output, h.size, fun j hj hk => h.block j hj hk⟩
theorem Touch.of_below {S : Nat → Prop} {w w' : World} (h : Below w.heap.size w w') : Touch S w w' := ⟨h.os, h.tape, h.output, h.size, fun j hj _ => h.block j hj⟩
theorem Touch.of_grown {w w' : World} {row : Option Nat} (h : w.grownBy w' row) : Touch (fun j => row = some j) w w' := ⟨h.os, h.tape, h.output, h.size, fun j hj hk => h.block j hj (fun e => hk e.symm)⟩
theorem Touch.alloc {S : Nat → Prop} {a b : World} (h : Touch S a b) (o : Obj) : Touch S a (b.alloc o) := h.trans (.of_below ((Below.refl _ _).alloc (Nat.le_refl _) o))
theorem Touch.setCell {S : Nat → Prop} {a b : World} (h : Touch S a b) {p : Addr} (hp : S p.block ∨ a.heap.size ≤ p.block) (v : Value) : Touch S a (b.setCell p v) :=
  ⟨h.os, h.tape, h.output, by have := h.size; simpa [World.setCell] using this, fun j hj hk => (Below.heap_setCell _ _ _ _ (by rcases hp with hp | hp; rintro rfl; exact hk hp; omega)).trans (h.block j hj hk)⟩
theorem Touch.below {S : Nat → Prop} {B : Nat} {a b : World} (h : Touch S a b) (hB : B ≤ a.heap.size) (hs : ∀ j, S j → B ≤ j) : Below B a b :=
  ⟨h.os, h.tape, h.output, h.size, fun j hj => h.block j (by omega) (fun hj' => by have := hs j hj'; omega)⟩
theorem Touch.cell {S : Nat → Prop} {w w' : World} (h : Touch S w w') {p : Addr} {v : Value} (hk : ¬ S p.block) (hc : w.cell? p = some v) : w'.cell? p = some v :=
  (World.cell?_of_block (w := w) (h.block p.block (World.block_lt_of_cell? w _ hc) hk)).trans hc
theorem touch_row {S : Nat → Prop} {w w' : World} {base size n : Nat} {e : TypeId} {v : Value} {xs : List Value} (h : w.ownsRow base e size v n xs) (ht : Touch S w w') (hk : ∀ g, v.ownBlock = some g → ¬ S g) : w'.ownsRow base e size v n xs := by
  refine ⟨h.1, ?_⟩
  rcases h.2 with h0 | ⟨g, cap, cur, rfl, hg, hh, rest⟩
  · exact .inl h0
  · exact .inr ⟨g, cap, cur, rfl, hg, (ht.block g (Array.getElem?_eq_some_iff.1 hh).1 (hk g rfl)).trans hh, rest⟩
theorem plain_add (b i : Nat) : (⟨b, 0, none⟩ : Addr).add i = ⟨b, i, none⟩ := by unfold Addr.add; split <;> simp_all

/-- A block that can be written. -/
def Soft (w : World) (q : Nat) : Prop := ∃ cs e, w.heap[q]? = some (.cells cs e (0, 0))
theorem Soft.touch {S : Nat → Prop} {w w' : World} {q : Nat} (h : Soft w q) (ht : Touch S w w') (hk : ¬ S q) : Soft w' q := by
  obtain ⟨cs, e, h⟩ := h
  exact ⟨cs, e, (ht.block q (Array.getElem?_eq_some_iff.1 h).1 hk).trans h⟩
theorem Soft.frozen {w : World} {q : Nat} (h : Soft w q) (i : Nat) : w.frozen? ⟨q, i, none⟩ = false := by
  obtain ⟨cs, e, h⟩ := h
  simp [World.frozen?, h]
theorem Soft.lt {w : World} {q : Nat} (h : Soft w q) : q < w.heap.size := by
  obtain ⟨cs, e, h⟩ := h
  exact (Array.getElem?_eq_some_iff.1 h).1
theorem soft_row {w : World} {base size n : Nat} {e : TypeId} {v : Value} {xs : List Value} (h : w.ownsRow base e size v n xs) {g : Nat} (hg : v.ownBlock = some g) : Soft w g := by
  rcases h.2 with ⟨rfl, _⟩ | ⟨g', cap, cur, rfl, _, hh, _⟩
  · simp [Value.ownBlock] at hg
  · simp only [Value.ownBlock, Option.some.injEq] at hg
    subst hg
    exact ⟨_, _, hh⟩

namespace Instr
def blkOf (n : Nat) (a : Option Addr) : List Nat := if n = 0 then [] else match a with
  | some p => [p.block]
  | none => []
/-- The blocks that hold what is in these instructions: labels, lists. -/
def Il.foot : Il → List Nat
  | .nil => []
  | .cons x l e r => (blkOf x.tags.length x.ta ++ (blkOf x.ln x.la ++ l.foot) ++ (blkOf x.en x.ea ++ e.foot)) ++ r.foot
def Il.cells : Il → List Value
  | .nil => []
  | .cons x _ _ r => x.vals.toList ++ r.cells
/-- What is in these instructions lies as it should; the row that holds themselves may move. -/
def Il.kids (w : World) : Il → Prop
  | .nil => True
  | .cons x l e r => x.ok ∧ TagsAt w.heap.size w x.ta x.tags ∧ ListAt w.heap.size w x.la x.ln l ∧ ListAt w.heap.size w x.ea x.en e ∧ r.kids w
theorem foot_app : ∀ t u : Il, (t.app u).foot = t.foot ++ u.foot
  | .nil, _ => rfl
  | .cons x l e r, u => by simp only [Il.app, Il.foot, foot_app r, List.append_assoc]
theorem cells_app : ∀ t u : Il, (t.app u).cells = t.cells ++ u.cells
  | .nil, _ => rfl
  | .cons x l e r, u => by simp only [Il.app, Il.cells, cells_app r, List.append_assoc]
theorem kids_app {w : World} : ∀ t u : Il, t.kids w → u.kids w → (t.app u).kids w
  | .nil, _, _, h => h
  | .cons _ _ _ r, u, ⟨h1, h2, h3, h4, h5⟩, h => ⟨h1, h2, h3, h4, kids_app r u h5 h⟩

theorem TagsAt.touch {S : Nat → Prop} {n₀ : Nat} {w w' : World} {a : Option Addr} {zs : List Int} (h : TagsAt n₀ w a zs) (ht : Touch S w w') (hk : ∀ q ∈ blkOf zs.length a, ¬ S q) : TagsAt n₀ w' a zs := by
  rcases h with h | ⟨b, off, rfl, hl, hc⟩
  · exact .inl h
  · by_cases h0 : zs = []
    · exact .inl h0
    · have hne : zs.length ≠ 0 := fun h => h0 (List.eq_nil_of_length_eq_zero h)
      exact .inr ⟨b, off, rfl, hl, fun i hi => ht.cell (p := ⟨b, off + i, none⟩) (hk b (by simp [blkOf, hne])) (hc i hi)⟩
theorem Items.touch {S : Nat → Prop} {n₀ : Nat} {w w' : World} (ht : Touch S w w') : ∀ {t : Il} {b off : Nat}, Items n₀ w b off t → ¬ S b → (∀ q ∈ t.foot, ¬ S q) → Items n₀ w' b off t
  | .nil, _, _, _, _, _ => trivial
  | .cons x l e r, b, off, ⟨hl, hx, ⟨c0, c1, c2, c3, c4, c5, c6, c7⟩, htg, ⟨l1, l2⟩, ⟨e1, e2⟩, hr⟩, hb, hf => by
    have k : ∀ j v, w.cell? ⟨b, off + j, none⟩ = some v → w'.cell? ⟨b, off + j, none⟩ = some v := fun j v h => ht.cell (p := ⟨b, off + j, none⟩) hb h
    simp only [Il.foot, List.mem_append] at hf
    refine ⟨hl, hx, ⟨k 0 _ c0, k 1 _ c1, k 2 _ c2, k 3 _ c3, k 4 _ c4, k 5 _ c5, k 6 _ c6, k 7 _ c7⟩, htg.touch ht (fun q hq => hf q (.inl (.inl (.inl hq)))), ⟨l1, ?_⟩, ⟨e1, ?_⟩, Items.touch ht hr hb (fun q hq => hf q (.inr hq))⟩
    · rcases l2 with h | ⟨b', o', ha, hi⟩
      · exact .inl h
      · cases l with
        | nil => exact .inl rfl
        | cons y m f s =>
          have hne : x.ln ≠ 0 := by rw [← l1]; simp [Il.len]
          exact .inr ⟨b', o', ha, Items.touch ht hi (hf b' (.inl (.inl (.inr (.inl (by simp [blkOf, hne, ha])))))) (fun q hq => hf q (.inl (.inl (.inr (.inr hq)))))⟩
    · rcases e2 with h | ⟨b', o', ha, hi⟩
      · exact .inl h
      · cases e with
        | nil => exact .inl rfl
        | cons y m f s =>
          have hne : x.en ≠ 0 := by rw [← e1]; simp [Il.len]
          exact .inr ⟨b', o', ha, Items.touch ht hi (hf b' (.inl (.inr (.inl (by simp [blkOf, hne, ha]))))) (fun q hq => hf q (.inl (.inr (.inr hq))))⟩
theorem ListAt.touch {S : Nat → Prop} {n₀ : Nat} {w w' : World} {a : Option Addr} {n : Nat} {t : Il} (h : ListAt n₀ w a n t) (ht : Touch S w w') (hk : ∀ q ∈ blkOf n a ++ t.foot, ¬ S q) : ListAt n₀ w' a n t := by
  obtain ⟨h1, h2⟩ := h
  refine ⟨h1, ?_⟩
  rcases h2 with h | ⟨b', o', ha, hi⟩
  · exact .inl h
  · cases t with
    | nil => exact .inl rfl
    | cons y m f s =>
      have hne : n ≠ 0 := by rw [← h1]; simp [Il.len]
      exact .inr ⟨b', o', ha, Items.touch ht hi (hk b' (by simp [blkOf, hne, ha])) (fun q hq => hk q (by simp [hq]))⟩
theorem kids_touch {S : Nat → Prop} {w w' : World} (ht : Touch S w w') : ∀ {t : Il}, t.kids w → (∀ q ∈ t.foot, ¬ S q) → t.kids w'
  | .nil, _, _ => trivial
  | .cons x l e r, ⟨h1, h2, h3, h4, h5⟩, hf => by
    simp only [Il.foot, List.mem_append] at hf
    exact ⟨h1, (h2.touch ht (fun q hq => hf q (.inl (.inl (.inl hq))))).more ht.size, ListAt.more ht.size (h3.touch ht (fun q hq => hf q (.inl (.inl (.inr (List.mem_append.1 hq)))))),
      ListAt.more ht.size (h4.touch ht (fun q hq => hf q (.inl (.inr (List.mem_append.1 hq))))), kids_touch ht h5 (fun q hq => hf q (.inr hq))⟩
theorem tags_lt {n₀ : Nat} {w : World} {a : Option Addr} {zs : List Int} (h : TagsAt n₀ w a zs) : ∀ q ∈ blkOf zs.length a, q < n₀ := by
  intro q hq
  rcases h with rfl | ⟨b, off, rfl, hl, _⟩
  · simp [blkOf] at hq
  · unfold blkOf at hq
    split at hq
    · simp at hq
    · simp at hq; omega
mutual
theorem items_lt {n₀ : Nat} {w : World} : ∀ {t : Il} {b off : Nat}, Items n₀ w b off t → ∀ q ∈ t.foot, q < n₀
  | .nil, _, _, _, q, hq => by simp [Il.foot] at hq
  | .cons x l e r, b, off, ⟨_, _, _, ht, hl, he, hr⟩, q, hq => by
    simp only [Il.foot, List.mem_append] at hq
    rcases hq with ((hq | hq) | hq) | hq
    · exact tags_lt ht q hq
    · exact list_lt (t := l) hl q (List.mem_append.2 hq)
    · exact list_lt (t := e) he q (List.mem_append.2 hq)
    · exact items_lt hr q hq
theorem list_lt {n₀ : Nat} {w : World} {a : Option Addr} {n : Nat} : ∀ {t : Il}, ListAt n₀ w a n t → ∀ q ∈ blkOf n a ++ t.foot, q < n₀
  | .nil, ⟨h1, _⟩, q, hq => by simp [← h1, blkOf, Il.len, Il.foot] at hq
  | .cons x l e r, ⟨h1, h2⟩, q, hq => by
    rcases h2 with h | ⟨b, off, rfl, hb, hx, hc, ht, hl, he, hr⟩
    · cases h
    · rcases List.mem_append.1 hq with hq | hq
      · unfold blkOf at hq
        split at hq
        · simp at hq
        · simp at hq; omega
      · simp only [Il.foot, List.mem_append] at hq
        rcases hq with ((hq | hq) | hq) | hq
        · exact tags_lt ht q hq
        · exact list_lt (t := l) hl q (List.mem_append.2 hq)
        · exact list_lt (t := e) he q (List.mem_append.2 hq)
        · exact items_lt hr q hq
end
theorem kids_lt {w : World} : ∀ {t : Il}, t.kids w → ∀ q ∈ t.foot, q < w.heap.size
  | .nil, _, q, hq => by simp [Il.foot] at hq
  | .cons x l e r, ⟨_, ht, hl, he, hr⟩, q, hq => by
    simp only [Il.foot, List.mem_append] at hq
    rcases hq with ((hq | hq) | hq) | hq
    · exact tags_lt ht q hq
    · exact list_lt hl q (List.mem_append.2 hq)
    · exact list_lt he q (List.mem_append.2 hq)
    · exact kids_lt hr q hq
/-- A row that holds them, and what is in them: a list in memory. -/
theorem items_of {w : World} {g : Nat} (hg : g < w.heap.size) : ∀ (t : Il) (off : Nat), (∀ j u, t.cells[j]? = some u → w.cell? ⟨g, off + j, none⟩ = some u) → t.kids w → Items w.heap.size w g off t
  | .nil, _, _, _ => trivial
  | .cons x l e r, off, hc, ⟨h1, h2, h3, h4, h5⟩ => by
    have h8 : ∀ q u, q < 8 → x.vals.toList[q]? = some u → w.cell? ⟨g, off + q, none⟩ = some u := fun q u hq hu => hc q u (by
      rw [Il.cells, List.getElem?_append_left (by simpa [Ix.vals] using hq)]; exact hu)
    refine ⟨hg, h1, ⟨h8 0 _ (by omega) rfl, h8 1 _ (by omega) rfl, h8 2 _ (by omega) rfl, h8 3 _ (by omega) rfl, h8 4 _ (by omega) rfl, h8 5 _ (by omega) rfl, h8 6 _ (by omega) rfl, h8 7 _ (by omega) rfl⟩, h2, h3, h4, items_of hg r (off + 8) (fun j u hu => ?_) h5⟩
    have := hc (8 + j) u (by
      rw [Il.cells, List.getElem?_append_right (by simp [Ix.vals])]
      simpa [Ix.vals] using hu)
    rw [show off + 8 + j = off + (8 + j) by omega]
    exact this
theorem list_of_row {w : World} {base : Nat} {v : Value} {t : Il} (h : w.ownsRow base 87 8 v t.len t.cells) (hk : t.kids w) : ∃ a c, v = .slice a t.len c ∧ ListAt w.heap.size w a t.len t ∧ blkOf t.len a = (if t.len = 0 then [] else match v.ownBlock with
    | some g => [g]
    | none => []) := by
  rcases h.2 with ⟨rfl, h0⟩ | ⟨g, cap, cur, rfl, _, hh, _⟩
  · refine ⟨none, 0, by rw [h0], ⟨rfl, .inl (len_zero h0)⟩, by simp [blkOf, h0]⟩
  · have hlt : g < w.heap.size := (Array.getElem?_eq_some_iff.1 hh).1
    refine ⟨_, _, rfl, ⟨rfl, .inr ⟨g, 0, rfl, items_of hlt t 0 (fun j u hu => ?_) hk⟩⟩, by simp [blkOf, Value.ownBlock]⟩
    have := World.ownsRow.cells h (g := g) rfl j u hu
    rw [plain_add] at this
    rw [Nat.zero_add]
    exact this
where len_zero : ∀ {t : Il}, t.len = 0 → t = .nil
  | .nil, _ => rfl
  | .cons _ _ _ _, h => by simp [Il.len] at h
end Instr
end Go.Proofs.YtaibfefmehhldaaGreatDoor

/-
  BODY: the open lists in memory: a row of them, each with a row of its instructions; how a top one turns.
-/
namespace Go.Proofs.YtaibfefmehhldaaGreatDoor.Body
open Go.RowKit Go.Proofs.YtaibfefmehhldaaGreatDoor.Instr
open Go.Proofs.YtaibfefmehhldaaGreatDoor.Kind (Rd)

/-- Eight cells of a row are written over. -/
def store8 (w : World) (g off : Nat) (x : Ix) : World :=
  (((((((w.setCell ⟨g, off, none⟩ (.int .i64 x.op)).setCell ⟨g, off + 1, none⟩ (.int .i64 x.res)).setCell ⟨g, off + 2, none⟩ (.int .u32 x.a)).setCell ⟨g, off + 3, none⟩ (.int .u32 x.b)).setCell ⟨g, off + 4, none⟩ (.int .i32 x.n)).setCell
    ⟨g, off + 5, none⟩ (.slice x.ta x.tags.length x.tc)).setCell ⟨g, off + 6, none⟩ (.slice x.la x.ln x.lc)).setCell ⟨g, off + 7, none⟩ (.slice x.ea x.en x.ec)
theorem store8_touch (w : World) (g off : Nat) (x : Ix) : Touch (fun j => j = g) w (store8 w g off x) := by
  have step : ∀ (a b : World) (q : Addr) (v : Value), q.block = g → Touch (fun j => j = g) a b → Touch (fun j => j = g) a (b.setCell q v) := fun a b q v hq h => h.setCell (.inl hq) v
  unfold store8
  exact step _ _ _ _ rfl (step _ _ _ _ rfl (step _ _ _ _ rfl (step _ _ _ _ rfl (step _ _ _ _ rfl (step _ _ _ _ rfl (step _ _ _ _ rfl (step _ _ _ _ rfl (Touch.refl _ w))))))))
end Go.Proofs.YtaibfefmehhldaaGreatDoor.Body

namespace Go.Proofs.YtaibfefmehhldaaGreatDoor.Mod
open Go.RowKit Go.Proofs.YtaibfefmehhldaaGreatDoor.Instr
set_option linter.unusedVariables false

/-- What an item holds besides its own cells. -/
structure Part where
  l : Lst
  ta : Option Addr
  ts : List Int
  ba : Option Addr
  bs : List Int
def Part.lies (p : Part) (w : World) : Prop := ListAt w.heap.size w p.l.a p.l.t.len p.l.t ∧ TagsAt w.heap.size w p.ta p.ts ∧ BytesAt w.heap.size w p.ba p.bs
def Part.foot (p : Part) : List Nat := (blkOf p.l.t.len p.l.a ++ p.l.t.foot) ++ (blkOf p.ts.length p.ta ++ blkOf p.bs.length p.ba)
theorem BytesAt.touch {S : Nat → Prop} {n₀ : Nat} {w w' : World} {a : Option Addr} {zs : List Int} (h : BytesAt n₀ w a zs) (ht : Touch S w w') (hk : ∀ q ∈ blkOf zs.length a, ¬ S q) : BytesAt n₀ w' a zs := by
  rcases h with h | ⟨b, off, rfl, hl, hc⟩
  · exact .inl h
  · by_cases h0 : zs = []
    · exact .inl h0
    · have hne : zs.length ≠ 0 := fun h => h0 (List.eq_nil_of_length_eq_zero h)
      exact .inr ⟨b, off, rfl, hl, fun i hi => ht.cell (p := ⟨b, off + i, none⟩) (hk b (by simp [blkOf, hne])) (hc i hi)⟩
theorem Part.touch {S : Nat → Prop} {p : Part} {w w' : World} (h : p.lies w) (ht : Touch S w w') (hk : ∀ q ∈ p.foot, ¬ S q) : p.lies w' := by
  obtain ⟨h1, h2, h3⟩ := h
  have k1 : ∀ q ∈ blkOf p.l.t.len p.l.a ++ p.l.t.foot, ¬ S q := fun q hq => hk q (List.mem_append_left _ hq)
  have k2 : ∀ q ∈ blkOf p.ts.length p.ta, ¬ S q := fun q hq => hk q (List.mem_append_right _ (List.mem_append_left _ hq))
  have k3 : ∀ q ∈ blkOf p.bs.length p.ba, ¬ S q := fun q hq => hk q (List.mem_append_right _ (List.mem_append_right _ hq))
  exact ⟨(h1.touch ht k1).more ht.size, (h2.touch ht k2).more ht.size, (h3.touch ht k3).more ht.size⟩

section
variable {α : Type}
/-- Items that have been copied so far, in memory of their own. -/
structure Got (e : TypeId) (sz base : Nat) (f : α → List Value) (p : α → Part) (W : World) (v : Value) (us : List α) : Prop where
  row : OwnR e sz base W v (us.map f)
  kids : ∀ x ∈ us, (p x).lies W
  low : ∀ x ∈ us, ∀ q ∈ (p x).foot, base ≤ q
  lt : ∀ x ∈ us, ∀ q ∈ (p x).foot, q < W.heap.size
  apart : ∀ x ∈ us, ∀ q ∈ (p x).foot, v.ownBlock ≠ some q
theorem OwnR.touch {e : TypeId} {sz base : Nat} {S : Nat → Prop} {w w' : World} {v : Value} {rs : List (List Value)} (h : OwnR e sz base w v rs) (ht : Touch S w w') (hk : ∀ g, v.ownBlock = some g → ¬ S g) : OwnR e sz base w' v rs :=
  ⟨touch_row h.row ht hk, h.len⟩
theorem Got.touch {e : TypeId} {sz base : Nat} {f : α → List Value} {p : α → Part} {S : Nat → Prop} {W W' : World} {v : Value} {us : List α} (h : Got e sz base f p W v us) (ht : Touch S W W') (hs : ∀ q, base ≤ q → q < W.heap.size → ¬ S q) : Got e sz base f p W' v us :=
  ⟨h.row.touch ht (fun g hg => hs g (World.ownsRow.lt h.row.row g hg).1 (World.ownsRow.lt h.row.row g hg).2), fun x hx => Part.touch (h.kids x hx) ht (fun q hq => hs q (h.low x hx q hq) (h.lt x hx q hq)), h.low, fun x hx q hq => Nat.lt_of_lt_of_le (h.lt x hx q hq) ht.size, h.apart⟩
/-- Behind what turns one block, that lies below them. -/
theorem Got.save {e : TypeId} {sz base k : Nat} {f : α → List Value} {p : α → Part} {W W' : World} {v : Value} {us : List α} (h : Got e sz base f p W v us) (hs : Save k W W') (hk : k < base) : Got e sz base f p W' v us :=
  h.touch (.of_save hs) (fun q hq _ e => by omega)
theorem Got.below {e : TypeId} {sz base : Nat} {f : α → List Value} {p : α → Part} {W W' : World} {v : Value} {us : List α} (h : Got e sz base f p W v us) (hb : Below W.heap.size W W') : Got e sz base f p W' v us :=
  h.touch (S := fun _ => False) (.of_below hb) (fun _ _ _ h => h)
/-- One more. -/
theorem Got.snoc {e : TypeId} {sz base : Nat} {f : α → List Value} {p : α → Part} {W W3 : World} {v v' : Value} {us : List α} {x : α} {n0 : Nat} (h : Got e sz base f p W v us) (hx : (p x).lies W) (hlo : ∀ q ∈ (p x).foot, n0 ≤ q) (hlt : ∀ q ∈ (p x).foot, q < W.heap.size) (hb : base ≤ n0) (hv : ∀ g, v.ownBlock = some g → g < n0)
    (hown : OwnR e sz base W3 v' (us.map f ++ [f x])) (hg : W.grownBy W3 v.ownBlock) (hat : ∀ g, v'.ownBlock = some g → v.ownBlock = some g ∨ W.heap.size ≤ g) : Got e sz base f p W3 v' (us ++ [x]) := by
  have ht : Touch (fun j => v.ownBlock = some j) W W3 := Touch.of_grown hg
  have hne : ∀ q ∈ (p x).foot, v.ownBlock ≠ some q := fun q hq e => by
    have h1 := hlo q hq
    have h2 := hv q e
    omega
  refine ⟨by rw [List.map_append]; exact hown, ?_, ?_, ?_, ?_⟩
  · intro y hy
    rcases List.mem_append.1 hy with hy | hy
    · exact Part.touch (h.kids y hy) ht (h.apart y hy)
    · rw [List.mem_singleton] at hy; subst hy
      exact Part.touch hx ht hne
  · intro y hy q hq
    rcases List.mem_append.1 hy with hy | hy
    · exact h.low y hy q hq
    · rw [List.mem_singleton] at hy; subst hy
      exact Nat.le_trans hb (hlo q hq)
  · intro y hy q hq
    rcases List.mem_append.1 hy with hy | hy
    · exact Nat.lt_of_lt_of_le (h.lt y hy q hq) ht.size
    · rw [List.mem_singleton] at hy; subst hy
      exact Nat.lt_of_lt_of_le (hlt q hq) ht.size
  · intro y hy q hq e
    rcases List.mem_append.1 hy with hy | hy
    · rcases hat q e with e2 | e2
      · exact h.apart y hy q hq e2
      · have := h.lt y hy q hq; omega
    · rw [List.mem_singleton] at hy; subst hy
      rcases hat q e with e2 | e2
      · exact hne q hq e2
      · have := hlt q hq; omega
end
/-- The tags' blocks. -/
theorem foot_lt {p : Part} {w : World} (h : p.lies w) : ∀ q ∈ p.foot, q < w.heap.size := by
  obtain ⟨h1, h2, h3⟩ := h
  intro q hq
  rcases List.mem_append.1 hq with hq | hq
  · exact list_lt h1 q hq
  · rcases List.mem_append.1 hq with hq | hq
    · rcases h2 with h2 | ⟨b, off, ha, hl, _⟩
      · rw [h2] at hq; simp [blkOf] at hq
      · rw [ha] at hq
        unfold blkOf at hq
        split at hq
        · simp at hq
        · simp at hq; subst hq; exact hl
    · rcases h3 with h3 | ⟨b, off, ha, hl, _⟩
      · rw [h3] at hq; simp [blkOf] at hq
      · rw [ha] at hq
        unfold blkOf at hq
        split at hq
        · simp at hq
        · simp at hq; subst hq; exact hl
end Go.Proofs.YtaibfefmehhldaaGreatDoor.Mod

namespace Go.Proofs.YtaibfefmehhldaaGreatDoor.Leb
open Go.RowKit

theorem m0 : (max (0 : Int) (-3)).toNat = 0 := rfl
end Go.Proofs.YtaibfefmehhldaaGreatDoor.Leb

namespace Go.Proofs.YtaibfefmehhldaaGreatDoor.Leb
open Go.RowKit

/-- What a read gives back: number, place behind it, error, its place; all that was there stays. -/
def Got (k : IntKind) (w : World) (r : Int × Int × Int × Int) (e : Ending) (w' : World) : Prop :=
  e = .returned (.tuple #[.int k r.1, .int .i64 r.2.1, .agg #[.int .i64 r.2.2.1, .int .i64 r.2.2.2]]) ∧ Below w.heap.size w w'

end Go.Proofs.YtaibfefmehhldaaGreatDoor.Leb
