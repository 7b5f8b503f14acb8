import Derived.Test.YtlfflomeaplidaaDoorInstrLeaf
import Derived.Test.YtlfflomeaplidaaDoorRows
import Derived.ProofKit
import Derived.OpenShut
import Derived.ShutString
import Derived.ChangeOld
import Derived.Below
import Derived.SizedLaws
import Derived.Lib.LaidU8
import Derived.Lay
import Derived.Test.YtlfflomeaplidaaDoorInstrHeap
import Derived.ChangeArms
import Derived.Lib.SmallJoins
/-
  What the rows list is what the walks ask: the table of names.
-/
namespace Go.Proofs.YtlfflomeaplidaaDoor
open Go.RowKit Go.Lib

theorem ownK : ownKnob Tryd.prog.godebug = none := by kernel_rfl
theorem laidOutK : laidOutB Tryd.prog = true := by kernel_rfl
theorem names_eq : (Rows.laid_gimlet_instr_names : DataW Unit) = .agg (Instr.nameTab.map fun s => .lit (.string (s.map fun z => UInt8.ofNat z.toNat))) := by kernel_rfl
theorem cells_of_strs {H : Type} {enc : TypeId × Value → H} {P : Program} {w : World} {base : Nat} {sp : Nat → Bool} {held : Bool} {fuel : Nat} {t e : TypeId} {n : Nat} {cs : List Value} {ss : List (List UInt8)} {p : List MemPlace}
    (ht : P.underlying t = some (.array n e)) (he : P.underlying e = some .string) (hce : P.cellsOf e = 1) (hct : P.cellsOf t = n)
    (h : DataW.trod enc P w base sp held fuel t cs = some (.agg (ss.map fun s => .lit (.string s)), p)) : cs = ss.map fun s => Value.string ⟨s.toArray⟩ := by
  cases fuel with
  | zero => simp [DataW.trod] at h
  | succ fuel =>
    simp only [DataW.trod, ht, hce, hct, Nat.mul_one] at h
    split at h
    · rename_i hl
      obtain ⟨xs, hm, hx⟩ := Option.map_eq_some_iff.1 h
      have hxs : xs.map (·.1) = ss.map fun s => (DataW.lit (.string s) : DataW H) := by
        have := congrArg Prod.fst hx
        simpa using this
      have hxl : xs.length = n := by simpa using mapM_length hm
      have hzl : ss.length = n := by
        have := congrArg List.length hxs
        simp at this
        omega
      apply List.ext_getElem?
      intro i
      by_cases hi : i < n
      · obtain ⟨b, hb, hf⟩ := mapM_at hm i i (by simp [hi])
        obtain ⟨z, hc, rfl, _⟩ := DataW.trod_string he hf
        have h1 : cs[i]? = some (.string z) := by
          have := congrArg (·[0]?) hc
          simpa [List.getElem?_take, List.getElem?_drop] using this
        have h2 : (xs.map (·.1))[i]? = some (DataW.lit (.string z.data.toList) : DataW H) := by simp [hb]
        rw [hxs] at h2
        simp only [List.getElem?_map, Option.map_eq_some_iff, DataW.lit.injEq, Lit.string.injEq] at h2
        obtain ⟨z', hz', he'⟩ := h2
        simp [h1, hz', he']
      · rw [List.getElem?_eq_none (by omega), List.getElem?_eq_none (by simp; omega)]
    · cases h
theorem nams_of {W : World} {l : List (String × DataW Unit)} (hm : ("gimlet/instr.names", Rows.laid_gimlet_instr_names) ∈ l) (hL : laidMet Tryd.prog l W) : Instr.Nams W := by
  obtain ⟨g, t, cs, fuel, p, hg, hty, hvar, hd⟩ := Lib.laidMet.reads hL hm
  obtain rfl := Option.some.inj ((show Tryd.prog.globalNamed "gimlet/instr.names" = some 0 by kernel_rfl).symm.trans hg)
  obtain rfl := Option.some.inj ((show (Tryd.prog.globals[0]?).map (·.type) = some 158 by kernel_rfl).symm.trans hty)
  rw [names_eq] at hd
  have hcs := cells_of_strs (ss := Instr.nameTab.map fun s => s.map fun z => UInt8.ofNat z.toNat) Tryd.underlying158 Tryd.underlying9 (by kernel_rfl) (by kernel_rfl) (by rw [List.map_map]; exact hd)
  have hlen : Instr.nameTab.length = 121 := by decide +kernel
  intro j hj
  rw [World.var?_cell hg hvar j, ← Array.getElem?_toList, hcs]
  simp [List.getD, hlen, hj, strOfNums]
end Go.Proofs.YtlfflomeaplidaaDoor

/-
  INSTR: an argument that is a list of instructions is opened.
-/
namespace Go.Proofs.YtlfflomeaplidaaDoor.Instr
open Go.RowKit Go.ChangeShapes

theorem cellsI : Tryd.prog.cellsOf 61 = 8 := by kernel_rfl
theorem cellsU : Tryd.prog.cellsOf 42 = 1 := by kernel_rfl
theorem cells1 : Tryd.prog.cellsOf 3 = 1 ∧ Tryd.prog.cellsOf 21 = 1 ∧ Tryd.prog.cellsOf 59 = 1 ∧ Tryd.prog.cellsOf 22 = 1 := by
  refine ⟨?_, ?_, ?_, ?_⟩ <;> kernel_rfl
theorem bytesI : Tryd.prog.bytesOf 61 = 104 := by kernel_rfl
theorem bytesU : Tryd.prog.bytesOf 42 = 4 := by kernel_rfl

theorem weights_all {H : Type} {P : Program} {e : TypeId} : ∀ {l : List (DataW H)} {i : Nat} {d : DataW H}, l[i]? = some d → ∀ n ∈ d.weights P e, n ∈ DataW.weightsAll P e l
  | [], i, d, h, _, _ => by simp at h
  | d0 :: l, 0, d, h, n, hn => by
    simp only [List.getElem?_cons_zero, Option.some.injEq] at h
    subst h
    simp [DataW.weightsAll, hn]
  | d0 :: l, i + 1, d, h, n, hn => by
    have := weights_all (l := l) (i := i) (by simpa using h) n hn
    simp [DataW.weightsAll, this]

/-- What a cell holds, as a number. -/
def intAt (w : World) (a : Addr) : Int := match w.cell? a with | some (.int _ z) => z | _ => 0
theorem plainAdd (b o i : Nat) : (⟨b, o, none⟩ : Addr).add i = ⟨b, o + i, none⟩ := by unfold Addr.add; split <;> simp_all
theorem cells_one {w : World} {a : Addr} {cs : List Value} (h : w.cells? 0 a 1 = some cs) : ∃ v, cs = [v] ∧ w.cell? (a.add 0) = some v := by
  unfold World.cells? at h
  rw [if_pos (Nat.zero_le _)] at h
  simp only [List.range_succ, List.range_zero, List.nil_append, List.mapM_cons, List.mapM_nil, Option.bind_eq_bind, Option.pure_def] at h
  obtain ⟨v, hv, h⟩ := Option.bind_eq_some_iff.1 h
  simp at h
  exact ⟨v, h.symm, hv⟩

variable {H : Type} {enc : TypeId × Value → H} {W : World}

theorem open_tags {fuel : Nat} {cs : List Value} {x : DataW H × List MemPlace} (h : DataW.trod enc Tryd.prog W 0 (fun _ => true) true fuel 59 cs = some x) (hw : ∀ n ∈ x.1.weights Tryd.prog 59, n ≤ reachBytes) :
    ∃ (a : Option Addr) (c : Nat) (zs : List Int), cs = [.slice a zs.length c] ∧ zs.length ≤ 140737488351232 ∧ (∀ z ∈ zs, 0 ≤ z ∧ z < 4294967296) ∧ TagsAt W.heap.size W a zs := by
  rcases DataW.trod_slice Tryd.underlying59 h with ⟨rfl, _⟩ | ⟨a, len, cap, elems, rest, n, -, rfl, rfl, _, _, _, hlen, hel, _, _⟩
  · exact ⟨none, 0, [], rfl, by simp, by simp, .inl rfl⟩
  have hbound : (elems.length + rest.length) * Tryd.prog.bytesOf 42 ≤ reachBytes := by
    refine hw _ ?_
    simp [DataW.weights, Tryd.underlying59]
  rw [bytesU] at hbound
  simp only [reachBytes] at hbound
  have key : ∀ i, i < len → ∃ z, W.cell? (a.add i) = some (.int .u32 z) ∧ 0 ≤ z ∧ z < 4294967296 := by
    intro i hi
    have h1 := hel i hi
    rw [List.getElem?_eq_getElem (by omega), cellsU, Nat.mul_one] at h1
    obtain ⟨cs', hc, ht⟩ := Option.bind_eq_some_iff.1 h1
    obtain ⟨v, rfl, hv⟩ := cells_one hc
    obtain ⟨z, hz, _, hwf⟩ := DataW.trod_int Tryd.underlying42 ht
    simp only [List.cons.injEq, and_true] at hz
    subst hz
    have := bounds_u32 hwf
    have hp := World.cell?_spot hv
    have e : (a.add i).add 0 = a.add i := by
      obtain ⟨b, o, sp⟩ := a
      unfold Addr.add at hp ⊢
      (repeat' split) <;> simp_all
    rw [e] at hv
    exact ⟨z, hv, by omega, by omega⟩
  refine ⟨some a, cap, (List.range len).map fun i => intAt W (a.add i), by simp, by simp; omega, ?_, ?_⟩
  · intro z hz
    obtain ⟨i, hi, rfl⟩ := List.mem_map.1 hz
    obtain ⟨z', h1, h2⟩ := key i (List.mem_range.1 hi)
    simpa [intAt, h1] using h2
  · by_cases h0 : len = 0
    · subst h0; exact .inl (by simp)
    · obtain ⟨b, o, sp⟩ := a
      obtain ⟨z0, hz0, _⟩ := key 0 (by omega)
      have hsp := World.cell?_spot hz0
      have hsp' : sp = none := by
        unfold Addr.add at hsp
        (repeat' split at hsp) <;> simp_all
      subst hsp'
      refine .inr ⟨b, o, rfl, ?_, fun i hi => ?_⟩
      · have := World.block_lt_of_cell? W _ hz0
        rw [plainAdd] at this
        exact this
      · have hi' : i < len := by simpa using hi
        obtain ⟨z, h1, _⟩ := key i hi'
        rw [plainAdd] at h1
        rw [h1, getD_lt hi]
        simp [intAt, plainAdd, h1]

theorem run_il (n₀ : Nat) (b : Nat) : ∀ (k off : Nat), (∀ i, i < k → ∃ x l e, Items n₀ W b (off + i * 8) (.cons x l e .nil)) → ∃ t : Il, t.len = k ∧ Items n₀ W b off t
  | 0, _, _ => ⟨.nil, rfl, trivial⟩
  | k + 1, off, h => by
    obtain ⟨x, l, e, h1, h2, h3, h4, h5, h6, _⟩ := h 0 (by omega)
    obtain ⟨t, ht, hi⟩ := run_il n₀ b k (off + 8) (fun i hi => by
      have := h (i + 1) (by omega)
      rw [show off + (i + 1) * 8 = off + 8 + i * 8 by omega] at this
      exact this)
    rw [Nat.zero_mul, Nat.add_zero] at h3
    exact ⟨.cons x l e t, by simp [Il.len, ht], h1, h2, h3, h4, h5, h6, hi⟩

theorem cells_eight {w : World} {a : Addr} {cs : List Value} (h : w.cells? 0 a 8 = some cs) : ∃ v0 v1 v2 v3 v4 v5 v6 v7, cs = [v0, v1, v2, v3, v4, v5, v6, v7] ∧ w.cell? (a.add 0) = some v0 ∧ w.cell? (a.add 1) = some v1 ∧ w.cell? (a.add 2) = some v2 ∧ w.cell? (a.add 3) = some v3 ∧
    w.cell? (a.add 4) = some v4 ∧ w.cell? (a.add 5) = some v5 ∧ w.cell? (a.add 6) = some v6 ∧ w.cell? (a.add 7) = some v7 := by
  unfold World.cells? at h
  rw [if_pos (Nat.zero_le _)] at h
  simp only [show List.range 8 = [0, 1, 2, 3, 4, 5, 6, 7] by decide, List.mapM_cons, List.mapM_nil, Option.bind_eq_bind, Option.pure_def] at h
  obtain ⟨v0, h0, h⟩ := Option.bind_eq_some_iff.1 h
  obtain ⟨r1, h, e1⟩ := Option.bind_eq_some_iff.1 h
  obtain ⟨v1, h1, h⟩ := Option.bind_eq_some_iff.1 h
  obtain ⟨r2, h, e2⟩ := Option.bind_eq_some_iff.1 h
  obtain ⟨v2, h2, h⟩ := Option.bind_eq_some_iff.1 h
  obtain ⟨r3, h, e3⟩ := Option.bind_eq_some_iff.1 h
  obtain ⟨v3, h3, h⟩ := Option.bind_eq_some_iff.1 h
  obtain ⟨r4, h, e4⟩ := Option.bind_eq_some_iff.1 h
  obtain ⟨v4, h4, h⟩ := Option.bind_eq_some_iff.1 h
  obtain ⟨r5, h, e5⟩ := Option.bind_eq_some_iff.1 h
  obtain ⟨v5, h5, h⟩ := Option.bind_eq_some_iff.1 h
  obtain ⟨r6, h, e6⟩ := Option.bind_eq_some_iff.1 h
  obtain ⟨v6, h6, h⟩ := Option.bind_eq_some_iff.1 h
  obtain ⟨r7, h, e7⟩ := Option.bind_eq_some_iff.1 h
  obtain ⟨v7, h7, h⟩ := Option.bind_eq_some_iff.1 h
  simp only [Option.bind_some, Option.some.injEq] at *
  subst h e7 e6 e5 e4 e3 e2 e1
  exact ⟨v0, v1, v2, v3, v4, v5, v6, v7, rfl, h0, h1, h2, h3, h4, h5, h6, h7⟩

def w8 (w : World) (a : Addr) (i : Nat) : Option (List Value) := w.cells? 0 (a.add (i * 8)) 8
theorem open_il : ∀ (fuel : Nat) (cs : List Value) (x : DataW H × List MemPlace), DataW.trod enc Tryd.prog W 0 (fun _ => true) true fuel 22 cs = some x → (∀ n ∈ x.1.weights Tryd.prog 22, n ≤ reachBytes) →
    ∃ (a : Option Addr) (len c : Nat) (t : Il), cs = [.slice a len c] ∧ len ≤ c ∧ len ≤ 140737488351232 ∧ ListAt W.heap.size W a len t := by
  intro fuel
  induction fuel using Nat.strongRecOn with
  | ind fuel ih =>
    intro cs x h hw
    rcases DataW.trod_slice Tryd.underlying22 h with ⟨rfl, _⟩ | ⟨a, len, cap, elems, rest, n, hfu, rfl, rfl, _, hlc, _, hlen, hel, _, _⟩
    · exact ⟨none, 0, 0, .nil, rfl, by simp, by simp, rfl, .inl rfl⟩
    have hbound : (elems.length + rest.length) * Tryd.prog.bytesOf 61 ≤ reachBytes := by
      refine hw _ ?_
      simp [DataW.weights, Tryd.underlying22]
    rw [bytesI] at hbound
    simp only [reachBytes] at hbound
    have hwe : ∀ (i : Nat) (y : DataW H × List MemPlace), elems[i]? = some y → ∀ m ∈ y.1.weights Tryd.prog 61, m ≤ reachBytes := by
      intro i y hy m hm
      refine hw m ?_
      have : (elems.map (·.1))[i]? = some y.1 := by simp [hy]
      have := weights_all this m hm
      simp only [DataW.weights, Tryd.underlying22, List.mem_cons, List.mem_append]
      exact .inr (.inl this)
    refine ⟨some a, len, cap, ?_⟩
    by_cases h0 : len = 0
    · subst h0; exact ⟨.nil, rfl, by omega, by omega, rfl, .inl rfl⟩
    have one : ∀ i, i < len → ∃ cs' y, w8 W a i = some cs' ∧ elems[i]? = some y ∧ DataW.trod enc Tryd.prog W 0 (fun _ => true) true n 61 cs' = some y := by
      intro i hi
      have h1 := hel i hi
      rw [cellsI] at h1
      have h2 : elems[i]? = some elems[i] := List.getElem?_eq_getElem (by omega)
      rw [h2] at h1
      obtain ⟨cs', hc, ht⟩ := Option.bind_eq_some_iff.1 h1
      exact ⟨cs', _, hc, h2, ht⟩
    obtain ⟨b, o, sp⟩ := a
    have hsp : sp = none := by
      obtain ⟨cs', y, hc, _, _⟩ := one 0 (by omega)
      obtain ⟨v0, v1, v2, v3, v4, v5, v6, v7, _, hc0, _⟩ := cells_eight hc
      have hp := World.cell?_spot hc0
      unfold Addr.add at hp
      (repeat' split at hp) <;> simp_all
    subst hsp
    have each : ∀ i, i < len → ∃ x l e, Items W.heap.size W b (o + i * 8) (.cons x l e .nil) := by
      intro i hi
      obtain ⟨cs', y, hc, hy, ht⟩ := one i hi
      unfold w8 at hc
      rw [plainAdd] at hc
      obtain ⟨v0, v1, v2, v3, v4, v5, v6, v7, rfl, c0, c1, c2, c3, c4, c5, c6, c7⟩ := cells_eight hc
      simp only [plainAdd] at c0 c1 c2 c3 c4 c5 c6 c7
      have hwy := hwe i y hy
      obtain ⟨xs, m, hnm, rfl, _, hxl, hf⟩ := DataW.trod_struct Tryd.underlying61 ht
      have hwx : ∀ (j : Nat) (tj : TypeId) (z : DataW H × List MemPlace), ([3, 3, 42, 42, 21, 59, 22, 22] : List TypeId)[j]? = some tj → xs[j]? = some z → ∀ q ∈ z.1.weights Tryd.prog tj, q ≤ reachBytes := by
        intro j tj z htj hz q hq
        refine hwy q ?_
        simp only [DataW.weights, Tryd.underlying61]
        exact DataW.weights_mem_each htj (by simp [hz]) q hq
      have f0 : DataW.trod enc Tryd.prog W 0 (fun _ => true) true m 3 [v0] = xs[0]? := by have h := hf 0 { name := "Op", type := 3, offset := 0, embedded := false, tag := "", pkgPath := "", byteOffset := 0 } rfl; simpa only [cells1.1, cells1.2.1, cells1.2.2.1, cells1.2.2.2, cellsU, List.drop_zero, List.take_succ_cons, List.take_zero, List.drop_succ_cons] using h
      have f1 : DataW.trod enc Tryd.prog W 0 (fun _ => true) true m 3 [v1] = xs[1]? := by have h := hf 1 { name := "Results", type := 3, offset := 1, embedded := false, tag := "", pkgPath := "", byteOffset := 8 } rfl; simpa only [cells1.1, cells1.2.1, cells1.2.2.1, cells1.2.2.2, cellsU, List.drop_zero, List.take_succ_cons, List.take_zero, List.drop_succ_cons] using h
      have f2 : DataW.trod enc Tryd.prog W 0 (fun _ => true) true m 42 [v2] = xs[2]? := by have h := hf 2 { name := "A", type := 42, offset := 2, embedded := false, tag := "", pkgPath := "", byteOffset := 16 } rfl; simpa only [cells1.1, cells1.2.1, cells1.2.2.1, cells1.2.2.2, cellsU, List.drop_zero, List.take_succ_cons, List.take_zero, List.drop_succ_cons] using h
      have f3 : DataW.trod enc Tryd.prog W 0 (fun _ => true) true m 42 [v3] = xs[3]? := by have h := hf 3 { name := "B", type := 42, offset := 3, embedded := false, tag := "", pkgPath := "", byteOffset := 20 } rfl; simpa only [cells1.1, cells1.2.1, cells1.2.2.1, cells1.2.2.2, cellsU, List.drop_zero, List.take_succ_cons, List.take_zero, List.drop_succ_cons] using h
      have f4 : DataW.trod enc Tryd.prog W 0 (fun _ => true) true m 21 [v4] = xs[4]? := by have h := hf 4 { name := "N", type := 21, offset := 4, embedded := false, tag := "", pkgPath := "", byteOffset := 24 } rfl; simpa only [cells1.1, cells1.2.1, cells1.2.2.1, cells1.2.2.2, cellsU, List.drop_zero, List.take_succ_cons, List.take_zero, List.drop_succ_cons] using h
      have f5 : DataW.trod enc Tryd.prog W 0 (fun _ => true) true m 59 [v5] = xs[5]? := by have h := hf 5 { name := "Tags", type := 59, offset := 5, embedded := false, tag := "", pkgPath := "", byteOffset := 32 } rfl; simpa only [cells1.1, cells1.2.1, cells1.2.2.1, cells1.2.2.2, cellsU, List.drop_zero, List.take_succ_cons, List.take_zero, List.drop_succ_cons] using h
      have f6 : DataW.trod enc Tryd.prog W 0 (fun _ => true) true m 22 [v6] = xs[6]? := by have h := hf 6 { name := "L", type := 22, offset := 6, embedded := false, tag := "", pkgPath := "", byteOffset := 56 } rfl; simpa only [cells1.1, cells1.2.1, cells1.2.2.1, cells1.2.2.2, cellsU, List.drop_zero, List.take_succ_cons, List.take_zero, List.drop_succ_cons] using h
      have f7 : DataW.trod enc Tryd.prog W 0 (fun _ => true) true m 22 [v7] = xs[7]? := by have h := hf 7 { name := "E", type := 22, offset := 7, embedded := false, tag := "", pkgPath := "", byteOffset := 80 } rfl; simpa only [cells1.1, cells1.2.1, cells1.2.2.1, cells1.2.2.2, cellsU, List.drop_zero, List.take_succ_cons, List.take_zero, List.drop_succ_cons] using h
      have hxs : ∀ j, j < 8 → ∃ z, xs[j]? = some z := fun j hj => ⟨_, List.getElem?_eq_getElem (by rw [hxl]; exact hj)⟩
      obtain ⟨z0, e0⟩ := hxs 0 (by omega)
      obtain ⟨z1, e1⟩ := hxs 1 (by omega)
      obtain ⟨z2, e2⟩ := hxs 2 (by omega)
      obtain ⟨z3, e3⟩ := hxs 3 (by omega)
      obtain ⟨z4, e4⟩ := hxs 4 (by omega)
      obtain ⟨z5, e5⟩ := hxs 5 (by omega)
      obtain ⟨z6, e6⟩ := hxs 6 (by omega)
      obtain ⟨z7, e7⟩ := hxs 7 (by omega)
      rw [e0] at f0; rw [e1] at f1; rw [e2] at f2; rw [e3] at f3; rw [e4] at f4; rw [e5] at f5; rw [e6] at f6; rw [e7] at f7
      obtain ⟨n0, g0, -, w0⟩ := DataW.trod_int Tryd.underlying3 f0
      obtain ⟨n1, g1, -, w1⟩ := DataW.trod_int Tryd.underlying3 f1
      obtain ⟨n2, g2, -, w2⟩ := DataW.trod_int Tryd.underlying42 f2
      obtain ⟨n3, g3, -, w3⟩ := DataW.trod_int Tryd.underlying42 f3
      obtain ⟨n4, g4, -, w4⟩ := DataW.trod_int Tryd.underlying21 f4
      obtain ⟨a5, c5', z5', g5, b5, r5, t5⟩ := open_tags f5 (hwx 5 _ _ rfl e5)
      obtain ⟨a6, l6, c6', t6, g6, -, b6, L6⟩ := ih m (by omega) _ _ f6 (hwx 6 _ _ rfl e6)
      obtain ⟨a7, l7, c7', t7, g7, -, b7, L7⟩ := ih m (by omega) _ _ f7 (hwx 7 _ _ rfl e7)
      simp only [List.cons.injEq, and_true] at g0 g1 g2 g3 g4 g5 g6 g7
      subst g0 g1 g2 g3 g4 g5 g6 g7
      have q0 := bounds_i64 w0
      have q1 := bounds_i64 w1
      have q2 := bounds_u32 w2
      have q3 := bounds_u32 w3
      have q4 := bounds_i32 w4
      refine ⟨⟨n0, n1, n2, n3, n4, z5', a5, c5', a6, l6, c6', a7, l7, c7'⟩, t6, t7, ?_, ⟨q0, q1, ⟨q2.1, Int.lt_of_le_of_lt q2.2 (by decide)⟩, ⟨q3.1, Int.lt_of_le_of_lt q3.2 (by decide)⟩, ⟨q4.1, Int.lt_of_le_of_lt q4.2 (by decide)⟩, r5, b5, b6, b7⟩, ⟨c0, c1, c2, c3, c4, c5, c6, c7⟩, t5, L6, L7, trivial⟩
      have := World.block_lt_of_cell? W _ c0
      exact this
    obtain ⟨t, ht, hi⟩ := run_il W.heap.size b len o each
    exact ⟨t, rfl, hlc, by omega, ht, .inr ⟨b, o, rfl, hi⟩⟩
theorem open_instrs {ts : List TypeId} {ds : List (DataW H)} {a : Option Addr} {len cap : Nat} {d : DataW H} {p : List MemPlace}
    (hsz : (DataW.weightsEach Tryd.prog ts ds).all (· ≤ reachBytes) = true) (j : Nat) (ht : ts[j]? = some 22) (hd : ds[j]? = some d)
    (h : DataW.Trod enc Tryd.prog W 0 (fun _ => true) true 22 (.slice a len cap) d p) : ∃ t : Il, ListAt W.heap.size W a len t ∧ len ≤ cap ∧ len ≤ 140737488351232 := by
  obtain ⟨fuel, hf⟩ := h
  obtain ⟨a', len', cap', t, hcs, h1, h2, h3⟩ := open_il fuel _ _ hf (fun n hn => by
    have := List.all_eq_true.1 hsz _ (DataW.weights_mem_each ht hd n hn)
    simpa using this)
  simp [Value.cells] at hcs
  obtain ⟨rfl, rfl, rfl⟩ := hcs
  exact ⟨t, h3, h1, h2⟩
end Go.Proofs.YtlfflomeaplidaaDoor.Instr

/-
  BODY: the code of a function as an argument, by value: opened.
-/
namespace Go.Proofs.YtlfflomeaplidaaDoor.Body
open Go.RowKit Go.ChangeShapes Go.WideShapes Go.ChangeAt Go.Joins Go.Proofs.YtlfflomeaplidaaDoor.Instr

variable {H : Type} {enc : TypeId × Value → H} {W : World}
theorem cellsCode : Tryd.prog.cellsOf 24 = 2 := by kernel_rfl
set_option maxRecDepth 100000 in
theorem open_code {ts : List TypeId} {ds : List (DataW H)} {base : Nat} {v : Value} {d : DataW H} {p : List MemPlace}
    (hsz : (DataW.weightsEach Tryd.prog ts ds).all (· ≤ reachBytes) = true) (j : Nat) (ht : ts[j]? = some 24) (hd : ds[j]? = some d)
    (hv : Value.okWide Tryd.prog W .any base 24 v) (h : DataW.Trod enc Tryd.prog W 0 (fun _ => true) true 24 v d p) :
    ∃ (n : Int) (a : Option Addr) (len cap : Nat) (t : Il), v = .agg #[.int .i64 n, .slice a len cap] ∧ (-9223372036854775808 ≤ n ∧ n ≤ 9223372036854775807) ∧ ListAt W.heap.size W a len t ∧ len ≤ cap ∧ len ≤ 140737488351232 := by
  obtain ⟨c0, c1, y0, y1, m, rfl, rfl, rfl, hy0, hy1⟩ := open_agg2 Tryd.underlying24 (by kernel_rfl) cellsCode hv h
  obtain ⟨n, e0, -, w0⟩ := DataW.trod_int Tryd.underlying3 hy0
  have hw : ∀ q ∈ y1.1.weights Tryd.prog 22, q ≤ reachBytes := by
    intro q hq
    have hm : q ∈ DataW.weights Tryd.prog 24 (DataW.agg [y0.1, y1.1]) := by
      simp only [DataW.weights, Tryd.underlying24]
      exact DataW.weights_mem_each (j := 1) rfl rfl q hq
    have := List.all_eq_true.1 hsz _ (DataW.weights_mem_each ht hd q hm)
    simpa using this
  obtain ⟨a, len, cap, t, e1, h1, h2, h3⟩ := open_il m _ _ hy1 hw
  simp only [List.cons.injEq, and_true] at e0 e1
  subst e0 e1
  exact ⟨n, a, len, cap, t, rfl, bounds_i64 w0, h3, h1, h2⟩
end Go.Proofs.YtlfflomeaplidaaDoor.Body
namespace Go.Proofs.YtlfflomeaplidaaDoor
open Go.ChangeShapes Go.WideShapes Go.ChangeAt Go.RowKit
open Go.ChangeMaps (open_string shut_string)
theorem bytesOfByte : Tryd.prog.bytesOf 5 = 1 := by kernel_rfl

theorem open_bytes {H : Type} {enc : TypeId × Value → H} {W : World} {ts : List TypeId} {ds : List (DataW H)} {a : Option Addr} {len cap : Nat} {d : DataW H} {p : List MemPlace}
    (hsz : (DataW.weightsEach Tryd.prog ts ds).all (· ≤ reachBytes) = true) (j : Nat) (ht : ts[j]? = some 27) (hd : ds[j]? = some d)
    (h : DataW.Trod enc Tryd.prog W 0 (fun _ => true) true 27 (.slice a len cap) d p) : ∃ zs : List Int, zs.length = len ∧ Bytes W a zs ∧ (a = none → cap = 0) := by
  obtain ⟨fuel, hf⟩ := h
  rcases open_ints Tryd.underlying27 Tryd.underlying5 (by kernel_rfl) hf with ⟨hcs, _⟩ | ⟨x, l, c, zs, hcs, _, hl, _, hz, hx, hcell, hwz⟩
  · simp [Value.cells] at hcs
    obtain ⟨rfl, rfl, rfl⟩ := hcs
    exact ⟨[], rfl, ⟨by simp, by simp, .inl rfl⟩, fun _ => rfl⟩
  · simp [Value.cells] at hcs
    obtain ⟨rfl, rfl, rfl⟩ := hcs
    simp only [if_true] at hz
    simp only [Prod.mk.injEq] at hx
    have hs := sized_slice hsz ht (hd.trans (congrArg some hx.1)) Tryd.underlying27
    rw [bytesOfByte] at hs
    simp only [lits, List.length_map, List.length_take, List.length_drop, reachBytes] at hs
    refine ⟨zs.take len, by simp; omega, ⟨fun z hzm => ?_, by simp; omega, ?_⟩, fun h => by cases h⟩
    · have := bounds_u8 (hwz z (List.mem_of_mem_take hzm))
      omega
    · by_cases h0 : len = 0
      · subst h0; exact .inl (by simp)
      · obtain ⟨b, off, spot⟩ := x
        have hc := hcell 0 (by omega)
        have hspot : spot = none := by simpa [Addr.add] using World.cell?_spot hc
        subst hspot
        refine .inr ⟨b, off, rfl, fun i hi => ?_⟩
        simp only [List.length_take] at hi
        have := hcell i (by omega)
        have hplain : (⟨b, off, none⟩ : Addr).add i = ⟨b, off + i, none⟩ := by unfold Addr.add; split <;> simp_all
        rw [hplain] at this
        rw [List.getD_eq_getElem?_getD, List.getElem?_take_of_lt (by omega)]
        simpa using this
theorem open_bytesx {H : Type} {enc : TypeId × Value → H} {W : World} {ts : List TypeId} {ds : List (DataW H)} {a : Option Addr} {len cap : Nat} {d : DataW H} {p : List MemPlace}
    (hsz : (DataW.weightsEach Tryd.prog ts ds).all (· ≤ reachBytes) = true) (j : Nat) (ht : ts[j]? = some 27) (hd : ds[j]? = some d)
    (h : DataW.Trod enc Tryd.prog W 0 (fun _ => true) true 27 (.slice a len cap) d p) : ∃ zs : List Int, zs.length = len ∧ Bytes W a zs ∧ (a = none → cap = 0) ∧ len ≤ cap := by
  obtain ⟨fuel, hf⟩ := h
  rcases open_ints Tryd.underlying27 Tryd.underlying5 (by kernel_rfl) hf with ⟨hcs, _⟩ | ⟨x, l, c, zs, hcs, _, hl, _, hz, hx, hcell, hwz⟩
  · simp [Value.cells] at hcs
    obtain ⟨rfl, rfl, rfl⟩ := hcs
    exact ⟨[], rfl, ⟨by simp, by simp, .inl rfl⟩, fun _ => rfl, by simp⟩
  · simp [Value.cells] at hcs
    obtain ⟨rfl, rfl, rfl⟩ := hcs
    simp only [if_true] at hz
    simp only [Prod.mk.injEq] at hx
    have hs := sized_slice hsz ht (hd.trans (congrArg some hx.1)) Tryd.underlying27
    rw [bytesOfByte] at hs
    simp only [lits, List.length_map, List.length_take, List.length_drop, reachBytes] at hs
    refine ⟨zs.take len, by simp; omega, ⟨fun z hzm => ?_, by simp; omega, ?_⟩, (fun h => by cases h), by omega⟩
    · have := bounds_u8 (hwz z (List.mem_of_mem_take hzm))
      omega
    · by_cases h0 : len = 0
      · subst h0; exact .inl (by simp)
      · obtain ⟨b, off, spot⟩ := x
        have hc := hcell 0 (by omega)
        have hspot : spot = none := by simpa [Addr.add] using World.cell?_spot hc
        subst hspot
        refine .inr ⟨b, off, rfl, fun i hi => ?_⟩
        simp only [List.length_take] at hi
        have := hcell i (by omega)
        have hplain : (⟨b, off, none⟩ : Addr).add i = ⟨b, off + i, none⟩ := by unfold Addr.add; split <;> simp_all
        rw [hplain] at this
        rw [List.getD_eq_getElem?_getD, List.getElem?_take_of_lt (by omega)]
        simpa using this
end Go.Proofs.YtlfflomeaplidaaDoor

/-
  What the row lists is what the walks ask: the table of names.
-/
namespace Go.Proofs.YtlfflomeaplidaaDoor
open Go.RowKit Go.Lib

def laid1 : List (String × DataW Unit) := [("gimlet/instr.names", Rows.laid_gimlet_instr_names)]
theorem tabs_1 {W : World} (hL : laidMet Tryd.prog laid1 W) : Instr.Nams W := nams_of (.head _) hL
end Go.Proofs.YtlfflomeaplidaaDoor
