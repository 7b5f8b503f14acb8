/-
  INSTR: an argument that is a list of instructions is opened.
-/
import Derived.Test.YtlfflomeaplidaaDoorInstrHeap
import Derived.Test.YtlfflomeaplidaaDoorInstrNamesTab
import Derived.ChangeArms
namespace Go.Proofs.YtlfflomeaplidaaDoor.Instr
open Go.RowKit Go.ChangeShapes

theorem cellsI : Tryd.prog.cellsOf 61 = 8 := by kernel_rfl
theorem cellsU : Tryd.prog.cellsOf 42 = 1 := by kernel_rfl
theorem cells1 : Tryd.prog.cellsOf 3 = 1 ∧ Tryd.prog.cellsOf 21 = 1 ∧ Tryd.prog.cellsOf 59 = 1 ∧ Tryd.prog.cellsOf 22 = 1 := by
  refine ⟨?_, ?_, ?_, ?_⟩ <;> kernel_rfl
theorem bytesI : Tryd.prog.bytesOf 61 = 104 := by kernel_rfl
theorem bytesU : Tryd.prog.bytesOf 42 = 4 := by kernel_rfl

theorem weights_all {H : Type} {P : Program} {e : TypeId} : ∀ {l : List (DataW H)} {i : Nat} {d : DataW H}, l[i]? = some d → ∀ n ∈ d.weights P e, n ∈ DataW.weightsAll P e l
  | [], i, d, h, _, _ => by simp at h
  | d0 :: l, 0, d, h, n, hn => by
    simp only [List.getElem?_cons_zero, Option.some.injEq] at h
    subst h
    simp [DataW.weightsAll, hn]
  | d0 :: l, i + 1, d, h, n, hn => by
    have := weights_all (l := l) (i := i) (by simpa using h) n hn
    simp [DataW.weightsAll, this]

/-- What a cell holds, as a number. -/
def intAt (w : World) (a : Addr) : Int := match w.cell? a with | some (.int _ z) => z | _ => 0
theorem plainAdd (b o i : Nat) : (⟨b, o, none⟩ : Addr).add i = ⟨b, o + i, none⟩ := by unfold Addr.add; split <;> simp_all
theorem cells_one {w : World} {a : Addr} {cs : List Value} (h : w.cells? 0 a 1 = some cs) : ∃ v, cs = [v] ∧ w.cell? (a.add 0) = some v := by
  unfold World.cells? at h
  rw [if_pos (Nat.zero_le _)] at h
  simp only [List.range_succ, List.range_zero, List.nil_append, List.mapM_cons, List.mapM_nil, Option.bind_eq_bind, Option.pure_def] at h
  obtain ⟨v, hv, h⟩ := Option.bind_eq_some_iff.1 h
  simp at h
  exact ⟨v, h.symm, hv⟩

variable {H : Type} {enc : TypeId × Value → H} {W : World}

theorem open_tags {fuel : Nat} {cs : List Value} {x : DataW H × List MemPlace} (h : DataW.trod enc Tryd.prog W 0 (fun _ => true) true fuel 59 cs = some x) (hw : ∀ n ∈ x.1.weights Tryd.prog 59, n ≤ reachBytes) :
    ∃ (a : Option Addr) (c : Nat) (zs : List Int), cs = [.slice a zs.length c] ∧ zs.length ≤ 140737488351232 ∧ (∀ z ∈ zs, 0 ≤ z ∧ z < 4294967296) ∧ TagsAt W.heap.size W a zs := by
  rcases DataW.trod_slice Tryd.underlying59 h with ⟨rfl, _⟩ | ⟨a, len, cap, elems, rest, n, -, rfl, rfl, _, _, _, hlen, hel, _, _⟩
  · exact ⟨none, 0, [], rfl, by simp, by simp, .inl rfl⟩
  have hbound : (elems.length + rest.length) * Tryd.prog.bytesOf 42 ≤ reachBytes := by
    refine hw _ ?_
    simp [DataW.weights, Tryd.underlying59]
  rw [bytesU] at hbound
  simp only [reachBytes] at hbound
  have key : ∀ i, i < len → ∃ z, W.cell? (a.add i) = some (.int .u32 z) ∧ 0 ≤ z ∧ z < 4294967296 := by
    intro i hi
    have h1 := hel i hi
    rw [List.getElem?_eq_getElem (by omega), cellsU, Nat.mul_one] at h1
    obtain ⟨cs', hc, ht⟩ := Option.bind_eq_some_iff.1 h1
    obtain ⟨v, rfl, hv⟩ := cells_one hc
    obtain ⟨z, hz, _, hwf⟩ := DataW.trod_int Tryd.underlying42 ht
    simp only [List.cons.injEq, and_true] at hz
    subst hz
    have := bounds_u32 hwf
    have hp := World.cell?_spot hv
    have e : (a.add i).add 0 = a.add i := by
      obtain ⟨b, o, sp⟩ := a
      unfold Addr.add at hp ⊢
      (repeat' split) <;> simp_all
    rw [e] at hv
    exact ⟨z, hv, by omega, by omega⟩
  refine ⟨some a, cap, (List.range len).map fun i => intAt W (a.add i), by simp, by simp; omega, ?_, ?_⟩
  · intro z hz
    obtain ⟨i, hi, rfl⟩ := List.mem_map.1 hz
    obtain ⟨z', h1, h2⟩ := key i (List.mem_range.1 hi)
    simpa [intAt, h1] using h2
  · by_cases h0 : len = 0
    · subst h0; exact .inl (by simp)
    · obtain ⟨b, o, sp⟩ := a
      obtain ⟨z0, hz0, _⟩ := key 0 (by omega)
      have hsp := World.cell?_spot hz0
      have hsp' : sp = none := by
        unfold Addr.add at hsp
        (repeat' split at hsp) <;> simp_all
      subst hsp'
      refine .inr ⟨b, o, rfl, ?_, fun i hi => ?_⟩
      · have := World.block_lt_of_cell? W _ hz0
        rw [plainAdd] at this
        exact this
      · have hi' : i < len := by simpa using hi
        obtain ⟨z, h1, _⟩ := key i hi'
        rw [plainAdd] at h1
        rw [h1, getD_lt hi]
        simp [intAt, plainAdd, h1]

theorem run_il (n₀ : Nat) (b : Nat) : ∀ (k off : Nat), (∀ i, i < k → ∃ x l e, Items n₀ W b (off + i * 8) (.cons x l e .nil)) → ∃ t : Il, t.len = k ∧ Items n₀ W b off t
  | 0, _, _ => ⟨.nil, rfl, trivial⟩
  | k + 1, off, h => by
    obtain ⟨x, l, e, h1, h2, h3, h4, h5, h6, _⟩ := h 0 (by omega)
    obtain ⟨t, ht, hi⟩ := run_il n₀ b k (off + 8) (fun i hi => by
      have := h (i + 1) (by omega)
      rw [show off + (i + 1) * 8 = off + 8 + i * 8 by omega] at this
      exact this)
    rw [Nat.zero_mul, Nat.add_zero] at h3
    exact ⟨.cons x l e t, by simp [Il.len, ht], h1, h2, h3, h4, h5, h6, hi⟩

theorem cells_eight {w : World} {a : Addr} {cs : List Value} (h : w.cells? 0 a 8 = some cs) : ∃ v0 v1 v2 v3 v4 v5 v6 v7, cs = [v0, v1, v2, v3, v4, v5, v6, v7] ∧ w.cell? (a.add 0) = some v0 ∧ w.cell? (a.add 1) = some v1 ∧ w.cell? (a.add 2) = some v2 ∧ w.cell? (a.add 3) = some v3 ∧
    w.cell? (a.add 4) = some v4 ∧ w.cell? (a.add 5) = some v5 ∧ w.cell? (a.add 6) = some v6 ∧ w.cell? (a.add 7) = some v7 := by
  unfold World.cells? at h
  rw [if_pos (Nat.zero_le _)] at h
  simp only [show List.range 8 = [0, 1, 2, 3, 4, 5, 6, 7] by decide, List.mapM_cons, List.mapM_nil, Option.bind_eq_bind, Option.pure_def] at h
  obtain ⟨v0, h0, h⟩ := Option.bind_eq_some_iff.1 h
  obtain ⟨r1, h, e1⟩ := Option.bind_eq_some_iff.1 h
  obtain ⟨v1, h1, h⟩ := Option.bind_eq_some_iff.1 h
  obtain ⟨r2, h, e2⟩ := Option.bind_eq_some_iff.1 h
  obtain ⟨v2, h2, h⟩ := Option.bind_eq_some_iff.1 h
  obtain ⟨r3, h, e3⟩ := Option.bind_eq_some_iff.1 h
  obtain ⟨v3, h3, h⟩ := Option.bind_eq_some_iff.1 h
  obtain ⟨r4, h, e4⟩ := Option.bind_eq_some_iff.1 h
  obtain ⟨v4, h4, h⟩ := Option.bind_eq_some_iff.1 h
  obtain ⟨r5, h, e5⟩ := Option.bind_eq_some_iff.1 h
  obtain ⟨v5, h5, h⟩ := Option.bind_eq_some_iff.1 h
  obtain ⟨r6, h, e6⟩ := Option.bind_eq_some_iff.1 h
  obtain ⟨v6, h6, h⟩ := Option.bind_eq_some_iff.1 h
  obtain ⟨r7, h, e7⟩ := Option.bind_eq_some_iff.1 h
  obtain ⟨v7, h7, h⟩ := Option.bind_eq_some_iff.1 h
  simp only [Option.bind_some, Option.some.injEq] at *
  subst h e7 e6 e5 e4 e3 e2 e1
  exact ⟨v0, v1, v2, v3, v4, v5, v6, v7, rfl, h0, h1, h2, h3, h4, h5, h6, h7⟩

def w8 (w : World) (a : Addr) (i : Nat) : Option (List Value) := w.cells? 0 (a.add (i * 8)) 8
theorem open_il : ∀ (fuel : Nat) (cs : List Value) (x : DataW H × List MemPlace), DataW.trod enc Tryd.prog W 0 (fun _ => true) true fuel 22 cs = some x → (∀ n ∈ x.1.weights Tryd.prog 22, n ≤ reachBytes) →
    ∃ (a : Option Addr) (len c : Nat) (t : Il), cs = [.slice a len c] ∧ len ≤ c ∧ len ≤ 140737488351232 ∧ ListAt W.heap.size W a len t := by
  intro fuel
  induction fuel using Nat.strongRecOn with
  | ind fuel ih =>
    intro cs x h hw
    rcases DataW.trod_slice Tryd.underlying22 h with ⟨rfl, _⟩ | ⟨a, len, cap, elems, rest, n, hfu, rfl, rfl, _, hlc, _, hlen, hel, _, _⟩
    · exact ⟨none, 0, 0, .nil, rfl, by simp, by simp, rfl, .inl rfl⟩
    have hbound : (elems.length + rest.length) * Tryd.prog.bytesOf 61 ≤ reachBytes := by
      refine hw _ ?_
      simp [DataW.weights, Tryd.underlying22]
    rw [bytesI] at hbound
    simp only [reachBytes] at hbound
    have hwe : ∀ (i : Nat) (y : DataW H × List MemPlace), elems[i]? = some y → ∀ m ∈ y.1.weights Tryd.prog 61, m ≤ reachBytes := by
      intro i y hy m hm
      refine hw m ?_
      have : (elems.map (·.1))[i]? = some y.1 := by simp [hy]
      have := weights_all this m hm
      simp only [DataW.weights, Tryd.underlying22, List.mem_cons, List.mem_append]
      exact .inr (.inl this)
    refine ⟨some a, len, cap, ?_⟩
    by_cases h0 : len = 0
    · subst h0; exact ⟨.nil, rfl, by omega, by omega, rfl, .inl rfl⟩
    have one : ∀ i, i < len → ∃ cs' y, w8 W a i = some cs' ∧ elems[i]? = some y ∧ DataW.trod enc Tryd.prog W 0 (fun _ => true) true n 61 cs' = some y := by
      intro i hi
      have h1 := hel i hi
      rw [cellsI] at h1
      have h2 : elems[i]? = some elems[i] := List.getElem?_eq_getElem (by omega)
      rw [h2] at h1
      obtain ⟨cs', hc, ht⟩ := Option.bind_eq_some_iff.1 h1
      exact ⟨cs', _, hc, h2, ht⟩
    obtain ⟨b, o, sp⟩ := a
    have hsp : sp = none := by
      obtain ⟨cs', y, hc, _, _⟩ := one 0 (by omega)
      obtain ⟨v0, v1, v2, v3, v4, v5, v6, v7, _, hc0, _⟩ := cells_eight hc
      have hp := World.cell?_spot hc0
      unfold Addr.add at hp
      (repeat' split at hp) <;> simp_all
    subst hsp
    have each : ∀ i, i < len → ∃ x l e, Items W.heap.size W b (o + i * 8) (.cons x l e .nil) := by
      intro i hi
      obtain ⟨cs', y, hc, hy, ht⟩ := one i hi
      unfold w8 at hc
      rw [plainAdd] at hc
      obtain ⟨v0, v1, v2, v3, v4, v5, v6, v7, rfl, c0, c1, c2, c3, c4, c5, c6, c7⟩ := cells_eight hc
      simp only [plainAdd] at c0 c1 c2 c3 c4 c5 c6 c7
      have hwy := hwe i y hy
      obtain ⟨xs, m, hnm, rfl, _, hxl, hf⟩ := DataW.trod_struct Tryd.underlying61 ht
      have hwx : ∀ (j : Nat) (tj : TypeId) (z : DataW H × List MemPlace), ([3, 3, 42, 42, 21, 59, 22, 22] : List TypeId)[j]? = some tj → xs[j]? = some z → ∀ q ∈ z.1.weights Tryd.prog tj, q ≤ reachBytes := by
        intro j tj z htj hz q hq
        refine hwy q ?_
        simp only [DataW.weights, Tryd.underlying61]
        exact DataW.weights_mem_each htj (by simp [hz]) q hq
      have f0 : DataW.trod enc Tryd.prog W 0 (fun _ => true) true m 3 [v0] = xs[0]? := by have h := hf 0 { name := "Op", type := 3, offset := 0, embedded := false, tag := "", pkgPath := "", byteOffset := 0 } rfl; simpa only [cells1.1, cells1.2.1, cells1.2.2.1, cells1.2.2.2, cellsU, List.drop_zero, List.take_succ_cons, List.take_zero, List.drop_succ_cons] using h
      have f1 : DataW.trod enc Tryd.prog W 0 (fun _ => true) true m 3 [v1] = xs[1]? := by have h := hf 1 { name := "Results", type := 3, offset := 1, embedded := false, tag := "", pkgPath := "", byteOffset := 8 } rfl; simpa only [cells1.1, cells1.2.1, cells1.2.2.1, cells1.2.2.2, cellsU, List.drop_zero, List.take_succ_cons, List.take_zero, List.drop_succ_cons] using h
      have f2 : DataW.trod enc Tryd.prog W 0 (fun _ => true) true m 42 [v2] = xs[2]? := by have h := hf 2 { name := "A", type := 42, offset := 2, embedded := false, tag := "", pkgPath := "", byteOffset := 16 } rfl; simpa only [cells1.1, cells1.2.1, cells1.2.2.1, cells1.2.2.2, cellsU, List.drop_zero, List.take_succ_cons, List.take_zero, List.drop_succ_cons] using h
      have f3 : DataW.trod enc Tryd.prog W 0 (fun _ => true) true m 42 [v3] = xs[3]? := by have h := hf 3 { name := "B", type := 42, offset := 3, embedded := false, tag := "", pkgPath := "", byteOffset := 20 } rfl; simpa only [cells1.1, cells1.2.1, cells1.2.2.1, cells1.2.2.2, cellsU, List.drop_zero, List.take_succ_cons, List.take_zero, List.drop_succ_cons] using h
      have f4 : DataW.trod enc Tryd.prog W 0 (fun _ => true) true m 21 [v4] = xs[4]? := by have h := hf 4 { name := "N", type := 21, offset := 4, embedded := false, tag := "", pkgPath := "", byteOffset := 24 } rfl; simpa only [cells1.1, cells1.2.1, cells1.2.2.1, cells1.2.2.2, cellsU, List.drop_zero, List.take_succ_cons, List.take_zero, List.drop_succ_cons] using h
      have f5 : DataW.trod enc Tryd.prog W 0 (fun _ => true) true m 59 [v5] = xs[5]? := by have h := hf 5 { name := "Tags", type := 59, offset := 5, embedded := false, tag := "", pkgPath := "", byteOffset := 32 } rfl; simpa only [cells1.1, cells1.2.1, cells1.2.2.1, cells1.2.2.2, cellsU, List.drop_zero, List.take_succ_cons, List.take_zero, List.drop_succ_cons] using h
      have f6 : DataW.trod enc Tryd.prog W 0 (fun _ => true) true m 22 [v6] = xs[6]? := by have h := hf 6 { name := "L", type := 22, offset := 6, embedded := false, tag := "", pkgPath := "", byteOffset := 56 } rfl; simpa only [cells1.1, cells1.2.1, cells1.2.2.1, cells1.2.2.2, cellsU, List.drop_zero, List.take_succ_cons, List.take_zero, List.drop_succ_cons] using h
      have f7 : DataW.trod enc Tryd.prog W 0 (fun _ => true) true m 22 [v7] = xs[7]? := by have h := hf 7 { name := "E", type := 22, offset := 7, embedded := false, tag := "", pkgPath := "", byteOffset := 80 } rfl; simpa only [cells1.1, cells1.2.1, cells1.2.2.1, cells1.2.2.2, cellsU, List.drop_zero, List.take_succ_cons, List.take_zero, List.drop_succ_cons] using h
      have hxs : ∀ j, j < 8 → ∃ z, xs[j]? = some z := fun j hj => ⟨_, List.getElem?_eq_getElem (by rw [hxl]; exact hj)⟩
      obtain ⟨z0, e0⟩ := hxs 0 (by omega)
      obtain ⟨z1, e1⟩ := hxs 1 (by omega)
      obtain ⟨z2, e2⟩ := hxs 2 (by omega)
      obtain ⟨z3, e3⟩ := hxs 3 (by omega)
      obtain ⟨z4, e4⟩ := hxs 4 (by omega)
      obtain ⟨z5, e5⟩ := hxs 5 (by omega)
      obtain ⟨z6, e6⟩ := hxs 6 (by omega)
      obtain ⟨z7, e7⟩ := hxs 7 (by omega)
      rw [e0] at f0; rw [e1] at f1; rw [e2] at f2; rw [e3] at f3; rw [e4] at f4; rw [e5] at f5; rw [e6] at f6; rw [e7] at f7
      obtain ⟨n0, g0, -, w0⟩ := DataW.trod_int Tryd.underlying3 f0
      obtain ⟨n1, g1, -, w1⟩ := DataW.trod_int Tryd.underlying3 f1
      obtain ⟨n2, g2, -, w2⟩ := DataW.trod_int Tryd.underlying42 f2
      obtain ⟨n3, g3, -, w3⟩ := DataW.trod_int Tryd.underlying42 f3
      obtain ⟨n4, g4, -, w4⟩ := DataW.trod_int Tryd.underlying21 f4
      obtain ⟨a5, c5', z5', g5, b5, r5, t5⟩ := open_tags f5 (hwx 5 _ _ rfl e5)
      obtain ⟨a6, l6, c6', t6, g6, -, b6, L6⟩ := ih m (by omega) _ _ f6 (hwx 6 _ _ rfl e6)
      obtain ⟨a7, l7, c7', t7, g7, -, b7, L7⟩ := ih m (by omega) _ _ f7 (hwx 7 _ _ rfl e7)
      simp only [List.cons.injEq, and_true] at g0 g1 g2 g3 g4 g5 g6 g7
      subst g0 g1 g2 g3 g4 g5 g6 g7
      have q0 := bounds_i64 w0
      have q1 := bounds_i64 w1
      have q2 := bounds_u32 w2
      have q3 := bounds_u32 w3
      have q4 := bounds_i32 w4
      refine ⟨⟨n0, n1, n2, n3, n4, z5', a5, c5', a6, l6, c6', a7, l7, c7'⟩, t6, t7, ?_, ⟨q0, q1, ⟨q2.1, Int.lt_of_le_of_lt q2.2 (by decide)⟩, ⟨q3.1, Int.lt_of_le_of_lt q3.2 (by decide)⟩, ⟨q4.1, Int.lt_of_le_of_lt q4.2 (by decide)⟩, r5, b5, b6, b7⟩, ⟨c0, c1, c2, c3, c4, c5, c6, c7⟩, t5, L6, L7, trivial⟩
      have := World.block_lt_of_cell? W _ c0
      exact this
    obtain ⟨t, ht, hi⟩ := run_il W.heap.size b len o each
    exact ⟨t, rfl, hlc, by omega, ht, .inr ⟨b, o, rfl, hi⟩⟩
theorem open_instrs {ts : List TypeId} {ds : List (DataW H)} {a : Option Addr} {len cap : Nat} {d : DataW H} {p : List MemPlace}
    (hsz : (DataW.weightsEach Tryd.prog ts ds).all (· ≤ reachBytes) = true) (j : Nat) (ht : ts[j]? = some 22) (hd : ds[j]? = some d)
    (h : DataW.Trod enc Tryd.prog W 0 (fun _ => true) true 22 (.slice a len cap) d p) : ∃ t : Il, ListAt W.heap.size W a len t ∧ len ≤ cap ∧ len ≤ 140737488351232 := by
  obtain ⟨fuel, hf⟩ := h
  obtain ⟨a', len', cap', t, hcs, h1, h2, h3⟩ := open_il fuel _ _ hf (fun n hn => by
    have := List.all_eq_true.1 hsz _ (DataW.weights_mem_each ht hd n hn)
    simpa using this)
  simp [Value.cells] at hcs
  obtain ⟨rfl, rfl, rfl⟩ := hcs
  exact ⟨t, h3, h1, h2⟩
end Go.Proofs.YtlfflomeaplidaaDoor.Instr
