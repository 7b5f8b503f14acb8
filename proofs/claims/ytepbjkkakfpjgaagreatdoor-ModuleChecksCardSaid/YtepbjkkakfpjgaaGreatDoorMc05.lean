import Derived.Test.YtepbjkkakfpjgaaGreatDoorMc01
import Derived.ChangeArms
import Derived.Lib.SmallJoins
import Derived.Deep.Strs
import Derived.Lib.OthersKept
import Derived.PinnedBridge
import Derived.Lib.LaidU8
import Derived.Lay
import Derived.Laws.AppendOwn
import Derived.Laws.AppendOwnNone
import Derived.Deep.AppendLies
import Derived.Laws.OwnMore
import Derived.WalkSmall
namespace Go.Proofs.YtepbjkkakfpjgaaGreatDoor.Instr
open Go.RowKit Go.ChangeShapes

theorem cellsI : Tryz.prog.cellsOf 126 = 8 := by kernel_rfl
theorem cellsU : Tryz.prog.cellsOf 28 = 1 := by kernel_rfl
theorem cells1 : Tryz.prog.cellsOf 3 = 1 ∧ Tryz.prog.cellsOf 21 = 1 ∧ Tryz.prog.cellsOf 69 = 1 ∧ Tryz.prog.cellsOf 45 = 1 := by
  refine ⟨?_, ?_, ?_, ?_⟩ <;> kernel_rfl
theorem bytesI : Tryz.prog.bytesOf 126 = 104 := by kernel_rfl
theorem bytesU : Tryz.prog.bytesOf 28 = 4 := by kernel_rfl

theorem weights_all {H : Type} {P : Program} {e : TypeId} : ∀ {l : List (DataW H)} {i : Nat} {d : DataW H}, l[i]? = some d → ∀ n ∈ d.weights P e, n ∈ DataW.weightsAll P e l
  | [], i, d, h, _, _ => by simp at h
  | d0 :: l, 0, d, h, n, hn => by
    simp only [List.getElem?_cons_zero, Option.some.injEq] at h
    subst h
    simp [DataW.weightsAll, hn]
  | d0 :: l, i + 1, d, h, n, hn => by
    have := weights_all (l := l) (i := i) (by simpa using h) n hn
    simp [DataW.weightsAll, this]

/-- What a cell holds, as a number. -/
def intAt (w : World) (a : Addr) : Int := match w.cell? a with | some (.int _ z) => z | _ => 0
theorem plainAdd (b o i : Nat) : (⟨b, o, none⟩ : Addr).add i = ⟨b, o + i, none⟩ := by unfold Addr.add; split <;> simp_all
theorem cells_one {w : World} {a : Addr} {cs : List Value} (h : w.cells? 0 a 1 = some cs) : ∃ v, cs = [v] ∧ w.cell? (a.add 0) = some v := by
  unfold World.cells? at h
  rw [if_pos (Nat.zero_le _)] at h
  simp only [List.range_succ, List.range_zero, List.nil_append, List.mapM_cons, List.mapM_nil, Option.bind_eq_bind, Option.pure_def] at h
  obtain ⟨v, hv, h⟩ := Option.bind_eq_some_iff.1 h
  simp at h
  exact ⟨v, h.symm, hv⟩

variable {H : Type} {enc : TypeId × Value → H} {W : World}

theorem open_tags {fuel : Nat} {cs : List Value} {x : DataW H × List MemPlace} (h : DataW.trod enc Tryz.prog W 0 (fun _ => true) true fuel 69 cs = some x) (hw : ∀ n ∈ x.1.weights Tryz.prog 69, n ≤ reachBytes) :
    ∃ (a : Option Addr) (c : Nat) (zs : List Int), cs = [.slice a zs.length c] ∧ zs.length ≤ 140737488351232 ∧ (∀ z ∈ zs, 0 ≤ z ∧ z < 4294967296) ∧ TagsAt W.heap.size W a zs := by
  rcases DataW.trod_slice Tryz.underlying69 h with ⟨rfl, _⟩ | ⟨a, len, cap, elems, rest, n, -, rfl, rfl, _, _, _, hlen, hel, _, _⟩
  · exact ⟨none, 0, [], rfl, by simp, by simp, .inl rfl⟩
  have hbound : (elems.length + rest.length) * Tryz.prog.bytesOf 28 ≤ reachBytes := by
    refine hw _ ?_
    simp [DataW.weights, Tryz.underlying69]
  rw [bytesU] at hbound
  simp only [reachBytes] at hbound
  have key : ∀ i, i < len → ∃ z, W.cell? (a.add i) = some (.int .u32 z) ∧ 0 ≤ z ∧ z < 4294967296 := by
    intro i hi
    have h1 := hel i hi
    rw [List.getElem?_eq_getElem (by omega), cellsU, Nat.mul_one] at h1
    obtain ⟨cs', hc, ht⟩ := Option.bind_eq_some_iff.1 h1
    obtain ⟨v, rfl, hv⟩ := cells_one hc
    obtain ⟨z, hz, _, hwf⟩ := DataW.trod_int Tryz.underlying28 ht
    simp only [List.cons.injEq, and_true] at hz
    subst hz
    have := bounds_u32 hwf
    have hp := World.cell?_spot hv
    have e : (a.add i).add 0 = a.add i := by
      obtain ⟨b, o, sp⟩ := a
      unfold Addr.add at hp ⊢
      (repeat' split) <;> simp_all
    rw [e] at hv
    exact ⟨z, hv, by omega, by omega⟩
  refine ⟨some a, cap, (List.range len).map fun i => intAt W (a.add i), by simp, by simp; omega, ?_, ?_⟩
  · intro z hz
    obtain ⟨i, hi, rfl⟩ := List.mem_map.1 hz
    obtain ⟨z', h1, h2⟩ := key i (List.mem_range.1 hi)
    simpa [intAt, h1] using h2
  · by_cases h0 : len = 0
    · subst h0; exact .inl (by simp)
    · obtain ⟨b, o, sp⟩ := a
      obtain ⟨z0, hz0, _⟩ := key 0 (by omega)
      have hsp := World.cell?_spot hz0
      have hsp' : sp = none := by
        unfold Addr.add at hsp
        (repeat' split at hsp) <;> simp_all
      subst hsp'
      refine .inr ⟨b, o, rfl, ?_, fun i hi => ?_⟩
      · have := World.block_lt_of_cell? W _ hz0
        rw [plainAdd] at this
        exact this
      · have hi' : i < len := by simpa using hi
        obtain ⟨z, h1, _⟩ := key i hi'
        rw [plainAdd] at h1
        rw [h1, getD_lt hi]
        simp [intAt, plainAdd, h1]

theorem run_il (n₀ : Nat) (b : Nat) : ∀ (k off : Nat), (∀ i, i < k → ∃ x l e, Items n₀ W b (off + i * 8) (.cons x l e .nil)) → ∃ t : Il, t.len = k ∧ Items n₀ W b off t
  | 0, _, _ => ⟨.nil, rfl, trivial⟩
  | k + 1, off, h => by
    obtain ⟨x, l, e, h1, h2, h3, h4, h5, h6, _⟩ := h 0 (by omega)
    obtain ⟨t, ht, hi⟩ := run_il n₀ b k (off + 8) (fun i hi => by
      have := h (i + 1) (by omega)
      rw [show off + (i + 1) * 8 = off + 8 + i * 8 by omega] at this
      exact this)
    rw [Nat.zero_mul, Nat.add_zero] at h3
    exact ⟨.cons x l e t, by simp [Il.len, ht], h1, h2, h3, h4, h5, h6, hi⟩

theorem cells_eight {w : World} {a : Addr} {cs : List Value} (h : w.cells? 0 a 8 = some cs) : ∃ v0 v1 v2 v3 v4 v5 v6 v7, cs = [v0, v1, v2, v3, v4, v5, v6, v7] ∧ w.cell? (a.add 0) = some v0 ∧ w.cell? (a.add 1) = some v1 ∧ w.cell? (a.add 2) = some v2 ∧ w.cell? (a.add 3) = some v3 ∧
    w.cell? (a.add 4) = some v4 ∧ w.cell? (a.add 5) = some v5 ∧ w.cell? (a.add 6) = some v6 ∧ w.cell? (a.add 7) = some v7 := by
  unfold World.cells? at h
  rw [if_pos (Nat.zero_le _)] at h
  simp only [show List.range 8 = [0, 1, 2, 3, 4, 5, 6, 7] by decide, List.mapM_cons, List.mapM_nil, Option.bind_eq_bind, Option.pure_def] at h
  obtain ⟨v0, h0, h⟩ := Option.bind_eq_some_iff.1 h
  obtain ⟨r1, h, e1⟩ := Option.bind_eq_some_iff.1 h
  obtain ⟨v1, h1, h⟩ := Option.bind_eq_some_iff.1 h
  obtain ⟨r2, h, e2⟩ := Option.bind_eq_some_iff.1 h
  obtain ⟨v2, h2, h⟩ := Option.bind_eq_some_iff.1 h
  obtain ⟨r3, h, e3⟩ := Option.bind_eq_some_iff.1 h
  obtain ⟨v3, h3, h⟩ := Option.bind_eq_some_iff.1 h
  obtain ⟨r4, h, e4⟩ := Option.bind_eq_some_iff.1 h
  obtain ⟨v4, h4, h⟩ := Option.bind_eq_some_iff.1 h
  obtain ⟨r5, h, e5⟩ := Option.bind_eq_some_iff.1 h
  obtain ⟨v5, h5, h⟩ := Option.bind_eq_some_iff.1 h
  obtain ⟨r6, h, e6⟩ := Option.bind_eq_some_iff.1 h
  obtain ⟨v6, h6, h⟩ := Option.bind_eq_some_iff.1 h
  obtain ⟨r7, h, e7⟩ := Option.bind_eq_some_iff.1 h
  obtain ⟨v7, h7, h⟩ := Option.bind_eq_some_iff.1 h
  simp only [Option.bind_some, Option.some.injEq] at *
  subst h e7 e6 e5 e4 e3 e2 e1
  exact ⟨v0, v1, v2, v3, v4, v5, v6, v7, rfl, h0, h1, h2, h3, h4, h5, h6, h7⟩

def w8 (w : World) (a : Addr) (i : Nat) : Option (List Value) := w.cells? 0 (a.add (i * 8)) 8
theorem open_il : ∀ (fuel : Nat) (cs : List Value) (x : DataW H × List MemPlace), DataW.trod enc Tryz.prog W 0 (fun _ => true) true fuel 45 cs = some x → (∀ n ∈ x.1.weights Tryz.prog 45, n ≤ reachBytes) →
    ∃ (a : Option Addr) (len c : Nat) (t : Il), cs = [.slice a len c] ∧ len ≤ c ∧ len ≤ 140737488351232 ∧ ListAt W.heap.size W a len t := by
  intro fuel
  induction fuel using Nat.strongRecOn with
  | ind fuel ih =>
    intro cs x h hw
    rcases DataW.trod_slice Tryz.underlying45 h with ⟨rfl, _⟩ | ⟨a, len, cap, elems, rest, n, hfu, rfl, rfl, _, hlc, _, hlen, hel, _, _⟩
    · exact ⟨none, 0, 0, .nil, rfl, by simp, by simp, rfl, .inl rfl⟩
    have hbound : (elems.length + rest.length) * Tryz.prog.bytesOf 126 ≤ reachBytes := by
      refine hw _ ?_
      simp [DataW.weights, Tryz.underlying45]
    rw [bytesI] at hbound
    simp only [reachBytes] at hbound
    have hwe : ∀ (i : Nat) (y : DataW H × List MemPlace), elems[i]? = some y → ∀ m ∈ y.1.weights Tryz.prog 126, m ≤ reachBytes := by
      intro i y hy m hm
      refine hw m ?_
      have : (elems.map (·.1))[i]? = some y.1 := by simp [hy]
      have := weights_all this m hm
      simp only [DataW.weights, Tryz.underlying45, List.mem_cons, List.mem_append]
      exact .inr (.inl this)
    refine ⟨some a, len, cap, ?_⟩
    by_cases h0 : len = 0
    · subst h0; exact ⟨.nil, rfl, by omega, by omega, rfl, .inl rfl⟩
    have one : ∀ i, i < len → ∃ cs' y, w8 W a i = some cs' ∧ elems[i]? = some y ∧ DataW.trod enc Tryz.prog W 0 (fun _ => true) true n 126 cs' = some y := by
      intro i hi
      have h1 := hel i hi
      rw [cellsI] at h1
      have h2 : elems[i]? = some elems[i] := List.getElem?_eq_getElem (by omega)
      rw [h2] at h1
      obtain ⟨cs', hc, ht⟩ := Option.bind_eq_some_iff.1 h1
      exact ⟨cs', _, hc, h2, ht⟩
    obtain ⟨b, o, sp⟩ := a
    have hsp : sp = none := by
      obtain ⟨cs', y, hc, _, _⟩ := one 0 (by omega)
      obtain ⟨v0, v1, v2, v3, v4, v5, v6, v7, _, hc0, _⟩ := cells_eight hc
      have hp := World.cell?_spot hc0
      unfold Addr.add at hp
      (repeat' split at hp) <;> simp_all
    subst hsp
    have each : ∀ i, i < len → ∃ x l e, Items W.heap.size W b (o + i * 8) (.cons x l e .nil) := by
      intro i hi
      obtain ⟨cs', y, hc, hy, ht⟩ := one i hi
      unfold w8 at hc
      rw [plainAdd] at hc
      obtain ⟨v0, v1, v2, v3, v4, v5, v6, v7, rfl, c0, c1, c2, c3, c4, c5, c6, c7⟩ := cells_eight hc
      simp only [plainAdd] at c0 c1 c2 c3 c4 c5 c6 c7
      have hwy := hwe i y hy
      obtain ⟨xs, m, hnm, rfl, _, hxl, hf⟩ := DataW.trod_struct Tryz.underlying126 ht
      have hwx : ∀ (j : Nat) (tj : TypeId) (z : DataW H × List MemPlace), ([3, 3, 28, 28, 21, 69, 45, 45] : List TypeId)[j]? = some tj → xs[j]? = some z → ∀ q ∈ z.1.weights Tryz.prog tj, q ≤ reachBytes := by
        intro j tj z htj hz q hq
        refine hwy q ?_
        simp only [DataW.weights, Tryz.underlying126]
        exact DataW.weights_mem_each htj (by simp [hz]) q hq
      have f0 : DataW.trod enc Tryz.prog W 0 (fun _ => true) true m 3 [v0] = xs[0]? := by have h := hf 0 { name := "Op", type := 3, offset := 0, embedded := false, tag := "", pkgPath := "", byteOffset := 0 } rfl; simpa only [cells1.1, cells1.2.1, cells1.2.2.1, cells1.2.2.2, cellsU, List.drop_zero, List.take_succ_cons, List.take_zero, List.drop_succ_cons] using h
      have f1 : DataW.trod enc Tryz.prog W 0 (fun _ => true) true m 3 [v1] = xs[1]? := by have h := hf 1 { name := "Results", type := 3, offset := 1, embedded := false, tag := "", pkgPath := "", byteOffset := 8 } rfl; simpa only [cells1.1, cells1.2.1, cells1.2.2.1, cells1.2.2.2, cellsU, List.drop_zero, List.take_succ_cons, List.take_zero, List.drop_succ_cons] using h
      have f2 : DataW.trod enc Tryz.prog W 0 (fun _ => true) true m 28 [v2] = xs[2]? := by have h := hf 2 { name := "A", type := 28, offset := 2, embedded := false, tag := "", pkgPath := "", byteOffset := 16 } rfl; simpa only [cells1.1, cells1.2.1, cells1.2.2.1, cells1.2.2.2, cellsU, List.drop_zero, List.take_succ_cons, List.take_zero, List.drop_succ_cons] using h
      have f3 : DataW.trod enc Tryz.prog W 0 (fun _ => true) true m 28 [v3] = xs[3]? := by have h := hf 3 { name := "B", type := 28, offset := 3, embedded := false, tag := "", pkgPath := "", byteOffset := 20 } rfl; simpa only [cells1.1, cells1.2.1, cells1.2.2.1, cells1.2.2.2, cellsU, List.drop_zero, List.take_succ_cons, List.take_zero, List.drop_succ_cons] using h
      have f4 : DataW.trod enc Tryz.prog W 0 (fun _ => true) true m 21 [v4] = xs[4]? := by have h := hf 4 { name := "N", type := 21, offset := 4, embedded := false, tag := "", pkgPath := "", byteOffset := 24 } rfl; simpa only [cells1.1, cells1.2.1, cells1.2.2.1, cells1.2.2.2, cellsU, List.drop_zero, List.take_succ_cons, List.take_zero, List.drop_succ_cons] using h
      have f5 : DataW.trod enc Tryz.prog W 0 (fun _ => true) true m 69 [v5] = xs[5]? := by have h := hf 5 { name := "Tags", type := 69, offset := 5, embedded := false, tag := "", pkgPath := "", byteOffset := 32 } rfl; simpa only [cells1.1, cells1.2.1, cells1.2.2.1, cells1.2.2.2, cellsU, List.drop_zero, List.take_succ_cons, List.take_zero, List.drop_succ_cons] using h
      have f6 : DataW.trod enc Tryz.prog W 0 (fun _ => true) true m 45 [v6] = xs[6]? := by have h := hf 6 { name := "L", type := 45, offset := 6, embedded := false, tag := "", pkgPath := "", byteOffset := 56 } rfl; simpa only [cells1.1, cells1.2.1, cells1.2.2.1, cells1.2.2.2, cellsU, List.drop_zero, List.take_succ_cons, List.take_zero, List.drop_succ_cons] using h
      have f7 : DataW.trod enc Tryz.prog W 0 (fun _ => true) true m 45 [v7] = xs[7]? := by have h := hf 7 { name := "E", type := 45, offset := 7, embedded := false, tag := "", pkgPath := "", byteOffset := 80 } rfl; simpa only [cells1.1, cells1.2.1, cells1.2.2.1, cells1.2.2.2, cellsU, List.drop_zero, List.take_succ_cons, List.take_zero, List.drop_succ_cons] using h
      have hxs : ∀ j, j < 8 → ∃ z, xs[j]? = some z := fun j hj => ⟨_, List.getElem?_eq_getElem (by rw [hxl]; exact hj)⟩
      obtain ⟨z0, e0⟩ := hxs 0 (by omega)
      obtain ⟨z1, e1⟩ := hxs 1 (by omega)
      obtain ⟨z2, e2⟩ := hxs 2 (by omega)
      obtain ⟨z3, e3⟩ := hxs 3 (by omega)
      obtain ⟨z4, e4⟩ := hxs 4 (by omega)
      obtain ⟨z5, e5⟩ := hxs 5 (by omega)
      obtain ⟨z6, e6⟩ := hxs 6 (by omega)
      obtain ⟨z7, e7⟩ := hxs 7 (by omega)
      rw [e0] at f0; rw [e1] at f1; rw [e2] at f2; rw [e3] at f3; rw [e4] at f4; rw [e5] at f5; rw [e6] at f6; rw [e7] at f7
      obtain ⟨n0, g0, -, w0⟩ := DataW.trod_int Tryz.underlying3 f0
      obtain ⟨n1, g1, -, w1⟩ := DataW.trod_int Tryz.underlying3 f1
      obtain ⟨n2, g2, -, w2⟩ := DataW.trod_int Tryz.underlying28 f2
      obtain ⟨n3, g3, -, w3⟩ := DataW.trod_int Tryz.underlying28 f3
      obtain ⟨n4, g4, -, w4⟩ := DataW.trod_int Tryz.underlying21 f4
      obtain ⟨a5, c5', z5', g5, b5, r5, t5⟩ := open_tags f5 (hwx 5 _ _ rfl e5)
      obtain ⟨a6, l6, c6', t6, g6, -, b6, L6⟩ := ih m (by omega) _ _ f6 (hwx 6 _ _ rfl e6)
      obtain ⟨a7, l7, c7', t7, g7, -, b7, L7⟩ := ih m (by omega) _ _ f7 (hwx 7 _ _ rfl e7)
      simp only [List.cons.injEq, and_true] at g0 g1 g2 g3 g4 g5 g6 g7
      subst g0 g1 g2 g3 g4 g5 g6 g7
      have q0 := bounds_i64 w0
      have q1 := bounds_i64 w1
      have q2 := bounds_u32 w2
      have q3 := bounds_u32 w3
      have q4 := bounds_i32 w4
      refine ⟨⟨n0, n1, n2, n3, n4, z5', a5, c5', a6, l6, c6', a7, l7, c7'⟩, t6, t7, ?_, ⟨q0, q1, ⟨q2.1, Int.lt_of_le_of_lt q2.2 (by decide)⟩, ⟨q3.1, Int.lt_of_le_of_lt q3.2 (by decide)⟩, ⟨q4.1, Int.lt_of_le_of_lt q4.2 (by decide)⟩, r5, b5, b6, b7⟩, ⟨c0, c1, c2, c3, c4, c5, c6, c7⟩, t5, L6, L7, trivial⟩
      have := World.block_lt_of_cell? W _ c0
      exact this
    obtain ⟨t, ht, hi⟩ := run_il W.heap.size b len o each
    exact ⟨t, rfl, hlc, by omega, ht, .inr ⟨b, o, rfl, hi⟩⟩
end Go.Proofs.YtepbjkkakfpjgaaGreatDoor.Instr

namespace Go.Proofs.YtepbjkkakfpjgaaGreatDoor.Mod
open Go.RowKit Go.ChangeShapes Go.WideShapes Go.ChangeAt Go.Joins Go.Deep Go.Proofs.YtepbjkkakfpjgaaGreatDoor.Instr

variable {H : Type} {enc : TypeId × Value → H} {W : World}
def Wok (T : TypeId) (d : DataW H) : Prop := ∀ q ∈ d.weights Tryz.prog T, q ≤ reachBytes

theorem exists_list {α : Type} {P : Nat → α → Prop} : ∀ n : Nat, (∀ i, i < n → ∃ a, P i a) → ∃ l : List α, l.length = n ∧ ∀ (i : Nat) (h : i < l.length), P i l[i]
  | 0, _ => ⟨[], rfl, fun i h => absurd h (Nat.not_lt_zero _)⟩
  | n + 1, h => by
    obtain ⟨l, hl, hp⟩ := exists_list n (fun i hi => h i (by omega))
    obtain ⟨a, ha⟩ := h n (by omega)
    refine ⟨l ++ [a], by simp [hl], fun i hi => ?_⟩
    by_cases hn : i < l.length
    · rw [List.getElem_append_left hn]; exact hp i hn
    · have : i = n := by simp at hi; omega
      subst this
      rw [List.getElem_append_right (by omega)]
      simpa [hl] using ha
theorem cells_get {w : World} {b o sz : Nat} {cs : List Value} (h : w.cells? 0 ⟨b, o, none⟩ sz = some cs) : cs.length = sz ∧ ∀ j v, cs[j]? = some v → w.cell? ⟨b, o + j, none⟩ = some v := by
  unfold World.cells? at h
  rw [if_pos (Nat.zero_le _)] at h
  have hl := mapM_some_length h
  refine ⟨by simpa using hl, fun j v hv => ?_⟩
  have hj : j < sz := by
    have := (List.getElem?_eq_some_iff.1 hv).1
    simp at hl; omega
  have := mapM_some_get h j j (by simp [hj])
  rw [plainAdd] at this
  rw [this, hv]
theorem cells_spot {w : World} {b o sz : Nat} {sp : Option Nat} {cs : List Value} (hs : 0 < sz) (h : w.cells? 0 ((⟨b, o, sp⟩ : Addr).add 0) sz = some cs) : sp = none := by
  unfold World.cells? at h
  rw [if_pos (Nat.zero_le _)] at h
  have hl := mapM_some_length h
  have hg := mapM_some_get h 0 0 (by simp [hs])
  have h0 : ∃ v, cs[0]? = some v := ⟨_, List.getElem?_eq_getElem (by simp at hl; omega)⟩
  obtain ⟨v, hv⟩ := h0
  rw [hv] at hg
  have hp := World.cell?_spot hg
  unfold Addr.add at hp
  (repeat' split at hp) <;> simp_all
/-- A slice of records of sz cells each. -/
theorem open_rows {α : Type} {T S : TypeId} {sz nb : Nat} (V : α → List Value) (Good : α → Prop) (hS : Tryz.prog.underlying S = some (.slice T)) (hc : Tryz.prog.cellsOf T = sz) (hs0 : 0 < sz) (hb : Tryz.prog.bytesOf T = nb) (hnb : 1 ≤ nb)
    (one : ∀ n cs x, DataW.trod enc Tryz.prog W 0 (fun _ => true) true n T cs = some x → Wok T x.1 → ∃ a : α, cs = V a ∧ Good a)
    {fuel : Nat} {cs : List Value} {x : DataW H × List MemPlace} (h : DataW.trod enc Tryz.prog W 0 (fun _ => true) true fuel S cs = some x) (hw : Wok S x.1) :
    ∃ (a : Option Addr) (c : Nat) (l : List α), cs = [.slice a l.length c] ∧ l.length ≤ c ∧ l.length ≤ 140737488351232 ∧ Rows W.heap.size W a sz (l.map V) ∧ ∀ y ∈ l, Good y := by
  rcases DataW.trod_slice hS h with ⟨rfl, _⟩ | ⟨a, len, cap, elems, rest, n, hfu, rfl, rfl, _, hlc, _, hlen, hel, _, _⟩
  · exact ⟨none, 0, [], rfl, by simp, by simp, .inl rfl, by simp⟩
  have hbound : (elems.length + rest.length) * nb ≤ reachBytes := by
    have : (elems.length + rest.length) * Tryz.prog.bytesOf T ≤ reachBytes := hw _ (by simp [DataW.weights, hS])
    rw [hb] at this; exact this
  have hbig : len ≤ 140737488351232 := by
    simp only [reachBytes] at hbound
    have : elems.length * 1 ≤ (elems.length + rest.length) * nb := Nat.mul_le_mul (by omega) hnb
    omega
  have hwe : ∀ (i : Nat) (y : DataW H × List MemPlace), elems[i]? = some y → Wok T y.1 := by
    intro i y hy m hm
    refine hw m ?_
    have h1 : (elems.map (·.1))[i]? = some y.1 := by simp [hy]
    have := weights_all h1 m hm
    simp only [DataW.weights, hS, List.mem_cons, List.mem_append]
    exact .inr (.inl this)
  obtain ⟨b, o, sp⟩ := a
  have hspot : 0 < len → sp = none := by
    intro hi
    have h1 := hel 0 hi
    rw [hc, List.getElem?_eq_getElem (by omega), Nat.zero_mul] at h1
    obtain ⟨cs', hcs, _⟩ := Option.bind_eq_some_iff.1 h1
    exact cells_spot hs0 hcs
  have each : ∀ i, i < len → ∃ y : α, (∀ j v, (V y)[j]? = some v → W.cell? ⟨b, o + i * sz + j, none⟩ = some v) ∧ Good y ∧ sp = none := by
    intro i hi
    have h1 := hel i hi
    rw [hc, List.getElem?_eq_getElem (by omega)] at h1
    obtain ⟨cs', hcs, ht⟩ := Option.bind_eq_some_iff.1 h1
    have hsp := hspot (by omega)
    subst hsp
    rw [plainAdd] at hcs
    obtain ⟨y, rfl, hg⟩ := one n cs' _ ht (hwe i _ (List.getElem?_eq_getElem (by omega)))
    exact ⟨y, (cells_get hcs).2, hg, rfl⟩
  obtain ⟨l, hl, hp⟩ := exists_list len each
  refine ⟨some ⟨b, o, sp⟩, cap, l, by rw [hl], by omega, by omega, ?_, fun y hy => ?_⟩
  · by_cases h0 : len = 0
    · left
      have : l = [] := List.eq_nil_of_length_eq_zero (by omega)
      rw [this]; rfl
    · obtain ⟨hc0, _, rfl⟩ := hp 0 (by omega)
      obtain ⟨cs', hcs, _⟩ := Option.bind_eq_some_iff.1 (show _ = some (elems[0]'(by omega)) by rw [hel 0 (by omega)]; exact List.getElem?_eq_getElem _)
      rw [hc, plainAdd] at hcs
      obtain ⟨hl0, hg0⟩ := cells_get hcs
      have hv0 : ∃ v, cs'[0]? = some v := ⟨_, List.getElem?_eq_getElem (by omega)⟩
      obtain ⟨v0, hv0⟩ := hv0
      refine .inr ⟨b, o, rfl, World.block_lt_of_cell? W _ (hg0 0 v0 hv0), fun i hi j _ v hv => ?_⟩
      simp only [List.length_map] at hi
      refine (hp i hi).1 j v ?_
      rw [List.getD_eq_getElem?_getD, List.getElem?_map, List.getElem?_eq_getElem hi] at hv
      exact hv
  · obtain ⟨i, hi, rfl⟩ := List.mem_iff_getElem.1 hy
    exact (hp i hi).2.1

set_option maxRecDepth 100000 in
theorem rd2 {T : TypeId} {f0 f1 : Field} {n : Nat} {cs : List Value} {x : DataW H × List MemPlace} (hs : Tryz.prog.underlying T = some (.struct #[f0, f1])) (hone : oneCellFields Tryz.prog #[f0, f1] = true) (hC : Tryz.prog.cellsOf T = 2)
    (h : DataW.trod enc Tryz.prog W 0 (fun _ => true) true n T cs = some x) (hw : Wok T x.1) : ∃ v0 v1 y0 y1 m, cs = [v0, v1] ∧ DataW.trod enc Tryz.prog W 0 (fun _ => true) true m f0.type [v0] = some y0 ∧ DataW.trod enc Tryz.prog W 0 (fun _ => true) true m f1.type [v1] = some y1 ∧ Wok f0.type y0.1 ∧ Wok f1.type y1.1 := by
  obtain ⟨y0, y1, m, rfl, hl, h0, h1⟩ := trod_struct2 hs h
  obtain ⟨o0, k0⟩ := hone_of hone 0 f0 rfl
  obtain ⟨o1, k1⟩ := hone_of hone 1 f1 rfl
  rw [hC] at hl
  match cs, hl with
  | [v0, v1], _ =>
    refine ⟨v0, v1, y0, y1, m, rfl, by simpa [o0, k0] using h0, by simpa [o1, k1] using h1, fun q hq => hw q ?_, fun q hq => hw q ?_⟩
    · simp only [DataW.weights, hs]; exact DataW.weights_mem_each (j := 0) rfl rfl q hq
    · simp only [DataW.weights, hs]; exact DataW.weights_mem_each (j := 1) rfl rfl q hq
set_option maxRecDepth 100000 in
theorem rd3 {T : TypeId} {f0 f1 f2 : Field} {n : Nat} {cs : List Value} {x : DataW H × List MemPlace} (hs : Tryz.prog.underlying T = some (.struct #[f0, f1, f2])) (hone : oneCellFields Tryz.prog #[f0, f1, f2] = true) (hC : Tryz.prog.cellsOf T = 3)
    (h : DataW.trod enc Tryz.prog W 0 (fun _ => true) true n T cs = some x) (hw : Wok T x.1) : ∃ v0 v1 v2 y0 y1 y2 m, cs = [v0, v1, v2] ∧ DataW.trod enc Tryz.prog W 0 (fun _ => true) true m f0.type [v0] = some y0 ∧ DataW.trod enc Tryz.prog W 0 (fun _ => true) true m f1.type [v1] = some y1 ∧
      DataW.trod enc Tryz.prog W 0 (fun _ => true) true m f2.type [v2] = some y2 ∧ Wok f0.type y0.1 ∧ Wok f1.type y1.1 ∧ Wok f2.type y2.1 := by
  obtain ⟨y0, y1, y2, m, rfl, hl, h0, h1, h2⟩ := trod_struct3 hs h
  obtain ⟨o0, k0⟩ := hone_of hone 0 f0 rfl
  obtain ⟨o1, k1⟩ := hone_of hone 1 f1 rfl
  obtain ⟨o2, k2⟩ := hone_of hone 2 f2 rfl
  rw [hC] at hl
  match cs, hl with
  | [v0, v1, v2], _ =>
    refine ⟨v0, v1, v2, y0, y1, y2, m, rfl, by simpa [o0, k0] using h0, by simpa [o1, k1] using h1, by simpa [o2, k2] using h2, fun q hq => hw q ?_, fun q hq => hw q ?_, fun q hq => hw q ?_⟩
    · simp only [DataW.weights, hs]; exact DataW.weights_mem_each (j := 0) rfl rfl q hq
    · simp only [DataW.weights, hs]; exact DataW.weights_mem_each (j := 1) rfl rfl q hq
    · simp only [DataW.weights, hs]; exact DataW.weights_mem_each (j := 2) rfl rfl q hq
theorem rd_lst {n : Nat} {v : Value} {x : DataW H × List MemPlace} (h : DataW.trod enc Tryz.prog W 0 (fun _ => true) true n 45 [v] = some x) (hw : Wok 45 x.1) : ∃ l : Lst, v = l.val ∧ ListAt W.heap.size W l.a l.t.len l.t ∧ l.t.len ≤ 140737488351232 := by
  obtain ⟨a, len, c, t, e, _, h2, h3⟩ := open_il n _ _ h hw
  simp only [List.cons.injEq, and_true] at e
  subst e
  have hl := h3.1
  subst hl
  exact ⟨⟨a, c, t⟩, rfl, h3, h2⟩
theorem rd_str {n : Nat} {v : Value} {x : DataW H × List MemPlace} (h : DataW.trod enc Tryz.prog W 0 (fun _ => true) true n 9 [v] = some x) (hw : Wok 9 x.1) : ∃ s : ByteArray, v = .string s ∧ s.size ≤ 140737488351232 := by
  obtain ⟨s, e, rfl, _⟩ := DataW.trod_string Tryz.underlying9 h
  simp only [List.cons.injEq, and_true] at e
  refine ⟨s, e, ?_⟩
  have := hw s.size (by simp [DataW.weights])
  simpa [reachBytes] using this
theorem one_ty {n : Nat} {cs : List Value} {x : DataW H × List MemPlace} (h : DataW.trod enc Tryz.prog W 0 (fun _ => true) true n 50 cs = some x) (hw : Wok 50 x.1) : ∃ a : Int × Int, cs = tyV a ∧ True := by
  obtain ⟨v0, v1, y0, y1, m, rfl, h0, h1, _, _⟩ := rd2 Tryz.underlying50 (by kernel_rfl) (by kernel_rfl) h hw
  obtain ⟨n0, e0, -, _⟩ := DataW.trod_int Tryz.underlying3 h0
  obtain ⟨n1, e1, -, _⟩ := DataW.trod_int Tryz.underlying3 h1
  simp only [List.cons.injEq, and_true] at e0 e1
  subst e0 e1
  exact ⟨(n0, n1), rfl, trivial⟩
theorem one_im {n : Nat} {cs : List Value} {x : DataW H × List MemPlace} (h : DataW.trod enc Tryz.prog W 0 (fun _ => true) true n 73 cs = some x) (hw : Wok 73 x.1) : ∃ a : Imp, cs = a.v ∧ a.mo.size ≤ 140737488351232 ∧ a.na.size ≤ 140737488351232 := by
  obtain ⟨v0, v1, v2, y0, y1, y2, m, rfl, h0, h1, h2, w0, w1, _⟩ := rd3 Tryz.underlying73 (by kernel_rfl) (by kernel_rfl) h hw
  obtain ⟨s0, rfl, b0⟩ := rd_str h0 w0
  obtain ⟨s1, rfl, b1⟩ := rd_str h1 w1
  obtain ⟨n2, e2, -, _⟩ := DataW.trod_int Tryz.underlying3 h2
  simp only [List.cons.injEq, and_true] at e2
  subst e2
  exact ⟨⟨s0, s1, n2⟩, rfl, b0, b1⟩
theorem one_li {n : Nat} {cs : List Value} {x : DataW H × List MemPlace} (h : DataW.trod enc Tryz.prog W 0 (fun _ => true) true n 60 cs = some x) (hw : Wok 60 x.1) : ∃ a : Li, cs = a.v ∧ 0 ≤ a.n := by
  obtain ⟨v0, v1, v2, y0, y1, y2, m, rfl, h0, h1, h2, _, _, _⟩ := rd3 Tryz.underlying60 (by kernel_rfl) (by kernel_rfl) h hw
  obtain ⟨n0, e0, -, wf0⟩ := DataW.trod_int Tryz.underlying28 h0
  obtain ⟨n1, e1, -, _⟩ := DataW.trod_int Tryz.underlying28 h1
  obtain ⟨n2, e2, -⟩ := DataW.trod_bool Tryz.underlying4 h2
  simp only [List.cons.injEq, and_true] at e0 e1 e2
  subst e0 e1 e2
  exact ⟨⟨n0, n1, n2⟩, rfl, (bounds_u32 wf0).1⟩
theorem one_ex {n : Nat} {cs : List Value} {x : DataW H × List MemPlace} (h : DataW.trod enc Tryz.prog W 0 (fun _ => true) true n 75 cs = some x) (hw : Wok 75 x.1) : ∃ a : Ex, cs = a.v ∧ a.na.size ≤ 140737488351232 ∧ 0 ≤ a.i ∧ a.i < 4294967296 := by
  obtain ⟨v0, v1, v2, y0, y1, y2, m, rfl, h0, h1, h2, w0, _, _⟩ := rd3 Tryz.underlying75 (by kernel_rfl) (by kernel_rfl) h hw
  obtain ⟨s0, rfl, b0⟩ := rd_str h0 w0
  obtain ⟨n1, e1, -, _⟩ := DataW.trod_int Tryz.underlying3 h1
  obtain ⟨n2, e2, -, wf2⟩ := DataW.trod_int Tryz.underlying28 h2
  simp only [List.cons.injEq, and_true] at e1 e2
  subst e1 e2
  have hb := bounds_u32 wf2
  exact ⟨⟨s0, n1, n2⟩, rfl, b0, hb.1, by have := hb.2; show n2 < _; omega⟩
/-- A list of instructions lies where it is said to. -/
def LGood (W : World) (l : Lst) : Prop := ListAt W.heap.size W l.a l.t.len l.t ∧ l.t.len ≤ 140737488351232
theorem one_gl {n : Nat} {cs : List Value} {x : DataW H × List MemPlace} (h : DataW.trod enc Tryz.prog W 0 (fun _ => true) true n 68 cs = some x) (hw : Wok 68 x.1) : ∃ a : Gl, cs = a.v ∧ LGood W a.l := by
  obtain ⟨v0, v1, y0, y1, m, rfl, h0, h1, _, w1⟩ := rd2 Tryz.underlying68 (by kernel_rfl) (by kernel_rfl) h hw
  obtain ⟨n0, e0, -⟩ := DataW.trod_bool Tryz.underlying4 h0
  obtain ⟨l, rfl, hl⟩ := rd_lst h1 w1
  simp only [List.cons.injEq, and_true] at e0
  subst e0
  exact ⟨⟨n0, l⟩, rfl, hl⟩
theorem open_u32s {n : Nat} {v : Value} {x : DataW H × List MemPlace} (h : DataW.trod enc Tryz.prog W 0 (fun _ => true) true n 69 [v] = some x) (hw : Wok 69 x.1) : ∃ a c zs, v = .slice a zs.length c ∧ TagsAt W.heap.size W a zs ∧ zs.length ≤ 140737488351232 ∧ ∀ z ∈ zs, 0 ≤ z ∧ z < 4294967296 := by
  obtain ⟨a, c, zs, e1, _, hz, hr, hg⟩ := open_rows (sz := 1) (nb := 4) (α := { z : Int // 0 ≤ z ∧ z < 4294967296 }) (fun z => [.int .u32 z.1]) (fun _ => True) Tryz.underlying69 (by kernel_rfl) (by omega) (by kernel_rfl : Tryz.prog.bytesOf 28 = 4) (by omega)
    (fun n cs x h _ => by
      obtain ⟨z, e, -, wf⟩ := DataW.trod_int Tryz.underlying28 h
      have := bounds_u32 wf
      exact ⟨⟨z, by omega, by omega⟩, e, trivial⟩) h hw
  simp only [List.cons.injEq, and_true] at e1
  subst e1
  refine ⟨a, c, zs.map (·.1), by simp, ?_, by simpa using hz, fun z hm => ?_⟩
  · rcases hr with h | ⟨b, off, ha, hb, hcell⟩
    · left
      rw [List.map_eq_nil_iff] at h
      subst h; rfl
    · refine .inr ⟨b, off, ha, hb, fun i hi => ?_⟩
      have hi' : i < zs.length := by simpa using hi
      have := hcell i (by simpa using hi') 0 (by omega) (.int .u32 zs[i].1) (by simp [hi'])
      rw [Nat.mul_one, Nat.add_zero] at this
      rw [this]
      simp [hi']
  · obtain ⟨y, _, rfl⟩ := List.mem_map.1 hm
    exact y.2
theorem one_el {n : Nat} {cs : List Value} {x : DataW H × List MemPlace} (h : DataW.trod enc Tryz.prog W 0 (fun _ => true) true n 71 cs = some x) (hw : Wok 71 x.1) : ∃ a : El, cs = a.v ∧ LGood W a.l ∧ TagsAt W.heap.size W a.fa a.fs ∧ a.fs.length ≤ 140737488351232 ∧ ∀ z ∈ a.fs, 0 ≤ z ∧ z < 4294967296 := by
  obtain ⟨v0, v1, y0, y1, m, rfl, h0, h1, w0, w1⟩ := rd2 Tryz.underlying71 (by kernel_rfl) (by kernel_rfl) h hw
  obtain ⟨l, rfl, hl⟩ := rd_lst h0 w0
  obtain ⟨a, c, zs, rfl, ht, hz, hr⟩ := open_u32s h1 w1
  exact ⟨⟨l, a, c, zs⟩, rfl, hl, ht, hz, hr⟩
theorem one_da {n : Nat} {cs : List Value} {x : DataW H × List MemPlace} (h : DataW.trod enc Tryz.prog W 0 (fun _ => true) true n 47 cs = some x) (hw : Wok 47 x.1) : ∃ a : Da, cs = a.v ∧ LGood W a.l ∧ BytesAt W.heap.size W a.ba a.bs ∧ a.bs.length ≤ 140737488351232 ∧ ∀ z ∈ a.bs, 0 ≤ z ∧ z < 256 := by
  obtain ⟨v0, v1, y0, y1, m, rfl, h0, h1, w0, w1⟩ := rd2 Tryz.underlying47 (by kernel_rfl) (by kernel_rfl) h hw
  obtain ⟨l, rfl, hl⟩ := rd_lst h0 w0
  obtain ⟨a, c, zs, e1, _, hz, hr, hg⟩ := open_rows (sz := 1) (nb := 1) (α := { z : Int // 0 ≤ z ∧ z < 256 }) (fun z => [.int .u8 z.1]) (fun _ => True) Tryz.underlying35 (by kernel_rfl) (by omega) (by kernel_rfl : Tryz.prog.bytesOf 5 = 1) (by omega)
    (fun n cs x h _ => by
      obtain ⟨z, e, -, wf⟩ := DataW.trod_int Tryz.underlying5 h
      have := bounds_u8 wf
      exact ⟨⟨z, by omega, by omega⟩, e, trivial⟩) h1 w1
  simp only [List.cons.injEq, and_true] at e1
  subst e1
  refine ⟨⟨l, a, c, zs.map (·.1)⟩, by simp [Da.v], hl, ?_, by simpa using hz, fun z hm => ?_⟩
  · rcases hr with h | ⟨b, off, ha, hb, hcell⟩
    · left
      rw [List.map_eq_nil_iff] at h
      subst h; rfl
    · refine .inr ⟨b, off, ha, hb, fun i hi => ?_⟩
      have hi' : i < zs.length := by simpa using hi
      have := hcell i (by simpa using hi') 0 (by omega) (.int .u8 zs[i].1) (by simp [hi'])
      rw [Nat.mul_one, Nat.add_zero] at this
      rw [this]
      simp [hi']
  · obtain ⟨y, _, rfl⟩ := List.mem_map.1 hm
    exact y.2
set_option maxRecDepth 100000 in
theorem one_fu {n : Nat} {cs : List Value} {x : DataW H × List MemPlace} (h : DataW.trod enc Tryz.prog W 0 (fun _ => true) true n 66 cs = some x) (hw : Wok 66 x.1) : ∃ a : Fn, cs = a.v ∧ LGood W a.l := by
  obtain ⟨y0, y1, m, rfl, hl, h0, h1⟩ := trod_struct2 Tryz.underlying66 h
  have w1 : Wok 64 y1.1 := fun q hq => hw q (by simp only [DataW.weights, Tryz.underlying66]; exact DataW.weights_mem_each (j := 1) rfl rfl q hq)
  rw [show Tryz.prog.cellsOf 66 = 3 by kernel_rfl] at hl
  match cs, hl with
  | [v0, v1, v2], _ =>
    have h0' : DataW.trod enc Tryz.prog W 0 (fun _ => true) true m 3 [v0] = some y0 := by
      have := h0
      dsimp only at this
      rw [show Tryz.prog.cellsOf 3 = 1 by kernel_rfl] at this
      exact this
    have h1' : DataW.trod enc Tryz.prog W 0 (fun _ => true) true m 64 [v1, v2] = some y1 := by
      have := h1
      dsimp only at this
      rw [show Tryz.prog.cellsOf 64 = 2 by kernel_rfl] at this
      exact this
    obtain ⟨u0, u1, z0, z1, m', e, k0, k1, _, w2⟩ := rd2 Tryz.underlying64 (by kernel_rfl) (by kernel_rfl) h1' w1
    simp only [List.cons.injEq, and_true] at e
    obtain ⟨rfl, rfl⟩ := e
    obtain ⟨n0, e0, -, _⟩ := DataW.trod_int Tryz.underlying3 h0'
    obtain ⟨n1, e1, -, _⟩ := DataW.trod_int Tryz.underlying3 k0
    obtain ⟨l, rfl, hg⟩ := rd_lst k1 w2
    simp only [List.cons.injEq, and_true] at e0 e1
    subst e0 e1
    exact ⟨⟨n0, n1, l⟩, rfl, hg⟩
end Go.Proofs.YtepbjkkakfpjgaaGreatDoor.Mod

namespace Go.Proofs.YtepbjkkakfpjgaaGreatDoor.Mod
open Go.RowKit Go.ChangeShapes Go.WideShapes Go.ChangeAt Go.Joins Go.Deep Go.Proofs.YtepbjkkakfpjgaaGreatDoor.Instr

variable {H : Type} {enc : TypeId × Value → H} {W : World}
theorem honeM : oneCellFields Tryz.prog (Tryz.prog.fieldsOf 32) = true := by kernel_rfl
/-- Numbers as large as their types let them be. -/
structure Md.ranged (m : Md) : Prop where
  n0 : ∀ l ∈ m.tb ++ m.me, 0 ≤ l.n
  ei : ∀ e ∈ m.ex, 0 ≤ e.i ∧ e.i < 4294967296
  ef : ∀ e ∈ m.el, ∀ z ∈ e.fs, 0 ≤ z ∧ z < 4294967296
  db : ∀ d ∈ m.da, ∀ z ∈ d.bs, 0 ≤ z ∧ z < 256
  sn : 0 ≤ m.sn ∧ m.sn < 4294967296
set_option maxRecDepth 100000 in
set_option maxHeartbeats 2000000 in
theorem open_moduleR {ts : List TypeId} {ds : List (DataW H)} {base : Nat} {v : Value} {d : DataW H} {p : List MemPlace}
    (hsz : (DataW.weightsEach Tryz.prog ts ds).all (· ≤ reachBytes) = true) (j : Nat) (ht : ts[j]? = some 32) (hd : ds[j]? = some d)
    (hv : Value.okWide Tryz.prog W .any base 32 v) (h : DataW.Trod enc Tryz.prog W 0 (fun _ => true) true 32 v d p) :
    ∃ m : Md, v = .agg m.v ∧ ModAt W.heap.size W m ∧ m.fits ∧ m.caps ∧ m.ranged := by
  obtain ⟨cs, rfl, hcs⟩ := okWide_struct Tryz.underlying32 hv
  rw [show Tryz.prog.cellsOf 32 = 11 by kernel_rfl] at hcs
  obtain ⟨fuel, hf⟩ := h
  obtain ⟨xs, n, _, hx, _, hlen, hff⟩ := DataW.trod_struct Tryz.underlying32 hf
  have hone := hone_of (show oneCellFields Tryz.prog _ = true from honeM)
  obtain ⟨l⟩ := cs
  have hl : l.length = 11 := by simpa using hcs
  have hwd : Wok 32 d := fun q hq => by
    have := List.all_eq_true.1 hsz _ (DataW.weights_mem_each ht hd q hq)
    simpa using this
  simp only [Prod.mk.injEq] at hx
  obtain ⟨rfl, _⟩ := hx
  match l, hl, xs, hlen with
  | [v0, v1, v2, v3, v4, v5, v6, v7, v8, v9, v10], _, [y0, y1, y2, y3, y4, y5, y6, y7, y8, y9, y10], _ =>
    have w0 : Wok 22 y0.1 := fun q hq => hwd q (by simp only [DataW.weights, Tryz.underlying32]; exact DataW.weights_mem_each (j := 0) rfl rfl q hq)
    have f0 : DataW.trod enc Tryz.prog W 0 (fun _ => true) true n 22 [v0] = some y0 := by
      have h : DataW.trod enc Tryz.prog W 0 (fun _ => true) true n 22 (((Value.agg #[v0, v1, v2, v3, v4, v5, v6, v7, v8, v9, v10]).cells.toList.drop 0).take (Tryz.prog.cellsOf 22)) = [y0, y1, y2, y3, y4, y5, y6, y7, y8, y9, y10][0]? := hff 0 _ rfl
      rw [show Tryz.prog.cellsOf 22 = 1 by kernel_rfl] at h
      exact h
    have w1 : Wok 23 y1.1 := fun q hq => hwd q (by simp only [DataW.weights, Tryz.underlying32]; exact DataW.weights_mem_each (j := 1) rfl rfl q hq)
    have f1 : DataW.trod enc Tryz.prog W 0 (fun _ => true) true n 23 [v1] = some y1 := by
      have h : DataW.trod enc Tryz.prog W 0 (fun _ => true) true n 23 (((Value.agg #[v0, v1, v2, v3, v4, v5, v6, v7, v8, v9, v10]).cells.toList.drop 1).take (Tryz.prog.cellsOf 23)) = [y0, y1, y2, y3, y4, y5, y6, y7, y8, y9, y10][1]? := hff 1 _ rfl
      rw [show Tryz.prog.cellsOf 23 = 1 by kernel_rfl] at h
      exact h
    have w2 : Wok 24 y2.1 := fun q hq => hwd q (by simp only [DataW.weights, Tryz.underlying32]; exact DataW.weights_mem_each (j := 2) rfl rfl q hq)
    have f2 : DataW.trod enc Tryz.prog W 0 (fun _ => true) true n 24 [v2] = some y2 := by
      have h : DataW.trod enc Tryz.prog W 0 (fun _ => true) true n 24 (((Value.agg #[v0, v1, v2, v3, v4, v5, v6, v7, v8, v9, v10]).cells.toList.drop 2).take (Tryz.prog.cellsOf 24)) = [y0, y1, y2, y3, y4, y5, y6, y7, y8, y9, y10][2]? := hff 2 _ rfl
      rw [show Tryz.prog.cellsOf 24 = 1 by kernel_rfl] at h
      exact h
    have w3 : Wok 25 y3.1 := fun q hq => hwd q (by simp only [DataW.weights, Tryz.underlying32]; exact DataW.weights_mem_each (j := 3) rfl rfl q hq)
    have f3 : DataW.trod enc Tryz.prog W 0 (fun _ => true) true n 25 [v3] = some y3 := by
      have h : DataW.trod enc Tryz.prog W 0 (fun _ => true) true n 25 (((Value.agg #[v0, v1, v2, v3, v4, v5, v6, v7, v8, v9, v10]).cells.toList.drop 3).take (Tryz.prog.cellsOf 25)) = [y0, y1, y2, y3, y4, y5, y6, y7, y8, y9, y10][3]? := hff 3 _ rfl
      rw [show Tryz.prog.cellsOf 25 = 1 by kernel_rfl] at h
      exact h
    have w4 : Wok 25 y4.1 := fun q hq => hwd q (by simp only [DataW.weights, Tryz.underlying32]; exact DataW.weights_mem_each (j := 4) rfl rfl q hq)
    have f4 : DataW.trod enc Tryz.prog W 0 (fun _ => true) true n 25 [v4] = some y4 := by
      have h : DataW.trod enc Tryz.prog W 0 (fun _ => true) true n 25 (((Value.agg #[v0, v1, v2, v3, v4, v5, v6, v7, v8, v9, v10]).cells.toList.drop 4).take (Tryz.prog.cellsOf 25)) = [y0, y1, y2, y3, y4, y5, y6, y7, y8, y9, y10][4]? := hff 4 _ rfl
      rw [show Tryz.prog.cellsOf 25 = 1 by kernel_rfl] at h
      exact h
    have w5 : Wok 26 y5.1 := fun q hq => hwd q (by simp only [DataW.weights, Tryz.underlying32]; exact DataW.weights_mem_each (j := 5) rfl rfl q hq)
    have f5 : DataW.trod enc Tryz.prog W 0 (fun _ => true) true n 26 [v5] = some y5 := by
      have h : DataW.trod enc Tryz.prog W 0 (fun _ => true) true n 26 (((Value.agg #[v0, v1, v2, v3, v4, v5, v6, v7, v8, v9, v10]).cells.toList.drop 5).take (Tryz.prog.cellsOf 26)) = [y0, y1, y2, y3, y4, y5, y6, y7, y8, y9, y10][5]? := hff 5 _ rfl
      rw [show Tryz.prog.cellsOf 26 = 1 by kernel_rfl] at h
      exact h
    have w6 : Wok 27 y6.1 := fun q hq => hwd q (by simp only [DataW.weights, Tryz.underlying32]; exact DataW.weights_mem_each (j := 6) rfl rfl q hq)
    have f6 : DataW.trod enc Tryz.prog W 0 (fun _ => true) true n 27 [v6] = some y6 := by
      have h : DataW.trod enc Tryz.prog W 0 (fun _ => true) true n 27 (((Value.agg #[v0, v1, v2, v3, v4, v5, v6, v7, v8, v9, v10]).cells.toList.drop 6).take (Tryz.prog.cellsOf 27)) = [y0, y1, y2, y3, y4, y5, y6, y7, y8, y9, y10][6]? := hff 6 _ rfl
      rw [show Tryz.prog.cellsOf 27 = 1 by kernel_rfl] at h
      exact h
    have w7 : Wok 4 y7.1 := fun q hq => hwd q (by simp only [DataW.weights, Tryz.underlying32]; exact DataW.weights_mem_each (j := 7) rfl rfl q hq)
    have f7 : DataW.trod enc Tryz.prog W 0 (fun _ => true) true n 4 [v7] = some y7 := by
      have h : DataW.trod enc Tryz.prog W 0 (fun _ => true) true n 4 (((Value.agg #[v0, v1, v2, v3, v4, v5, v6, v7, v8, v9, v10]).cells.toList.drop 7).take (Tryz.prog.cellsOf 4)) = [y0, y1, y2, y3, y4, y5, y6, y7, y8, y9, y10][7]? := hff 7 _ rfl
      rw [show Tryz.prog.cellsOf 4 = 1 by kernel_rfl] at h
      exact h
    have w8 : Wok 28 y8.1 := fun q hq => hwd q (by simp only [DataW.weights, Tryz.underlying32]; exact DataW.weights_mem_each (j := 8) rfl rfl q hq)
    have f8 : DataW.trod enc Tryz.prog W 0 (fun _ => true) true n 28 [v8] = some y8 := by
      have h : DataW.trod enc Tryz.prog W 0 (fun _ => true) true n 28 (((Value.agg #[v0, v1, v2, v3, v4, v5, v6, v7, v8, v9, v10]).cells.toList.drop 8).take (Tryz.prog.cellsOf 28)) = [y0, y1, y2, y3, y4, y5, y6, y7, y8, y9, y10][8]? := hff 8 _ rfl
      rw [show Tryz.prog.cellsOf 28 = 1 by kernel_rfl] at h
      exact h
    have w9 : Wok 29 y9.1 := fun q hq => hwd q (by simp only [DataW.weights, Tryz.underlying32]; exact DataW.weights_mem_each (j := 9) rfl rfl q hq)
    have f9 : DataW.trod enc Tryz.prog W 0 (fun _ => true) true n 29 [v9] = some y9 := by
      have h : DataW.trod enc Tryz.prog W 0 (fun _ => true) true n 29 (((Value.agg #[v0, v1, v2, v3, v4, v5, v6, v7, v8, v9, v10]).cells.toList.drop 9).take (Tryz.prog.cellsOf 29)) = [y0, y1, y2, y3, y4, y5, y6, y7, y8, y9, y10][9]? := hff 9 _ rfl
      rw [show Tryz.prog.cellsOf 29 = 1 by kernel_rfl] at h
      exact h
    have w10 : Wok 30 y10.1 := fun q hq => hwd q (by simp only [DataW.weights, Tryz.underlying32]; exact DataW.weights_mem_each (j := 10) rfl rfl q hq)
    have f10 : DataW.trod enc Tryz.prog W 0 (fun _ => true) true n 30 [v10] = some y10 := by
      have h : DataW.trod enc Tryz.prog W 0 (fun _ => true) true n 30 (((Value.agg #[v0, v1, v2, v3, v4, v5, v6, v7, v8, v9, v10]).cells.toList.drop 10).take (Tryz.prog.cellsOf 30)) = [y0, y1, y2, y3, y4, y5, y6, y7, y8, y9, y10][10]? := hff 10 _ rfl
      rw [show Tryz.prog.cellsOf 30 = 1 by kernel_rfl] at h
      exact h
    obtain ⟨a0, c0, l0, e0, k0, b0, r0, g0⟩ := open_rows (sz := 2) tyV _ Tryz.underlying22 (by kernel_rfl) (by omega) rfl (of_decide_eq_true (by kernel_rfl)) (fun _ _ _ h hw => one_ty h hw) f0 w0
    obtain ⟨a1, c1, l1, e1, k1, b1, r1, g1⟩ := open_rows (sz := 3) Imp.v _ Tryz.underlying23 (by kernel_rfl) (by omega) rfl (of_decide_eq_true (by kernel_rfl)) (fun _ _ _ h hw => one_im h hw) f1 w1
    obtain ⟨a2, c2, l2, e2, k2, b2, r2, g2⟩ := open_rows (sz := 3) Fn.v _ Tryz.underlying24 (by kernel_rfl) (by omega) rfl (of_decide_eq_true (by kernel_rfl)) (fun _ _ _ h hw => one_fu h hw) f2 w2
    obtain ⟨a3, c3, l3, e3, k3, b3, r3, g3⟩ := open_rows (sz := 3) Li.v _ Tryz.underlying25 (by kernel_rfl) (by omega) rfl (of_decide_eq_true (by kernel_rfl)) (fun _ _ _ h hw => one_li h hw) f3 w3
    obtain ⟨a4, c4, l4, e4, k4, b4, r4, g4⟩ := open_rows (sz := 3) Li.v _ Tryz.underlying25 (by kernel_rfl) (by omega) rfl (of_decide_eq_true (by kernel_rfl)) (fun _ _ _ h hw => one_li h hw) f4 w4
    obtain ⟨a5, c5, l5, e5, k5, b5, r5, g5⟩ := open_rows (sz := 2) Gl.v _ Tryz.underlying26 (by kernel_rfl) (by omega) rfl (of_decide_eq_true (by kernel_rfl)) (fun _ _ _ h hw => one_gl h hw) f5 w5
    obtain ⟨a6, c6, l6, e6, k6, b6, r6, g6⟩ := open_rows (sz := 3) Ex.v _ Tryz.underlying27 (by kernel_rfl) (by omega) rfl (of_decide_eq_true (by kernel_rfl)) (fun _ _ _ h hw => one_ex h hw) f6 w6
    obtain ⟨z7, e7, -⟩ := DataW.trod_bool Tryz.underlying4 f7
    obtain ⟨z8, e8, -, wf8⟩ := DataW.trod_int Tryz.underlying28 f8
    obtain ⟨a9, c9, l9, e9, k9, b9, r9, g9⟩ := open_rows (sz := 2) El.v _ Tryz.underlying29 (by kernel_rfl) (by omega) rfl (of_decide_eq_true (by kernel_rfl)) (fun _ _ _ h hw => one_el h hw) f9 w9
    obtain ⟨a10, c10, l10, e10, k10, b10, r10, g10⟩ := open_rows (sz := 2) Da.v _ Tryz.underlying30 (by kernel_rfl) (by omega) rfl (of_decide_eq_true (by kernel_rfl)) (fun _ _ _ h hw => one_da h hw) f10 w10
    simp only [List.cons.injEq, and_true] at e0 e1 e2 e3 e4 e5 e6 e7 e8 e9 e10
    subst e0 e1 e2 e3 e4 e5 e6 e7 e8 e9 e10
    have hcodes : ∀ l ∈ (⟨l0, l1, l2, l3, l4, l5, l6, z7, z8, l9, l10, ⟨a0, c0⟩, ⟨a1, c1⟩, ⟨a2, c2⟩, ⟨a3, c3⟩, ⟨a4, c4⟩, ⟨a5, c5⟩, ⟨a6, c6⟩, ⟨a9, c9⟩, ⟨a10, c10⟩⟩ : Md).codes, LGood W l := by
      intro l hl
      unfold Md.codes at hl
      simp only [List.mem_append, List.mem_map] at hl
      rcases hl with ⟨x, hx, rfl⟩ | ⟨x, hx, rfl⟩ | ⟨x, hx, rfl⟩ | ⟨x, hx, rfl⟩
      · exact g2 x hx
      · exact g5 x hx
      · exact (g9 x hx).1
      · exact (g10 x hx).1
    refine ⟨⟨l0, l1, l2, l3, l4, l5, l6, z7, z8, l9, l10, ⟨a0, c0⟩, ⟨a1, c1⟩, ⟨a2, c2⟩, ⟨a3, c3⟩, ⟨a4, c4⟩, ⟨a5, c5⟩, ⟨a6, c6⟩, ⟨a9, c9⟩, ⟨a10, c10⟩⟩, rfl,
      ⟨r0, r1, r2, r3, r4, r5, r6, r9, r10, fun l hl => (hcodes l hl).1, fun e he => (g9 e he).2.1, fun e he => (g10 e he).2.1⟩,
      ⟨b0, b1, b2, b3, b4, b5, b6, b9, b10, fun l hl => (hcodes l hl).2, fun e he => (g9 e he).2.2.1, fun e he => (g10 e he).2.2.1, fun e he => g1 e he, fun e he => (g6 e he).1⟩, ⟨k0, k1, k2, k5, k6, k9, k10⟩,
      ⟨fun l hl => (List.mem_append.1 hl).elim (fun h => g3 l h) (fun h => g4 l h), fun e he => (g6 e he).2, fun e he => (g9 e he).2.2.2, fun d hd => (g10 d hd).2.2.2, (bounds_u32 wf8).1, by have := (bounds_u32 wf8).2; show z8 < _; omega⟩⟩
end Go.Proofs.YtepbjkkakfpjgaaGreatDoor.Mod

namespace Go.Proofs.YtepbjkkakfpjgaaGreatDoor.Utf
open Go.RowKit

/-- The two tables of unicode/utf8 lie as the row lists them. -/
def Tabs (w : World) : Prop := Lib.Utf8Tabs 1 2 w
theorem Tabs.below {w w' : World} (h : Tabs w) (hb : Below w.heap.size w w') : Tabs w' := Utf8Tabs_below h hb
theorem Tabs.alloc {w : World} (h : Tabs w) (o : Obj) : Tabs (w.alloc o) := h.below ((Below.refl _ _).alloc (Nat.le_refl _) o)

theorem str_tail (zs : List Int) (i : Nat) : (strOfNums zs).extract i zs.length = strOfNums (zs.drop i) := by
  apply ByteArray.ext
  apply Array.toList_inj.1
  rw [ByteArray.data_extract, Array.toList_extract, strOfNums_data, strOfNums_data]
  simp
  rw [List.take_of_length_le (by simp)]

set_option maxHeartbeats 800000 in
theorem bad_any (zs : List Int) (hb : ∀ z ∈ zs, 0 ≤ z ∧ z < 256) (w : World) (hT : Tabs w) :
    Calls Tryz.prog 180 #[.string (strOfNums zs)] w fun e w' => e = .returned (.int .i64 (badL zs)) ∧ Below w.heap.size w w' := by
  have D1 : ∀ pos n k, atL (zs.drop pos) = some (n, k) → Utf8.decode (strOfNums zs) pos = (n.toNat, k) := fun pos n k h => decode_some hb h
  have D2 : ∀ pos, pos < zs.length → atL (zs.drop pos) = none → Utf8.decode (strOfNums zs) pos = (65533, 1) := fun pos h h' => decode_none hb h h'
  have D3 : ∀ pos, pos < zs.length → Lib.decodeGo ((strOfNums zs).extract pos zs.length) = Utf8.decode (strOfNums zs) pos := fun pos h => by
    rw [str_tail]
    unfold Lib.decodeGo
    rw [strOfNums_size, List.length_drop, if_neg (by omega), decode_eq (mem_drop_bytes hb pos), decode_eq hb]
    rfl
  have hs : (strOfNums zs).size = zs.length := strOfNums_size zs
  generalize strOfNums zs = s at *
  have H1 := hid D1
  have H2 := hid D2
  have H3 := hid D3
  clear D1 D2 D3 hb
  go_enter Tryz.func180, Tryz.ntmps180
  go_wp2
  go_loopw [3] (fun _ wr => ∃ pos : Nat, wr.heap[w.heap.size]? = some (.stringIter s pos) ∧ Below w.heap.size w wr ∧ pos ≤ zs.length ∧ (scan zs).2 = pos + (scan (zs.drop pos)).2)
    (fun _ wr => zs.length - wr.iterPos w.heap.size)
  case atStart => exact ⟨0, World.iter_heap w s 0, (Below.refl _ _).alloc (Nat.le_refl _) _, Nat.zero_le _, by simp⟩
  case round =>
    obtain ⟨pos, hk, hbw, hpos, hsc⟩ := hrel
    have HS := hid hsc
    clear hsc
    have hT' : Tabs wr := hT.below hbw
    by_cases hp : pos < s.size
    · cases ha : atL (zs.drop pos) with
      | none =>
        have hd := H2.out pos (by omega) ha
        have hnx : ∀ ty, (Instr.next (.pointer (some ⟨w.heap.size, 0, none⟩)) true ty).run Tryz.prog wr = .ok (.tuple #[.bool true, .int .i64 pos, .int .i32 65533]) (wr.iterAt w.heap.size s (pos + 1)) := fun ty => by
          rw [Lib.run_next_any_at wr w.heap.size s pos ty hk hp, hd]; rfl
        have hw1 := Lib.below_iterAt hbw (Nat.le_refl _) s (pos + 1)
        have hT1 : Tabs (wr.iterAt w.heap.size s (pos + 1)) := hT.below hw1
        have HF : Hid (badL zs = pos) := by
          have h := HS.out
          rw [scan_none ha] at h
          show _ = _
          rw [badL_some (by omega)]
          simp at h; omega
        have HD := hid ((H3.out pos (by omega)).trans hd)
        clear hd ha hT hT'
        generalize wr.iterAt w.heap.size s (pos + 1) = w1 at *
        go_wp2_with fail
        refine (Tryz.utf8_DecodeRuneInString _ _ hT1).mono ?_
        rw [HD.out]
        rintro e w2 ⟨rfl, hb2⟩
        go_wp2
        go_ret
        exact ⟨ret_int HF.out.symm, hw1.trans (hb2.mono (by have := hw1.size; omega))⟩
      | some q =>
        obtain ⟨n, k⟩ := q
        obtain ⟨hn, _, _, hk1, _, hkl⟩ := atL_some ha
        have hd := H1.out pos n k ha
        have hnx : ∀ ty, (Instr.next (.pointer (some ⟨w.heap.size, 0, none⟩)) true ty).run Tryz.prog wr = .ok (.tuple #[.bool true, .int .i64 pos, .int .i32 n]) (wr.iterAt w.heap.size s (pos + k)) := fun ty => by
          rw [Lib.run_next_any_at wr w.heap.size s pos ty hk hp, hd]
          have := hn.1
          simp only [Int.toNat_of_nonneg this]
        have hw1 := Lib.below_iterAt hbw (Nat.le_refl _) s (pos + k)
        have hT1 : Tabs (wr.iterAt w.heap.size s (pos + k)) := hT.below hw1
        have hk1' := Lib.iterAt_heap wr w.heap.size s pos (pos + k) hk
        have hit : (wr.iterAt w.heap.size s (pos + k)).iterPos w.heap.size = pos + k := by unfold World.iterPos; rw [hk1']
        have hit0 : wr.iterPos w.heap.size = pos := by unfold World.iterPos; rw [hk]
        have HF : Hid ((scan zs).2 = (pos + k) + (scan (zs.drop (pos + k))).2) := by
          have h := HS.out
          rw [scan_some ha, List.drop_drop] at h
          show _ = _
          simp only at h
          omega
        have hlk : pos + k ≤ zs.length := by simp at hkl; omega
        by_cases he : n = 65533
        · subst he
          obtain rfl := error_three ha
          have HD := hid ((H3.out pos (by omega)).trans hd)
          clear hd ha hT hT' hn
          generalize wr.iterAt w.heap.size s (pos + 3) = w1 at *
          go_wp2_with fail
          refine (Tryz.utf8_DecodeRuneInString _ _ hT1).mono ?_
          rw [HD.out]
          rintro e w2 ⟨rfl, hb2⟩
          have hlt : w.heap.size < w1.heap.size := (Array.getElem?_eq_some_iff.1 hk1').1
          have hk2 := (hb2.block _ hlt).trans hk1'
          have hit2 : w2.iterPos w.heap.size = pos + 3 := by unfold World.iterPos; rw [hk2]
          go_wp2
          go_roundw
          case rel => exact ⟨pos + 3, hk2, hw1.trans (hb2.mono (by omega)), hlk, HF.out⟩
          case measure => rw [hit2, hit0]; omega
        · clear hd ha hT hT'
          generalize wr.iterAt w.heap.size s (pos + k) = w1 at *
          go_wp2
          go_roundw
          case rel => exact ⟨pos + k, hk1', hw1, hlk, HF.out⟩
          case measure => rw [hit, hit0]; omega
    · have hnx : ∀ ty, (Instr.next (.pointer (some ⟨w.heap.size, 0, none⟩)) true ty).run Tryz.prog wr = _ := fun ty => Lib.run_next_end_at wr w.heap.size s pos ty hk hp
      have HF : Hid (badL zs = -1) := badL_none (by
        have h := HS.out
        rw [List.drop_eq_nil_of_le (by omega), scan_nil] at h
        simp at h; omega)
      go_wp2
      go_ret
      exact ⟨ret_int HF.out.symm, hbw⟩
end Go.Proofs.YtepbjkkakfpjgaaGreatDoor.Utf

namespace Go.Proofs.YtepbjkkakfpjgaaGreatDoor
open Go.RowKit Go.Lib

theorem u8Extra : U8Extra Tryz.prog Tryz.lays260_ren := ⟨by kernel_rfl, by kernel_rfl, by kernel_rfl, by kernel_rfl, by kernel_rfl, by kernel_rfl, by kernel_rfl⟩
def laid3 : List (String × DataW Unit) := [("unicode/utf8.acceptRanges", Rows.laid_unicode_utf8_acceptRanges), ("gimlet/instr.names", Rows.laid_gimlet_instr_names), ("unicode/utf8.first", Rows.laid_unicode_utf8_first)]
theorem accept_eq : (Rows.laid_unicode_utf8_acceptRanges : DataW Unit) = acceptData := by kernel_rfl
theorem tabs_3 {W : World} (hL : laidMet Tryz.prog laid3 W) : Instr.Nams W ∧ Utf.Tabs W := by
  refine ⟨nams_of (.tail _ (.head _)) hL, utf8Tabs_of_reads (ρ := Tryz.lays260_ren) Tryz.lays260 u8Extra (Pinned.utf8First_eq ▸ Lib.laidMet.reads hL (.tail _ (.tail _ (.head _)))) ?_⟩
  have h := Lib.laidMet.reads hL (.head _)
  rw [accept_eq] at h
  exact h
end Go.Proofs.YtepbjkkakfpjgaaGreatDoor

namespace Go.Proofs.YtepbjkkakfpjgaaGreatDoor.Instr

/-- Whatever lists and labels lie elsewhere, it is this instruction. -/
def Ix.bare (x : Ix) : Ix := ⟨x.op, x.res, x.a, x.b, x.n, x.tags, none, 0, none, x.ln, 0, none, x.en, 0⟩
def Il.bare : Il → Il
  | .nil => .nil
  | .cons x l e r => .cons x.bare l.bare e.bare r.bare
def Il.app : Il → Il → Il
  | .nil, t => t
  | .cons x l e r, t => .cons x l e (r.app t)
/-- The lists of each have as many as it says. -/
def Il.fit : Il → Prop
  | .nil => True
  | .cons x l e r => l.len = x.ln ∧ e.len = x.en ∧ l.fit ∧ e.fit ∧ r.fit
/-- The numbers of each are words. -/
def Il.nums : Il → Prop
  | .nil => True
  | .cons x l e r => (0 ≤ x.a ∧ x.a < 4294967296) ∧ (0 ≤ x.b ∧ x.b < 4294967296) ∧ (-2147483648 ≤ x.n ∧ x.n < 2147483648) ∧ (∀ z ∈ x.tags, 0 ≤ z ∧ z < 4294967296) ∧ l.nums ∧ e.nums ∧ r.nums
theorem app_nil : ∀ t : Il, t.app .nil = t
  | .nil => rfl
  | .cons x l e r => by rw [Il.app, app_nil r]
theorem app_assoc : ∀ t u v : Il, (t.app u).app v = t.app (u.app v)
  | .nil, _, _ => rfl
  | .cons x l e r, u, v => by simp only [Il.app, app_assoc r]
theorem app_len : ∀ t u : Il, (t.app u).len = t.len + u.len
  | .nil, u => by simp [Il.app, Il.len]
  | .cons x l e r, u => by simp only [Il.app, Il.len, app_len r]; omega
theorem bare_app : ∀ t u : Il, (t.app u).bare = t.bare.app u.bare
  | .nil, _ => rfl
  | .cons x l e r, u => by simp only [Il.app, Il.bare, bare_app r]
theorem bare_len : ∀ t : Il, t.bare.len = t.len
  | .nil => rfl
  | .cons x l e r => by simp only [Il.bare, Il.len, bare_len r]
theorem bare_count : ∀ t : Il, t.bare.count = t.count
  | .nil => rfl
  | .cons x l e r => by simp only [Il.bare, Il.count, bare_count l, bare_count e, bare_count r]
theorem bare_deep : ∀ t : Il, t.bare.deep = t.deep
  | .nil => rfl
  | .cons x l e r => by simp only [Il.bare, Il.deep, bare_deep l, bare_deep e, bare_deep r]
theorem bare_tags : ∀ t : Il, t.bare.tags = t.tags
  | .nil => rfl
  | .cons x l e r => by simp only [Il.bare, Il.tags, bare_tags l, bare_tags e, bare_tags r]; rfl
theorem bare_all : ∀ t : Il, t.bare.all = t.all
  | .nil => rfl
  | .cons x l e r => by simp only [Il.bare, Il.all, bare_all l, bare_all e, bare_all r]; rfl
theorem bare_check (t : Il) : checkP t.bare = checkP t := by unfold checkP; rw [bare_all, bare_count, bare_deep, bare_tags]
end Go.Proofs.YtepbjkkakfpjgaaGreatDoor.Instr
namespace Go.Proofs.YtepbjkkakfpjgaaGreatDoor.Body
open Go.Proofs.YtepbjkkakfpjgaaGreatDoor.Leb Go.Proofs.YtepbjkkakfpjgaaGreatDoor.Kind Go.Proofs.YtepbjkkakfpjgaaGreatDoor.Instr

/-- What follows an operation: 1: a byte and lists; 2: A; 3: A and a byte 0; 4: labels and A; 5: A and B; 6: a byte 0; 7: N; 0: nothing. -/
def kindP (op : Int) : Nat :=
  if op = 2 ∨ op = 3 ∨ op = 4 then 1
  else if op = 12 ∨ op = 13 ∨ op = 16 ∨ op = 32 ∨ op = 33 ∨ op = 34 ∨ op = 35 ∨ op = 36 then 2
  else if op = 17 then 3
  else if op = 14 then 4
  else if op = 40 ∨ op = 44 ∨ op = 45 ∨ op = 46 ∨ op = 47 ∨ op = 54 ∨ op = 58 ∨ op = 59 then 5
  else if op = 63 ∨ op = 64 then 6
  else if op = 65 then 7 else 0
def encTags (l : List Int) : List Int := encU l.length ++ l.flatMap encU
/-- The bytes of what follows, but for the lists. -/
def encRest (x : Ix) : List Int :=
  match kindP x.op with
  | 1 => [if x.res = 0 then 64 else 127]
  | 2 => encU x.a
  | 3 => encU x.a ++ [0]
  | 4 => encTags x.tags ++ encU x.a
  | 5 => encU x.a ++ encU x.b
  | 6 => [0]
  | 7 => encS x.n
  | _ => []
/-- The bytes of instructions, without their end. -/
def encL : Il → List Int
  | .nil => []
  | .cons x l e r => x.op :: (encRest x ++ ((if kindP x.op = 1 then encL l ++ ((if x.en = 0 then [] else 5 :: encL e) ++ [11]) else []) ++ encL r))
def encP (t : Il) : List Int := encL t ++ [11]
def plainX (op res a b n : Int) (tags : List Int) : Ix := ⟨op, res, a, b, n, tags, none, 0, none, 0, 0, none, 0, 0⟩
/-- What reading a list gives: instructions, what ended them, how many there have been, the state. -/
structure Lr where
  t : Il
  q : Int
  n : Int
  s : Rd
/-- One with its lists, read by 'rec'. -/
structure Or where
  x : Ix
  l : Il
  e : Il
  n : Int
  s : Rd
def Ix.hold (x : Ix) (l e : Il) : Ix := ⟨x.op, x.res, x.a, x.b, x.n, x.tags, none, 0, none, l.len, 0, none, e.len, 0⟩
/-- What a reader does never goes back. -/
def On (s s' : Rd) : Prop := s'.2.1 = 0 → s.2.1 = 0 ∧ s.1 ≤ s'.1
theorem On.refl (s : Rd) : On s s := fun h => ⟨h, Int.le_refl _⟩
theorem On.trans {a b c : Rd} (h : On a b) (g : On b c) : On a c := fun hc => ⟨(h (g hc).1).1, Int.le_trans (h (g hc).1).2 (g hc).2⟩
end Go.Proofs.YtepbjkkakfpjgaaGreatDoor.Body

/-
  BODY: reading by a stack of open lists, as a plain function; it gives what reading list by list gives.
-/
namespace Go.Proofs.YtepbjkkakfpjgaaGreatDoor.Body
open Go.Proofs.YtepbjkkakfpjgaaGreatDoor.Leb Go.Proofs.YtepbjkkakfpjgaaGreatDoor.Kind Go.Proofs.YtepbjkkakfpjgaaGreatDoor.Instr

/-- A list whose end has not been read: its owner, the owner's first list if this is its second, what has been read of it. -/
structure Fr where
  x : Ix
  fl : Il
  t : Il
  oth : Bool
/-- The owner, all of which has been read. -/
def Fr.one (f : Fr) : Il := if f.oth then .cons (Ix.hold f.x f.fl f.t) f.fl f.t .nil else .cons (Ix.hold f.x f.t .nil) f.t .nil .nil
end Go.Proofs.YtepbjkkakfpjgaaGreatDoor.Body

/-
  BODY: what is put is got: an instruction's fields by its operation; its bytes read; a list's bytes read, whatever follows.
-/
namespace Go.Proofs.YtepbjkkakfpjgaaGreatDoor.Body
open Go.RowKit Go.Proofs.YtepbjkkakfpjgaaGreatDoor.Leb Go.Proofs.YtepbjkkakfpjgaaGreatDoor.Instr
open Go.Proofs.YtepbjkkakfpjgaaGreatDoor.Kind (Rd numR refuseR startR numR_good numR_bounds refuseR_good getL_next)

theorem over6 : ∀ b1 b2 b3 b4 b5 b6 b7 : Bool, bits .andNot .u8 (bit b1 1 + bit b2 2 + bit b3 4 + bit b4 8 + bit b5 16 + bit b6 32 + bit b7 64) 6 = 0 ↔ (b1 || b4 || b5 || b6 || b7) = false := by decide
theorem over33 : ∀ b1 b2 b3 b4 b5 b6 b7 : Bool, bits .andNot .u8 (bit b1 1 + bit b2 2 + bit b3 4 + bit b4 8 + bit b5 16 + bit b6 32 + bit b7 64) 33 = 0 ↔ (b2 || b3 || b4 || b5 || b7) = false := by decide
theorem over97 : ∀ b1 b2 b3 b4 b5 b6 b7 : Bool, bits .andNot .u8 (bit b1 1 + bit b2 2 + bit b3 4 + bit b4 8 + bit b5 16 + bit b6 32 + bit b7 64) 97 = 0 ↔ (b2 || b3 || b4 || b5) = false := by decide
theorem over2 : ∀ b1 b2 b3 b4 b5 b6 b7 : Bool, bits .andNot .u8 (bit b1 1 + bit b2 2 + bit b3 4 + bit b4 8 + bit b5 16 + bit b6 32 + bit b7 64) 2 = 0 ↔ (b1 || b3 || b4 || b5 || b6 || b7) = false := by decide
theorem over18 : ∀ b1 b2 b3 b4 b5 b6 b7 : Bool, bits .andNot .u8 (bit b1 1 + bit b2 2 + bit b3 4 + bit b4 8 + bit b5 16 + bit b6 32 + bit b7 64) 18 = 0 ↔ (b1 || b3 || b4 || b6 || b7) = false := by decide
theorem over8 : ∀ b1 b2 b3 b4 b5 b6 b7 : Bool, bits .andNot .u8 (bit b1 1 + bit b2 2 + bit b3 4 + bit b4 8 + bit b5 16 + bit b6 32 + bit b7 64) 8 = 0 ↔ (b1 || b2 || b3 || b5 || b6 || b7) = false := by decide
theorem over0 : ∀ b1 b2 b3 b4 b5 b6 b7 : Bool, bits .andNot .u8 (bit b1 1 + bit b2 2 + bit b3 4 + bit b4 8 + bit b5 16 + bit b6 32 + bit b7 64) 0 = 0 ↔ (b1 || b2 || b3 || b4 || b5 || b6 || b7) = false := by decide

theorem used_kind (op : Int) : (usedP op = 6 ∧ kindP op = 5) ∨ (usedP op = 33 ∧ kindP op = 1 ∧ op ≠ 4) ∨ (usedP op = 97 ∧ kindP op = 1 ∧ op = 4) ∨ (usedP op = 2 ∧ (kindP op = 2 ∨ kindP op = 3)) ∨
    (usedP op = 18 ∧ kindP op = 4) ∨ (usedP op = 8 ∧ kindP op = 7) ∨ (usedP op = 0 ∧ (kindP op = 0 ∨ kindP op = 6)) := by
  unfold usedP kindP
  (repeat' split) <;> simp <;> omega
theorem lawful_iff (x : Ix) : lawfulP x = true ↔ nameL x.op ≠ [] ∧ (x.res = 0 ∨ x.res = 1) ∧ (x.res = 0 ∨ kindP x.op = 1) ∧ (x.a = 0 ∨ kindP x.op = 2 ∨ kindP x.op = 3 ∨ kindP x.op = 4 ∨ kindP x.op = 5) ∧ (x.b = 0 ∨ kindP x.op = 5) ∧
    (x.n = 0 ∨ kindP x.op = 7) ∧ (x.tags.length = 0 ∨ kindP x.op = 4) ∧ (x.ln = 0 ∨ kindP x.op = 1) ∧ (x.en = 0 ∨ (kindP x.op = 1 ∧ x.op = 4)) := by
  unfold lawfulP overP filledP
  simp only [Bool.and_eq_true, Bool.or_eq_true, decide_eq_true_eq, and_assoc]
  refine and_congr_right fun _ => ?_
  rw [and_comm]
  refine and_congr_right fun _ => ?_
  rcases used_kind x.op with ⟨hu, hk⟩ | ⟨hu, hk, h4⟩ | ⟨hu, hk, h4⟩ | ⟨hu, hk⟩ | ⟨hu, hk⟩ | ⟨hu, hk⟩ | ⟨hu, hk⟩ <;> rw [hu]
  · rw [over6]; simp [hk, and_assoc]
  · rw [over33]; simp [hk, h4, and_assoc]
  · rw [over97]; simp [show kindP 4 = 1 by decide, h4, and_assoc]
  · rw [over2]; rcases hk with hk | hk <;> simp [hk, and_assoc]
  · rw [over18]; simp [hk, and_assoc]
  · rw [over8]; simp [hk, and_assoc]
  · rw [over0]; rcases hk with hk | hk <;> simp [hk, and_assoc]

section
variable {zs : List Int} {op : Int} {s : Rd}
end
theorem kind_cases (op : Int) : kindP op = 0 ∨ kindP op = 1 ∨ kindP op = 2 ∨ kindP op = 3 ∨ kindP op = 4 ∨ kindP op = 5 ∨ kindP op = 6 ∨ kindP op = 7 := by
  unfold kindP; (repeat' split) <;> simp
theorem len_zero : ∀ {t : Il}, t.len = 0 → t = .nil
  | .nil, _ => rfl
  | .cons _ _ _ _, h => by simp [Il.len] at h

def Lr.pre (t : Il) (r : Lr) : Lr := ⟨t.app r.t, r.q, r.n, r.s⟩
end Go.Proofs.YtepbjkkakfpjgaaGreatDoor.Body

/-
  BODY: bytes that end too early: the fault is told where they end.
-/
namespace Go.Proofs.YtepbjkkakfpjgaaGreatDoor.Body
open Go.Proofs.YtepbjkkakfpjgaaGreatDoor.Leb Go.Proofs.YtepbjkkakfpjgaaGreatDoor.Instr
open Go.Proofs.YtepbjkkakfpjgaaGreatDoor.Kind (Rd numR refuseR startR numR_good numR_bounds refuseR_good getL_next)

end Go.Proofs.YtepbjkkakfpjgaaGreatDoor.Body

/-
  BODY: what is got may be, and is put in no more bytes.
-/
namespace Go.Proofs.YtepbjkkakfpjgaaGreatDoor.Body
open Go.Proofs.YtepbjkkakfpjgaaGreatDoor.Leb Go.Proofs.YtepbjkkakfpjgaaGreatDoor.Instr
open Go.Proofs.YtepbjkkakfpjgaaGreatDoor.Kind (Rd numR refuseR startR numR_good numR_bounds refuseR_good getL_next)

section
variable {zs : List Int} (hz : ∀ c ∈ zs, 0 ≤ c ∧ c < 256)
include hz
end
end Go.Proofs.YtepbjkkakfpjgaaGreatDoor.Body

namespace Go.Proofs.YtepbjkkakfpjgaaGreatDoor.Mod
open Go.RowKit Go.Proofs.YtepbjkkakfpjgaaGreatDoor.Instr

def Lst.bare (l : Lst) : Lst := ⟨none, 0, l.t.bare⟩
def Fn.bare (f : Fn) : Fn := ⟨f.ty, f.lo, f.l.bare⟩
def Gl.bare (g : Gl) : Gl := ⟨g.mu, g.l.bare⟩
def El.bare (e : El) : El := ⟨e.l.bare, none, 0, e.fs⟩
def Da.bare (d : Da) : Da := ⟨d.l.bare, none, 0, d.bs⟩
/-- A module, but for where its parts lie. -/
def Md.bare (m : Md) : Md :=
  ⟨m.ty, m.im, m.fu.map Fn.bare, m.tb, m.me, m.gl.map Gl.bare, m.ex, m.st, m.sn, m.el.map El.bare, m.da.map Da.bare, ⟨none, 0⟩, ⟨none, 0⟩, ⟨none, 0⟩, ⟨none, 0⟩, ⟨none, 0⟩, ⟨none, 0⟩, ⟨none, 0⟩, ⟨none, 0⟩, ⟨none, 0⟩⟩
theorem bare_codes (m : Md) : m.bare.codes = m.codes.map Lst.bare := by
  unfold Md.codes Md.bare
  simp only [List.map_append, List.map_map]
  rfl
theorem codeP_bare : ∀ l : List Lst, codeP (l.map Lst.bare) = codeP l
  | [] => rfl
  | x :: r => by
    rw [List.map_cons, codeP_cons, codeP_cons, codeP_bare r]
    have : checkP x.bare.t = checkP x.t := bare_check x.t
    rw [this]
theorem sumB_bare : ∀ l : List Da, sumB (l.map Da.bare) = sumB l
  | [] => rfl
  | x :: r => by rw [List.map_cons, sumB, sumB, sumB_bare r]; rfl
theorem crowded_bare (m : Md) : m.bare.crowded = m.crowded := by
  unfold Md.crowded Md.bare
  simp only [List.length_map, List.any_map]
  rfl
theorem heavy_bare (m : Md) : m.bare.heavy = m.heavy := by
  unfold Md.heavy Md.bare
  simp only [sumB_bare]
theorem wrong_bare (m : Md) : m.bare.wrong = m.wrong := by
  unfold Md.wrong Md.anyName Md.bare
  simp only [List.any_map]
  rfl
theorem check_bareM (m : Md) : m.bare.check = m.check := by
  unfold Md.check
  rw [crowded_bare, bare_codes, codeP_bare, heavy_bare, wrong_bare]
  rfl
theorem countL_bare : ∀ l : List Lst, countL (l.map Lst.bare) = countL l
  | [] => rfl
  | x :: r => by
    rw [List.map_cons, countL, countL, countL_bare r]
    have : x.bare.t.count = x.t.count := bare_count x.t
    rw [this]
theorem size_bareM (m : Md) : m.bare.size = m.size := by unfold Md.size; rw [bare_codes, countL_bare]
theorem typeOf_bareM (m : Md) (n : Nat) : m.bare.typeOf n = m.typeOf n := by
  have e : m.bare.typeN n = m.typeN n := by
    unfold Md.typeN Md.bare
    simp only [List.length_map, List.map_map]
    rfl
  unfold Md.typeOf
  rw [e]
  rfl
theorem find_bareM (m : Md) (na : ByteArray) (k : Int) : m.bare.find na k = m.find na k := rfl
theorem check_core {a b : Md} (h : a.bare = b.bare) : a.check = b.check := by rw [← check_bareM a, h, check_bareM]
theorem size_core {a b : Md} (h : a.bare = b.bare) : a.size = b.size := by rw [← size_bareM a, h, size_bareM]
theorem typeOf_core {a b : Md} (h : a.bare = b.bare) (n : Nat) : a.typeOf n = b.typeOf n := by rw [← typeOf_bareM a, h, typeOf_bareM]
theorem find_core {a b : Md} (h : a.bare = b.bare) (na : ByteArray) (k : Int) : a.find na k = b.find na k := by rw [← find_bareM a, h, find_bareM]
/-- Whether a statement holds, as a bool. -/
noncomputable def is (p : Prop) : Bool := @decide p (Classical.propDecidable p)
theorem is_yes {p : Prop} (h : p) : is p = true := by unfold is; exact @decide_eq_true p (Classical.propDecidable p) h
theorem is_no {p : Prop} (h : ¬ p) : is p = false := by unfold is; exact @decide_eq_false p (Classical.propDecidable p) h
/-- The parts that make two modules the same. -/
structure Same (a b : Md) : Prop where
  ty : a.ty = b.ty
  im : a.im = b.im
  fu : a.fu.map Fn.bare = b.fu.map Fn.bare
  tb : a.tb = b.tb
  me : a.me = b.me
  gl : a.gl.map Gl.bare = b.gl.map Gl.bare
  ex : a.ex = b.ex
  st : a.st = b.st
  sn : a.sn = b.sn
  el : a.el.map El.bare = b.el.map El.bare
  da : a.da.map Da.bare = b.da.map Da.bare
theorem same_iff {a b : Md} : a.bare = b.bare ↔ Same a b := by
  constructor
  · intro h
    unfold Md.bare at h
    simp only [Md.mk.injEq] at h
    obtain ⟨h1, h2, h3, h4, h5, h6, h7, h8, h9, h10, h11, _⟩ := h
    exact ⟨h1, h2, h3, h4, h5, h6, h7, h8, h9, h10, h11⟩
  · rintro ⟨h1, h2, h3, h4, h5, h6, h7, h8, h9, h10, h11⟩
    unfold Md.bare
    rw [h1, h2, h3, h4, h5, h6, h7, h8, h9, h10, h11]
/-- Two lists are the same item by item. -/
theorem list_same {α : Type} {l r : List α} {n : Nat} (hl : l.length = n) (hr : r.length = n) (h : ∀ j (h1 : j < l.length) (h2 : j < r.length), j < n → l[j] = r[j]) : l = r := by
  refine List.ext_getElem (by omega) fun j h1 h2 => h j h1 h2 (by omega)
theorem same_step {α : Type} {l r : List α} {k : Nat} (h1 : k < l.length) (h2 : k < r.length) (h : ∀ j (h1 : j < l.length) (h2 : j < r.length), j < k → l[j] = r[j]) (hx : l[k] = r[k]) : ∀ j (h1 : j < l.length) (h2 : j < r.length), j < k + 1 → l[j] = r[j] := by
  intro j g1 g2 hj
  by_cases e : j = k
  · subst e; exact hx
  · exact h j g1 g2 (by omega)
theorem same_zero {α : Type} (l r : List α) : ∀ j (h1 : j < l.length) (h2 : j < r.length), j < 0 → l[j] = r[j] := fun _ _ _ h => absurd h (Nat.not_lt_zero _)
end Go.Proofs.YtepbjkkakfpjgaaGreatDoor.Mod

namespace Go.Proofs.YtepbjkkakfpjgaaGreatDoor.Mod
open Go.RowKit Go.Proofs.YtepbjkkakfpjgaaGreatDoor.Instr

theorem flat_length {α : Type} {sz : Nat} : ∀ (rs : List (List α)) (_ : ∀ r ∈ rs, r.length = sz), rs.flatten.length = rs.length * sz
  | [], _ => by simp
  | r :: rs, h => by
    rw [List.flatten_cons, List.length_append, h r (by simp), flat_length rs (fun x hx => h x (by simp [hx])), List.length_cons, Nat.succ_mul]
    omega
theorem flat_get {α : Type} {sz : Nat} : ∀ (rs : List (List α)) (_ : ∀ r ∈ rs, r.length = sz) (i j : Nat) (_ : i < rs.length) (_ : j < sz), rs.flatten[i * sz + j]? = (rs.getD i [])[j]?
  | [], _, i, _, hi, _ => by simp at hi
  | r :: rs, h, 0, j, _, hj => by
    rw [List.flatten_cons, Nat.zero_mul, Nat.zero_add, List.getElem?_append_left (by rw [h r (by simp)]; exact hj)]
    rfl
  | r :: rs, h, i + 1, j, hi, hj => by
    have hr := h r (by simp)
    have e : (i + 1) * sz = i * sz + sz := Nat.succ_mul i sz
    rw [List.flatten_cons, List.getElem?_append_right (by rw [hr, e]; omega), hr]
    have e2 : (i + 1) * sz + j - sz = i * sz + j := by rw [e]; omega
    rw [e2, flat_get rs (fun x hx => h x (by simp [hx])) i j (by simpa using hi) hj]
    rfl
/-- Rows that a call made itself, each of sz cells. -/
structure OwnR (e : TypeId) (sz base : Nat) (w : World) (v : Value) (rs : List (List Value)) : Prop where
  row : w.ownsRow base e sz v rs.length rs.flatten
  len : ∀ r ∈ rs, r.length = sz
theorem OwnR.start (e : TypeId) (sz base : Nat) (w : World) : OwnR e sz base w (.slice none 0 0) [] := ⟨World.ownsRow_nil _ _ _ _, by simp⟩
theorem OwnR.made (e : TypeId) (sz : Nat) (w : World) : OwnR e sz w.heap.size (w.alloc (.cells #[] e)) (.slice (some ⟨w.heap.size, 0, none⟩) 0 0) [] := ⟨World.ownsRow_made w #[] 0 (Nat.le_refl _) (by unfold maxLen; omega) (by simp), by simp⟩
theorem OwnR.below {e : TypeId} {sz base : Nat} {w w' : World} {v : Value} {rs : List (List Value)} (h : OwnR e sz base w v rs) (hb : Below w.heap.size w w') : OwnR e sz base w' v rs := by
  refine ⟨⟨h.row.1, ?_⟩, h.len⟩
  rcases h.row.2 with h0 | ⟨g, cap, cur, hv, hg, hh, rest⟩
  · exact .inl h0
  · exact .inr ⟨g, cap, cur, hv, hg, (hb.block g (Array.getElem?_eq_some_iff.1 hh).1).trans hh, rest⟩
theorem OwnR.mono {e : TypeId} {sz base base' : Nat} {w : World} {v : Value} {rs : List (List Value)} (h : OwnR e sz base w v rs) (hb : base' ≤ base) : OwnR e sz base' w v rs := by
  refine ⟨⟨h.row.1, ?_⟩, h.len⟩
  rcases h.row.2 with h0 | ⟨g, cap, cur, hv, hg, rest⟩
  · exact .inl h0
  · exact .inr ⟨g, cap, cur, hv, Nat.le_trans hb hg, rest⟩
/-- As a slice in memory. -/
theorem OwnR.rows {e : TypeId} {sz base : Nat} {w : World} {v : Value} {rs : List (List Value)} (h : OwnR e sz base w v rs) : ∃ a c, v = .slice a rs.length c ∧ Rows w.heap.size w a sz rs ∧ ∀ g, v.ownBlock = some g → base ≤ g := by
  have hl := World.ownsRow.lt h.row
  rcases h.row.2 with ⟨rfl, h0⟩ | ⟨g, cap, cur, rfl, hg, hh, h2, h3, h4, h5⟩
  · exact ⟨none, 0, by rw [h0], .inl (List.eq_nil_of_length_eq_zero h0), fun g hg => (hl g hg).1⟩
  · refine ⟨_, cap, rfl, .inr ⟨g, 0, rfl, (hl g rfl).2, fun i hi j hj u hu => ?_⟩, fun g hg => (hl g hg).1⟩
    have hf := flat_get rs h.len i j hi hj
    rw [hu] at hf
    have := World.ownsRow.cells h.row (g := g) rfl (i * sz + j) u hf
    have hplain : (⟨g, 0, none⟩ : Addr).add (i * sz + j) = ⟨g, 0 + i * sz + j, none⟩ := by unfold Addr.add; split <;> simp_all <;> omega
    rw [hplain] at this
    exact this

section
variable {ops : Array Oper} {rest : List Oper} {o : Oper} {act : Act} {Q : Exit → Act → World → Prop}
/-- Rows that lie somewhere are appended. -/
theorem append_rows {e ts : TypeId} {sz nb : Nat} {z : Value} (inf : (Tryz.prog.info? e).map (fun i => (i.zero, i.size, i.bytes)) = some (some z, sz, nb)) (hz : z.cells.size = sz) (h0 : 0 < sz) (hnb : nb ≤ 1000) (ut : Tryz.prog.underlying ts = some (.slice e))
    (hgd : o.guard = none) (s x : Operand) (ho : o.op = .call { callee := .builtin .append, args := #[s, x], argTypes := #[ts, ts] })
    {base : Nat} {w0 wr : World} {v : Value} {xs : List (List Value)} (ys : List (List Value)) (hs : act.eval s = v) (hown : OwnR e sz base wr v xs) (hb : Below base w0 wr) (hbase : base ≤ wr.heap.size)
    (ad : Addr) (m c : Nat) (hm : ys.length = m) (hx : act.eval x = .slice (some ad) m c) (hy : ∀ r ∈ ys, r.length = sz) (hnews : ∀ j u, ys.flatten[j]? = some u → wr.cell? (ad.add j) = some u) (h1 : ∀ r ∈ ys, ∀ u ∈ r, u.oneCell' = true)
    (hl : xs.length + m ≤ 1000000000)
    (h : ∀ v' w', OwnR e sz base w' v' (xs ++ ys) → Below base w0 w' → base ≤ w'.heap.size → wr.grownBy w' v.ownBlock → wpList Tryz.prog ops Q rest (act.put o.dst v') w') :
    wpList Tryz.prog ops Q (o :: rest) act wr := by
  obtain ⟨i0, hi, hz0, hz1, hz2⟩ := info_parts inf
  subst hm
  refine wpList_append_own _ hgd s x ts ho base e i0 z sz nb ut hi hz0 hz1 hz2 hz h0 v xs.length _ hs hown.row ad ys.length c ys.flatten hx (flat_length ys hy)
    hnews (fun u hu => ?_) (by unfold maxLen; omega) ?_ hbase (fun v' w' hown' hgrow _ => ?_)
  · obtain ⟨r, hr, hur⟩ := List.mem_flatten.1 hu
    exact h1 r hr u hur
  · calc (xs.length + ys.length) * nb ≤ 1000000000 * 1000 := Nat.mul_le_mul hl hnb
      _ ≤ _ := by omega
  · refine h v' w' ⟨?_, ?_⟩ (hb.grown hgrow hbase (fun k hk => (World.ownsRow.lt hown.row k hk).1)) (by have := hgrow.size; omega) hgrow
    · rw [List.length_append, List.flatten_append]; exact hown'
    · intro r hr
      rcases List.mem_append.1 hr with hr | hr
      · exact hown.len r hr
      · exact hy r hr
/-- The same in a region that draws its order: a literal's rows, whose block is known. -/
theorem step_rows {e ts : TypeId} {sz nb : Nat} {z : Value} {E : Prop} {K : Act → World → Prop} (inf : (Tryz.prog.info? e).map (fun i => (i.zero, i.size, i.bytes)) = some (some z, sz, nb)) (hz : z.cells.size = sz) (h0 : 0 < sz) (hnb : nb ≤ 1000) (ut : Tryz.prog.underlying ts = some (.slice e))
    (hgd : o.guard = none) (s x : Operand) (ho : o.op = .call { callee := .builtin .append, args := #[s, x], argTypes := #[ts, ts] })
    {base : Nat} {w0 wr : World} {v : Value} {xs : List (List Value)} (ys : List (List Value)) (hs : act.eval s = v) (hown : OwnR e sz base wr v xs) (hb : Below base w0 wr) (hbase : base ≤ wr.heap.size)
    (ad : Addr) (m c : Nat) (hm : ys.length = m) (hx : act.eval x = .slice (some ad) m c) (hy : ∀ r ∈ ys, r.length = sz) (hnews : ∀ j u, ys.flatten[j]? = some u → wr.cell? (ad.add j) = some u) (h1 : ∀ r ∈ ys, ∀ u ∈ r, u.oneCell' = true)
    (hl : xs.length + m ≤ 1000000000)
    (h : ∀ v' w', OwnR e sz base w' v' (xs ++ ys) → Below base w0 w' → base ≤ w'.heap.size → wr.grownBy w' v.ownBlock → K (act.put o.dst v') w') :
    if Region.wanted o (yielded ops act.tmps) = true then Oper.wp Tryz.prog o act wr K Q else E := by
  obtain ⟨i0, hi, hz0, hz1, hz2⟩ := info_parts inf
  subst hm
  have hw : Region.wanted o (yielded ops act.tmps) = true := by simp [Region.wanted, hgd]
  rw [if_pos hw]
  refine wp_append_own _ s x ts ho base e i0 z sz nb ut hi hz0 hz1 hz2 hz h0 v xs.length _ hs hown.row ad ys.length c ys.flatten hx (flat_length ys hy)
    hnews (fun u hu => ?_) (by unfold maxLen; omega) ?_ hbase (fun v' w' hown' hgrow _ => ?_)
  · obtain ⟨r, hr, hur⟩ := List.mem_flatten.1 hu
    exact h1 r hr u hur
  · calc (xs.length + ys.length) * nb ≤ 1000000000 * 1000 := Nat.mul_le_mul hl hnb
      _ ≤ _ := by omega
  · refine h v' w' ⟨?_, ?_⟩ (hb.grown hgrow hbase (fun k hk => (World.ownsRow.lt hown.row k hk).1)) (by have := hgrow.size; omega) hgrow
    · rw [List.length_append, List.flatten_append]; exact hown'
    · intro r hr
      rcases List.mem_append.1 hr with hr | hr
      · exact hown.len r hr
      · exact hy r hr
end
end Go.Proofs.YtepbjkkakfpjgaaGreatDoor.Mod

namespace Go.Proofs.YtepbjkkakfpjgaaGreatDoor
open Go.RowKit

/-- Of what was there only blocks of S have turned. -/
structure Touch (S : Nat → Prop) (w w' : World) : Prop where
  os : w'.os = w.os
  tape : w'.tape = w.tape
  output : w'.output = w.output
  size : w.heap.size ≤ w'.heap.size
  block : ∀ j, j < w.heap.size → ¬ S j → w'.heap[j]? = w.heap[j]?
theorem Touch.refl (S : Nat → Prop) (w : World) : Touch S w w := ⟨rfl, rfl, rfl, Nat.le_refl _, fun _ _ _ => rfl⟩
theorem Touch.trans {S : Nat → Prop} {a b c : World} (h : Touch S a b) (g : Touch S b c) : Touch S a c :=
  ⟨g.os.trans h.os, g.tape.trans h.tape, g.output.trans h.output, Nat.le_trans h.size g.size, fun j hj hk => (g.block j (Nat.lt_of_lt_of_le hj h.size) hk).trans (h.block j hj hk)⟩
theorem Touch.mono {S T : Nat → Prop} {a b : World} (h : Touch S a b) (hs : ∀ j, S j → T j) : Touch T a b := ⟨h.os, h.tape, h.output, h.size, fun j hj hk => h.block j hj (fun hs' => hk (hs j hs'))⟩
theorem Touch.of_save {k : Nat} {w w' : World} (h : Save k w w') : Touch (fun j => j = k) w w' := ⟨h.os, h.tape, h.output, h.size, fun j hj hk => h.block j hj hk⟩
theorem Touch.of_below {S : Nat → Prop} {w w' : World} (h : Below w.heap.size w w') : Touch S w w' := ⟨h.os, h.tape, h.output, h.size, fun j hj _ => h.block j hj⟩
theorem Touch.of_grown {w w' : World} {row : Option Nat} (h : w.grownBy w' row) : Touch (fun j => row = some j) w w' := ⟨h.os, h.tape, h.output, h.size, fun j hj hk => h.block j hj (fun e => hk e.symm)⟩
theorem Touch.alloc {S : Nat → Prop} {a b : World} (h : Touch S a b) (o : Obj) : Touch S a (b.alloc o) := h.trans (.of_below ((Below.refl _ _).alloc (Nat.le_refl _) o))
theorem Touch.setCell {S : Nat → Prop} {a b : World} (h : Touch S a b) {p : Addr} (hp : S p.block ∨ a.heap.size ≤ p.block) (v : Value) : Touch S a (b.setCell p v) :=
  ⟨h.os, h.tape, h.output, by have := h.size; simpa [World.setCell] using this, fun j hj hk => (Below.heap_setCell _ _ _ _ (by rcases hp with hp | hp; rintro rfl; exact hk hp; omega)).trans (h.block j hj hk)⟩
theorem Touch.below {S : Nat → Prop} {B : Nat} {a b : World} (h : Touch S a b) (hB : B ≤ a.heap.size) (hs : ∀ j, S j → B ≤ j) : Below B a b :=
  ⟨h.os, h.tape, h.output, h.size, fun j hj => h.block j (by omega) (fun hj' => by have := hs j hj'; omega)⟩
theorem Touch.cell {S : Nat → Prop} {w w' : World} (h : Touch S w w') {p : Addr} {v : Value} (hk : ¬ S p.block) (hc : w.cell? p = some v) : w'.cell? p = some v :=
  (World.cell?_of_block (w := w) (h.block p.block (World.block_lt_of_cell? w _ hc) hk)).trans hc
theorem touch_row {S : Nat → Prop} {w w' : World} {base size n : Nat} {e : TypeId} {v : Value} {xs : List Value} (h : w.ownsRow base e size v n xs) (ht : Touch S w w') (hk : ∀ g, v.ownBlock = some g → ¬ S g) : w'.ownsRow base e size v n xs := by
  refine ⟨h.1, ?_⟩
  rcases h.2 with h0 | ⟨g, cap, cur, rfl, hg, hh, rest⟩
  · exact .inl h0
  · exact .inr ⟨g, cap, cur, rfl, hg, (ht.block g (Array.getElem?_eq_some_iff.1 hh).1 (hk g rfl)).trans hh, rest⟩
theorem plain_add (b i : Nat) : (⟨b, 0, none⟩ : Addr).add i = ⟨b, i, none⟩ := by unfold Addr.add; split <;> simp_all

/-- A block that can be written. -/
def Soft (w : World) (q : Nat) : Prop := ∃ cs e, w.heap[q]? = some (.cells cs e (0, 0))
theorem Soft.touch {S : Nat → Prop} {w w' : World} {q : Nat} (h : Soft w q) (ht : Touch S w w') (hk : ¬ S q) : Soft w' q := by
  obtain ⟨cs, e, h⟩ := h
  exact ⟨cs, e, (ht.block q (Array.getElem?_eq_some_iff.1 h).1 hk).trans h⟩
theorem Soft.frozen {w : World} {q : Nat} (h : Soft w q) (i : Nat) : w.frozen? ⟨q, i, none⟩ = false := by
  obtain ⟨cs, e, h⟩ := h
  simp [World.frozen?, h]
theorem Soft.lt {w : World} {q : Nat} (h : Soft w q) : q < w.heap.size := by
  obtain ⟨cs, e, h⟩ := h
  exact (Array.getElem?_eq_some_iff.1 h).1
theorem soft_row {w : World} {base size n : Nat} {e : TypeId} {v : Value} {xs : List Value} (h : w.ownsRow base e size v n xs) {g : Nat} (hg : v.ownBlock = some g) : Soft w g := by
  rcases h.2 with ⟨rfl, _⟩ | ⟨g', cap, cur, rfl, _, hh, _⟩
  · simp [Value.ownBlock] at hg
  · simp only [Value.ownBlock, Option.some.injEq] at hg
    subst hg
    exact ⟨_, _, hh⟩

namespace Instr
def blkOf (n : Nat) (a : Option Addr) : List Nat := if n = 0 then [] else match a with
  | some p => [p.block]
  | none => []
/-- The blocks that hold what is in these instructions: labels, lists. -/
def Il.foot : Il → List Nat
  | .nil => []
  | .cons x l e r => (blkOf x.tags.length x.ta ++ (blkOf x.ln x.la ++ l.foot) ++ (blkOf x.en x.ea ++ e.foot)) ++ r.foot
def Il.cells : Il → List Value
  | .nil => []
  | .cons x _ _ r => x.vals.toList ++ r.cells
/-- What is in these instructions lies as it should; the row that holds themselves may move. -/
def Il.kids (w : World) : Il → Prop
  | .nil => True
  | .cons x l e r => x.ok ∧ TagsAt w.heap.size w x.ta x.tags ∧ ListAt w.heap.size w x.la x.ln l ∧ ListAt w.heap.size w x.ea x.en e ∧ r.kids w
theorem foot_app : ∀ t u : Il, (t.app u).foot = t.foot ++ u.foot
  | .nil, _ => rfl
  | .cons x l e r, u => by simp only [Il.app, Il.foot, foot_app r, List.append_assoc]
theorem cells_app : ∀ t u : Il, (t.app u).cells = t.cells ++ u.cells
  | .nil, _ => rfl
  | .cons x l e r, u => by simp only [Il.app, Il.cells, cells_app r, List.append_assoc]
theorem kids_app {w : World} : ∀ t u : Il, t.kids w → u.kids w → (t.app u).kids w
  | .nil, _, _, h => h
  | .cons _ _ _ r, u, ⟨h1, h2, h3, h4, h5⟩, h => ⟨h1, h2, h3, h4, kids_app r u h5 h⟩

theorem TagsAt.touch {S : Nat → Prop} {n₀ : Nat} {w w' : World} {a : Option Addr} {zs : List Int} (h : TagsAt n₀ w a zs) (ht : Touch S w w') (hk : ∀ q ∈ blkOf zs.length a, ¬ S q) : TagsAt n₀ w' a zs := by
  rcases h with h | ⟨b, off, rfl, hl, hc⟩
  · exact .inl h
  · by_cases h0 : zs = []
    · exact .inl h0
    · have hne : zs.length ≠ 0 := fun h => h0 (List.eq_nil_of_length_eq_zero h)
      exact .inr ⟨b, off, rfl, hl, fun i hi => ht.cell (p := ⟨b, off + i, none⟩) (hk b (by simp [blkOf, hne])) (hc i hi)⟩
theorem Items.touch {S : Nat → Prop} {n₀ : Nat} {w w' : World} (ht : Touch S w w') : ∀ {t : Il} {b off : Nat}, Items n₀ w b off t → ¬ S b → (∀ q ∈ t.foot, ¬ S q) → Items n₀ w' b off t
  | .nil, _, _, _, _, _ => trivial
  | .cons x l e r, b, off, ⟨hl, hx, ⟨c0, c1, c2, c3, c4, c5, c6, c7⟩, htg, ⟨l1, l2⟩, ⟨e1, e2⟩, hr⟩, hb, hf => by
    have k : ∀ j v, w.cell? ⟨b, off + j, none⟩ = some v → w'.cell? ⟨b, off + j, none⟩ = some v := fun j v h => ht.cell (p := ⟨b, off + j, none⟩) hb h
    simp only [Il.foot, List.mem_append] at hf
    refine ⟨hl, hx, ⟨k 0 _ c0, k 1 _ c1, k 2 _ c2, k 3 _ c3, k 4 _ c4, k 5 _ c5, k 6 _ c6, k 7 _ c7⟩, htg.touch ht (fun q hq => hf q (.inl (.inl (.inl hq)))), ⟨l1, ?_⟩, ⟨e1, ?_⟩, Items.touch ht hr hb (fun q hq => hf q (.inr hq))⟩
    · rcases l2 with h | ⟨b', o', ha, hi⟩
      · exact .inl h
      · cases l with
        | nil => exact .inl rfl
        | cons y m f s =>
          have hne : x.ln ≠ 0 := by rw [← l1]; simp [Il.len]
          exact .inr ⟨b', o', ha, Items.touch ht hi (hf b' (.inl (.inl (.inr (.inl (by simp [blkOf, hne, ha])))))) (fun q hq => hf q (.inl (.inl (.inr (.inr hq)))))⟩
    · rcases e2 with h | ⟨b', o', ha, hi⟩
      · exact .inl h
      · cases e with
        | nil => exact .inl rfl
        | cons y m f s =>
          have hne : x.en ≠ 0 := by rw [← e1]; simp [Il.len]
          exact .inr ⟨b', o', ha, Items.touch ht hi (hf b' (.inl (.inr (.inl (by simp [blkOf, hne, ha]))))) (fun q hq => hf q (.inl (.inr (.inr hq))))⟩
theorem ListAt.touch {S : Nat → Prop} {n₀ : Nat} {w w' : World} {a : Option Addr} {n : Nat} {t : Il} (h : ListAt n₀ w a n t) (ht : Touch S w w') (hk : ∀ q ∈ blkOf n a ++ t.foot, ¬ S q) : ListAt n₀ w' a n t := by
  obtain ⟨h1, h2⟩ := h
  refine ⟨h1, ?_⟩
  rcases h2 with h | ⟨b', o', ha, hi⟩
  · exact .inl h
  · cases t with
    | nil => exact .inl rfl
    | cons y m f s =>
      have hne : n ≠ 0 := by rw [← h1]; simp [Il.len]
      exact .inr ⟨b', o', ha, Items.touch ht hi (hk b' (by simp [blkOf, hne, ha])) (fun q hq => hk q (by simp [hq]))⟩
theorem kids_touch {S : Nat → Prop} {w w' : World} (ht : Touch S w w') : ∀ {t : Il}, t.kids w → (∀ q ∈ t.foot, ¬ S q) → t.kids w'
  | .nil, _, _ => trivial
  | .cons x l e r, ⟨h1, h2, h3, h4, h5⟩, hf => by
    simp only [Il.foot, List.mem_append] at hf
    exact ⟨h1, (h2.touch ht (fun q hq => hf q (.inl (.inl (.inl hq))))).more ht.size, ListAt.more ht.size (h3.touch ht (fun q hq => hf q (.inl (.inl (.inr (List.mem_append.1 hq)))))),
      ListAt.more ht.size (h4.touch ht (fun q hq => hf q (.inl (.inr (List.mem_append.1 hq))))), kids_touch ht h5 (fun q hq => hf q (.inr hq))⟩
theorem tags_lt {n₀ : Nat} {w : World} {a : Option Addr} {zs : List Int} (h : TagsAt n₀ w a zs) : ∀ q ∈ blkOf zs.length a, q < n₀ := by
  intro q hq
  rcases h with rfl | ⟨b, off, rfl, hl, _⟩
  · simp [blkOf] at hq
  · unfold blkOf at hq
    split at hq
    · simp at hq
    · simp at hq; omega
mutual
theorem items_lt {n₀ : Nat} {w : World} : ∀ {t : Il} {b off : Nat}, Items n₀ w b off t → ∀ q ∈ t.foot, q < n₀
  | .nil, _, _, _, q, hq => by simp [Il.foot] at hq
  | .cons x l e r, b, off, ⟨_, _, _, ht, hl, he, hr⟩, q, hq => by
    simp only [Il.foot, List.mem_append] at hq
    rcases hq with ((hq | hq) | hq) | hq
    · exact tags_lt ht q hq
    · exact list_lt (t := l) hl q (List.mem_append.2 hq)
    · exact list_lt (t := e) he q (List.mem_append.2 hq)
    · exact items_lt hr q hq
theorem list_lt {n₀ : Nat} {w : World} {a : Option Addr} {n : Nat} : ∀ {t : Il}, ListAt n₀ w a n t → ∀ q ∈ blkOf n a ++ t.foot, q < n₀
  | .nil, ⟨h1, _⟩, q, hq => by simp [← h1, blkOf, Il.len, Il.foot] at hq
  | .cons x l e r, ⟨h1, h2⟩, q, hq => by
    rcases h2 with h | ⟨b, off, rfl, hb, hx, hc, ht, hl, he, hr⟩
    · cases h
    · rcases List.mem_append.1 hq with hq | hq
      · unfold blkOf at hq
        split at hq
        · simp at hq
        · simp at hq; omega
      · simp only [Il.foot, List.mem_append] at hq
        rcases hq with ((hq | hq) | hq) | hq
        · exact tags_lt ht q hq
        · exact list_lt (t := l) hl q (List.mem_append.2 hq)
        · exact list_lt (t := e) he q (List.mem_append.2 hq)
        · exact items_lt hr q hq
end
theorem kids_lt {w : World} : ∀ {t : Il}, t.kids w → ∀ q ∈ t.foot, q < w.heap.size
  | .nil, _, q, hq => by simp [Il.foot] at hq
  | .cons x l e r, ⟨_, ht, hl, he, hr⟩, q, hq => by
    simp only [Il.foot, List.mem_append] at hq
    rcases hq with ((hq | hq) | hq) | hq
    · exact tags_lt ht q hq
    · exact list_lt hl q (List.mem_append.2 hq)
    · exact list_lt he q (List.mem_append.2 hq)
    · exact kids_lt hr q hq
/-- A row that holds them, and what is in them: a list in memory. -/
theorem items_of {w : World} {g : Nat} (hg : g < w.heap.size) : ∀ (t : Il) (off : Nat), (∀ j u, t.cells[j]? = some u → w.cell? ⟨g, off + j, none⟩ = some u) → t.kids w → Items w.heap.size w g off t
  | .nil, _, _, _ => trivial
  | .cons x l e r, off, hc, ⟨h1, h2, h3, h4, h5⟩ => by
    have h8 : ∀ q u, q < 8 → x.vals.toList[q]? = some u → w.cell? ⟨g, off + q, none⟩ = some u := fun q u hq hu => hc q u (by
      rw [Il.cells, List.getElem?_append_left (by simpa [Ix.vals] using hq)]; exact hu)
    refine ⟨hg, h1, ⟨h8 0 _ (by omega) rfl, h8 1 _ (by omega) rfl, h8 2 _ (by omega) rfl, h8 3 _ (by omega) rfl, h8 4 _ (by omega) rfl, h8 5 _ (by omega) rfl, h8 6 _ (by omega) rfl, h8 7 _ (by omega) rfl⟩, h2, h3, h4, items_of hg r (off + 8) (fun j u hu => ?_) h5⟩
    have := hc (8 + j) u (by
      rw [Il.cells, List.getElem?_append_right (by simp [Ix.vals])]
      simpa [Ix.vals] using hu)
    rw [show off + 8 + j = off + (8 + j) by omega]
    exact this
theorem list_of_row {w : World} {base : Nat} {v : Value} {t : Il} (h : w.ownsRow base 126 8 v t.len t.cells) (hk : t.kids w) : ∃ a c, v = .slice a t.len c ∧ ListAt w.heap.size w a t.len t ∧ blkOf t.len a = (if t.len = 0 then [] else match v.ownBlock with
    | some g => [g]
    | none => []) := by
  rcases h.2 with ⟨rfl, h0⟩ | ⟨g, cap, cur, rfl, _, hh, _⟩
  · refine ⟨none, 0, by rw [h0], ⟨rfl, .inl (len_zero h0)⟩, by simp [blkOf, h0]⟩
  · have hlt : g < w.heap.size := (Array.getElem?_eq_some_iff.1 hh).1
    refine ⟨_, _, rfl, ⟨rfl, .inr ⟨g, 0, rfl, items_of hlt t 0 (fun j u hu => ?_) hk⟩⟩, by simp [blkOf, Value.ownBlock]⟩
    have := World.ownsRow.cells h (g := g) rfl j u hu
    rw [plain_add] at this
    rw [Nat.zero_add]
    exact this
where len_zero : ∀ {t : Il}, t.len = 0 → t = .nil
  | .nil, _ => rfl
  | .cons _ _ _ _, h => by simp [Il.len] at h
end Instr
end Go.Proofs.YtepbjkkakfpjgaaGreatDoor

/-
  BODY: the open lists in memory: a row of them, each with a row of its instructions; how a top one turns.
-/
namespace Go.Proofs.YtepbjkkakfpjgaaGreatDoor.Body
open Go.RowKit Go.Proofs.YtepbjkkakfpjgaaGreatDoor.Instr
open Go.Proofs.YtepbjkkakfpjgaaGreatDoor.Kind (Rd numR refuseR startR numR_good numR_bounds refuseR_good getL_next)

/-- Eight cells of a row are written over. -/
def store8 (w : World) (g off : Nat) (x : Ix) : World :=
  (((((((w.setCell ⟨g, off, none⟩ (.int .i64 x.op)).setCell ⟨g, off + 1, none⟩ (.int .i64 x.res)).setCell ⟨g, off + 2, none⟩ (.int .u32 x.a)).setCell ⟨g, off + 3, none⟩ (.int .u32 x.b)).setCell ⟨g, off + 4, none⟩ (.int .i32 x.n)).setCell
    ⟨g, off + 5, none⟩ (.slice x.ta x.tags.length x.tc)).setCell ⟨g, off + 6, none⟩ (.slice x.la x.ln x.lc)).setCell ⟨g, off + 7, none⟩ (.slice x.ea x.en x.ec)
theorem store8_touch (w : World) (g off : Nat) (x : Ix) : Touch (fun j => j = g) w (store8 w g off x) := by
  have step : ∀ (a b : World) (q : Addr) (v : Value), q.block = g → Touch (fun j => j = g) a b → Touch (fun j => j = g) a (b.setCell q v) := fun a b q v hq h => h.setCell (.inl hq) v
  unfold store8
  exact step _ _ _ _ rfl (step _ _ _ _ rfl (step _ _ _ _ rfl (step _ _ _ _ rfl (step _ _ _ _ rfl (step _ _ _ _ rfl (step _ _ _ _ rfl (step _ _ _ _ rfl (Touch.refl _ w))))))))
end Go.Proofs.YtepbjkkakfpjgaaGreatDoor.Body

namespace Go.Proofs.YtepbjkkakfpjgaaGreatDoor.Leb
open Go.RowKit

/-- What a read gives back: number, place behind it, error, its place; all that was there stays. -/
def Got (k : IntKind) (w : World) (r : Int × Int × Int × Int) (e : Ending) (w' : World) : Prop :=
  e = .returned (.tuple #[.int k r.1, .int .i64 r.2.1, .agg #[.int .i64 r.2.2.1, .int .i64 r.2.2.2]]) ∧ Below w.heap.size w w'

end Go.Proofs.YtepbjkkakfpjgaaGreatDoor.Leb
