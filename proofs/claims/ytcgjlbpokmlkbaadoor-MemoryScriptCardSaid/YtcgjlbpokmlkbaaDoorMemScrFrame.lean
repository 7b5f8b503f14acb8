/-
  MEMORY: the frame of the script's statement: limits, and a list of calls, that come in are opened.
-/
import Derived.Test.YtcgjlbpokmlkbaaDoorMemTabs
import Derived.Test.YtcgjlbpokmlkbaaDoorMemActs
import Derived.ChangeArms
import Derived.Lib.SmallJoins
import Derived.Deep.Strs
namespace Go.Proofs.YtcgjlbpokmlkbaaDoor
open Go.ChangeShapes Go.WideShapes Go.ChangeAt Go.RowKit Go.Joins
theorem cellsLim : Tryd.prog.cellsOf 24 = 3 := by kernel_rfl
set_option maxRecDepth 100000 in
theorem open_lim {H : Type} {enc : TypeId × Value → H} {W : World} {base : Nat} {v : Value} {d : DataW H} {p : List MemPlace} (hv : Value.okWide Tryd.prog W .any base 24 v) (h : DataW.Trod enc Tryd.prog W 0 (fun _ => true) true 24 v d p) :
    ∃ (a b : Int) (c : Bool), v = .agg #[.int .u32 a, .int .u32 b, .bool c] ∧ d = .agg [.lit (.int .u32 a), .lit (.int .u32 b), .lit (.bool c)] ∧ p = [] ∧ (Lit.int .u32 a).wf = true ∧ (Lit.int .u32 b).wf = true := by
  obtain ⟨c0, c1, c2, y0, y1, y2, m, rfl, rfl, rfl, hy0, hy1, hy2⟩ := open_agg3 Tryd.underlying24 (by kernel_rfl) cellsLim hv h
  obtain ⟨a, e0, rfl, wa⟩ := DataW.trod_int Tryd.underlying22 hy0
  obtain ⟨b, e1, rfl, wb⟩ := DataW.trod_int Tryd.underlying22 hy1
  obtain ⟨c, e2, rfl⟩ := DataW.trod_bool Tryd.underlying4 hy2
  simp at e0 e1 e2
  subst e0 e1 e2
  exact ⟨a, b, c, rfl, rfl, rfl, wa, wb⟩
theorem shut_lim {H : Type} {enc : TypeId × Value → H} {W : World} {sp : Nat → Bool} {a b : Int} {c : Bool} (wa : (Lit.int .u32 a).wf = true) (wb : (Lit.int .u32 b).wf = true) :
    DataW.Trod enc Tryd.prog W 0 sp true 24 (.agg #[.int .u32 a, .int .u32 b, .bool c]) (.agg [.lit (.int .u32 a), .lit (.int .u32 b), .lit (.bool c)]) [] :=
  shut_agg3 (y0 := (.lit (.int .u32 a), [])) (y1 := (.lit (.int .u32 b), [])) (y2 := (.lit (.bool c), [])) Tryd.underlying24 (by kernel_rfl) cellsLim ⟨1, by simp [DataW.trod, Tryd.underlying22, wa]⟩ ⟨1, by simp [DataW.trod, Tryd.underlying22, wb]⟩ ⟨1, by simp [DataW.trod, Tryd.underlying4]⟩
end Go.Proofs.YtcgjlbpokmlkbaaDoor
namespace Go.Proofs.YtcgjlbpokmlkbaaDoor.Mem
open Go.RowKit Go.ChangeShapes Go.WideShapes Go.ChangeAt Go.Joins Go.Deep
set_option linter.unusedVariables false

theorem weights_all {H : Type} {P : Program} {e : TypeId} : ∀ {l : List (DataW H)} {i : Nat} {d : DataW H}, l[i]? = some d → ∀ n ∈ d.weights P e, n ∈ DataW.weightsAll P e l
  | [], i, d, h, _, _ => by simp at h
  | d0 :: l, 0, d, h, n, hn => by
    simp only [List.getElem?_cons_zero, Option.some.injEq] at h
    subst h
    simp [DataW.weightsAll, hn]
  | d0 :: l, i + 1, d, h, n, hn => by
    have := weights_all (l := l) (i := i) (by simpa using h) n hn
    simp [DataW.weightsAll, this]

theorem plainAdd (b o i : Nat) : (⟨b, o, none⟩ : Addr).add i = ⟨b, o + i, none⟩ := by unfold Addr.add; split <;> simp_all
variable {H : Type} {enc : TypeId × Value → H} {W : World}
def Wok (T : TypeId) (d : DataW H) : Prop := ∀ q ∈ d.weights Tryd.prog T, q ≤ reachBytes

theorem exists_list {α : Type} {P : Nat → α → Prop} : ∀ n : Nat, (∀ i, i < n → ∃ a, P i a) → ∃ l : List α, l.length = n ∧ ∀ (i : Nat) (h : i < l.length), P i l[i]
  | 0, _ => ⟨[], rfl, fun i h => absurd h (Nat.not_lt_zero _)⟩
  | n + 1, h => by
    obtain ⟨l, hl, hp⟩ := exists_list n (fun i hi => h i (by omega))
    obtain ⟨a, ha⟩ := h n (by omega)
    refine ⟨l ++ [a], by simp [hl], fun i hi => ?_⟩
    by_cases hn : i < l.length
    · rw [List.getElem_append_left hn]; exact hp i hn
    · have : i = n := by simp at hi; omega
      subst this
      rw [List.getElem_append_right (by omega)]
      simpa [hl] using ha
theorem cells_get {w : World} {b o sz : Nat} {cs : List Value} (h : w.cells? 0 ⟨b, o, none⟩ sz = some cs) : cs.length = sz ∧ ∀ j v, cs[j]? = some v → w.cell? ⟨b, o + j, none⟩ = some v := by
  unfold World.cells? at h
  rw [if_pos (Nat.zero_le _)] at h
  have hl := mapM_some_length h
  refine ⟨by simpa using hl, fun j v hv => ?_⟩
  have hj : j < sz := by
    have := (List.getElem?_eq_some_iff.1 hv).1
    simp at hl; omega
  have := mapM_some_get h j j (by simp [hj])
  rw [plainAdd] at this
  rw [this, hv]
theorem cells_spot {w : World} {b o sz : Nat} {sp : Option Nat} {cs : List Value} (hs : 0 < sz) (h : w.cells? 0 ((⟨b, o, sp⟩ : Addr).add 0) sz = some cs) : sp = none := by
  unfold World.cells? at h
  rw [if_pos (Nat.zero_le _)] at h
  have hl := mapM_some_length h
  have hg := mapM_some_get h 0 0 (by simp [hs])
  have h0 : ∃ v, cs[0]? = some v := ⟨_, List.getElem?_eq_getElem (by simp at hl; omega)⟩
  obtain ⟨v, hv⟩ := h0
  rw [hv] at hg
  have hp := World.cell?_spot hg
  unfold Addr.add at hp
  (repeat' split at hp) <;> simp_all
/-- A slice of records of sz cells each. -/
theorem open_rows {α : Type} {T S : TypeId} {sz nb : Nat} (V : α → List Value) (Good : α → Prop) (hS : Tryd.prog.underlying S = some (.slice T)) (hc : Tryd.prog.cellsOf T = sz) (hs0 : 0 < sz) (hb : Tryd.prog.bytesOf T = nb) (hnb : 1 ≤ nb)
    (one : ∀ n cs x, DataW.trod enc Tryd.prog W 0 (fun _ => true) true n T cs = some x → Wok T x.1 → ∃ a : α, cs = V a ∧ Good a)
    {fuel : Nat} {cs : List Value} {x : DataW H × List MemPlace} (h : DataW.trod enc Tryd.prog W 0 (fun _ => true) true fuel S cs = some x) (hw : Wok S x.1) :
    ∃ (a : Option Addr) (c : Nat) (l : List α), cs = [.slice a l.length c] ∧ l.length ≤ c ∧ l.length ≤ 140737488351232 ∧ Stk.Rows W.heap.size W a sz (l.map V) ∧ ∀ y ∈ l, Good y := by
  rcases DataW.trod_slice hS h with ⟨rfl, _⟩ | ⟨a, len, cap, elems, rest, n, hfu, rfl, rfl, _, hlc, _, hlen, hel, _, _⟩
  · exact ⟨none, 0, [], rfl, by simp, by simp, .inl rfl, by simp⟩
  have hbound : (elems.length + rest.length) * nb ≤ reachBytes := by
    have : (elems.length + rest.length) * Tryd.prog.bytesOf T ≤ reachBytes := hw _ (by simp [DataW.weights, hS])
    rw [hb] at this; exact this
  have hbig : len ≤ 140737488351232 := by
    simp only [reachBytes] at hbound
    have : elems.length * 1 ≤ (elems.length + rest.length) * nb := Nat.mul_le_mul (by omega) hnb
    omega
  have hwe : ∀ (i : Nat) (y : DataW H × List MemPlace), elems[i]? = some y → Wok T y.1 := by
    intro i y hy m hm
    refine hw m ?_
    have h1 : (elems.map (·.1))[i]? = some y.1 := by simp [hy]
    have := weights_all h1 m hm
    simp only [DataW.weights, hS, List.mem_cons, List.mem_append]
    exact .inr (.inl this)
  obtain ⟨b, o, sp⟩ := a
  have hspot : 0 < len → sp = none := by
    intro hi
    have h1 := hel 0 hi
    rw [hc, List.getElem?_eq_getElem (by omega), Nat.zero_mul] at h1
    obtain ⟨cs', hcs, _⟩ := Option.bind_eq_some_iff.1 h1
    exact cells_spot hs0 hcs
  have each : ∀ i, i < len → ∃ y : α, (∀ j v, (V y)[j]? = some v → W.cell? ⟨b, o + i * sz + j, none⟩ = some v) ∧ Good y ∧ sp = none := by
    intro i hi
    have h1 := hel i hi
    rw [hc, List.getElem?_eq_getElem (by omega)] at h1
    obtain ⟨cs', hcs, ht⟩ := Option.bind_eq_some_iff.1 h1
    have hsp := hspot (by omega)
    subst hsp
    rw [plainAdd] at hcs
    obtain ⟨y, rfl, hg⟩ := one n cs' _ ht (hwe i _ (List.getElem?_eq_getElem (by omega)))
    exact ⟨y, (cells_get hcs).2, hg, rfl⟩
  obtain ⟨l, hl, hp⟩ := exists_list len each
  refine ⟨some ⟨b, o, sp⟩, cap, l, by rw [hl], by omega, by omega, ?_, fun y hy => ?_⟩
  · by_cases h0 : len = 0
    · left
      have : l = [] := List.eq_nil_of_length_eq_zero (by omega)
      rw [this]; rfl
    · obtain ⟨hc0, _, rfl⟩ := hp 0 (by omega)
      obtain ⟨cs', hcs, _⟩ := Option.bind_eq_some_iff.1 (show _ = some (elems[0]'(by omega)) by rw [hel 0 (by omega)]; exact List.getElem?_eq_getElem _)
      rw [hc, plainAdd] at hcs
      obtain ⟨hl0, hg0⟩ := cells_get hcs
      have hv0 : ∃ v, cs'[0]? = some v := ⟨_, List.getElem?_eq_getElem (by omega)⟩
      obtain ⟨v0, hv0⟩ := hv0
      refine .inr ⟨b, o, rfl, World.block_lt_of_cell? W _ (hg0 0 v0 hv0), fun i hi j _ v hv => ?_⟩
      simp only [List.length_map] at hi
      refine (hp i hi).1 j v ?_
      rw [List.getD_eq_getElem?_getD, List.getElem?_map, List.getElem?_eq_getElem hi] at hv
      exact hv
  · obtain ⟨i, hi, rfl⟩ := List.mem_iff_getElem.1 hy
    exact (hp i hi).2.1

theorem cellsAct : Tryd.prog.cellsOf 37 = 6 := by kernel_rfl
theorem bytesAct : Tryd.prog.bytesOf 37 = 56 := by kernel_rfl
theorem open_bs {n : Nat} {cs : List Value} {x : DataW H × List MemPlace} (h : DataW.trod enc Tryd.prog W 0 (fun _ => true) true n 35 cs = some x) (hw : Wok 35 x.1) :
    ∃ (a : Option Addr) (l c : Nat) (zs : List Int), cs = [.slice a l c] ∧ zs.length = l ∧ l ≤ c ∧ Bytes W a zs ∧ ∀ b off, a = some ⟨b, off, none⟩ → zs ≠ [] → b < W.heap.size := by
  obtain ⟨a, c, zs, e1, hlc, hz, hr, hg⟩ := open_rows (sz := 1) (nb := 1) (α := { z : Int // 0 ≤ z ∧ z < 256 }) (fun z => [.int .u8 z.1]) (fun _ => True) Tryd.underlying35 (by kernel_rfl) (by omega) (by kernel_rfl : Tryd.prog.bytesOf 5 = 1) (by omega)
    (fun n cs x h _ => by
      obtain ⟨z, e, -, wf⟩ := DataW.trod_int Tryd.underlying5 h
      have := bounds_u8 wf
      exact ⟨⟨z, by omega, by omega⟩, e, trivial⟩) h hw
  have hby : Bytes W a (zs.map (·.1)) := by
    refine ⟨fun z hm => ?_, by simpa using hz, ?_⟩
    · obtain ⟨y, _, rfl⟩ := List.mem_map.1 hm
      exact y.2
    · rcases hr with h | ⟨b, off, ha, hb, hcell⟩
      · left
        rw [List.map_eq_nil_iff] at h
        subst h; rfl
      · refine .inr ⟨b, off, ha, fun i hi => ?_⟩
        have hi' : i < zs.length := by simpa using hi
        have := hcell i (by simpa using hi') 0 (by omega) (.int .u8 zs[i].1) (by simp [hi'])
        rw [Nat.mul_one, Nat.add_zero] at this
        rw [this]
        simp [hi']
  exact ⟨a, zs.length, c, zs.map (·.1), e1, by simp, hlc, hby, fun b off ha hne => hby.lt b off ha hne⟩
set_option maxRecDepth 100000 in
theorem one_act {n : Nat} {cs : List Value} {x : DataW H × List MemPlace} (h : DataW.trod enc Tryd.prog W 0 (fun _ => true) true n 37 cs = some x) (hw : Wok 37 x.1) : ∃ y : AT, cs = y.vs ∧ y.Good W.heap.size W := by
  obtain ⟨xs, n', _, hx, hlc, hlen, hff⟩ := DataW.trod_struct Tryd.underlying37 h
  rw [cellsAct] at hlc
  match cs, hlc, xs, hlen with
  | [v0, v1, v2, v3, v4, v5], _, [y0, y1, y2, y3, y4, y5], _ =>
    have f0 : DataW.trod enc Tryd.prog W 0 (fun _ => true) true n' 3 [v0] = some y0 := by
      have h : DataW.trod enc Tryd.prog W 0 (fun _ => true) true n' 3 (([v0, v1, v2, v3, v4, v5].drop 0).take (Tryd.prog.cellsOf 3)) = [y0, y1, y2, y3, y4, y5][0]? := hff 0 _ rfl
      rw [show Tryd.prog.cellsOf 3 = 1 by kernel_rfl] at h
      exact h
    have f1 : DataW.trod enc Tryd.prog W 0 (fun _ => true) true n' 3 [v1] = some y1 := by
      have h : DataW.trod enc Tryd.prog W 0 (fun _ => true) true n' 3 (([v0, v1, v2, v3, v4, v5].drop 1).take (Tryd.prog.cellsOf 3)) = [y0, y1, y2, y3, y4, y5][1]? := hff 1 _ rfl
      rw [show Tryd.prog.cellsOf 3 = 1 by kernel_rfl] at h
      exact h
    have f2 : DataW.trod enc Tryd.prog W 0 (fun _ => true) true n' 22 [v2] = some y2 := by
      have h : DataW.trod enc Tryd.prog W 0 (fun _ => true) true n' 22 (([v0, v1, v2, v3, v4, v5].drop 2).take (Tryd.prog.cellsOf 22)) = [y0, y1, y2, y3, y4, y5][2]? := hff 2 _ rfl
      rw [show Tryd.prog.cellsOf 22 = 1 by kernel_rfl] at h
      exact h
    have f3 : DataW.trod enc Tryd.prog W 0 (fun _ => true) true n' 22 [v3] = some y3 := by
      have h : DataW.trod enc Tryd.prog W 0 (fun _ => true) true n' 22 (([v0, v1, v2, v3, v4, v5].drop 3).take (Tryd.prog.cellsOf 22)) = [y0, y1, y2, y3, y4, y5][3]? := hff 3 _ rfl
      rw [show Tryd.prog.cellsOf 22 = 1 by kernel_rfl] at h
      exact h
    have f4 : DataW.trod enc Tryd.prog W 0 (fun _ => true) true n' 22 [v4] = some y4 := by
      have h : DataW.trod enc Tryd.prog W 0 (fun _ => true) true n' 22 (([v0, v1, v2, v3, v4, v5].drop 4).take (Tryd.prog.cellsOf 22)) = [y0, y1, y2, y3, y4, y5][4]? := hff 4 _ rfl
      rw [show Tryd.prog.cellsOf 22 = 1 by kernel_rfl] at h
      exact h
    have f5 : DataW.trod enc Tryd.prog W 0 (fun _ => true) true n' 35 [v5] = some y5 := by
      have h : DataW.trod enc Tryd.prog W 0 (fun _ => true) true n' 35 (([v0, v1, v2, v3, v4, v5].drop 5).take (Tryd.prog.cellsOf 35)) = [y0, y1, y2, y3, y4, y5][5]? := hff 5 _ rfl
      rw [show Tryd.prog.cellsOf 35 = 1 by kernel_rfl] at h
      exact h
    obtain ⟨z0, e0, -, wf0⟩ := DataW.trod_int Tryd.underlying3 f0
    obtain ⟨z1, e1, -, wf1⟩ := DataW.trod_int Tryd.underlying3 f1
    obtain ⟨z2, e2, -, wf2⟩ := DataW.trod_int Tryd.underlying22 f2
    obtain ⟨z3, e3, -, wf3⟩ := DataW.trod_int Tryd.underlying22 f3
    obtain ⟨z4, e4, -, wf4⟩ := DataW.trod_int Tryd.underlying22 f4
    have w5 : Wok 35 y5.1 := fun q hq => hw q (by rw [hx]; simp only [DataW.weights, Tryd.underlying37]; exact DataW.weights_mem_each (j := 5) rfl rfl q hq)
    obtain ⟨a, l, c, zs, e5, hl, hc, hby, hlow⟩ := open_bs f5 w5
    simp only [List.cons.injEq, and_true] at e0 e1 e2 e3 e4 e5
    subst e0 e1 e2 e3 e4 e5
    have b2 := bounds_u32 wf2
    have b3 := bounds_u32 wf3
    have b4 := bounds_u32 wf4
    exact ⟨⟨z0, z1, z2, z3, z4, a, l, c, zs⟩, rfl, ⟨b2, b3, b4, hl, hby, hc, hlow⟩⟩
theorem open_acts {ts : List TypeId} {ds : List (DataW H)} {a : Option Addr} {len cap : Nat} {d : DataW H} {p : List MemPlace}
    (hsz : (DataW.weightsEach Tryd.prog ts ds).all (· ≤ reachBytes) = true) (j : Nat) (ht : ts[j]? = some 25) (hd : ds[j]? = some d)
    (h : DataW.Trod enc Tryd.prog W 0 (fun _ => true) true 25 (.slice a len cap) d p) :
    ∃ l : List AT, l.length = len ∧ len ≤ 140737488351232 ∧ Stk.Rows W.heap.size W a 6 (l.map AT.vs) ∧ ∀ y ∈ l, y.Good W.heap.size W := by
  obtain ⟨fuel, hf⟩ := h
  have hwd : Wok 25 d := fun q hq => by
    have := List.all_eq_true.1 hsz _ (DataW.weights_mem_each ht hd q hq)
    simpa using this
  obtain ⟨a', c, l, e, _, hl, hr, hg⟩ := open_rows (sz := 6) (nb := 56) AT.vs (fun y => y.Good W.heap.size W) Tryd.underlying25 cellsAct (by omega) bytesAct (by omega) (fun n cs x h hw => one_act h hw) hf hwd
  simp [Value.cells] at e
  obtain ⟨rfl, rfl, rfl⟩ := e
  exact ⟨l, rfl, hl, hr, hg⟩
end Go.Proofs.YtcgjlbpokmlkbaaDoor.Mem
