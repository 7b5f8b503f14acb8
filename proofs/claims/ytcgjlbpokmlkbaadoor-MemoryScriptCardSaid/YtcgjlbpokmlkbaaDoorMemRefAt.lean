/-
  MEMORY: the document's memory in memory: its box, its row of cells. What outlives what its methods do.
-/
import Derived.Test.YtcgjlbpokmlkbaaDoorMemDo4
import Derived.Test.YtcgjlbpokmlkbaaDoorMemRefP
import Derived.Test.YtcgjlbpokmlkbaaDoorStkRows
import Derived.ArgAppend
namespace Go.Proofs.YtcgjlbpokmlkbaaDoor.Mem
open Go.RowKit Go.Proofs.YtcgjlbpokmlkbaaDoor.Instr Go.Proofs.YtcgjlbpokmlkbaaDoor.Num
open Go.Proofs.YtcgjlbpokmlkbaaDoor.Stk (OwnR Rows)
set_option linter.unusedVariables false

def cellV (c : Nat × Int) : List Value := [.int .i64 c.1, .int .u8 c.2]
theorem cellV_len (L : List (Nat × Int)) : ∀ r ∈ L.map cellV, r.length = 2 := by
  intro r hr
  obtain ⟨c, _, rfl⟩ := List.mem_map.1 hr
  rfl
theorem cellV_one (L : List (Nat × Int)) : ∀ r ∈ L.map cellV, ∀ u ∈ r, u.oneCell' = true := by
  intro r hr u hu
  obtain ⟨c, _, rfl⟩ := List.mem_map.1 hr
  simp only [cellV, List.mem_cons, List.not_mem_nil, or_false] at hu
  rcases hu with rfl | rfl <;> rfl
theorem infoCell : (Tryd.prog.info? 85).map (fun i => (i.zero, i.size, i.bytes)) = some (some (.agg #[.int .i64 0, .int .u8 0]), 2, 16) := by kernel_rfl
/-- Is it a block of the document's memory? -/
def isRef : Obj → Bool
  | .cells _ t _ => t == 40 || t == 85
  | _ => false
theorem own_ref {o : Obj} (h : isOwn o = true) : isRef o = false := by
  cases o <;> simp_all [isOwn, isRef]
  rename_i C t m
  rcases h with rfl | rfl <;> decide
theorem ref_own {o : Obj} (h : isRef o = true) : isOwn o = false := by
  cases o <;> simp_all [isOwn, isRef]
  rename_i C t m
  rcases h with rfl | rfl <;> decide
structure KeepR (W W' : World) : Prop where
  os : W'.os = W.os
  tape : W'.tape = W.tape
  output : W'.output = W.output
  size : W.heap.size ≤ W'.heap.size
  block : ∀ (j : Nat) (o : Obj), W.heap[j]? = some o → isRef o = false → W'.heap[j]? = some o
theorem KeepR.refl (W : World) : KeepR W W := ⟨rfl, rfl, rfl, Nat.le_refl _, fun _ _ h _ => h⟩
theorem KeepR.trans {a b c : World} (h : KeepR a b) (g : KeepR b c) : KeepR a c :=
  ⟨g.os.trans h.os, g.tape.trans h.tape, g.output.trans h.output, Nat.le_trans h.size g.size, fun j o hj ho => g.block j o (h.block j o hj ho) ho⟩
theorem KeepR.of_below {W W' : World} (h : Below W.heap.size W W') : KeepR W W' :=
  ⟨h.os, h.tape, h.output, h.size, fun j o hj _ => (h.block j (Array.getElem?_eq_some_iff.1 hj).1).trans hj⟩
theorem KeepR.of_save {W W' : World} {g : Nat} {o : Obj} (h : Save g W W') (hg : W.heap[g]? = some o) (ho : isRef o = true) : KeepR W W' :=
  ⟨h.os, h.tape, h.output, h.size, fun j o' hj ho' => (h.block j (Array.getElem?_eq_some_iff.1 hj).1 (fun e => by
    subst e; rw [hg] at hj; cases hj; rw [ho] at ho'; cases ho')).trans hj⟩
/-- The program's memory stands while the document's is written. -/
theorem MemIs.keepR {B : Nat} {W W' : World} {p K : Nat} {m : Mm} (h : MemIs B W p K m) (hk : KeepR W W') : MemIs B W' p K m := by
  obtain ⟨mb, D, K', hK, h⟩ := h
  refine ⟨mb, D, K', hK, hk.block _ _ h.box (own_ref rfl), h.bp, h.bm, ?_, h.isMap, h.ok, fun k => ?_, h.apart⟩
  · obtain ⟨es, ck, hh, r⟩ := h.map
    exact ⟨es, ck, hk.block _ _ hh rfl, r⟩
  · rcases h.at_ k with h1 | ⟨g, hg, h1, L, h2, h3⟩
    · exact .inl h1
    · exact .inr ⟨g, hg, h1, L, hk.block _ _ h2 (own_ref (own_page _ _)), h3⟩

/-- The document's memory. -/
structure RefAt (B : Nat) (W : World) (q : Nat) (v : Value) (L : List (Nat × Int)) (n most : Nat) : Prop where
  box : W.heap[q]? = some (.cells #[.int .u32 n, .int .u32 most, v] 40 (0, 0))
  bq : B ≤ q
  row : OwnR 85 2 B W v (L.map cellV)
  rising : Rising L
  ok : ∀ c ∈ L, c.1 < 4294967296 ∧ 0 ≤ c.2 ∧ c.2 < 256
  len : L.length ≤ 1000000
theorem OwnR.kept {e : TypeId} {sz base : Nat} {w w' : World} {v : Value} {rs : List (List Value)} (h : OwnR e sz base w v rs) (hk : ∀ (g : Nat) (C : Array Value), w.heap[g]? = some (.cells C e (0, 0)) → w'.heap[g]? = some (.cells C e (0, 0))) : OwnR e sz base w' v rs := by
  refine ⟨⟨h.row.1, ?_⟩, h.len⟩
  rcases h.row.2 with h0 | ⟨g, cap, cur, hv, hg, hh, rest⟩
  · exact .inl h0
  · exact .inr ⟨g, cap, cur, hv, hg, hk g cur hh, rest⟩
theorem RefAt.keep {B : Nat} {W W' : World} {q : Nat} {v : Value} {L : List (Nat × Int)} {n most : Nat} (h : RefAt B W q v L n most) (hk : Keep W W') : RefAt B W' q v L n most :=
  ⟨hk.block _ _ h.box (ref_own rfl), h.bq, OwnR.kept h.row (fun g C hg => hk.block _ _ hg (ref_own (by simp [isRef]))), h.rising, h.ok, h.len⟩
theorem RefAt.below {B : Nat} {W W' : World} {q : Nat} {v : Value} {L : List (Nat × Int)} {n most : Nat} (h : RefAt B W q v L n most) (hb : Below W.heap.size W W') : RefAt B W' q v L n most := h.keep (Keep.of_below hb)
theorem RefAt.cells {B : Nat} {W : World} {q : Nat} {v : Value} {L : List (Nat × Int)} {n most : Nat} (h : RefAt B W q v L n most) : W.cell? ⟨q, 0, none⟩ = some (.int .u32 n) ∧ W.cell? ⟨q, 1, none⟩ = some (.int .u32 most) ∧ W.cell? ⟨q, 2, none⟩ = some v := by
  refine ⟨?_, ?_, ?_⟩ <;> simp [World.cell?, h.box]
theorem RefAt.frozen {B : Nat} {W : World} {q : Nat} {v : Value} {L : List (Nat × Int)} {n most : Nat} (h : RefAt B W q v L n most) (j : Nat) : W.frozen? ⟨q, j, none⟩ = false := frozen_of_row W q j _ _ h.box
/-- Its row, as a slice. -/
theorem RefAt.slice {B : Nat} {W : World} {q : Nat} {v : Value} {L : List (Nat × Int)} {n most : Nat} (h : RefAt B W q v L n most) : ∃ (g c : Nat) (a : Option Addr), v = .slice a L.length c ∧ L.length ≤ c ∧ (0 < L.length → a = some ⟨g, 0, none⟩) ∧
    ∀ i (hi : i < L.length), W.cell? ⟨g, i * 2, none⟩ = some (.int .i64 (L.getD i (0, 0)).1) ∧ W.cell? ⟨g, i * 2 + 1, none⟩ = some (.int .u8 (L.getD i (0, 0)).2) := by
  have hr := h.row.row
  rw [List.length_map] at hr
  rcases hr.2 with ⟨rfl, h0⟩ | ⟨g, cap, cur, rfl, hg, hh, h2, h3, h4, h5⟩
  · exact ⟨0, 0, none, by rw [h0], by omega, fun h => by omega, fun i hi => by omega⟩
  · refine ⟨g, cap, _, rfl, h2, fun _ => rfl, fun i hi => ?_⟩
    have hf : ∀ j, j < 2 → (L.map cellV).flatten[i * 2 + j]? = (cellV (L.getD i (0, 0)))[j]? := fun j hj => by
      rw [Stk.flat_get (L.map cellV) (cellV_len L) i j (by simpa using hi) hj]
      rw [List.getD_eq_getElem?_getD, List.getElem?_map, List.getElem?_eq_getElem hi, getD_lt2 hi]
      rfl
    have hc : ∀ j, j < 2 → cur[i * 2 + j]? = (cellV (L.getD i (0, 0)))[j]? := fun j hj => by
      rw [← hf j hj, ← h5, List.getElem?_take_of_lt (by omega)]
      simp
    constructor
    · have := hc 0 (by omega)
      simp only [World.cell?, hh, Nat.add_zero] at this ⊢
      exact this
    · have := hc 1 (by omega)
      simp only [World.cell?, hh] at this ⊢
      exact this
/-- The row's block, where it is not empty. -/
theorem RefAt.rowBlock {B : Nat} {W : World} {q g c : Nat} {L : List (Nat × Int)} {n most len : Nat} (h : RefAt B W q (.slice (some ⟨g, 0, none⟩) len c) L n most) (hl : 0 < L.length) : ∃ cur, W.heap[g]? = some (.cells cur 85 (0, 0)) ∧ B ≤ g ∧ cur.size = c * 2 ∧ cur.toList.take (L.length * 2) = (L.map cellV).flatten ∧ L.length ≤ c ∧ len = L.length ∧ c ≤ maxLen := by
  have hr := h.row.row
  rw [List.length_map] at hr
  rcases hr.2 with ⟨h1, h0⟩ | ⟨g', cap, cur, hv, hg, hh, h2, h3, h4, h5⟩
  · omega
  · simp only [Value.slice.injEq, Option.some.injEq, Addr.mk.injEq, and_true] at hv
    obtain ⟨rfl, rfl, rfl⟩ := hv
    exact ⟨cur, hh, hg, h4, h5, h2, rfl, h3⟩
theorem flat_set : ∀ (rs : List (List Value)) (_ : ∀ r ∈ rs, r.length = 2) (i : Nat) (r : List Value) (u : Value) (_ : i < rs.length) (_ : r = (rs.getD i []).set 1 u), rs.flatten.set (i * 2 + 1) u = (rs.set i r).flatten
  | [], _, i, _, _, hi, _ => by simp at hi
  | s :: rs, h, 0, r, u, _, hr => by
    have hs := h s (by simp)
    subst hr
    simp only [List.flatten_cons, List.set_cons_zero, List.getD_cons_zero, Nat.zero_mul, Nat.zero_add]
    rw [List.set_append_left _ _ (by omega)]
  | s :: rs, h, i + 1, r, u, hi, hr => by
    have hs := h s (by simp)
    simp only [List.flatten_cons, List.set_cons_succ]
    rw [List.set_append_right _ _ (by omega), hs, show (i + 1) * 2 + 1 - 2 = i * 2 + 1 by omega, flat_set rs (fun x hx => h x (by simp [hx])) i r u (by simpa using hi) (by simpa using hr)]
/-- The byte of a cell is written. -/
theorem RefAt.store {B : Nat} {W : World} {q g c : Nat} {L : List (Nat × Int)} {n most len i a : Nat} {b : Int} (h : RefAt B W q (.slice (some ⟨g, 0, none⟩) len c) L n most) (hs : Spot L a i) (hi : isAt L a i = true) (hb : 0 ≤ b ∧ b < 256) :
    RefAt B (W.setCell ⟨g, i * 2 + 1, none⟩ (.int .u8 b)) q (.slice (some ⟨g, 0, none⟩) len c) (setL L a i b) n most ∧ Save g W (W.setCell ⟨g, i * 2 + 1, none⟩ (.int .u8 b)) ∧ ∃ cur, W.heap[g]? = some (.cells cur 85 (0, 0)) ∧ B ≤ g := by
  have hi2 : i < L.length ∧ (L.getD i (0, 0)).1 = a := by simpa [isAt] using hi
  obtain ⟨cur, hh, hg, h4, h5, h2, rfl, h3⟩ := h.rowBlock (by omega)
  have hsv : Save g W (W.setCell ⟨g, i * 2 + 1, none⟩ (.int .u8 b)) := Save.setCell (Save.refl g W) (p := ⟨g, i * 2 + 1, none⟩) (.inl rfl) _
  have hne : q ≠ g := fun e => by
    have := h.box
    rw [e, hh] at this
    simp at this
  have hset : setL L a i b = L.set i (a, b) := by unfold setL; rw [if_pos hi]
  refine ⟨⟨(hsv.block q (Array.getElem?_eq_some_iff.1 h.box).1 hne).trans h.box, h.bq, ⟨?_, cellV_len _⟩, setL_rising hs h.rising, ?_, ?_⟩, hsv, cur, hh, hg⟩
  · rw [hset, List.length_map, List.length_set, List.map_set]
    have hfl := flat_set (L.map cellV) (cellV_len L) i (cellV (a, b)) (.int .u8 b) (by simpa using hi2.1) (by
      rw [List.getD_eq_getElem?_getD, List.getElem?_map, List.getElem?_eq_getElem hi2.1]
      have := hi2.2
      rw [getD_lt2 hi2.1] at this
      simp [cellV, this])
    refine ⟨by rw [← hfl, List.length_set, Stk.flat_length (L.map cellV) (cellV_len L), List.length_map], .inr ⟨g, c, cur.setIfInBounds (i * 2 + 1) (.int .u8 b), rfl, hg, heap_setCell_same W g (i * 2 + 1) cur _ _ hh, h2, h3, by simpa using h4, ?_⟩⟩
    rw [Array.toList_setIfInBounds, List.take_set, h5, hfl]
  · rw [hset]
    intro x hx
    rcases List.mem_or_eq_of_mem_set hx with h1 | rfl
    · exact h.ok x h1
    · have := h.ok _ (List.getElem_mem hi2.1)
      have h9 := hi2.2
      rw [getD_lt2 hi2.1] at h9
      exact ⟨by rw [← h9]; exact this.1, hb⟩
  · rw [hset, List.length_set]; exact h.len
end Go.Proofs.YtcgjlbpokmlkbaaDoor.Mem
