/-
  STACK: a frame of an own row turned cell by cell; a row without its last frame; one more.
-/
import Derived.Test.YtnfpfagojeieeaaStkPush
namespace Go.Proofs.Ytnfpfagojeieeaa.Stk
open Go.RowKit
set_option linter.unusedVariables false

theorem flat_set {u : Value} {q : Nat} {f' : Fr} (hq : q < 4) : ∀ (l : List Fr) (k : Nat) (hk : k < l.length), (l[k].v).set q u = f'.v → ((l.map Fr.v).flatten).set (k * 4 + q) u = ((l.set k f').map Fr.v).flatten
  | [], k, hk, _ => by simp at hk
  | f :: l, 0, _, h => by
    simp only [List.getElem_cons_zero] at h
    simp only [List.map_cons, List.flatten_cons, List.set_cons_zero, Nat.zero_mul, Nat.zero_add]
    rw [List.set_append_left _ _ (by rw [four]; exact hq), h]
  | f :: l, k + 1, hk, h => by
    simp only [List.getElem_cons_succ] at h
    have hk' : k < l.length := by simpa using hk
    have e : (k + 1) * 4 + q = f.v.length + (k * 4 + q) := by rw [four]; omega
    simp only [List.map_cons, List.flatten_cons, List.set_cons_succ]
    rw [e, List.set_append_right _ _ (by omega), Nat.add_sub_cancel_left, flat_set hq l k hk' h]
theorem flat_take : ∀ (l : List Fr) (m : Nat), ((l.map Fr.v).flatten).take (m * 4) = ((l.take m).map Fr.v).flatten
  | [], m => by simp
  | f :: l, 0 => by simp
  | f :: l, m + 1 => by
    simp only [List.map_cons, List.flatten_cons, List.take_succ_cons]
    rw [List.take_append, four, List.take_of_length_le (by rw [four]; omega), show (m + 1) * 4 - 4 = m * 4 by omega, flat_take l m]
theorem flat_len4 (l : List Fr) : ((l.map Fr.v).flatten).length = l.length * 4 := by rw [flat_length _ (fours l), List.length_map]
/-- One cell of a frame is turned. -/
theorem OwnF.store {base : Nat} {w : World} {g n c : Nat} {l : List Fr} (h : OwnF base w (.slice (some ⟨g, 0, none⟩) n c) l) (hn : l.length = n) {k q : Nat} {u : Value} {f' : Fr} (hk : k < l.length) (hq : q < 4) (hf : (l[k].v).set q u = f'.v) :
    OwnF base (w.setCell ⟨g, k * 4 + q, none⟩ u) (.slice (some ⟨g, 0, none⟩) n c) (l.set k f') := by
  subst hn
  have h1 := h.row
  rw [List.length_map] at h1
  have h2 := (World.ownsRow.stored h1 (k * 4 + q) u).1
  rw [flat_set hq l k hk hf] at h2
  exact ⟨by rw [List.length_map, List.length_set]; exact h2, fours _⟩
theorem OwnF.take {base : Nat} {w : World} {g m c : Nat} {l : List Fr} (h : OwnF base w (.slice (some ⟨g, 0, none⟩) (m + 1) c) l) (hn : l.length = m + 1) : OwnF base w (.slice (some ⟨g, 0, none⟩) m c) (l.take m) := by
  have hl : (l.take m).length = m := by rw [List.length_take]; omega
  refine ⟨?_, fours _⟩
  rw [List.length_map, hl]
  refine ⟨by rw [flat_len4, hl], ?_⟩
  rcases h.row.2 with ⟨h1, _⟩ | ⟨g', cap, cur, hv, hg, hh, hc, hm, hs, ht⟩
  · simp at h1
  · rw [List.length_map, hn] at hv hc ht
    simp only [Value.slice.injEq] at hv
    obtain ⟨h3, _, h4⟩ := hv
    refine .inr ⟨g', cap, cur, by simp only [Value.slice.injEq]; exact ⟨h3, trivial, h4⟩, hg, hh, by omega, hm, hs, ?_⟩
    rw [← flat_take, ← ht, List.take_take]
    congr 1
    omega
theorem OwnF.frozen {base : Nat} {w : World} {g n c : Nat} {l : List Fr} (h : OwnF base w (.slice (some ⟨g, 0, none⟩) n c) l) (hn : l.length = n) (j : Nat) : w.frozen? ⟨g, j, none⟩ = false := by
  subst hn
  have h1 := h.row
  rw [List.length_map] at h1
  exact World.ownsRow.frozenAt h1 j
theorem OwnF.cells {base : Nat} {w : World} {g n c : Nat} {l : List Fr} (h : OwnF base w (.slice (some ⟨g, 0, none⟩) n c) l) (hn : l.length = n) {k : Nat} (hk : k < l.length) :
    w.cell? ⟨g, k * 4, none⟩ = some (.int .i64 l[k].op) ∧ w.cell? ⟨g, k * 4 + 1, none⟩ = some (.int .i64 l[k].ba) ∧ w.cell? ⟨g, k * 4 + 2, none⟩ = some (.int .i64 l[k].re) ∧ w.cell? ⟨g, k * 4 + 3, none⟩ = some (.bool l[k].de) := by
  subst hn
  have h1 := h.row
  rw [List.length_map] at h1
  have key : ∀ j, j < 4 → ∀ v, (l[k].v)[j]? = some v → w.cell? ⟨g, k * 4 + j, none⟩ = some v := by
    intro j hj v hv
    rw [World.ownsRow.cellAt h1 (k * 4 + j) (by omega), flat_get _ (fours l) k j (by simpa using hk) hj]
    rw [List.getD_eq_getElem?_getD, List.getElem?_map, List.getElem?_eq_getElem hk]
    exact hv
  exact ⟨key 0 (by omega) _ rfl, key 1 (by omega) _ rfl, key 2 (by omega) _ rfl, key 3 (by omega) _ rfl⟩
theorem OwnF.cap {base : Nat} {w : World} {g n c : Nat} {l : List Fr} (h : OwnF base w (.slice (some ⟨g, 0, none⟩) n c) l) (hn : l.length = n) : n ≤ c := by
  subst hn
  rcases h.row.2 with ⟨h1, _⟩ | ⟨g', cap, cur, hv, _, _, hc, _⟩
  · simp at h1
  · rw [List.length_map] at hv hc
    simp only [Value.slice.injEq] at hv
    omega
theorem lastF_at {l : List Fr} {m : Nat} (hl : l.length = m + 1) : l[m]'(by omega) = lastF l := by
  unfold lastF
  rw [List.getD_eq_getElem?_getD, List.getElem?_eq_getElem (by omega)]
  simp [hl]
end Go.Proofs.Ytnfpfagojeieeaa.Stk
