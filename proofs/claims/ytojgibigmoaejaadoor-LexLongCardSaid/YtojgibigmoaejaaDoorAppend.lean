/-
  Appends to a list of bytes that the call itself made: one byte; whatever bytes another slice holds.
-/
import Derived.Test.YtojgibigmoaejaaDoorBase2
import Derived.Laws.AppendOwnNone
namespace Go.Proofs.YtojgibigmoaejaaDoor
open Go.RowKit

section
variable {ops : Array Oper} {rest : List Oper} {o : Oper} {act : Act} {Q : Exit → Act → World → Prop}

theorem append_byte (hgd : o.guard = none) (s x : Operand) (ho : o.op = .call { callee := .builtin .append, args := #[s, x], argTypes := #[43, 43] })
    {base : Nat} {w0 wr : World} {v : Value} {xs : List Int} (z : Int) (hs : act.eval s = v) (hown : Own base wr v xs) (hb : Below base w0 wr) (hbase : base ≤ wr.heap.size)
    (hx : act.eval x = .slice (some ⟨wr.heap.size, 0, none⟩) 1 1) (hl : xs.length ≤ 140737488351232)
    (h : ∀ v' w', Own base w' v' (xs ++ [z]) → Below base w0 w' → base ≤ w'.heap.size → wpList Tryd.prog ops Q rest (act.put o.dst v') w') :
    wpList Tryd.prog ops Q (o :: rest) act (wr.alloc (.cells #[.int .u8 z] 5)) := by
  obtain ⟨i0, hi, hz0, hz1, hz2⟩ := info_parts infoByte
  refine wpList_append_own _ hgd s x 43 ho base 5 i0 (.int .u8 0) 1 1 Tryd.underlying43 hi hz0 hz1 hz2 rfl (by decide) v xs.length _ hs (World.ownsRow.alloc hown _) ⟨wr.heap.size, 0, none⟩ 1 1 [.int .u8 z] hx rfl
    ?_ ?_ ?_ ?_ ?_ (fun v' w' hown' hgrow _ => ?_)
  · intro j u hj
    match j, hj with
    | 0, hj => simp at hj; subst hj; simp [Addr.add]
  · intro u hu; simp at hu; subst hu; rfl
  · unfold maxLen; omega
  · omega
  · simp; omega
  · have hb' := below_append hown hb _ hbase hgrow
    refine h v' w' (Own.of_snoc rfl hown') hb' ?_
    have := hgrow.size; simp at this; omega

theorem append_bytes (hgd : o.guard = none) (s x : Operand) (ho : o.op = .call { callee := .builtin .append, args := #[s, x], argTypes := #[43, 43] })
    {base : Nat} {w0 wr : World} {v : Value} {xs ys : List Int} (hs : act.eval s = v) (hown : Own base wr v xs) (hb : Below base w0 wr) (hbase : base ≤ wr.heap.size)
    (a2 : Option Addr) (n c : Nat) (hx : act.eval x = .slice a2 n c) (hnil : a2 = none → c = 0) (hn : ys.length = n) (hy : Bytes wr a2 ys) (hl : xs.length + ys.length ≤ 140737488355328)
    (h : ∀ v' w', Own base w' v' (xs ++ ys) → Below base w0 w' → base ≤ w'.heap.size → wpList Tryd.prog ops Q rest (act.put o.dst v') w') :
    wpList Tryd.prog ops Q (o :: rest) act wr := by
  obtain ⟨i0, hi, hz0, hz1, hz2⟩ := info_parts infoByte
  subst hn
  have fin : ∀ v' w', w'.ownsRow base 5 1 v' (xs.length + ys.length) (xs.map (Value.int .u8) ++ ys.map (Value.int .u8)) → wr.grownBy w' v.ownBlock → wpList Tryd.prog ops Q rest (act.put o.dst v') w' := by
    intro v' w' hown' hgrow
    refine h v' w' ?_ (hb.grown hgrow (by omega) (fun k hk => (World.ownsRow.lt hown k hk).1)) (by have := hgrow.size; omega)
    unfold Own; rw [List.length_append, List.map_append]; exact hown'
  rcases hy.at_ with h0 | ⟨b, off, rfl, hc⟩
  · subst h0
    cases a2 with
    | none =>
      rw [hnil rfl] at hx
      exact wpList_append_own_none hgd s x 43 ho base 5 i0 1 Tryd.underlying43 hi v xs.length _ hs hown hx (h v wr (by simpa using hown) hb hbase)
    | some ad =>
      refine wpList_append_own _ hgd s x 43 ho base 5 i0 (.int .u8 0) 1 1 Tryd.underlying43 hi hz0 hz1 hz2 rfl (by decide) v xs.length _ hs hown ad 0 c [] hx rfl
        (by simp) (by simp) ?_ ?_ hbase (fun v' w' hown' hgrow _ => fin v' w' (by simpa using hown') hgrow)
      · unfold maxLen; simp at hl; omega
      · simp at hl; omega
  · refine wpList_append_own _ hgd s x 43 ho base 5 i0 (.int .u8 0) 1 1 Tryd.underlying43 hi hz0 hz1 hz2 rfl (by decide) v xs.length _ hs hown ⟨b, off, none⟩ ys.length c (ys.map (Value.int .u8)) hx (by simp)
      ?_ ?_ ?_ ?_ hbase (fun v' w' hown' hgrow _ => fin v' w' hown' hgrow)
    · intro j u hj
      have hjl : j < ys.length := by
        rcases Nat.lt_or_ge j ys.length with h | h
        · exact h
        · rw [List.getElem?_eq_none (by simpa using h)] at hj; cases hj
      have hplain : (⟨b, off, none⟩ : Addr).add j = ⟨b, off + j, none⟩ := by unfold Addr.add; split <;> simp_all
      rw [hplain, hc j hjl]
      rw [← hj, getD_lt hjl]; simp [hjl]
    · intro u hu
      obtain ⟨n, _, rfl⟩ := List.mem_map.1 hu
      rfl
    · unfold maxLen; omega
    · omega
end
end Go.Proofs.YtojgibigmoaejaaDoor
