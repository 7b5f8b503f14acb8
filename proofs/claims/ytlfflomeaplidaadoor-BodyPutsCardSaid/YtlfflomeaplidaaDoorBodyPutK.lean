/-
  BODY: bytes appended to bytes of one's own: one byte; a number's bytes. Only the row that was handed in may turn.
-/
import Derived.Test.YtlfflomeaplidaaDoorBodyStack
import Derived.Test.YtlfflomeaplidaaDoorAppend
import Derived.Test.YtlfflomeaplidaaDoorLebPutS
namespace Go.Proofs.YtlfflomeaplidaaDoor.Body
open Go.RowKit Go.Proofs.YtlfflomeaplidaaDoor.Instr

/-- From v in world w on: v' holds these bytes, and of what was there only v's own row has turned. -/
structure Grew (B : Nat) (v : Value) (w : World) (v' : Value) (zs : List Int) (w' : World) : Prop where
  own : Own B w' v' zs
  touch : Touch (fun j => v.ownBlock = some j) w w'
  new : ∀ g, v'.ownBlock = some g → v.ownBlock = some g ∨ w.heap.size ≤ g
theorem Grew.refl {B : Nat} {v : Value} {w : World} {zs : List Int} (h : Own B w v zs) : Grew B v w v zs w := ⟨h, .refl _ _, fun _ hg => .inl hg⟩
theorem Grew.pre {B : Nat} {v v' : Value} {w w1 w' : World} {zs : List Int} (hb : Below w.heap.size w w1) (h : Grew B v w1 v' zs w') : Grew B v w v' zs w' :=
  ⟨h.own, (Touch.of_below hb).trans h.touch, fun g hg => (h.new g hg).imp id (fun hl => Nat.le_trans hb.size hl)⟩
theorem Grew.post {B : Nat} {v v' : Value} {w w1 w' : World} {zs : List Int} (h : Grew B v w v' zs w1) (hb : Below w1.heap.size w1 w') : Grew B v w v' zs w' :=
  ⟨h.own.below hb, h.touch.trans (Touch.of_below hb), h.new⟩
theorem Grew.trans {B : Nat} {v v1 v2 : Value} {w w1 w2 : World} {xs zs : List Int} (h : Grew B v w v1 xs w1) (g : Grew B v1 w1 v2 zs w2) : Grew B v w v2 zs w2 := by
  refine ⟨g.own, ⟨g.touch.os.trans h.touch.os, g.touch.tape.trans h.touch.tape, g.touch.output.trans h.touch.output, Nat.le_trans h.touch.size g.touch.size, fun j hj hk => ?_⟩, fun q hq => ?_⟩
  · refine (g.touch.block j (Nat.lt_of_lt_of_le hj h.touch.size) (fun e => ?_)).trans (h.touch.block j hj hk)
    rcases h.new j e with e | e
    · exact hk e
    · omega
  · rcases g.new q hq with e | e
    · exact h.new q e
    · exact .inr (Nat.le_trans h.touch.size e)
theorem Grew.below {B : Nat} {v v' : Value} {w w' : World} {xs zs : List Int} (h : Grew B v w v' zs w') (hv : Own B w v xs) (hB : B ≤ w.heap.size) : Below B w w' := h.touch.below hB (fun j hj => (World.ownsRow.lt hv j hj).1)
theorem Grew.at_ {B X : Nat} {v v' : Value} {w w' : World} {zs : List Int} {x : Ix} (h : Grew B v w v' zs w') (ha : At x X w) (hv : v.ownBlock ≠ some X) : At x X w' :=
  ⟨h.touch.cell hv ha.c0, h.touch.cell hv ha.c1, h.touch.cell hv ha.c2, h.touch.cell hv ha.c3, h.touch.cell hv ha.c4, h.touch.cell hv ha.c5, h.touch.cell hv ha.c6, h.touch.cell hv ha.c7⟩
/-- A call that hands back bytes, grown from v. -/
def PutsTo (B : Nat) (v : Value) (w : World) (zs : List Int) (e : Ending) (w' : World) : Prop := ∃ v', e = .returned v' ∧ Grew B v w v' zs w'

section
variable {ops : Array Oper} {rest : List Oper} {o : Oper} {act : Act} {Q : Exit → Act → World → Prop}
theorem put_byte (hgd : o.guard = none) (s x : Operand) (ho : o.op = .call { callee := .builtin .append, args := #[s, x], argTypes := #[27, 27] })
    {B : Nat} {w0 wr : World} {v0 v : Value} {xs : List Int} (z : Int) (hs : act.eval s = v) (hG : Grew B v0 w0 v xs wr) (hB : B ≤ w0.heap.size)
    (hx : act.eval x = .slice (some ⟨wr.heap.size, 0, none⟩) 1 1) (hl : xs.length ≤ 140737488351232)
    (h : ∀ v' w', Grew B v0 w0 v' (xs ++ [z]) w' → wpList Tryd.prog ops Q rest (act.put o.dst v') w') :
    wpList Tryd.prog ops Q (o :: rest) act (wr.alloc (.cells #[.int .u8 z] 5)) := by
  obtain ⟨i0, hi, hz0, hz1, hz2⟩ := info_parts infoByte
  have hBr : B ≤ wr.heap.size := Nat.le_trans hB hG.touch.size
  refine wpList_append_lies _ hgd s x 27 ho B 5 i0 (.int .u8 0) 1 1 Tryd.underlying27 hi hz0 hz1 hz2 rfl (by decide) v xs.length _ hs (World.ownsRow.alloc hG.own _) ⟨wr.heap.size, 0, none⟩ 1 1 [.int .u8 z] hx rfl
    ?_ ?_ (by decide) ?_ ?_ ?_ _ rfl (fun g cap w' hown' hgrow hat _ => h _ w' (hG.trans ⟨Own.of_snoc rfl hown', (Touch.refl _ wr).alloc _ |>.trans (Touch.of_grown hgrow), ?_⟩))
  · intro j u hj
    match j, hj with
    | 0, hj => simp at hj; subst hj; simp [Addr.add]
  · intro u hu; simp at hu; subst hu; rfl
  · unfold maxLen; omega
  · omega
  · simp; omega
  · intro q hq
    simp only [Value.ownBlock, Option.some.injEq] at hq
    rw [← hq]
    rcases hat with e | e
    · exact .inl e
    · exact .inr (by simp only [World.size_alloc] at e; omega)
theorem put_bytes (hgd : o.guard = none) (s x : Operand) (ho : o.op = .call { callee := .builtin .append, args := #[s, x], argTypes := #[27, 27] })
    {B : Nat} {w0 wr : World} {v0 v : Value} {xs ys : List Int} {a : Option Addr} {n c : Nat} (hs : act.eval s = v) (hG : Grew B v0 w0 v xs wr) (hB : B ≤ w0.heap.size)
    (hx : act.eval x = .slice a n c) (hn : ys.length = n) (hy : Bytes wr a ys) (hne : ys ≠ []) (hl : xs.length + ys.length ≤ 140737488351232)
    (h : ∀ v' w', Grew B v0 w0 v' (xs ++ ys) w' → wpList Tryd.prog ops Q rest (act.put o.dst v') w') :
    wpList Tryd.prog ops Q (o :: rest) act wr := by
  obtain ⟨i0, hi, hz0, hz1, hz2⟩ := info_parts infoByte
  have hBr : B ≤ wr.heap.size := Nat.le_trans hB hG.touch.size
  subst hn
  obtain ⟨b, off, rfl, hc⟩ := hy.at (List.length_pos_iff.2 hne)
  refine wpList_append_lies _ hgd s x 27 ho B 5 i0 (.int .u8 0) 1 1 Tryd.underlying27 hi hz0 hz1 hz2 rfl (by decide) v xs.length _ hs hG.own ⟨b, off, none⟩ ys.length c (ys.map (Value.int .u8)) hx (by simp)
    ?_ ?_ (List.length_pos_iff.2 hne) ?_ ?_ hBr _ rfl (fun g cap w' hown' hgrow hat _ => h _ w' (hG.trans ⟨?_, Touch.of_grown hgrow, ?_⟩))
  · intro j u hj
    have hjl : j < ys.length := by
      rcases Nat.lt_or_ge j ys.length with h | h
      · exact h
      · rw [List.getElem?_eq_none (by simpa using h)] at hj; cases hj
    have hplain : (⟨b, off, none⟩ : Addr).add j = ⟨b, off + j, none⟩ := by unfold Addr.add; split <;> simp_all
    rw [hplain, hc j hjl]
    rw [← hj, getD_lt hjl]; simp [hjl]
  · intro u hu
    obtain ⟨n, _, rfl⟩ := List.mem_map.1 hu
    rfl
  · unfold maxLen; omega
  · omega
  · unfold Own; rw [List.length_append, List.map_append]; exact hown'
  · intro q hq
    simp only [Value.ownBlock, Option.some.injEq] at hq
    rw [← hq]
    rcases hat with e | e
    · exact .inl e
    · exact .inr (by omega)
end
section
variable {ops : Array Oper} {o : Oper} {act : Act} {K : Act → World → Prop} {Q : Exit → Act → World → Prop} {E : Prop}
theorem step_put_byte (hgd : o.guard = none) (s x : Operand) (ho : o.op = .call { callee := .builtin .append, args := #[s, x], argTypes := #[27, 27] })
    {B g : Nat} {w0 wr : World} {v0 v : Value} {xs : List Int} (z : Int) (hs : act.eval s = v) (hG : Grew B v0 w0 v xs wr) (hB : B ≤ w0.heap.size)
    (hx : act.eval x = .slice (some ⟨g, 0, none⟩) 1 1) (hc : wr.cell? ⟨g, 0, none⟩ = some (.int .u8 z)) (hl : xs.length ≤ 140737488351232)
    (h : ∀ v' w', Grew B v0 w0 v' (xs ++ [z]) w' → K (act.put o.dst v') w') :
    if Region.wanted o (yielded ops act.tmps) = true then Oper.wp Tryd.prog o act wr K Q else E := by
  obtain ⟨i0, hi, hz0, hz1, hz2⟩ := info_parts infoByte
  have hBr : B ≤ wr.heap.size := Nat.le_trans hB hG.touch.size
  refine step_append_lies wr hgd s x 27 ho B 5 i0 (.int .u8 0) 1 1 Tryd.underlying27 hi hz0 hz1 hz2 rfl (by decide) v xs.length _ hs hG.own ⟨g, 0, none⟩ 1 1 [.int .u8 z] hx rfl
    ?_ ?_ (by decide) ?_ ?_ hBr _ rfl (fun g' cap w' hown' hgrow hat _ => h _ w' (hG.trans ⟨Own.of_snoc rfl hown', Touch.of_grown hgrow, ?_⟩))
  · intro j u hj
    match j, hj with
    | 0, hj => simp at hj; subst hj; rw [plain_add]; exact hc
  · intro u hu; simp at hu; subst hu; rfl
  · unfold maxLen; omega
  · omega
  · intro q hq
    simp only [Value.ownBlock, Option.some.injEq] at hq
    rw [← hq]
    rcases hat with e | e
    · exact .inl e
    · exact .inr (by omega)
end
/-- What a call gave of bytes, as what is appended. -/
theorem gives_put {w w' : World} {zs : List Int} {e : Ending} (h : Gives w zs e w') (hz : ∀ z ∈ zs, 0 ≤ z ∧ z < 256) (hn : zs.length ≤ 140737488351232) : ∃ a c, e = .returned (.slice a zs.length c) ∧ Bytes w' a zs ∧ Below w.heap.size w w' := by
  obtain ⟨v, rfl, ho, hb⟩ := h
  obtain ⟨a, c, rfl⟩ := ho.slice
  exact ⟨a, c, rfl, ho.bytes hz hn, hb⟩
theorem putResults_any (r : Int) (w : World) : Calls Tryd.prog 97 #[.int .i64 r] w fun e w' => e = .returned (.int .u8 (if r = 0 then 64 else 127)) ∧ w = w' := by
  by_cases h : r = 0
  · subst h
    rw [if_pos rfl]
    go_enter Tryd.func97, Tryd.ntmps97
    go_wp2
    go_ret
    exact ⟨rfl, rfl⟩
  · rw [if_neg h]
    go_enter Tryd.func97, Tryd.ntmps97
    go_wp2
    go_ret
    exact ⟨rfl, rfl⟩
end Go.Proofs.YtlfflomeaplidaaDoor.Body
