import Derived.Test.YtepbjkkakfpjgaaGreatDoorBun10
import Derived.Test.YtepbjkkakfpjgaaGreatDoorBun04
import Derived.Test.YtepbjkkakfpjgaaGreatDoorBun06
import Derived.Test.YtepbjkkakfpjgaaGreatDoorBun02
import Derived.Test.YtepbjkkakfpjgaaGreatDoorBun09
import Derived.Test.YtepbjkkakfpjgaaGreatDoorBun01
import Derived.Deep.RegionHeld3
import Derived.Deep.RegionHeldLaw
import Derived.ChangeArms
import Derived.Lib.SmallJoins
import Derived.Deep.Strs
import Derived.RegionTactic
import Derived.BigRegion
import Derived.BigQuiet
/-
  ENCODE: bytes that append to themselves: a row whose slice lies in the first cell of block g; nothing else of what was there turns.
-/
namespace Go.Proofs.YtepbjkkakfpjgaaGreatDoor.Enc
open Go.RowKit
open Go.Proofs.YtepbjkkakfpjgaaGreatDoor.Body (Grew)

/-- From world w0, in which cell g held v0, on: it holds v, whose row holds these bytes. -/
structure Buf (g B : Nat) (v0 : Value) (w0 : World) (v : Value) (zs : List Int) (w : World) : Prop where
  c : w.cell? ⟨g, 0, none⟩ = some v
  f : w.frozen? ⟨g, 0, none⟩ = false
  own : Own B w v zs
  touch : Touch (fun j => j = g ∨ v0.ownBlock = some j) w0 w
  rest : ∀ j, j ≠ 0 → w.cell? ⟨g, j, none⟩ = w0.cell? ⟨g, j, none⟩
  new : ∀ q, v.ownBlock = some q → v0.ownBlock = some q ∨ w0.heap.size ≤ q
  sep : v.ownBlock ≠ some g
  low : g ≤ B + 1
  lowB : B ≤ w0.heap.size
  gl : g < w0.heap.size
theorem Buf.start {g B : Nat} {v : Value} {zs : List Int} {w : World} (c : w.cell? ⟨g, 0, none⟩ = some v) (f : w.frozen? ⟨g, 0, none⟩ = false) (own : Own B w v zs) (sep : v.ownBlock ≠ some g) (low : g ≤ B + 1) (lowB : B ≤ w.heap.size) : Buf g B v w v zs w :=
  ⟨c, f, own, .refl _ _, fun _ _ => rfl, fun _ h => .inl h, sep, low, lowB, World.block_lt_of_cell? w _ c⟩
theorem Buf.again {g B : Nat} {v0 v : Value} {zs : List Int} {w0 w : World} (h : Buf g B v0 w0 v zs w) : Buf g B v w v zs w := .start h.c h.f h.own h.sep h.low (Nat.le_trans h.lowB h.touch.size)
theorem Buf.lt {g B : Nat} {v0 v : Value} {zs : List Int} {w0 w : World} (h : Buf g B v0 w0 v zs w) : g < w.heap.size := World.block_lt_of_cell? w _ h.c
theorem Buf.ne {g B : Nat} {v0 v : Value} {zs : List Int} {w0 w : World} (h : Buf g B v0 w0 v zs w) : ¬ v.ownBlock = some g := h.sep
theorem Buf.trans {g B : Nat} {v0 v1 v2 : Value} {xs zs : List Int} {w0 w1 w2 : World} (h : Buf g B v0 w0 v1 xs w1) (k : Buf g B v1 w1 v2 zs w2) : Buf g B v0 w0 v2 zs w2 := by
  refine ⟨k.c, k.f, k.own, ⟨k.touch.os.trans h.touch.os, k.touch.tape.trans h.touch.tape, k.touch.output.trans h.touch.output, Nat.le_trans h.touch.size k.touch.size, fun j hj hk => ?_⟩, fun j hj => (k.rest j hj).trans (h.rest j hj), fun q hq => ?_, k.sep, h.low, h.lowB, h.gl⟩
  · refine (k.touch.block j (Nat.lt_of_lt_of_le hj h.touch.size) (fun e => ?_)).trans (h.touch.block j hj hk)
    rcases e with e | e
    · exact hk (.inl e)
    · rcases h.new j e with e | e
      · exact hk (.inr e)
      · omega
  · rcases k.new q hq with e | e
    · exact h.new q e
    · exact .inr (Nat.le_trans h.touch.size e)
theorem Buf.on {g B : Nat} {v0 v : Value} {zs : List Int} {w0 w w' : World} (h : Buf g B v0 w0 v zs w) (hb : Below w.heap.size w w') : Buf g B v0 w0 v zs w' := by
  refine ⟨keep hb h.c, (hb.frozen (p := ⟨g, 0, none⟩) h.lt).trans h.f, h.own.below hb, h.touch.trans (Touch.of_below hb), fun j hj => ?_, h.new, h.sep, h.low, h.lowB, h.gl⟩
  exact (hb.cell (p := ⟨g, j, none⟩) h.lt).trans (h.rest j hj)
/-- Bytes are appended, and the slice is stored. -/
theorem Buf.put {g B : Nat} {v0 v v' : Value} {xs zs : List Int} {w0 w w' : World} (h : Buf g B v0 w0 v xs w) (k : Grew B v w v' zs w') : Buf g B v0 w0 v' zs (w'.setCell ⟨g, 0, none⟩ v') := by
  have hg : g < w'.heap.size := Nat.lt_of_lt_of_le h.lt k.touch.size
  have hsep : v'.ownBlock ≠ some g := fun e => by
    rcases k.new _ e with e | e
    · exact h.sep e
    · have := h.lt; omega
  have hcell : ∀ j, w'.cell? ⟨g, j, none⟩ = w.cell? ⟨g, j, none⟩ := fun j => World.cell?_of_block (k.touch.block g h.lt h.ne)
  have hfr : w'.frozen? ⟨g, 0, none⟩ = false := (World.frozen?_of_block (w := w) (k.touch.block g h.lt h.ne)).trans h.f
  have t1 : Touch (fun j => j = g ∨ v.ownBlock = some j) w (w'.setCell ⟨g, 0, none⟩ v') := (k.touch.mono (fun j hj => .inr hj)).setCell (.inl (.inl rfl)) v'
  refine ⟨World.cell?_setCell_same' _ _ _ (by rw [hcell 0, h.c]; rfl), by rw [World.frozen?_setCell]; exact hfr, touch_row k.own ((Touch.refl (fun j => j = g) w').setCell (.inl rfl) v') (fun q hq e => hsep (by rw [hq, e])), ⟨t1.os.trans h.touch.os, t1.tape.trans h.touch.tape, t1.output.trans h.touch.output, Nat.le_trans h.touch.size t1.size, fun j hj hk => ?_⟩, fun j hj => ?_, fun q hq => ?_, hsep, h.low, h.lowB, h.gl⟩
  · refine (t1.block j (Nat.lt_of_lt_of_le hj h.touch.size) (fun e => ?_)).trans (h.touch.block j hj hk)
    rcases e with e | e
    · exact hk (.inl e)
    · rcases h.new j e with e | e
      · exact hk (.inr e)
      · omega
  · refine Eq.trans ?_ ((hcell j).trans (h.rest j hj))
    exact World.cell?_setCell_other _ _ _ _ (by intro e; simp only [Addr.mk.injEq, true_and, and_true] at e; exact hj e.symm)
  · rcases k.new q hq with e | e
    · exact h.new q e
    · exact .inr (Nat.le_trans h.touch.size e)
theorem Buf.old {g B : Nat} {v0 v v' : Value} {xs zs : List Int} {w0 w w' : World} (h : Buf g B v0 w0 v xs w) (k : Grew B v w v' zs w') : w'.cell? ⟨g, 0, none⟩ = some v ∧ w'.frozen? ⟨g, 0, none⟩ = false :=
  ⟨(World.cell?_of_block (k.touch.block g h.lt h.ne)).trans h.c, (World.frozen?_of_block (w := w) (k.touch.block g h.lt h.ne)).trans h.f⟩
/-- What lies below, but for the row, is as it was. -/
theorem Buf.below {g B n : Nat} {v0 v : Value} {zs : List Int} {w0 w : World} (h : Buf g B v0 w0 v zs w) (hg : n ≤ g) (hv : ∀ q, v0.ownBlock = some q → n ≤ q) : Below n w0 w :=
  h.touch.below (Nat.le_trans hg (Nat.le_of_lt h.gl)) (fun j hj => by rcases hj with rfl | hj; exact hg; exact hv j hj)
/-- A method that appends these bytes to the bytes in cell g. -/
def Puts (g B : Nat) (v : Value) (w : World) (zs : List Int) (e : Ending) (w' : World) : Prop := e = .returned (.tuple #[]) ∧ ∃ v', Buf g B v w v' zs w'
end Go.Proofs.YtepbjkkakfpjgaaGreatDoor.Enc

/-
  ENCODE: appends to a type of bytes of its own: of a byte, of bytes of any slice; the methods byte, number, put, sized, by contract.
-/
namespace Go.Proofs.YtepbjkkakfpjgaaGreatDoor.Enc
open Go.RowKit Go.Proofs.YtepbjkkakfpjgaaGreatDoor.Leb
open Go.Proofs.YtepbjkkakfpjgaaGreatDoor.Body (Grew)

theorem run_append_two (t t2 ty e e2 : TypeId) (ht : Tryz.prog.underlying t = some (.slice e)) (ht2 : Tryz.prog.underlying t2 = some (.slice e2)) (s x : Value) (w : World) :
    (Builtin.append_ #[t, t2] ty #[s, x]).run Tryz.prog w = (Builtin.append_ #[t, t] ty #[s, x]).run Tryz.prog w := by
  cases s <;> simp [Builtin.append_, run_underlying ht, run_underlying ht2, sizeOf, typeInfo]
/-- An append of bytes as the program runs it. -/
theorem run_puts (t2 e2 ty : TypeId) (ht2 : Tryz.prog.underlying t2 = some (.slice e2)) {B : Nat} {wr : World} {v : Value} {xs ys : List Int} (hown : Own B wr v xs) (hB : B ≤ wr.heap.size)
    (a : Option Addr) (n c : Nat) (hn : ys.length = n) (hy : Bytes wr a ys) (hl : xs.length + ys.length ≤ 140737488351232) :
    ∃ v' w', (Builtin.append_ #[76, t2] ty #[v, .slice a n c]).run Tryz.prog wr = .ok v' w' ∧ Grew B v wr v' (xs ++ ys) w' := by
  obtain ⟨i0, hi, hz0, hz1, hz2⟩ := info_parts infoByte
  subst hn
  rw [run_append_two _ t2 _ _ e2 Tryz.underlying76 ht2]
  have fin : ∀ (v' : Value) (w' : World), w'.ownsRow B 5 1 v' (xs.length + ys.length) (xs.map (Value.int .u8) ++ ys.map (Value.int .u8)) → wr.grownBy w' v.ownBlock → (v'.ownBlock = v.ownBlock ∨ v'.ownBlock = some wr.heap.size) → Grew B v wr v' (xs ++ ys) w' := by
    intro v' w' h1 h2 h3
    refine ⟨by unfold Own; rw [List.length_append, List.map_append]; exact h1, Touch.of_grown h2, fun g hg => ?_⟩
    rcases h3 with h3 | h3
    · exact .inl (by rw [← h3]; exact hg)
    · rw [h3, Option.some.injEq] at hg; exact .inr (by omega)
  cases a with
  | none =>
    have h0 : ys = [] := by
      rcases hy.at_ with h | ⟨b, off, h, _⟩
      · exact h
      · cases h
    subst h0
    refine ⟨v, wr, ?_, by rw [List.append_nil]; exact Grew.refl hown⟩
    rcases hown.2 with ⟨rfl, h0⟩ | ⟨g, cap, cur, rfl, _, _, hnc, _⟩
    · simp [Builtin.append_, run_underlying Tryz.underlying76, sizeOf, typeInfo, hi, Builtin.lenOf, Builtin.firstCells]
    · simp [Builtin.append_, run_underlying Tryz.underlying76, sizeOf, typeInfo, hi, Builtin.lenOf, Builtin.firstCells, hnc, storeCells]
  | some ad =>
    have hnews : ∀ (j : Nat) (u : Value), (ys.map (Value.int .u8))[j]? = some u → wr.cell? (ad.add j) = some u := by
      intro j u hj
      have hjl : j < ys.length := by
        rcases Nat.lt_or_ge j ys.length with h | h
        · exact h
        · rw [List.getElem?_eq_none (by simpa using h)] at hj; cases hj
      rcases hy.at_ with h | ⟨b, off, h, hc⟩
      · subst h; exact absurd hjl (by simp)
      · obtain rfl := Option.some.inj h
        have hplain : (⟨b, off, none⟩ : Addr).add j = ⟨b, off + j, none⟩ := by unfold Addr.add; split <;> simp_all
        rw [hplain, hc j hjl]
        rw [← hj, getD_lt hjl]; simp [hjl]
    obtain ⟨v', w', hr, h2, h3, _, h5⟩ := run_append_own_at (P := Tryz.prog) wr B 76 ty 5 i0 (.int .u8 0) 1 1 Tryz.underlying76 hi hz0 hz1 hz2 rfl (by decide) v xs.length _ hown ad ys.length c (ys.map (Value.int .u8)) (by simp)
      hnews (fun u hu => by obtain ⟨n, _, rfl⟩ := List.mem_map.1 hu; rfl) (by unfold maxLen; omega) (by omega) hB
    exact ⟨v', w', hr, fin v' w' h2 h3 h5⟩
section
variable {ops : Array Oper} {rest : List Oper} {o : Oper} {act : Act} {Q : Exit → Act → World → Prop}
theorem puts_wp (t2 e2 : TypeId) (ht2 : Tryz.prog.underlying t2 = some (.slice e2)) (hgd : o.guard = none) (s x : Operand) (ho : o.op = .call { callee := .builtin .append, args := #[s, x], argTypes := #[76, t2] })
    {B : Nat} {wr : World} {v : Value} {xs ys : List Int} (hs : act.eval s = v) (hown : Own B wr v xs) (hB : B ≤ wr.heap.size)
    (a : Option Addr) (n c : Nat) (hx : act.eval x = .slice a n c) (hn : ys.length = n) (hy : Bytes wr a ys) (hl : xs.length + ys.length ≤ 140737488351232)
    (h : ∀ v' w', Grew B v wr v' (xs ++ ys) w' → wpList Tryz.prog ops Q rest (act.put o.dst v') w') :
    wpList Tryz.prog ops Q (o :: rest) act wr := by
  refine wpList_plain hgd fun K hK => ?_
  obtain ⟨v', w', hr, hg⟩ := run_puts t2 e2 o.type ht2 hown hB a n c hn hy hl
  unfold Oper.wp
  simp [execOp, ho, resolve, invoke, builtin, hs, hx, hr, Result.andThen]
  exact hK _ _ (h v' w' hg)
end
section
variable {ops : Array Oper} {o : Oper} {act : Act} {K : Act → World → Prop} {Q : Exit → Act → World → Prop} {E : Prop}
theorem puts_step (t2 e2 : TypeId) (ht2 : Tryz.prog.underlying t2 = some (.slice e2)) (hgd : o.guard = none) (s x : Operand) (ho : o.op = .call { callee := .builtin .append, args := #[s, x], argTypes := #[76, t2] })
    {B : Nat} {wr : World} {v : Value} {xs ys : List Int} (hs : act.eval s = v) (hown : Own B wr v xs) (hB : B ≤ wr.heap.size)
    (a : Option Addr) (n c : Nat) (hx : act.eval x = .slice a n c) (hn : ys.length = n) (hy : Bytes wr a ys) (hl : xs.length + ys.length ≤ 140737488351232)
    (h : ∀ v' w', Grew B v wr v' (xs ++ ys) w' → K (act.put o.dst v') w') :
    if Region.wanted o (yielded ops act.tmps) = true then Oper.wp Tryz.prog o act wr K Q else E := by
  have hw : Region.wanted o (yielded ops act.tmps) = true := by simp [Region.wanted, hgd]
  rw [if_pos hw]
  obtain ⟨v', w', hr, hg⟩ := run_puts t2 e2 o.type ht2 hown hB a n c hn hy hl
  unfold Oper.wp
  simp [execOp, ho, resolve, invoke, builtin, hs, hx, hr, Result.andThen]
  exact h v' w' hg
end
/-- A byte that a literal holds. -/
theorem lit_byte (w : World) (z : Int) (t : TypeId) (g : Nat) (hg : g = w.heap.size) (hz : 0 ≤ z ∧ z < 256) : Bytes (w.alloc (.cells #[.int .u8 z] t)) (some ⟨g, 0, none⟩) [z] := by
  subst hg
  exact ⟨by simpa using hz, by simp, .inr ⟨_, 0, rfl, fun i hi => by
    have : i = 0 := by simpa using hi
    subst this
    simp [go_sem]⟩⟩
theorem Buf.lit {g B : Nat} {v0 v : Value} {zs : List Int} {w0 w : World} (h : Buf g B v0 w0 v zs w) (o : Obj) : Buf g B v0 w0 v zs (w.alloc o) := h.on ((Below.refl _ _).alloc (Nat.le_refl _) o)

set_option maxRecDepth 100000 in
set_option maxHeartbeats 1000000 in
theorem byte_any (g B : Nat) (v : Value) (xs : List Int) (z : Int) (w : World) (h : Buf g B v w v xs w) (hz : 0 ≤ z ∧ z < 256) (hl : xs.length ≤ 2000000000) :
    Calls Tryz.prog 34 #[.pointer (some ⟨g, 0, none⟩), .int .u8 z] w (Puts g B v w (xs ++ [z])) := by
  have H := hid h
  have H1 := hid (h.lit (.cells #[.int .u8 z] 5))
  have c0 := h.c
  have f0 := h.f
  have LB := hid (lit_byte w z 5 w.heap.size rfl hz)
  have HL := hid (show xs.length + [z].length ≤ 140737488351232 by simp; omega)
  clear h hz hl
  go_enter Tryz.func34, Tryz.ntmps34
  go_wp2_with (first
    | (at_builtin; refine puts_wp (ys := [z]) 76 5 Tryz.underlying76 rfl (.tmp 7) (.tmp 9) rfl rfl H1.out.own (Nat.le_trans H1.out.lowB H1.out.touch.size) _ 1 1 rfl rfl LB.out HL.out ?_; intro v1 w1 hg; obtain ⟨c1, f1⟩ := H1.out.old hg; have HN := hid hg.own; obtain ⟨N, hN⟩ : ∃ N, (xs ++ [z]).length = N := ⟨_, rfl⟩; obtain ⟨a1, q1, rfl⟩ := HN.out.sliceN hN; have HG := hid (H1.out.put hg); clear hg c0 f0 HN hN))
  go_end0
  exact ⟨rfl, _, HG.out⟩
set_option maxRecDepth 100000 in
set_option maxHeartbeats 1000000 in
theorem put_anyE (g B : Nat) (v : Value) (xs ys : List Int) (a : Option Addr) (n c : Nat) (e : Int) (w : World) (h : Buf g B v w v xs w) (hn : ys.length = n) (hy : Bytes w a ys) (hl : xs.length + ys.length ≤ 2000000000) :
    Calls Tryz.prog 193 #[.pointer (some ⟨g, 0, none⟩), .slice a n c, .int .i64 e] w (Puts g B v w (xs ++ ys)) := by
  have H := hid h
  have c0 := h.c
  have f0 := h.f
  have LB := hid hy
  have LN := hid hn
  have HL := hid (show xs.length + ys.length ≤ 140737488351232 by omega)
  clear h hy hl hn
  go_enter Tryz.func193, Tryz.ntmps193
  go_wp2_with (first
    | (at_builtin; refine puts_wp (ys := ys) 35 5 Tryz.underlying35 rfl (.tmp 9) (.tmp 10) rfl rfl H.out.own (Nat.le_trans H.out.lowB H.out.touch.size) a n c rfl LN.out LB.out HL.out ?_; intro v1 w1 hg; obtain ⟨c1, f1⟩ := H.out.old hg; have HN := hid hg.own; obtain ⟨N, hN⟩ : ∃ N, (xs ++ ys).length = N := ⟨_, rfl⟩; obtain ⟨a1, q1, rfl⟩ := HN.out.sliceN hN; have HG := hid (H.out.put hg); clear hg c0 f0 HN hN))
  go_end0
  exact ⟨rfl, _, HG.out⟩
set_option maxRecDepth 100000 in
set_option maxHeartbeats 2000000 in
theorem number_any (g B : Nat) (v : Value) (xs : List Int) (z : Int) (w : World) (h : Buf g B v w v xs w) (h0 : 0 ≤ z) (h1 : z < 4294967296) (hl : xs.length ≤ 2000000000) :
    Calls Tryz.prog 110 #[.pointer (some ⟨g, 0, none⟩), .int .u32 z] w (Puts g B v w (xs ++ encU z)) := by
  have H := hid h
  have P := hid (fun W => putU_any z W h0 h1)
  have HBY := hid (encU_bytes z)
  have HEL := hid (show (encU z).length ≤ 5 from by rw [encU_length]; exact (sizeU_pos z).2)
  have HL := hid hl
  have c0 := h.c
  have f0 := h.f
  have HD := hid ((Below.refl w.heap.size w).drew)
  obtain ⟨ys, hys⟩ : ∃ ys, encU z = ys := ⟨_, rfl⟩
  rw [hys] at P HBY HEL ⊢
  clear h hl hys
  go_enter Tryz.func110, Tryz.ntmps110
  go_wp2
  have hd := (Below.refl w.heap.size w).drew
  have H0 := hid (H.out.on hd)
  clear hd
  go_region_law
    (first
      | (refine puts_step (ys := ys) 35 5 Tryz.underlying35 rfl (.tmp 7) (.tmp 9) rfl rfl H2.out.own (Nat.le_trans H2.out.lowB H2.out.touch.size) _ _ _ rfl HN2.out HY2.out HL2.out ?_; intro v3 w3 hg; obtain ⟨c3, f3⟩ := H2.out.old hg; have HN := hid hg.own; obtain ⟨N, hN⟩ : ∃ N, (xs ++ ys).length = N := ⟨_, rfl⟩; obtain ⟨a1, q1, rfl⟩ := HN.out.sliceN hN; have HG := hid (H2.out.put hg); clear hg HN hN)
      | (go_simp; go_at_call 175; refine (P.out _).mono ?_; rintro e1 w2 ⟨v2, rfl, ho2, hb2⟩; obtain ⟨n2, hn2⟩ : ∃ n, ys.length = n := ⟨_, rfl⟩; have HN2 := hid hn2; have ho3 := ho2; obtain ⟨a2, q2, rfl⟩ := ho3.sliceN hn2; have HY2 := hid (ho2.bytes HBY.out (by have := HEL.out; omega)); have H2 := hid (H0.out.on hb2); have c2 := H2.out.c; have f2 := H2.out.f; have HL2 := hid (show xs.length + ys.length ≤ 140737488351232 by have := HEL.out; have := HL.out; omega); clear ho2 ho3 hb2 hn2))
  all_goals
    go_end0
    exact ⟨rfl, _, HG.out⟩
theorem Bytes.touchE {S : Nat → Prop} {w w' : World} {a : Option Addr} {zs : List Int} (h : Bytes w a zs) (ht : Touch S w w') (hk : ∀ b off, a = some ⟨b, off, none⟩ → zs ≠ [] → ¬ S b) : Bytes w' a zs := by
  refine ⟨h.byte, h.size, ?_⟩
  by_cases h9 : zs = []
  · exact .inl h9
  · rcases h.at_ with h0 | ⟨b, off, rfl, hc⟩
    · exact .inl h0
    · exact .inr ⟨b, off, rfl, fun i hi => ht.cell (hk b off rfl h9) (hc i hi)⟩
set_option maxRecDepth 100000 in
set_option maxHeartbeats 2000000 in
theorem sized_any (g B : Nat) (v : Value) (xs ys : List Int) (a : Option Addr) (n c : Nat) (w : World) (h : Buf g B v w v xs w) (hn : ys.length = n) (hy : Bytes w a ys) (hl : xs.length + ys.length ≤ 1500000000)
    (hs : ∀ b off, a = some ⟨b, off, none⟩ → ys ≠ [] → ¬ (b = g ∨ v.ownBlock = some b)) :
    Calls Tryz.prog 35 #[.pointer (some ⟨g, 0, none⟩), .slice a n c] w (Puts g B v w (xs ++ (encU n ++ ys))) := by
  have H := hid h
  have hn4 : (n : Int) < 4294967296 := by omega
  have hw : IntKind.u32.wrap (n : Int) = n := by rw [IntKind.wrap_u32]; omega
  have P := hid (number_any g B v xs n w h (by omega) hn4 (by omega))
  have HEL := hid (show (encU n).length ≤ 5 from by rw [encU_length]; exact (sizeU_pos n).2)
  have HL := hid hl
  have LB := hid (fun w' (ht : Touch (fun j => j = g ∨ v.ownBlock = some j) w w') => Bytes.touchE hy ht hs)
  have LN := hid hn
  obtain ⟨zs, hzs⟩ : ∃ zs, encU n = zs := ⟨_, rfl⟩
  rw [hzs] at P HEL ⊢
  have e : xs ++ (zs ++ ys) = (xs ++ zs) ++ ys := by rw [List.append_assoc]
  rw [e]
  clear h hl hy hn hs hzs e
  go_enter Tryz.func35, Tryz.ntmps35
  go_wp2_with fail
  refine P.out.mono ?_
  rintro e1 w1 ⟨rfl, v1, hb⟩
  have H1 := hid hb
  have LB1 := hid (LB.out w1 hb.touch)
  have c1 := hb.c
  have f1 := hb.f
  have HL1 := hid (show (xs ++ zs).length + ys.length ≤ 140737488351232 by rw [List.length_append]; have := HL.out; have := HEL.out; omega)
  clear P hb LB
  go_wp2_with (first
    | (at_builtin; refine puts_wp (ys := ys) 35 5 Tryz.underlying35 rfl (.tmp 12) (.tmp 13) rfl rfl H1.out.own (Nat.le_trans H1.out.lowB H1.out.touch.size) a n c rfl LN.out LB1.out HL1.out ?_; intro v2 w2 hg; obtain ⟨c2, f2⟩ := H1.out.old hg; have HN := hid hg.own; obtain ⟨N, hN⟩ : ∃ N, (xs ++ zs ++ ys).length = N := ⟨_, rfl⟩; obtain ⟨a1, q1, rfl⟩ := HN.out.sliceN hN; have HG := hid (H1.out.put hg); clear hg c1 f1 HN hN))
  go_end0
  exact ⟨rfl, _, HG.out⟩
end Go.Proofs.YtepbjkkakfpjgaaGreatDoor.Enc

/-
  INSTR: an argument that is a list of instructions is opened.
-/
namespace Go.Proofs.YtepbjkkakfpjgaaGreatDoor.Instr
open Go.RowKit Go.ChangeShapes

theorem cellsI : Tryz.prog.cellsOf 126 = 8 := by kernel_rfl
theorem cellsU : Tryz.prog.cellsOf 28 = 1 := by kernel_rfl
theorem cells1 : Tryz.prog.cellsOf 3 = 1 ∧ Tryz.prog.cellsOf 21 = 1 ∧ Tryz.prog.cellsOf 69 = 1 ∧ Tryz.prog.cellsOf 45 = 1 := by
  refine ⟨?_, ?_, ?_, ?_⟩ <;> kernel_rfl
theorem bytesI : Tryz.prog.bytesOf 126 = 104 := by kernel_rfl
theorem bytesU : Tryz.prog.bytesOf 28 = 4 := by kernel_rfl

theorem weights_all {H : Type} {P : Program} {e : TypeId} : ∀ {l : List (DataW H)} {i : Nat} {d : DataW H}, l[i]? = some d → ∀ n ∈ d.weights P e, n ∈ DataW.weightsAll P e l
  | [], i, d, h, _, _ => by simp at h
  | d0 :: l, 0, d, h, n, hn => by
    simp only [List.getElem?_cons_zero, Option.some.injEq] at h
    subst h
    simp [DataW.weightsAll, hn]
  | d0 :: l, i + 1, d, h, n, hn => by
    have := weights_all (l := l) (i := i) (by simpa using h) n hn
    simp [DataW.weightsAll, this]

/-- What a cell holds, as a number. -/
def intAt (w : World) (a : Addr) : Int := match w.cell? a with | some (.int _ z) => z | _ => 0
theorem plainAdd (b o i : Nat) : (⟨b, o, none⟩ : Addr).add i = ⟨b, o + i, none⟩ := by unfold Addr.add; split <;> simp_all
theorem cells_one {w : World} {a : Addr} {cs : List Value} (h : w.cells? 0 a 1 = some cs) : ∃ v, cs = [v] ∧ w.cell? (a.add 0) = some v := by
  unfold World.cells? at h
  rw [if_pos (Nat.zero_le _)] at h
  simp only [List.range_succ, List.range_zero, List.nil_append, List.mapM_cons, List.mapM_nil, Option.bind_eq_bind, Option.pure_def] at h
  obtain ⟨v, hv, h⟩ := Option.bind_eq_some_iff.1 h
  simp at h
  exact ⟨v, h.symm, hv⟩

variable {H : Type} {enc : TypeId × Value → H} {W : World}

theorem open_tags {fuel : Nat} {cs : List Value} {x : DataW H × List MemPlace} (h : DataW.trod enc Tryz.prog W 0 (fun _ => true) true fuel 69 cs = some x) (hw : ∀ n ∈ x.1.weights Tryz.prog 69, n ≤ reachBytes) :
    ∃ (a : Option Addr) (c : Nat) (zs : List Int), cs = [.slice a zs.length c] ∧ zs.length ≤ 140737488351232 ∧ (∀ z ∈ zs, 0 ≤ z ∧ z < 4294967296) ∧ TagsAt W.heap.size W a zs := by
  rcases DataW.trod_slice Tryz.underlying69 h with ⟨rfl, _⟩ | ⟨a, len, cap, elems, rest, n, -, rfl, rfl, _, _, _, hlen, hel, _, _⟩
  · exact ⟨none, 0, [], rfl, by simp, by simp, .inl rfl⟩
  have hbound : (elems.length + rest.length) * Tryz.prog.bytesOf 28 ≤ reachBytes := by
    refine hw _ ?_
    simp [DataW.weights, Tryz.underlying69]
  rw [bytesU] at hbound
  simp only [reachBytes] at hbound
  have key : ∀ i, i < len → ∃ z, W.cell? (a.add i) = some (.int .u32 z) ∧ 0 ≤ z ∧ z < 4294967296 := by
    intro i hi
    have h1 := hel i hi
    rw [List.getElem?_eq_getElem (by omega), cellsU, Nat.mul_one] at h1
    obtain ⟨cs', hc, ht⟩ := Option.bind_eq_some_iff.1 h1
    obtain ⟨v, rfl, hv⟩ := cells_one hc
    obtain ⟨z, hz, _, hwf⟩ := DataW.trod_int Tryz.underlying28 ht
    simp only [List.cons.injEq, and_true] at hz
    subst hz
    have := bounds_u32 hwf
    have hp := World.cell?_spot hv
    have e : (a.add i).add 0 = a.add i := by
      obtain ⟨b, o, sp⟩ := a
      unfold Addr.add at hp ⊢
      (repeat' split) <;> simp_all
    rw [e] at hv
    exact ⟨z, hv, by omega, by omega⟩
  refine ⟨some a, cap, (List.range len).map fun i => intAt W (a.add i), by simp, by simp; omega, ?_, ?_⟩
  · intro z hz
    obtain ⟨i, hi, rfl⟩ := List.mem_map.1 hz
    obtain ⟨z', h1, h2⟩ := key i (List.mem_range.1 hi)
    simpa [intAt, h1] using h2
  · by_cases h0 : len = 0
    · subst h0; exact .inl (by simp)
    · obtain ⟨b, o, sp⟩ := a
      obtain ⟨z0, hz0, _⟩ := key 0 (by omega)
      have hsp := World.cell?_spot hz0
      have hsp' : sp = none := by
        unfold Addr.add at hsp
        (repeat' split at hsp) <;> simp_all
      subst hsp'
      refine .inr ⟨b, o, rfl, ?_, fun i hi => ?_⟩
      · have := World.block_lt_of_cell? W _ hz0
        rw [plainAdd] at this
        exact this
      · have hi' : i < len := by simpa using hi
        obtain ⟨z, h1, _⟩ := key i hi'
        rw [plainAdd] at h1
        rw [h1, getD_lt hi]
        simp [intAt, plainAdd, h1]

theorem run_il (n₀ : Nat) (b : Nat) : ∀ (k off : Nat), (∀ i, i < k → ∃ x l e, Items n₀ W b (off + i * 8) (.cons x l e .nil)) → ∃ t : Il, t.len = k ∧ Items n₀ W b off t
  | 0, _, _ => ⟨.nil, rfl, trivial⟩
  | k + 1, off, h => by
    obtain ⟨x, l, e, h1, h2, h3, h4, h5, h6, _⟩ := h 0 (by omega)
    obtain ⟨t, ht, hi⟩ := run_il n₀ b k (off + 8) (fun i hi => by
      have := h (i + 1) (by omega)
      rw [show off + (i + 1) * 8 = off + 8 + i * 8 by omega] at this
      exact this)
    rw [Nat.zero_mul, Nat.add_zero] at h3
    exact ⟨.cons x l e t, by simp [Il.len, ht], h1, h2, h3, h4, h5, h6, hi⟩

theorem cells_eight {w : World} {a : Addr} {cs : List Value} (h : w.cells? 0 a 8 = some cs) : ∃ v0 v1 v2 v3 v4 v5 v6 v7, cs = [v0, v1, v2, v3, v4, v5, v6, v7] ∧ w.cell? (a.add 0) = some v0 ∧ w.cell? (a.add 1) = some v1 ∧ w.cell? (a.add 2) = some v2 ∧ w.cell? (a.add 3) = some v3 ∧
    w.cell? (a.add 4) = some v4 ∧ w.cell? (a.add 5) = some v5 ∧ w.cell? (a.add 6) = some v6 ∧ w.cell? (a.add 7) = some v7 := by
  unfold World.cells? at h
  rw [if_pos (Nat.zero_le _)] at h
  simp only [show List.range 8 = [0, 1, 2, 3, 4, 5, 6, 7] by decide, List.mapM_cons, List.mapM_nil, Option.bind_eq_bind, Option.pure_def] at h
  obtain ⟨v0, h0, h⟩ := Option.bind_eq_some_iff.1 h
  obtain ⟨r1, h, e1⟩ := Option.bind_eq_some_iff.1 h
  obtain ⟨v1, h1, h⟩ := Option.bind_eq_some_iff.1 h
  obtain ⟨r2, h, e2⟩ := Option.bind_eq_some_iff.1 h
  obtain ⟨v2, h2, h⟩ := Option.bind_eq_some_iff.1 h
  obtain ⟨r3, h, e3⟩ := Option.bind_eq_some_iff.1 h
  obtain ⟨v3, h3, h⟩ := Option.bind_eq_some_iff.1 h
  obtain ⟨r4, h, e4⟩ := Option.bind_eq_some_iff.1 h
  obtain ⟨v4, h4, h⟩ := Option.bind_eq_some_iff.1 h
  obtain ⟨r5, h, e5⟩ := Option.bind_eq_some_iff.1 h
  obtain ⟨v5, h5, h⟩ := Option.bind_eq_some_iff.1 h
  obtain ⟨r6, h, e6⟩ := Option.bind_eq_some_iff.1 h
  obtain ⟨v6, h6, h⟩ := Option.bind_eq_some_iff.1 h
  obtain ⟨r7, h, e7⟩ := Option.bind_eq_some_iff.1 h
  obtain ⟨v7, h7, h⟩ := Option.bind_eq_some_iff.1 h
  simp only [Option.bind_some, Option.some.injEq] at *
  subst h e7 e6 e5 e4 e3 e2 e1
  exact ⟨v0, v1, v2, v3, v4, v5, v6, v7, rfl, h0, h1, h2, h3, h4, h5, h6, h7⟩

def w8 (w : World) (a : Addr) (i : Nat) : Option (List Value) := w.cells? 0 (a.add (i * 8)) 8
theorem open_il : ∀ (fuel : Nat) (cs : List Value) (x : DataW H × List MemPlace), DataW.trod enc Tryz.prog W 0 (fun _ => true) true fuel 45 cs = some x → (∀ n ∈ x.1.weights Tryz.prog 45, n ≤ reachBytes) →
    ∃ (a : Option Addr) (len c : Nat) (t : Il), cs = [.slice a len c] ∧ len ≤ c ∧ len ≤ 140737488351232 ∧ ListAt W.heap.size W a len t := by
  intro fuel
  induction fuel using Nat.strongRecOn with
  | ind fuel ih =>
    intro cs x h hw
    rcases DataW.trod_slice Tryz.underlying45 h with ⟨rfl, _⟩ | ⟨a, len, cap, elems, rest, n, hfu, rfl, rfl, _, hlc, _, hlen, hel, _, _⟩
    · exact ⟨none, 0, 0, .nil, rfl, by simp, by simp, rfl, .inl rfl⟩
    have hbound : (elems.length + rest.length) * Tryz.prog.bytesOf 126 ≤ reachBytes := by
      refine hw _ ?_
      simp [DataW.weights, Tryz.underlying45]
    rw [bytesI] at hbound
    simp only [reachBytes] at hbound
    have hwe : ∀ (i : Nat) (y : DataW H × List MemPlace), elems[i]? = some y → ∀ m ∈ y.1.weights Tryz.prog 126, m ≤ reachBytes := by
      intro i y hy m hm
      refine hw m ?_
      have : (elems.map (·.1))[i]? = some y.1 := by simp [hy]
      have := weights_all this m hm
      simp only [DataW.weights, Tryz.underlying45, List.mem_cons, List.mem_append]
      exact .inr (.inl this)
    refine ⟨some a, len, cap, ?_⟩
    by_cases h0 : len = 0
    · subst h0; exact ⟨.nil, rfl, by omega, by omega, rfl, .inl rfl⟩
    have one : ∀ i, i < len → ∃ cs' y, w8 W a i = some cs' ∧ elems[i]? = some y ∧ DataW.trod enc Tryz.prog W 0 (fun _ => true) true n 126 cs' = some y := by
      intro i hi
      have h1 := hel i hi
      rw [cellsI] at h1
      have h2 : elems[i]? = some elems[i] := List.getElem?_eq_getElem (by omega)
      rw [h2] at h1
      obtain ⟨cs', hc, ht⟩ := Option.bind_eq_some_iff.1 h1
      exact ⟨cs', _, hc, h2, ht⟩
    obtain ⟨b, o, sp⟩ := a
    have hsp : sp = none := by
      obtain ⟨cs', y, hc, _, _⟩ := one 0 (by omega)
      obtain ⟨v0, v1, v2, v3, v4, v5, v6, v7, _, hc0, _⟩ := cells_eight hc
      have hp := World.cell?_spot hc0
      unfold Addr.add at hp
      (repeat' split at hp) <;> simp_all
    subst hsp
    have each : ∀ i, i < len → ∃ x l e, Items W.heap.size W b (o + i * 8) (.cons x l e .nil) := by
      intro i hi
      obtain ⟨cs', y, hc, hy, ht⟩ := one i hi
      unfold w8 at hc
      rw [plainAdd] at hc
      obtain ⟨v0, v1, v2, v3, v4, v5, v6, v7, rfl, c0, c1, c2, c3, c4, c5, c6, c7⟩ := cells_eight hc
      simp only [plainAdd] at c0 c1 c2 c3 c4 c5 c6 c7
      have hwy := hwe i y hy
      obtain ⟨xs, m, hnm, rfl, _, hxl, hf⟩ := DataW.trod_struct Tryz.underlying126 ht
      have hwx : ∀ (j : Nat) (tj : TypeId) (z : DataW H × List MemPlace), ([3, 3, 28, 28, 21, 69, 45, 45] : List TypeId)[j]? = some tj → xs[j]? = some z → ∀ q ∈ z.1.weights Tryz.prog tj, q ≤ reachBytes := by
        intro j tj z htj hz q hq
        refine hwy q ?_
        simp only [DataW.weights, Tryz.underlying126]
        exact DataW.weights_mem_each htj (by simp [hz]) q hq
      have f0 : DataW.trod enc Tryz.prog W 0 (fun _ => true) true m 3 [v0] = xs[0]? := by have h := hf 0 { name := "Op", type := 3, offset := 0, embedded := false, tag := "", pkgPath := "", byteOffset := 0 } rfl; simpa only [cells1.1, cells1.2.1, cells1.2.2.1, cells1.2.2.2, cellsU, List.drop_zero, List.take_succ_cons, List.take_zero, List.drop_succ_cons] using h
      have f1 : DataW.trod enc Tryz.prog W 0 (fun _ => true) true m 3 [v1] = xs[1]? := by have h := hf 1 { name := "Results", type := 3, offset := 1, embedded := false, tag := "", pkgPath := "", byteOffset := 8 } rfl; simpa only [cells1.1, cells1.2.1, cells1.2.2.1, cells1.2.2.2, cellsU, List.drop_zero, List.take_succ_cons, List.take_zero, List.drop_succ_cons] using h
      have f2 : DataW.trod enc Tryz.prog W 0 (fun _ => true) true m 28 [v2] = xs[2]? := by have h := hf 2 { name := "A", type := 28, offset := 2, embedded := false, tag := "", pkgPath := "", byteOffset := 16 } rfl; simpa only [cells1.1, cells1.2.1, cells1.2.2.1, cells1.2.2.2, cellsU, List.drop_zero, List.take_succ_cons, List.take_zero, List.drop_succ_cons] using h
      have f3 : DataW.trod enc Tryz.prog W 0 (fun _ => true) true m 28 [v3] = xs[3]? := by have h := hf 3 { name := "B", type := 28, offset := 3, embedded := false, tag := "", pkgPath := "", byteOffset := 20 } rfl; simpa only [cells1.1, cells1.2.1, cells1.2.2.1, cells1.2.2.2, cellsU, List.drop_zero, List.take_succ_cons, List.take_zero, List.drop_succ_cons] using h
      have f4 : DataW.trod enc Tryz.prog W 0 (fun _ => true) true m 21 [v4] = xs[4]? := by have h := hf 4 { name := "N", type := 21, offset := 4, embedded := false, tag := "", pkgPath := "", byteOffset := 24 } rfl; simpa only [cells1.1, cells1.2.1, cells1.2.2.1, cells1.2.2.2, cellsU, List.drop_zero, List.take_succ_cons, List.take_zero, List.drop_succ_cons] using h
      have f5 : DataW.trod enc Tryz.prog W 0 (fun _ => true) true m 69 [v5] = xs[5]? := by have h := hf 5 { name := "Tags", type := 69, offset := 5, embedded := false, tag := "", pkgPath := "", byteOffset := 32 } rfl; simpa only [cells1.1, cells1.2.1, cells1.2.2.1, cells1.2.2.2, cellsU, List.drop_zero, List.take_succ_cons, List.take_zero, List.drop_succ_cons] using h
      have f6 : DataW.trod enc Tryz.prog W 0 (fun _ => true) true m 45 [v6] = xs[6]? := by have h := hf 6 { name := "L", type := 45, offset := 6, embedded := false, tag := "", pkgPath := "", byteOffset := 56 } rfl; simpa only [cells1.1, cells1.2.1, cells1.2.2.1, cells1.2.2.2, cellsU, List.drop_zero, List.take_succ_cons, List.take_zero, List.drop_succ_cons] using h
      have f7 : DataW.trod enc Tryz.prog W 0 (fun _ => true) true m 45 [v7] = xs[7]? := by have h := hf 7 { name := "E", type := 45, offset := 7, embedded := false, tag := "", pkgPath := "", byteOffset := 80 } rfl; simpa only [cells1.1, cells1.2.1, cells1.2.2.1, cells1.2.2.2, cellsU, List.drop_zero, List.take_succ_cons, List.take_zero, List.drop_succ_cons] using h
      have hxs : ∀ j, j < 8 → ∃ z, xs[j]? = some z := fun j hj => ⟨_, List.getElem?_eq_getElem (by rw [hxl]; exact hj)⟩
      obtain ⟨z0, e0⟩ := hxs 0 (by omega)
      obtain ⟨z1, e1⟩ := hxs 1 (by omega)
      obtain ⟨z2, e2⟩ := hxs 2 (by omega)
      obtain ⟨z3, e3⟩ := hxs 3 (by omega)
      obtain ⟨z4, e4⟩ := hxs 4 (by omega)
      obtain ⟨z5, e5⟩ := hxs 5 (by omega)
      obtain ⟨z6, e6⟩ := hxs 6 (by omega)
      obtain ⟨z7, e7⟩ := hxs 7 (by omega)
      rw [e0] at f0; rw [e1] at f1; rw [e2] at f2; rw [e3] at f3; rw [e4] at f4; rw [e5] at f5; rw [e6] at f6; rw [e7] at f7
      obtain ⟨n0, g0, -, w0⟩ := DataW.trod_int Tryz.underlying3 f0
      obtain ⟨n1, g1, -, w1⟩ := DataW.trod_int Tryz.underlying3 f1
      obtain ⟨n2, g2, -, w2⟩ := DataW.trod_int Tryz.underlying28 f2
      obtain ⟨n3, g3, -, w3⟩ := DataW.trod_int Tryz.underlying28 f3
      obtain ⟨n4, g4, -, w4⟩ := DataW.trod_int Tryz.underlying21 f4
      obtain ⟨a5, c5', z5', g5, b5, r5, t5⟩ := open_tags f5 (hwx 5 _ _ rfl e5)
      obtain ⟨a6, l6, c6', t6, g6, -, b6, L6⟩ := ih m (by omega) _ _ f6 (hwx 6 _ _ rfl e6)
      obtain ⟨a7, l7, c7', t7, g7, -, b7, L7⟩ := ih m (by omega) _ _ f7 (hwx 7 _ _ rfl e7)
      simp only [List.cons.injEq, and_true] at g0 g1 g2 g3 g4 g5 g6 g7
      subst g0 g1 g2 g3 g4 g5 g6 g7
      have q0 := bounds_i64 w0
      have q1 := bounds_i64 w1
      have q2 := bounds_u32 w2
      have q3 := bounds_u32 w3
      have q4 := bounds_i32 w4
      refine ⟨⟨n0, n1, n2, n3, n4, z5', a5, c5', a6, l6, c6', a7, l7, c7'⟩, t6, t7, ?_, ⟨q0, q1, ⟨q2.1, Int.lt_of_le_of_lt q2.2 (by decide)⟩, ⟨q3.1, Int.lt_of_le_of_lt q3.2 (by decide)⟩, ⟨q4.1, Int.lt_of_le_of_lt q4.2 (by decide)⟩, r5, b5, b6, b7⟩, ⟨c0, c1, c2, c3, c4, c5, c6, c7⟩, t5, L6, L7, trivial⟩
      have := World.block_lt_of_cell? W _ c0
      exact this
    obtain ⟨t, ht, hi⟩ := run_il W.heap.size b len o each
    exact ⟨t, rfl, hlc, by omega, ht, .inr ⟨b, o, rfl, hi⟩⟩
theorem open_instrs {ts : List TypeId} {ds : List (DataW H)} {a : Option Addr} {len cap : Nat} {d : DataW H} {p : List MemPlace}
    (hsz : (DataW.weightsEach Tryz.prog ts ds).all (· ≤ reachBytes) = true) (j : Nat) (ht : ts[j]? = some 45) (hd : ds[j]? = some d)
    (h : DataW.Trod enc Tryz.prog W 0 (fun _ => true) true 45 (.slice a len cap) d p) : ∃ t : Il, ListAt W.heap.size W a len t ∧ len ≤ cap ∧ len ≤ 140737488351232 := by
  obtain ⟨fuel, hf⟩ := h
  obtain ⟨a', len', cap', t, hcs, h1, h2, h3⟩ := open_il fuel _ _ hf (fun n hn => by
    have := List.all_eq_true.1 hsz _ (DataW.weights_mem_each ht hd n hn)
    simpa using this)
  simp [Value.cells] at hcs
  obtain ⟨rfl, rfl, rfl⟩ := hcs
  exact ⟨t, h3, h1, h2⟩
end Go.Proofs.YtepbjkkakfpjgaaGreatDoor.Instr

/-
  Kind: Put and PutLimits, the program's and the document's, each in one piece; what the statements' own small function 'awake' answers: true.
-/
namespace Go.Proofs.YtepbjkkakfpjgaaGreatDoor.Kind
set_option linter.unusedVariables false
open Go.RowKit Go.Proofs.YtepbjkkakfpjgaaGreatDoor.Leb

def putZ (p r : Int) : List Int := if okType p r then typeL p r else []
def limZ (n x : Int) (c : Bool) (most : Int) : List Int := if okLim n x c most then limL n x c else []
def PutRes (w : World) (zs : List Int) (m : Nat) (er : Int) (e : Ending) (w' : World) : Prop := ∃ a q, e = .returned (.tuple #[.slice a m q, .int .i64 er]) ∧ Bytes w' a zs ∧ Hid (a = none → q = 0) ∧ Below w.heap.size w w'

theorem typeL_bytes (p r : Int) : ∀ z ∈ typeL p r, 0 ≤ z ∧ z < 256 := by
  intro z hz
  unfold typeL at hz
  rcases List.mem_cons.1 hz with h | h
  · omega
  · rcases List.mem_append.1 h with h | h
    · exact wordsL_bytes _ z h
    · exact wordsL_bytes _ z h
theorem limL_bytes (n x : Int) (c : Bool) : ∀ z ∈ limL n x c, 0 ≤ z ∧ z < 256 := by
  intro z hz
  unfold limL at hz
  cases c
  · simp only [Bool.false_eq_true, if_false] at hz
    rcases List.mem_cons.1 hz with h | h
    · omega
    · exact encU_bytes _ z h
  · simp only [if_true] at hz
    rcases List.mem_cons.1 hz with h | h
    · omega
    · rcases List.mem_append.1 h with h | h
      · exact encU_bytes _ z h
      · exact encU_bytes _ z h
theorem putRes_ok {w w' : World} {zs : List Int} {m : Nat} {e : Ending} (hm : zs.length = m) (hb : ∀ z ∈ zs, 0 ≤ z ∧ z < 256) (hl : zs.length ≤ 1000) (h : PutOk w zs e w') : PutRes w zs m 0 e w' := by
  obtain ⟨v, he, ho, hB⟩ := h
  obtain ⟨a, q, rfl⟩ := ho.sliceN hm
  exact ⟨a, q, he, ho.bytes hb (by omega), ho.nil, hB⟩
theorem putRes_no {w w' : World} {e : Ending} (h : PutNo w e w') : PutRes w [] 0 2 e w' :=
  ⟨none, 0, h.1, ⟨by simp, by simp, .inl rfl⟩, (hid fun _ => rfl), h.2⟩
theorem okType_nat {p r : Int} (h : okType p r = true) : ∃ a b : Nat, p = a ∧ r = b ∧ a ≤ 255 ∧ b ≤ 1 := by
  unfold okType at h; simp at h
  exact ⟨p.toNat, r.toNat, by omega, by omega, by omega, by omega⟩
theorem typeL_le (p r : Nat) (hp : p ≤ 255) (hr : r ≤ 1) : (typeL p r).length ≤ 1000 := by
  rw [typeL_len]; have := sizeU_pos p; have := sizeU_pos r; omega
theorem put_any (p r : Int) (m : Nat) (hm : (putZ p r).length = m) (w : World) : Calls Tryz.prog 194 #[.agg #[.int .i64 p, .int .i64 r]] w (PutRes w (putZ p r) m (codeType p r)) := by
  by_cases h : okType p r = true
  · have e1 : putZ p r = typeL p r := by unfold putZ; rw [if_pos h]
    have e2 : codeType p r = 0 := by unfold codeType; rw [if_pos h]
    rw [e1] at hm; rw [e1, e2]
    obtain ⟨a, b, rfl, rfl, ha, hb⟩ := okType_nat h
    exact (put_ok a b ha hb w).mono fun e w' he => putRes_ok hm (typeL_bytes _ _) (typeL_le a b ha hb) he
  · have h' : okType p r = false := by simpa using h
    have e1 : putZ p r = [] := by unfold putZ; rw [h']; rfl
    have e2 : codeType p r = 2 := by unfold codeType; rw [h']; rfl
    rw [e1] at hm; rw [e1, e2]
    obtain rfl : m = 0 := by simpa using hm.symm
    exact (put_no p r h' w).mono fun e w' he => putRes_no he
theorem refPut_any (p r : Int) (m : Nat) (hm : (putZ p r).length = m) (w : World) : Calls Tryz.prog 114 #[.agg #[.int .i64 p, .int .i64 r]] w (PutRes w (putZ p r) m (codeType p r)) := by
  by_cases h : okType p r = true
  · have e1 : putZ p r = typeL p r := by unfold putZ; rw [if_pos h]
    have e2 : codeType p r = 0 := by unfold codeType; rw [if_pos h]
    rw [e1] at hm; rw [e1, e2]
    obtain ⟨a, b, rfl, rfl, ha, hb⟩ := okType_nat h
    exact (refPut_ok a b ha hb w).mono fun e w' he => putRes_ok hm (typeL_bytes _ _) (typeL_le a b ha hb) he
  · have h' : okType p r = false := by simpa using h
    have e1 : putZ p r = [] := by unfold putZ; rw [h']; rfl
    have e2 : codeType p r = 2 := by unfold codeType; rw [h']; rfl
    rw [e1] at hm; rw [e1, e2]
    obtain rfl : m = 0 := by simpa using hm.symm
    exact (refPut_no p r h' w).mono fun e w' he => putRes_no he
theorem okLim_x {n x most : Int} (h : okLim n x false most = true) : x = 0 := by unfold okLim at h; simp at h; exact h.2
theorem limL_le (n x : Int) (c : Bool) : (limL n x c).length ≤ 1000 := by
  have := sizeU_pos n; have := sizeU_pos x
  cases c <;> unfold limL <;> simp [encU_length] <;> omega
theorem putLim_any (n x : Int) (c : Bool) (most : Int) (m : Nat) (hm : (limZ n x c most).length = m) (h0 : 0 ≤ n ∧ n ≤ 4294967295) (h1 : 0 ≤ x ∧ x ≤ 4294967295) (w : World) :
    Calls Tryz.prog 196 #[.agg #[.int .u32 n, .int .u32 x, .bool c], .int .u32 most] w (PutRes w (limZ n x c most) m (codeLim n x c most)) := by
  by_cases h : okLim n x c most = true
  · have e1 : limZ n x c most = limL n x c := by unfold limZ; rw [if_pos h]
    have e2 : codeLim n x c most = 0 := by unfold codeLim; rw [if_pos h]
    rw [e1] at hm; rw [e1, e2]
    cases c
    · exact (putLimits_plain n x most h h0 w).mono fun e w' he => putRes_ok hm (limL_bytes _ _ _) (limL_le _ _ _) he
    · exact (putLimits_capped n x most h h0 h1 w).mono fun e w' he => putRes_ok hm (limL_bytes _ _ _) (limL_le _ _ _) he
  · have h' : okLim n x c most = false := by simpa using h
    have e1 : limZ n x c most = [] := by unfold limZ; rw [h']; rfl
    have e2 : codeLim n x c most = 2 := by unfold codeLim; rw [h']; rfl
    rw [e1] at hm; rw [e1, e2]
    obtain rfl : m = 0 := by simpa using hm.symm
    exact (putLimits_no n x c most h' w).mono fun e w' he => putRes_no he
theorem refPutLim_any (n x : Int) (c : Bool) (most : Int) (m : Nat) (hm : (limZ n x c most).length = m) (h0 : 0 ≤ n ∧ n ≤ 4294967295) (h1 : 0 ≤ x ∧ x ≤ 4294967295) (w : World) :
    Calls Tryz.prog 116 #[.agg #[.int .u32 n, .int .u32 x, .bool c], .int .u32 most] w (PutRes w (limZ n x c most) m (codeLim n x c most)) := by
  by_cases h : okLim n x c most = true
  · have e1 : limZ n x c most = limL n x c := by unfold limZ; rw [if_pos h]
    have e2 : codeLim n x c most = 0 := by unfold codeLim; rw [if_pos h]
    rw [e1] at hm; rw [e1, e2]
    cases c
    · exact (refPutLimits_plain n x most h h0 w).mono fun e w' he => putRes_ok hm (limL_bytes _ _ _) (limL_le _ _ _) he
    · exact (refPutLimits_capped n x most h h0 h1 w).mono fun e w' he => putRes_ok hm (limL_bytes _ _ _) (limL_le _ _ _) he
  · have h' : okLim n x c most = false := by simpa using h
    have e1 : limZ n x c most = [] := by unfold limZ; rw [h']; rfl
    have e2 : codeLim n x c most = 2 := by unfold codeLim; rw [h']; rfl
    rw [e1] at hm; rw [e1, e2]
    obtain rfl : m = 0 := by simpa using hm.symm
    exact (refPutLimits_no n x c most h' w).mono fun e w' he => putRes_no he

theorem two_two {W w' : World} {x y u v : Value} {t t' : TypeId} (hb : Below ((W.alloc (.cells #[x, y] t)).alloc (.cells #[u, v] t')).heap.size ((W.alloc (.cells #[x, y] t)).alloc (.cells #[u, v] t')) w') :
    w'.cell? ⟨W.heap.size, 0, none⟩ = some x ∧ w'.cell? ⟨W.heap.size, 1, none⟩ = some y ∧ w'.cell? ⟨W.heap.size + 1, 0, none⟩ = some u ∧ w'.cell? ⟨W.heap.size + 1, 1, none⟩ = some v := by
  obtain ⟨hc, _⟩ := old hb
  refine ⟨(hc _ _ (by simp; omega)).trans ?_, (hc _ _ (by simp; omega)).trans ?_, (hc _ _ (by simp)).trans ?_, (hc _ _ (by simp)).trans ?_⟩ <;> go_simp
/-- Three bytes, laid. -/
theorem lit3 (w : World) (a b c : Int) (h : ∀ z ∈ [a, b, c], 0 ≤ z ∧ z < 256) : Bytes (w.alloc (.cells #[.int .u8 a, .int .u8 b, .int .u8 c] 5)) (some ⟨w.heap.size, 0, none⟩) [a, b, c] :=
  ⟨h, by simp, .inr ⟨_, 0, rfl, fun i hi => by
    match i, hi with
    | 0, _ => go_simp
    | 1, _ => go_simp
    | 2, _ => go_simp⟩⟩
theorem lit2 (w : World) (a b : Int) (h : ∀ z ∈ [a, b], 0 ≤ z ∧ z < 256) : Bytes (w.alloc (.cells #[.int .u8 a, .int .u8 b] 5)) (some ⟨w.heap.size, 0, none⟩) [a, b] :=
  ⟨h, by simp, .inr ⟨_, 0, rfl, fun i hi => by
    match i, hi with
    | 0, _ => go_simp
    | 1, _ => go_simp⟩⟩
theorem lit1 (w : World) (a : Int) (h : ∀ z ∈ [a], 0 ≤ z ∧ z < 256) : Bytes (w.alloc (.cells #[.int .u8 a] 5)) (some ⟨w.heap.size, 0, none⟩) [a] :=
  ⟨h, by simp, .inr ⟨_, 0, rfl, fun i hi => by
    match i, hi with
    | 0, _ => go_simp⟩⟩

end Go.Proofs.YtepbjkkakfpjgaaGreatDoor.Kind

/-
  ENCODE: modules' bytes, plain: of each item, of each section, of all.
-/
namespace Go.Proofs.YtepbjkkakfpjgaaGreatDoor.Enc
open Go.RowKit Go.Proofs.YtepbjkkakfpjgaaGreatDoor.Instr Go.Proofs.YtepbjkkakfpjgaaGreatDoor.Leb Go.Proofs.YtepbjkkakfpjgaaGreatDoor.Mod
open Go.Proofs.YtepbjkkakfpjgaaGreatDoor.Body (encL codeL)

def insB (l : Lst) : List Int := Go.Proofs.YtepbjkkakfpjgaaGreatDoor.Body.encP l.t
def nameB (s : ByteArray) : List Int := encU s.size ++ numsOf s
def tyB (x : Int × Int) : List Int := Kind.typeL x.1 x.2
def impB (i : Imp) : List Int := nameB i.mo ++ (nameB i.na ++ (0 :: encU i.ty))
def fnB (f : Mod.Fn) : List Int := encU f.ty
def tbB (l : Li) : List Int := 112 :: Kind.limL l.n l.x l.c
def meB (l : Li) : List Int := Kind.limL l.n l.x l.c
def glB (g : Gl) : List Int := 127 :: (if g.mu then 1 else 0) :: insB g.l
def exB (e : Ex) : List Int := nameB e.na ++ (e.k :: encU e.i)
def elB (e : El) : List Int := 0 :: (insB e.l ++ (encU e.fs.length ++ e.fs.flatMap encU))
def coB (f : Mod.Fn) : List Int := encU (codeL f.lo f.l.t).length ++ codeL f.lo f.l.t
def daB (d : Da) : List Int := 0 :: (insB d.l ++ (encU d.bs.length ++ d.bs))
/-- A list: how many, and each; nothing of an empty one. -/
def lstB {α : Type} (f : α → List Int) (l : List α) : List Int := if l.length = 0 then [] else encU l.length ++ l.flatMap f
/-- A section after its size, by its number less one. -/
def secB (m : Md) : Nat → List Int
  | 0 => lstB tyB m.ty
  | 1 => lstB impB m.im
  | 2 => lstB fnB m.fu
  | 3 => lstB tbB m.tb
  | 4 => lstB meB m.me
  | 5 => lstB glB m.gl
  | 6 => lstB exB m.ex
  | 7 => if m.st then encU m.sn else []
  | 8 => lstB elB m.el
  | 9 => lstB coB m.fu
  | 10 => lstB daB m.da
  | _ => []
/-- A section with its number and size, unless it is left out. -/
def pieceB (m : Md) (k : Nat) : List Int := if secB m k = [] then [] else ((k + 1 : Nat) : Int) :: (encU (secB m k).length ++ secB m k)
def headB : List Int := [0, 97, 115, 109, 1, 0, 0, 0]
/-- The first k sections, and what is ahead of them. -/
def uptoB (m : Md) (k : Nat) : List Int := headB ++ (List.range k).flatMap (pieceB m)
def modB (m : Md) : List Int := uptoB m 11
theorem upto_succ (m : Md) (k : Nat) : uptoB m (k + 1) = uptoB m k ++ pieceB m k := by
  unfold uptoB
  rw [List.range_succ, List.flatMap_append, List.append_assoc]
  simp
theorem flat_step {α : Type} (f : α → List Int) {l : List α} {k : Nat} (hk : k < l.length) : (l.take (k + 1)).flatMap f = (l.take k).flatMap f ++ f l[k] := by
  rw [List.take_succ_eq_append_getElem hk, List.flatMap_append]
  simp
/-- What the sections hang on. -/
theorem encL_bareE : ∀ t : Il, encL t.bare = encL t
  | .nil => rfl
  | .cons x l e r => by
    have h : Go.Proofs.YtepbjkkakfpjgaaGreatDoor.Body.encRest x.bare = Go.Proofs.YtepbjkkakfpjgaaGreatDoor.Body.encRest x := rfl
    simp only [Il.bare, encL, h, encL_bareE l, encL_bareE e, encL_bareE r]
    rfl
theorem insB_bare (l : Lst) : insB l.bare = insB l := by
  unfold insB Go.Proofs.YtepbjkkakfpjgaaGreatDoor.Body.encP Lst.bare
  rw [encL_bareE]
theorem codeL_bareE (n : Int) (t : Il) : codeL n t.bare = codeL n t := by
  unfold codeL Go.Proofs.YtepbjkkakfpjgaaGreatDoor.Body.encP
  rw [encL_bareE]
theorem lstB_map {α : Type} (f : α → List Int) (g : α → α) (h : ∀ x, f (g x) = f x) (l : List α) : lstB f (l.map g) = lstB f l := by
  unfold lstB
  rw [List.length_map, List.flatMap_map]
  simp only [h]
theorem secB_bare (m : Md) (k : Nat) : secB m.bare k = secB m k := by
  match k with
  | 0 => simp only [secB]; rfl
  | 1 => simp only [secB]; rfl
  | 2 => simp only [secB]; exact lstB_map fnB Mod.Fn.bare (fun _ => rfl) m.fu
  | 3 => simp only [secB]; rfl
  | 4 => simp only [secB]; rfl
  | 5 => simp only [secB]; exact lstB_map glB Gl.bare (fun x => by unfold glB; rw [show (Gl.bare x).l = x.l.bare from rfl, insB_bare]; rfl) m.gl
  | 6 => simp only [secB]; rfl
  | 7 => simp only [secB]; rfl
  | 8 => simp only [secB]; exact lstB_map elB El.bare (fun x => by unfold elB; rw [show (El.bare x).l = x.l.bare from rfl, insB_bare]; rfl) m.el
  | 9 => simp only [secB]; exact lstB_map coB Mod.Fn.bare (fun x => by unfold coB; rw [show (Mod.Fn.bare x).l.t = x.l.t.bare from rfl, codeL_bareE]; rfl) m.fu
  | 10 => simp only [secB]; exact lstB_map daB Da.bare (fun x => by unfold daB; rw [show (Da.bare x).l = x.l.bare from rfl, insB_bare]; rfl) m.da
  | n + 11 => simp [secB]
theorem secB_core {a b : Md} (h : a.bare = b.bare) (k : Nat) : secB a k = secB b k := by rw [← secB_bare a, h, secB_bare]
theorem modB_core {a b : Md} (h : a.bare = b.bare) : modB a = modB b := by
  have : pieceB a = pieceB b := by
    funext k
    unfold pieceB
    rw [secB_core h]
  unfold modB uptoB
  rw [this]
end Go.Proofs.YtepbjkkakfpjgaaGreatDoor.Enc

/-
  MODULE: a module without one of its items: it may be, if the whole may be; it lies where the whole lies.
-/
namespace Go.Proofs.YtepbjkkakfpjgaaGreatDoor.Mod
open Go.RowKit Go.Proofs.YtepbjkkakfpjgaaGreatDoor.Instr

/-- What slices reach is no less than what they hold. -/
structure Md.caps (m : Md) : Prop where
  ty : m.ty.length ≤ m.ty'.c
  im : m.im.length ≤ m.im'.c
  fu : m.fu.length ≤ m.fu'.c
  gl : m.gl.length ≤ m.gl'.c
  ex : m.ex.length ≤ m.ex'.c
  el : m.el.length ≤ m.el'.c
  da : m.da.length ≤ m.da'.c
def Md.less (m : Md) (i : Nat) : Md :=
  if i = 0 then { m with ty := m.ty.dropLast }
  else if i = 1 then { m with im := m.im.dropLast }
  else if i = 2 then { m with fu := m.fu.dropLast }
  else if i = 3 then { m with tb := [], tb' := ⟨none, 0⟩, me := [], me' := ⟨none, 0⟩ }
  else if i = 4 then { m with gl := m.gl.dropLast }
  else if i = 5 then { m with ex := m.ex.dropLast }
  else if i = 6 then { m with el := m.el.dropLast }
  else if i = 7 then { m with da := m.da.dropLast }
  else if i = 8 then { m with st := false, sn := 0 }
  else m
/-- One has no more than the other. -/
structure Sub (m' m : Md) : Prop where
  ty : m'.ty <+: m.ty
  im : m'.im <+: m.im
  fu : m'.fu <+: m.fu
  tb : m'.tb <+: m.tb
  me : m'.me <+: m.me
  gl : m'.gl <+: m.gl
  ex : m'.ex <+: m.ex
  el : m'.el <+: m.el
  da : m'.da <+: m.da
  st : (m'.st = m.st ∧ m'.sn = m.sn) ∨ m'.sn = 0
theorem less_sub (m : Md) (i : Nat) : Sub (m.less i) m := by
  have d : ∀ {α : Type} (l : List α), l.dropLast <+: l := fun l => List.dropLast_prefix l
  have r : ∀ {α : Type} (l : List α), l <+: l := fun l => List.prefix_refl l
  unfold Md.less
  (repeat' split) <;> (constructor <;> first | exact d _ | exact r _ | exact List.nil_prefix | exact .inl ⟨rfl, rfl⟩ | exact .inr rfl)
theorem codes_mem {m' m : Md} (h : Sub m' m) : ∀ l ∈ m'.codes, l ∈ m.codes := by
  intro l hl
  unfold Md.codes at hl ⊢
  simp only [List.mem_append, List.mem_map] at hl ⊢
  rcases hl with ⟨x, hx, rfl⟩ | ⟨x, hx, rfl⟩ | ⟨x, hx, rfl⟩ | ⟨x, hx, rfl⟩
  · exact .inl ⟨x, h.fu.subset hx, rfl⟩
  · exact .inr (.inl ⟨x, h.gl.subset hx, rfl⟩)
  · exact .inr (.inr (.inl ⟨x, h.el.subset hx, rfl⟩))
  · exact .inr (.inr (.inr ⟨x, h.da.subset hx, rfl⟩))
theorem any_sub {α : Type} {l' l : List α} (h : l' <+: l) (p : α → Bool) (hf : l.any p = false) : l'.any p = false := by
  rw [List.any_eq_false] at hf ⊢
  exact fun x hx => hf x (h.subset hx)
theorem check_zero (m : Md) : m.check = 0 ↔ m.crowded = false ∧ (∀ y ∈ m.codes, checkP y.t = 0) ∧ m.anyName longS = false ∧ m.heavy = false ∧ m.wrong = false := by
  rw [← codeP_zero]
  unfold Md.check
  have hc := codeP_cases m.codes
  constructor
  · intro h
    split at h
    · cases h
    split at h
    · cases h
    split at h
    · cases h
    split at h
    · cases h
    split at h
    · cases h
    split at h
    · cases h
    rename_i h1 h2 h3 h4 h5 h6
    exact ⟨by simpa using h1, by omega, by simpa using h3, by simpa using h4, by simpa using h6⟩
  · rintro ⟨h1, h2, h3, h4, h5⟩
    rw [h1, h2, h3, h4, h5]
    rfl
theorem sumB_sub {l' l : List Da} (h : l' <+: l) : sumB l' ≤ sumB l := by
  obtain ⟨r, rfl⟩ := h
  rw [sumB_append]; omega
theorem check_sub {m' m : Md} (h : Sub m' m) (hc : m.check = 0) : m'.check = 0 := by
  rw [check_zero] at hc ⊢
  obtain ⟨h1, h2, h3, h4, h5⟩ := hc
  refine ⟨?_, fun y hy => h2 y (codes_mem h y hy), ?_, ?_, ?_⟩
  · unfold Md.crowded at h1 ⊢
    simp only [Bool.or_eq_false_iff, decide_eq_false_iff_not] at h1 ⊢
    obtain ⟨⟨⟨⟨⟨⟨⟨⟨⟨a1, a2⟩, a3⟩, a4⟩, a5⟩, a6⟩, a7⟩, a8⟩, a9⟩, a10⟩ := h1
    have := h.ty.length_le; have := h.im.length_le; have := h.fu.length_le; have := h.gl.length_le; have := h.ex.length_le; have := h.el.length_le; have := h.da.length_le; have := h.tb.length_le; have := h.me.length_le
    exact ⟨⟨⟨⟨⟨⟨⟨⟨⟨by omega, by omega⟩, by omega⟩, by omega⟩, by omega⟩, by omega⟩, by omega⟩, any_sub h.el _ a8⟩, by omega⟩, by omega⟩
  · unfold Md.anyName at h3 ⊢
    simp only [Bool.or_eq_false_iff] at h3 ⊢
    exact ⟨any_sub h.im _ h3.1, any_sub h.ex _ h3.2⟩
  · unfold Md.heavy at h4 ⊢
    simp only [decide_eq_false_iff_not] at h4 ⊢
    have := sumB_sub h.da
    omega
  · unfold Md.wrong Md.anyName at h5 ⊢
    simp only [Bool.or_eq_false_iff] at h5 ⊢
    obtain ⟨⟨⟨⟨⟨⟨⟨⟨a1, a1'⟩, a2⟩, a3⟩, a4⟩, a5⟩, a6⟩, a7⟩, a8⟩ := h5
    refine ⟨⟨⟨⟨⟨⟨⟨⟨any_sub h.im _ a1, any_sub h.ex _ a1'⟩, any_sub h.ty _ a2⟩, any_sub h.im _ a3⟩, any_sub h.fu _ a4⟩, any_sub h.ex _ a5⟩, any_sub h.tb _ a6⟩, any_sub h.me _ a7⟩, ?_⟩
    rcases h.st with ⟨e1, e2⟩ | e
    · rw [e1, e2]; exact a8
    · rw [e]; simp
theorem few_sub {m' m : Md} (h : Sub m' m) (hf : m.few) : m'.few := by
  have := h.ty.length_le; have := h.im.length_le; have := h.fu.length_le; have := h.gl.length_le; have := h.ex.length_le; have := h.el.length_le; have := h.da.length_le; have := h.tb.length_le; have := h.me.length_le
  have := hf.fit.ty; have := hf.fit.im; have := hf.fit.fu; have := hf.fit.gl; have := hf.fit.ex; have := hf.fit.el; have := hf.fit.da; have := hf.fit.tb; have := hf.fit.me
  have := hf.lens
  exact ⟨⟨by omega, by omega, by omega, by omega, by omega, by omega, by omega, by omega, by omega, fun l hl => hf.fit.ls l (codes_mem h l hl), fun e he => hf.fit.fs e (h.el.subset he), fun e he => hf.fit.bs e (h.da.subset he), fun e he => hf.fit.iS e (h.im.subset he), fun e he => hf.fit.eS e (h.ex.subset he)⟩,
    fun l hl => hf.cs l (codes_mem h l hl), by omega⟩
theorem Rows.sub {α : Type} {f : α → List Value} {l' l : List α} {n₀ sz : Nat} {w : World} {a : Option Addr} (h : Rows n₀ w a sz (l.map f)) (hp : l' <+: l) : Rows n₀ w a sz (l'.map f) := by
  obtain ⟨r, rfl⟩ := hp
  rcases h with h | ⟨b, off, ha, hl, hc⟩
  · left
    rw [List.map_eq_nil_iff, List.append_eq_nil_iff] at h
    rw [h.1]; rfl
  · refine .inr ⟨b, off, ha, hl, fun i hi j hj v hv => hc i (by simp at hi ⊢; omega) j hj v ?_⟩
    simp only [List.length_map] at hi
    rw [List.getD_eq_getElem?_getD, List.getElem?_map] at hv ⊢
    rw [List.getElem?_append_left hi]
    exact hv
/-- The lists lie where they lay, or are empty. -/
structure Lies (m' m : Md) : Prop where
  ty : m'.ty' = m.ty' ∨ m'.ty = []
  im : m'.im' = m.im' ∨ m'.im = []
  fu : m'.fu' = m.fu' ∨ m'.fu = []
  tb : m'.tb' = m.tb' ∨ m'.tb = []
  me : m'.me' = m.me' ∨ m'.me = []
  gl : m'.gl' = m.gl' ∨ m'.gl = []
  ex : m'.ex' = m.ex' ∨ m'.ex = []
  el : m'.el' = m.el' ∨ m'.el = []
  da : m'.da' = m.da' ∨ m'.da = []
theorem less_lies (m : Md) (i : Nat) : Lies (m.less i) m := by
  unfold Md.less
  (repeat' split) <;> (constructor <;> first | exact .inl rfl | exact .inr rfl)
theorem Rows.lie {α : Type} {f : α → List Value} {l' l : List α} {n₀ sz : Nat} {w : World} {s s' : Sl} (h : Rows n₀ w s.a sz (l.map f)) (hp : l' <+: l) (hs : s' = s ∨ l' = []) : Rows n₀ w s'.a sz (l'.map f) := by
  rcases hs with rfl | rfl
  · exact h.sub hp
  · exact .inl rfl
theorem at_sub {n₀ : Nat} {w : World} {m' m : Md} (h : Sub m' m) (hl : Lies m' m) (hm : ModAt n₀ w m) : ModAt n₀ w m' :=
  ⟨hm.ty.lie h.ty hl.ty, hm.im.lie h.im hl.im, hm.fu.lie h.fu hl.fu, hm.tb.lie h.tb hl.tb, hm.me.lie h.me hl.me, hm.gl.lie h.gl hl.gl, hm.ex.lie h.ex hl.ex, hm.el.lie h.el hl.el, hm.da.lie h.da hl.da,
    fun l hx => hm.ls l (codes_mem h l hx), fun e he => hm.fs e (h.el.subset he), fun d hd => hm.bs d (h.da.subset hd)⟩
end Go.Proofs.YtepbjkkakfpjgaaGreatDoor.Mod

/-
  MODULE: a module as an argument, by value: opened.
-/
namespace Go.Proofs.YtepbjkkakfpjgaaGreatDoor.Mod
open Go.RowKit Go.ChangeShapes Go.WideShapes Go.ChangeAt Go.Joins Go.Deep Go.Proofs.YtepbjkkakfpjgaaGreatDoor.Instr

variable {H : Type} {enc : TypeId × Value → H} {W : World}
def Wok (T : TypeId) (d : DataW H) : Prop := ∀ q ∈ d.weights Tryz.prog T, q ≤ reachBytes

theorem exists_list {α : Type} {P : Nat → α → Prop} : ∀ n : Nat, (∀ i, i < n → ∃ a, P i a) → ∃ l : List α, l.length = n ∧ ∀ (i : Nat) (h : i < l.length), P i l[i]
  | 0, _ => ⟨[], rfl, fun i h => absurd h (Nat.not_lt_zero _)⟩
  | n + 1, h => by
    obtain ⟨l, hl, hp⟩ := exists_list n (fun i hi => h i (by omega))
    obtain ⟨a, ha⟩ := h n (by omega)
    refine ⟨l ++ [a], by simp [hl], fun i hi => ?_⟩
    by_cases hn : i < l.length
    · rw [List.getElem_append_left hn]; exact hp i hn
    · have : i = n := by simp at hi; omega
      subst this
      rw [List.getElem_append_right (by omega)]
      simpa [hl] using ha
theorem cells_get {w : World} {b o sz : Nat} {cs : List Value} (h : w.cells? 0 ⟨b, o, none⟩ sz = some cs) : cs.length = sz ∧ ∀ j v, cs[j]? = some v → w.cell? ⟨b, o + j, none⟩ = some v := by
  unfold World.cells? at h
  rw [if_pos (Nat.zero_le _)] at h
  have hl := mapM_some_length h
  refine ⟨by simpa using hl, fun j v hv => ?_⟩
  have hj : j < sz := by
    have := (List.getElem?_eq_some_iff.1 hv).1
    simp at hl; omega
  have := mapM_some_get h j j (by simp [hj])
  rw [plainAdd] at this
  rw [this, hv]
theorem cells_spot {w : World} {b o sz : Nat} {sp : Option Nat} {cs : List Value} (hs : 0 < sz) (h : w.cells? 0 ((⟨b, o, sp⟩ : Addr).add 0) sz = some cs) : sp = none := by
  unfold World.cells? at h
  rw [if_pos (Nat.zero_le _)] at h
  have hl := mapM_some_length h
  have hg := mapM_some_get h 0 0 (by simp [hs])
  have h0 : ∃ v, cs[0]? = some v := ⟨_, List.getElem?_eq_getElem (by simp at hl; omega)⟩
  obtain ⟨v, hv⟩ := h0
  rw [hv] at hg
  have hp := World.cell?_spot hg
  unfold Addr.add at hp
  (repeat' split at hp) <;> simp_all
/-- A slice of records of sz cells each. -/
theorem open_rows {α : Type} {T S : TypeId} {sz nb : Nat} (V : α → List Value) (Good : α → Prop) (hS : Tryz.prog.underlying S = some (.slice T)) (hc : Tryz.prog.cellsOf T = sz) (hs0 : 0 < sz) (hb : Tryz.prog.bytesOf T = nb) (hnb : 1 ≤ nb)
    (one : ∀ n cs x, DataW.trod enc Tryz.prog W 0 (fun _ => true) true n T cs = some x → Wok T x.1 → ∃ a : α, cs = V a ∧ Good a)
    {fuel : Nat} {cs : List Value} {x : DataW H × List MemPlace} (h : DataW.trod enc Tryz.prog W 0 (fun _ => true) true fuel S cs = some x) (hw : Wok S x.1) :
    ∃ (a : Option Addr) (c : Nat) (l : List α), cs = [.slice a l.length c] ∧ l.length ≤ c ∧ l.length ≤ 140737488351232 ∧ Rows W.heap.size W a sz (l.map V) ∧ ∀ y ∈ l, Good y := by
  rcases DataW.trod_slice hS h with ⟨rfl, _⟩ | ⟨a, len, cap, elems, rest, n, hfu, rfl, rfl, _, hlc, _, hlen, hel, _, _⟩
  · exact ⟨none, 0, [], rfl, by simp, by simp, .inl rfl, by simp⟩
  have hbound : (elems.length + rest.length) * nb ≤ reachBytes := by
    have : (elems.length + rest.length) * Tryz.prog.bytesOf T ≤ reachBytes := hw _ (by simp [DataW.weights, hS])
    rw [hb] at this; exact this
  have hbig : len ≤ 140737488351232 := by
    simp only [reachBytes] at hbound
    have : elems.length * 1 ≤ (elems.length + rest.length) * nb := Nat.mul_le_mul (by omega) hnb
    omega
  have hwe : ∀ (i : Nat) (y : DataW H × List MemPlace), elems[i]? = some y → Wok T y.1 := by
    intro i y hy m hm
    refine hw m ?_
    have h1 : (elems.map (·.1))[i]? = some y.1 := by simp [hy]
    have := weights_all h1 m hm
    simp only [DataW.weights, hS, List.mem_cons, List.mem_append]
    exact .inr (.inl this)
  obtain ⟨b, o, sp⟩ := a
  have hspot : 0 < len → sp = none := by
    intro hi
    have h1 := hel 0 hi
    rw [hc, List.getElem?_eq_getElem (by omega), Nat.zero_mul] at h1
    obtain ⟨cs', hcs, _⟩ := Option.bind_eq_some_iff.1 h1
    exact cells_spot hs0 hcs
  have each : ∀ i, i < len → ∃ y : α, (∀ j v, (V y)[j]? = some v → W.cell? ⟨b, o + i * sz + j, none⟩ = some v) ∧ Good y ∧ sp = none := by
    intro i hi
    have h1 := hel i hi
    rw [hc, List.getElem?_eq_getElem (by omega)] at h1
    obtain ⟨cs', hcs, ht⟩ := Option.bind_eq_some_iff.1 h1
    have hsp := hspot (by omega)
    subst hsp
    rw [plainAdd] at hcs
    obtain ⟨y, rfl, hg⟩ := one n cs' _ ht (hwe i _ (List.getElem?_eq_getElem (by omega)))
    exact ⟨y, (cells_get hcs).2, hg, rfl⟩
  obtain ⟨l, hl, hp⟩ := exists_list len each
  refine ⟨some ⟨b, o, sp⟩, cap, l, by rw [hl], by omega, by omega, ?_, fun y hy => ?_⟩
  · by_cases h0 : len = 0
    · left
      have : l = [] := List.eq_nil_of_length_eq_zero (by omega)
      rw [this]; rfl
    · obtain ⟨hc0, _, rfl⟩ := hp 0 (by omega)
      obtain ⟨cs', hcs, _⟩ := Option.bind_eq_some_iff.1 (show _ = some (elems[0]'(by omega)) by rw [hel 0 (by omega)]; exact List.getElem?_eq_getElem _)
      rw [hc, plainAdd] at hcs
      obtain ⟨hl0, hg0⟩ := cells_get hcs
      have hv0 : ∃ v, cs'[0]? = some v := ⟨_, List.getElem?_eq_getElem (by omega)⟩
      obtain ⟨v0, hv0⟩ := hv0
      refine .inr ⟨b, o, rfl, World.block_lt_of_cell? W _ (hg0 0 v0 hv0), fun i hi j _ v hv => ?_⟩
      simp only [List.length_map] at hi
      refine (hp i hi).1 j v ?_
      rw [List.getD_eq_getElem?_getD, List.getElem?_map, List.getElem?_eq_getElem hi] at hv
      exact hv
  · obtain ⟨i, hi, rfl⟩ := List.mem_iff_getElem.1 hy
    exact (hp i hi).2.1

set_option maxRecDepth 100000 in
theorem rd2 {T : TypeId} {f0 f1 : Field} {n : Nat} {cs : List Value} {x : DataW H × List MemPlace} (hs : Tryz.prog.underlying T = some (.struct #[f0, f1])) (hone : oneCellFields Tryz.prog #[f0, f1] = true) (hC : Tryz.prog.cellsOf T = 2)
    (h : DataW.trod enc Tryz.prog W 0 (fun _ => true) true n T cs = some x) (hw : Wok T x.1) : ∃ v0 v1 y0 y1 m, cs = [v0, v1] ∧ DataW.trod enc Tryz.prog W 0 (fun _ => true) true m f0.type [v0] = some y0 ∧ DataW.trod enc Tryz.prog W 0 (fun _ => true) true m f1.type [v1] = some y1 ∧ Wok f0.type y0.1 ∧ Wok f1.type y1.1 := by
  obtain ⟨y0, y1, m, rfl, hl, h0, h1⟩ := trod_struct2 hs h
  obtain ⟨o0, k0⟩ := hone_of hone 0 f0 rfl
  obtain ⟨o1, k1⟩ := hone_of hone 1 f1 rfl
  rw [hC] at hl
  match cs, hl with
  | [v0, v1], _ =>
    refine ⟨v0, v1, y0, y1, m, rfl, by simpa [o0, k0] using h0, by simpa [o1, k1] using h1, fun q hq => hw q ?_, fun q hq => hw q ?_⟩
    · simp only [DataW.weights, hs]; exact DataW.weights_mem_each (j := 0) rfl rfl q hq
    · simp only [DataW.weights, hs]; exact DataW.weights_mem_each (j := 1) rfl rfl q hq
set_option maxRecDepth 100000 in
theorem rd3 {T : TypeId} {f0 f1 f2 : Field} {n : Nat} {cs : List Value} {x : DataW H × List MemPlace} (hs : Tryz.prog.underlying T = some (.struct #[f0, f1, f2])) (hone : oneCellFields Tryz.prog #[f0, f1, f2] = true) (hC : Tryz.prog.cellsOf T = 3)
    (h : DataW.trod enc Tryz.prog W 0 (fun _ => true) true n T cs = some x) (hw : Wok T x.1) : ∃ v0 v1 v2 y0 y1 y2 m, cs = [v0, v1, v2] ∧ DataW.trod enc Tryz.prog W 0 (fun _ => true) true m f0.type [v0] = some y0 ∧ DataW.trod enc Tryz.prog W 0 (fun _ => true) true m f1.type [v1] = some y1 ∧
      DataW.trod enc Tryz.prog W 0 (fun _ => true) true m f2.type [v2] = some y2 ∧ Wok f0.type y0.1 ∧ Wok f1.type y1.1 ∧ Wok f2.type y2.1 := by
  obtain ⟨y0, y1, y2, m, rfl, hl, h0, h1, h2⟩ := trod_struct3 hs h
  obtain ⟨o0, k0⟩ := hone_of hone 0 f0 rfl
  obtain ⟨o1, k1⟩ := hone_of hone 1 f1 rfl
  obtain ⟨o2, k2⟩ := hone_of hone 2 f2 rfl
  rw [hC] at hl
  match cs, hl with
  | [v0, v1, v2], _ =>
    refine ⟨v0, v1, v2, y0, y1, y2, m, rfl, by simpa [o0, k0] using h0, by simpa [o1, k1] using h1, by simpa [o2, k2] using h2, fun q hq => hw q ?_, fun q hq => hw q ?_, fun q hq => hw q ?_⟩
    · simp only [DataW.weights, hs]; exact DataW.weights_mem_each (j := 0) rfl rfl q hq
    · simp only [DataW.weights, hs]; exact DataW.weights_mem_each (j := 1) rfl rfl q hq
    · simp only [DataW.weights, hs]; exact DataW.weights_mem_each (j := 2) rfl rfl q hq
theorem rd_lst {n : Nat} {v : Value} {x : DataW H × List MemPlace} (h : DataW.trod enc Tryz.prog W 0 (fun _ => true) true n 45 [v] = some x) (hw : Wok 45 x.1) : ∃ l : Lst, v = l.val ∧ ListAt W.heap.size W l.a l.t.len l.t ∧ l.t.len ≤ 140737488351232 := by
  obtain ⟨a, len, c, t, e, _, h2, h3⟩ := open_il n _ _ h hw
  simp only [List.cons.injEq, and_true] at e
  subst e
  have hl := h3.1
  subst hl
  exact ⟨⟨a, c, t⟩, rfl, h3, h2⟩
theorem rd_str {n : Nat} {v : Value} {x : DataW H × List MemPlace} (h : DataW.trod enc Tryz.prog W 0 (fun _ => true) true n 9 [v] = some x) (hw : Wok 9 x.1) : ∃ s : ByteArray, v = .string s ∧ s.size ≤ 140737488351232 := by
  obtain ⟨s, e, rfl, _⟩ := DataW.trod_string Tryz.underlying9 h
  simp only [List.cons.injEq, and_true] at e
  refine ⟨s, e, ?_⟩
  have := hw s.size (by simp [DataW.weights])
  simpa [reachBytes] using this
theorem one_ty {n : Nat} {cs : List Value} {x : DataW H × List MemPlace} (h : DataW.trod enc Tryz.prog W 0 (fun _ => true) true n 50 cs = some x) (hw : Wok 50 x.1) : ∃ a : Int × Int, cs = tyV a ∧ True := by
  obtain ⟨v0, v1, y0, y1, m, rfl, h0, h1, _, _⟩ := rd2 Tryz.underlying50 (by kernel_rfl) (by kernel_rfl) h hw
  obtain ⟨n0, e0, -, _⟩ := DataW.trod_int Tryz.underlying3 h0
  obtain ⟨n1, e1, -, _⟩ := DataW.trod_int Tryz.underlying3 h1
  simp only [List.cons.injEq, and_true] at e0 e1
  subst e0 e1
  exact ⟨(n0, n1), rfl, trivial⟩
theorem one_im {n : Nat} {cs : List Value} {x : DataW H × List MemPlace} (h : DataW.trod enc Tryz.prog W 0 (fun _ => true) true n 73 cs = some x) (hw : Wok 73 x.1) : ∃ a : Imp, cs = a.v ∧ a.mo.size ≤ 140737488351232 ∧ a.na.size ≤ 140737488351232 := by
  obtain ⟨v0, v1, v2, y0, y1, y2, m, rfl, h0, h1, h2, w0, w1, _⟩ := rd3 Tryz.underlying73 (by kernel_rfl) (by kernel_rfl) h hw
  obtain ⟨s0, rfl, b0⟩ := rd_str h0 w0
  obtain ⟨s1, rfl, b1⟩ := rd_str h1 w1
  obtain ⟨n2, e2, -, _⟩ := DataW.trod_int Tryz.underlying3 h2
  simp only [List.cons.injEq, and_true] at e2
  subst e2
  exact ⟨⟨s0, s1, n2⟩, rfl, b0, b1⟩
theorem one_li {n : Nat} {cs : List Value} {x : DataW H × List MemPlace} (h : DataW.trod enc Tryz.prog W 0 (fun _ => true) true n 60 cs = some x) (hw : Wok 60 x.1) : ∃ a : Li, cs = a.v ∧ 0 ≤ a.n := by
  obtain ⟨v0, v1, v2, y0, y1, y2, m, rfl, h0, h1, h2, _, _, _⟩ := rd3 Tryz.underlying60 (by kernel_rfl) (by kernel_rfl) h hw
  obtain ⟨n0, e0, -, wf0⟩ := DataW.trod_int Tryz.underlying28 h0
  obtain ⟨n1, e1, -, _⟩ := DataW.trod_int Tryz.underlying28 h1
  obtain ⟨n2, e2, -⟩ := DataW.trod_bool Tryz.underlying4 h2
  simp only [List.cons.injEq, and_true] at e0 e1 e2
  subst e0 e1 e2
  exact ⟨⟨n0, n1, n2⟩, rfl, (bounds_u32 wf0).1⟩
theorem one_ex {n : Nat} {cs : List Value} {x : DataW H × List MemPlace} (h : DataW.trod enc Tryz.prog W 0 (fun _ => true) true n 75 cs = some x) (hw : Wok 75 x.1) : ∃ a : Ex, cs = a.v ∧ a.na.size ≤ 140737488351232 ∧ 0 ≤ a.i ∧ a.i < 4294967296 := by
  obtain ⟨v0, v1, v2, y0, y1, y2, m, rfl, h0, h1, h2, w0, _, _⟩ := rd3 Tryz.underlying75 (by kernel_rfl) (by kernel_rfl) h hw
  obtain ⟨s0, rfl, b0⟩ := rd_str h0 w0
  obtain ⟨n1, e1, -, _⟩ := DataW.trod_int Tryz.underlying3 h1
  obtain ⟨n2, e2, -, wf2⟩ := DataW.trod_int Tryz.underlying28 h2
  simp only [List.cons.injEq, and_true] at e1 e2
  subst e1 e2
  have hb := bounds_u32 wf2
  exact ⟨⟨s0, n1, n2⟩, rfl, b0, hb.1, by have := hb.2; show n2 < _; omega⟩
/-- A list of instructions lies where it is said to. -/
def LGood (W : World) (l : Lst) : Prop := ListAt W.heap.size W l.a l.t.len l.t ∧ l.t.len ≤ 140737488351232
theorem one_gl {n : Nat} {cs : List Value} {x : DataW H × List MemPlace} (h : DataW.trod enc Tryz.prog W 0 (fun _ => true) true n 68 cs = some x) (hw : Wok 68 x.1) : ∃ a : Gl, cs = a.v ∧ LGood W a.l := by
  obtain ⟨v0, v1, y0, y1, m, rfl, h0, h1, _, w1⟩ := rd2 Tryz.underlying68 (by kernel_rfl) (by kernel_rfl) h hw
  obtain ⟨n0, e0, -⟩ := DataW.trod_bool Tryz.underlying4 h0
  obtain ⟨l, rfl, hl⟩ := rd_lst h1 w1
  simp only [List.cons.injEq, and_true] at e0
  subst e0
  exact ⟨⟨n0, l⟩, rfl, hl⟩
theorem open_u32s {n : Nat} {v : Value} {x : DataW H × List MemPlace} (h : DataW.trod enc Tryz.prog W 0 (fun _ => true) true n 69 [v] = some x) (hw : Wok 69 x.1) : ∃ a c zs, v = .slice a zs.length c ∧ TagsAt W.heap.size W a zs ∧ zs.length ≤ 140737488351232 ∧ ∀ z ∈ zs, 0 ≤ z ∧ z < 4294967296 := by
  obtain ⟨a, c, zs, e1, _, hz, hr, hg⟩ := open_rows (sz := 1) (nb := 4) (α := { z : Int // 0 ≤ z ∧ z < 4294967296 }) (fun z => [.int .u32 z.1]) (fun _ => True) Tryz.underlying69 (by kernel_rfl) (by omega) (by kernel_rfl : Tryz.prog.bytesOf 28 = 4) (by omega)
    (fun n cs x h _ => by
      obtain ⟨z, e, -, wf⟩ := DataW.trod_int Tryz.underlying28 h
      have := bounds_u32 wf
      exact ⟨⟨z, by omega, by omega⟩, e, trivial⟩) h hw
  simp only [List.cons.injEq, and_true] at e1
  subst e1
  refine ⟨a, c, zs.map (·.1), by simp, ?_, by simpa using hz, fun z hm => ?_⟩
  · rcases hr with h | ⟨b, off, ha, hb, hcell⟩
    · left
      rw [List.map_eq_nil_iff] at h
      subst h; rfl
    · refine .inr ⟨b, off, ha, hb, fun i hi => ?_⟩
      have hi' : i < zs.length := by simpa using hi
      have := hcell i (by simpa using hi') 0 (by omega) (.int .u32 zs[i].1) (by simp [hi'])
      rw [Nat.mul_one, Nat.add_zero] at this
      rw [this]
      simp [hi']
  · obtain ⟨y, _, rfl⟩ := List.mem_map.1 hm
    exact y.2
theorem one_el {n : Nat} {cs : List Value} {x : DataW H × List MemPlace} (h : DataW.trod enc Tryz.prog W 0 (fun _ => true) true n 71 cs = some x) (hw : Wok 71 x.1) : ∃ a : El, cs = a.v ∧ LGood W a.l ∧ TagsAt W.heap.size W a.fa a.fs ∧ a.fs.length ≤ 140737488351232 ∧ ∀ z ∈ a.fs, 0 ≤ z ∧ z < 4294967296 := by
  obtain ⟨v0, v1, y0, y1, m, rfl, h0, h1, w0, w1⟩ := rd2 Tryz.underlying71 (by kernel_rfl) (by kernel_rfl) h hw
  obtain ⟨l, rfl, hl⟩ := rd_lst h0 w0
  obtain ⟨a, c, zs, rfl, ht, hz, hr⟩ := open_u32s h1 w1
  exact ⟨⟨l, a, c, zs⟩, rfl, hl, ht, hz, hr⟩
theorem one_da {n : Nat} {cs : List Value} {x : DataW H × List MemPlace} (h : DataW.trod enc Tryz.prog W 0 (fun _ => true) true n 47 cs = some x) (hw : Wok 47 x.1) : ∃ a : Da, cs = a.v ∧ LGood W a.l ∧ BytesAt W.heap.size W a.ba a.bs ∧ a.bs.length ≤ 140737488351232 ∧ ∀ z ∈ a.bs, 0 ≤ z ∧ z < 256 := by
  obtain ⟨v0, v1, y0, y1, m, rfl, h0, h1, w0, w1⟩ := rd2 Tryz.underlying47 (by kernel_rfl) (by kernel_rfl) h hw
  obtain ⟨l, rfl, hl⟩ := rd_lst h0 w0
  obtain ⟨a, c, zs, e1, _, hz, hr, hg⟩ := open_rows (sz := 1) (nb := 1) (α := { z : Int // 0 ≤ z ∧ z < 256 }) (fun z => [.int .u8 z.1]) (fun _ => True) Tryz.underlying35 (by kernel_rfl) (by omega) (by kernel_rfl : Tryz.prog.bytesOf 5 = 1) (by omega)
    (fun n cs x h _ => by
      obtain ⟨z, e, -, wf⟩ := DataW.trod_int Tryz.underlying5 h
      have := bounds_u8 wf
      exact ⟨⟨z, by omega, by omega⟩, e, trivial⟩) h1 w1
  simp only [List.cons.injEq, and_true] at e1
  subst e1
  refine ⟨⟨l, a, c, zs.map (·.1)⟩, by simp [Da.v], hl, ?_, by simpa using hz, fun z hm => ?_⟩
  · rcases hr with h | ⟨b, off, ha, hb, hcell⟩
    · left
      rw [List.map_eq_nil_iff] at h
      subst h; rfl
    · refine .inr ⟨b, off, ha, hb, fun i hi => ?_⟩
      have hi' : i < zs.length := by simpa using hi
      have := hcell i (by simpa using hi') 0 (by omega) (.int .u8 zs[i].1) (by simp [hi'])
      rw [Nat.mul_one, Nat.add_zero] at this
      rw [this]
      simp [hi']
  · obtain ⟨y, _, rfl⟩ := List.mem_map.1 hm
    exact y.2
set_option maxRecDepth 100000 in
theorem one_fu {n : Nat} {cs : List Value} {x : DataW H × List MemPlace} (h : DataW.trod enc Tryz.prog W 0 (fun _ => true) true n 66 cs = some x) (hw : Wok 66 x.1) : ∃ a : Fn, cs = a.v ∧ LGood W a.l := by
  obtain ⟨y0, y1, m, rfl, hl, h0, h1⟩ := trod_struct2 Tryz.underlying66 h
  have w1 : Wok 64 y1.1 := fun q hq => hw q (by simp only [DataW.weights, Tryz.underlying66]; exact DataW.weights_mem_each (j := 1) rfl rfl q hq)
  rw [show Tryz.prog.cellsOf 66 = 3 by kernel_rfl] at hl
  match cs, hl with
  | [v0, v1, v2], _ =>
    have h0' : DataW.trod enc Tryz.prog W 0 (fun _ => true) true m 3 [v0] = some y0 := by
      have := h0
      dsimp only at this
      rw [show Tryz.prog.cellsOf 3 = 1 by kernel_rfl] at this
      exact this
    have h1' : DataW.trod enc Tryz.prog W 0 (fun _ => true) true m 64 [v1, v2] = some y1 := by
      have := h1
      dsimp only at this
      rw [show Tryz.prog.cellsOf 64 = 2 by kernel_rfl] at this
      exact this
    obtain ⟨u0, u1, z0, z1, m', e, k0, k1, _, w2⟩ := rd2 Tryz.underlying64 (by kernel_rfl) (by kernel_rfl) h1' w1
    simp only [List.cons.injEq, and_true] at e
    obtain ⟨rfl, rfl⟩ := e
    obtain ⟨n0, e0, -, _⟩ := DataW.trod_int Tryz.underlying3 h0'
    obtain ⟨n1, e1, -, _⟩ := DataW.trod_int Tryz.underlying3 k0
    obtain ⟨l, rfl, hg⟩ := rd_lst k1 w2
    simp only [List.cons.injEq, and_true] at e0 e1
    subst e0 e1
    exact ⟨⟨n0, n1, l⟩, rfl, hg⟩
end Go.Proofs.YtepbjkkakfpjgaaGreatDoor.Mod

/-
  MODULE: a module as an argument: all its lists.
-/
namespace Go.Proofs.YtepbjkkakfpjgaaGreatDoor.Mod
open Go.RowKit Go.ChangeShapes Go.WideShapes Go.ChangeAt Go.Joins Go.Deep Go.Proofs.YtepbjkkakfpjgaaGreatDoor.Instr

variable {H : Type} {enc : TypeId × Value → H} {W : World}
theorem honeM : oneCellFields Tryz.prog (Tryz.prog.fieldsOf 32) = true := by kernel_rfl
/-- Numbers as large as their types let them be. -/
structure Md.ranged (m : Md) : Prop where
  n0 : ∀ l ∈ m.tb ++ m.me, 0 ≤ l.n
  ei : ∀ e ∈ m.ex, 0 ≤ e.i ∧ e.i < 4294967296
  ef : ∀ e ∈ m.el, ∀ z ∈ e.fs, 0 ≤ z ∧ z < 4294967296
  db : ∀ d ∈ m.da, ∀ z ∈ d.bs, 0 ≤ z ∧ z < 256
  sn : 0 ≤ m.sn ∧ m.sn < 4294967296
set_option maxRecDepth 100000 in
set_option maxHeartbeats 2000000 in
theorem open_moduleR {ts : List TypeId} {ds : List (DataW H)} {base : Nat} {v : Value} {d : DataW H} {p : List MemPlace}
    (hsz : (DataW.weightsEach Tryz.prog ts ds).all (· ≤ reachBytes) = true) (j : Nat) (ht : ts[j]? = some 32) (hd : ds[j]? = some d)
    (hv : Value.okWide Tryz.prog W .any base 32 v) (h : DataW.Trod enc Tryz.prog W 0 (fun _ => true) true 32 v d p) :
    ∃ m : Md, v = .agg m.v ∧ ModAt W.heap.size W m ∧ m.fits ∧ m.caps ∧ m.ranged := by
  obtain ⟨cs, rfl, hcs⟩ := okWide_struct Tryz.underlying32 hv
  rw [show Tryz.prog.cellsOf 32 = 11 by kernel_rfl] at hcs
  obtain ⟨fuel, hf⟩ := h
  obtain ⟨xs, n, _, hx, _, hlen, hff⟩ := DataW.trod_struct Tryz.underlying32 hf
  have hone := hone_of (show oneCellFields Tryz.prog _ = true from honeM)
  obtain ⟨l⟩ := cs
  have hl : l.length = 11 := by simpa using hcs
  have hwd : Wok 32 d := fun q hq => by
    have := List.all_eq_true.1 hsz _ (DataW.weights_mem_each ht hd q hq)
    simpa using this
  simp only [Prod.mk.injEq] at hx
  obtain ⟨rfl, _⟩ := hx
  match l, hl, xs, hlen with
  | [v0, v1, v2, v3, v4, v5, v6, v7, v8, v9, v10], _, [y0, y1, y2, y3, y4, y5, y6, y7, y8, y9, y10], _ =>
    have w0 : Wok 22 y0.1 := fun q hq => hwd q (by simp only [DataW.weights, Tryz.underlying32]; exact DataW.weights_mem_each (j := 0) rfl rfl q hq)
    have f0 : DataW.trod enc Tryz.prog W 0 (fun _ => true) true n 22 [v0] = some y0 := by
      have h : DataW.trod enc Tryz.prog W 0 (fun _ => true) true n 22 (((Value.agg #[v0, v1, v2, v3, v4, v5, v6, v7, v8, v9, v10]).cells.toList.drop 0).take (Tryz.prog.cellsOf 22)) = [y0, y1, y2, y3, y4, y5, y6, y7, y8, y9, y10][0]? := hff 0 _ rfl
      rw [show Tryz.prog.cellsOf 22 = 1 by kernel_rfl] at h
      exact h
    have w1 : Wok 23 y1.1 := fun q hq => hwd q (by simp only [DataW.weights, Tryz.underlying32]; exact DataW.weights_mem_each (j := 1) rfl rfl q hq)
    have f1 : DataW.trod enc Tryz.prog W 0 (fun _ => true) true n 23 [v1] = some y1 := by
      have h : DataW.trod enc Tryz.prog W 0 (fun _ => true) true n 23 (((Value.agg #[v0, v1, v2, v3, v4, v5, v6, v7, v8, v9, v10]).cells.toList.drop 1).take (Tryz.prog.cellsOf 23)) = [y0, y1, y2, y3, y4, y5, y6, y7, y8, y9, y10][1]? := hff 1 _ rfl
      rw [show Tryz.prog.cellsOf 23 = 1 by kernel_rfl] at h
      exact h
    have w2 : Wok 24 y2.1 := fun q hq => hwd q (by simp only [DataW.weights, Tryz.underlying32]; exact DataW.weights_mem_each (j := 2) rfl rfl q hq)
    have f2 : DataW.trod enc Tryz.prog W 0 (fun _ => true) true n 24 [v2] = some y2 := by
      have h : DataW.trod enc Tryz.prog W 0 (fun _ => true) true n 24 (((Value.agg #[v0, v1, v2, v3, v4, v5, v6, v7, v8, v9, v10]).cells.toList.drop 2).take (Tryz.prog.cellsOf 24)) = [y0, y1, y2, y3, y4, y5, y6, y7, y8, y9, y10][2]? := hff 2 _ rfl
      rw [show Tryz.prog.cellsOf 24 = 1 by kernel_rfl] at h
      exact h
    have w3 : Wok 25 y3.1 := fun q hq => hwd q (by simp only [DataW.weights, Tryz.underlying32]; exact DataW.weights_mem_each (j := 3) rfl rfl q hq)
    have f3 : DataW.trod enc Tryz.prog W 0 (fun _ => true) true n 25 [v3] = some y3 := by
      have h : DataW.trod enc Tryz.prog W 0 (fun _ => true) true n 25 (((Value.agg #[v0, v1, v2, v3, v4, v5, v6, v7, v8, v9, v10]).cells.toList.drop 3).take (Tryz.prog.cellsOf 25)) = [y0, y1, y2, y3, y4, y5, y6, y7, y8, y9, y10][3]? := hff 3 _ rfl
      rw [show Tryz.prog.cellsOf 25 = 1 by kernel_rfl] at h
      exact h
    have w4 : Wok 25 y4.1 := fun q hq => hwd q (by simp only [DataW.weights, Tryz.underlying32]; exact DataW.weights_mem_each (j := 4) rfl rfl q hq)
    have f4 : DataW.trod enc Tryz.prog W 0 (fun _ => true) true n 25 [v4] = some y4 := by
      have h : DataW.trod enc Tryz.prog W 0 (fun _ => true) true n 25 (((Value.agg #[v0, v1, v2, v3, v4, v5, v6, v7, v8, v9, v10]).cells.toList.drop 4).take (Tryz.prog.cellsOf 25)) = [y0, y1, y2, y3, y4, y5, y6, y7, y8, y9, y10][4]? := hff 4 _ rfl
      rw [show Tryz.prog.cellsOf 25 = 1 by kernel_rfl] at h
      exact h
    have w5 : Wok 26 y5.1 := fun q hq => hwd q (by simp only [DataW.weights, Tryz.underlying32]; exact DataW.weights_mem_each (j := 5) rfl rfl q hq)
    have f5 : DataW.trod enc Tryz.prog W 0 (fun _ => true) true n 26 [v5] = some y5 := by
      have h : DataW.trod enc Tryz.prog W 0 (fun _ => true) true n 26 (((Value.agg #[v0, v1, v2, v3, v4, v5, v6, v7, v8, v9, v10]).cells.toList.drop 5).take (Tryz.prog.cellsOf 26)) = [y0, y1, y2, y3, y4, y5, y6, y7, y8, y9, y10][5]? := hff 5 _ rfl
      rw [show Tryz.prog.cellsOf 26 = 1 by kernel_rfl] at h
      exact h
    have w6 : Wok 27 y6.1 := fun q hq => hwd q (by simp only [DataW.weights, Tryz.underlying32]; exact DataW.weights_mem_each (j := 6) rfl rfl q hq)
    have f6 : DataW.trod enc Tryz.prog W 0 (fun _ => true) true n 27 [v6] = some y6 := by
      have h : DataW.trod enc Tryz.prog W 0 (fun _ => true) true n 27 (((Value.agg #[v0, v1, v2, v3, v4, v5, v6, v7, v8, v9, v10]).cells.toList.drop 6).take (Tryz.prog.cellsOf 27)) = [y0, y1, y2, y3, y4, y5, y6, y7, y8, y9, y10][6]? := hff 6 _ rfl
      rw [show Tryz.prog.cellsOf 27 = 1 by kernel_rfl] at h
      exact h
    have w7 : Wok 4 y7.1 := fun q hq => hwd q (by simp only [DataW.weights, Tryz.underlying32]; exact DataW.weights_mem_each (j := 7) rfl rfl q hq)
    have f7 : DataW.trod enc Tryz.prog W 0 (fun _ => true) true n 4 [v7] = some y7 := by
      have h : DataW.trod enc Tryz.prog W 0 (fun _ => true) true n 4 (((Value.agg #[v0, v1, v2, v3, v4, v5, v6, v7, v8, v9, v10]).cells.toList.drop 7).take (Tryz.prog.cellsOf 4)) = [y0, y1, y2, y3, y4, y5, y6, y7, y8, y9, y10][7]? := hff 7 _ rfl
      rw [show Tryz.prog.cellsOf 4 = 1 by kernel_rfl] at h
      exact h
    have w8 : Wok 28 y8.1 := fun q hq => hwd q (by simp only [DataW.weights, Tryz.underlying32]; exact DataW.weights_mem_each (j := 8) rfl rfl q hq)
    have f8 : DataW.trod enc Tryz.prog W 0 (fun _ => true) true n 28 [v8] = some y8 := by
      have h : DataW.trod enc Tryz.prog W 0 (fun _ => true) true n 28 (((Value.agg #[v0, v1, v2, v3, v4, v5, v6, v7, v8, v9, v10]).cells.toList.drop 8).take (Tryz.prog.cellsOf 28)) = [y0, y1, y2, y3, y4, y5, y6, y7, y8, y9, y10][8]? := hff 8 _ rfl
      rw [show Tryz.prog.cellsOf 28 = 1 by kernel_rfl] at h
      exact h
    have w9 : Wok 29 y9.1 := fun q hq => hwd q (by simp only [DataW.weights, Tryz.underlying32]; exact DataW.weights_mem_each (j := 9) rfl rfl q hq)
    have f9 : DataW.trod enc Tryz.prog W 0 (fun _ => true) true n 29 [v9] = some y9 := by
      have h : DataW.trod enc Tryz.prog W 0 (fun _ => true) true n 29 (((Value.agg #[v0, v1, v2, v3, v4, v5, v6, v7, v8, v9, v10]).cells.toList.drop 9).take (Tryz.prog.cellsOf 29)) = [y0, y1, y2, y3, y4, y5, y6, y7, y8, y9, y10][9]? := hff 9 _ rfl
      rw [show Tryz.prog.cellsOf 29 = 1 by kernel_rfl] at h
      exact h
    have w10 : Wok 30 y10.1 := fun q hq => hwd q (by simp only [DataW.weights, Tryz.underlying32]; exact DataW.weights_mem_each (j := 10) rfl rfl q hq)
    have f10 : DataW.trod enc Tryz.prog W 0 (fun _ => true) true n 30 [v10] = some y10 := by
      have h : DataW.trod enc Tryz.prog W 0 (fun _ => true) true n 30 (((Value.agg #[v0, v1, v2, v3, v4, v5, v6, v7, v8, v9, v10]).cells.toList.drop 10).take (Tryz.prog.cellsOf 30)) = [y0, y1, y2, y3, y4, y5, y6, y7, y8, y9, y10][10]? := hff 10 _ rfl
      rw [show Tryz.prog.cellsOf 30 = 1 by kernel_rfl] at h
      exact h
    obtain ⟨a0, c0, l0, e0, k0, b0, r0, g0⟩ := open_rows (sz := 2) tyV _ Tryz.underlying22 (by kernel_rfl) (by omega) rfl (of_decide_eq_true (by kernel_rfl)) (fun _ _ _ h hw => one_ty h hw) f0 w0
    obtain ⟨a1, c1, l1, e1, k1, b1, r1, g1⟩ := open_rows (sz := 3) Imp.v _ Tryz.underlying23 (by kernel_rfl) (by omega) rfl (of_decide_eq_true (by kernel_rfl)) (fun _ _ _ h hw => one_im h hw) f1 w1
    obtain ⟨a2, c2, l2, e2, k2, b2, r2, g2⟩ := open_rows (sz := 3) Fn.v _ Tryz.underlying24 (by kernel_rfl) (by omega) rfl (of_decide_eq_true (by kernel_rfl)) (fun _ _ _ h hw => one_fu h hw) f2 w2
    obtain ⟨a3, c3, l3, e3, k3, b3, r3, g3⟩ := open_rows (sz := 3) Li.v _ Tryz.underlying25 (by kernel_rfl) (by omega) rfl (of_decide_eq_true (by kernel_rfl)) (fun _ _ _ h hw => one_li h hw) f3 w3
    obtain ⟨a4, c4, l4, e4, k4, b4, r4, g4⟩ := open_rows (sz := 3) Li.v _ Tryz.underlying25 (by kernel_rfl) (by omega) rfl (of_decide_eq_true (by kernel_rfl)) (fun _ _ _ h hw => one_li h hw) f4 w4
    obtain ⟨a5, c5, l5, e5, k5, b5, r5, g5⟩ := open_rows (sz := 2) Gl.v _ Tryz.underlying26 (by kernel_rfl) (by omega) rfl (of_decide_eq_true (by kernel_rfl)) (fun _ _ _ h hw => one_gl h hw) f5 w5
    obtain ⟨a6, c6, l6, e6, k6, b6, r6, g6⟩ := open_rows (sz := 3) Ex.v _ Tryz.underlying27 (by kernel_rfl) (by omega) rfl (of_decide_eq_true (by kernel_rfl)) (fun _ _ _ h hw => one_ex h hw) f6 w6
    obtain ⟨z7, e7, -⟩ := DataW.trod_bool Tryz.underlying4 f7
    obtain ⟨z8, e8, -, wf8⟩ := DataW.trod_int Tryz.underlying28 f8
    obtain ⟨a9, c9, l9, e9, k9, b9, r9, g9⟩ := open_rows (sz := 2) El.v _ Tryz.underlying29 (by kernel_rfl) (by omega) rfl (of_decide_eq_true (by kernel_rfl)) (fun _ _ _ h hw => one_el h hw) f9 w9
    obtain ⟨a10, c10, l10, e10, k10, b10, r10, g10⟩ := open_rows (sz := 2) Da.v _ Tryz.underlying30 (by kernel_rfl) (by omega) rfl (of_decide_eq_true (by kernel_rfl)) (fun _ _ _ h hw => one_da h hw) f10 w10
    simp only [List.cons.injEq, and_true] at e0 e1 e2 e3 e4 e5 e6 e7 e8 e9 e10
    subst e0 e1 e2 e3 e4 e5 e6 e7 e8 e9 e10
    have hcodes : ∀ l ∈ (⟨l0, l1, l2, l3, l4, l5, l6, z7, z8, l9, l10, ⟨a0, c0⟩, ⟨a1, c1⟩, ⟨a2, c2⟩, ⟨a3, c3⟩, ⟨a4, c4⟩, ⟨a5, c5⟩, ⟨a6, c6⟩, ⟨a9, c9⟩, ⟨a10, c10⟩⟩ : Md).codes, LGood W l := by
      intro l hl
      unfold Md.codes at hl
      simp only [List.mem_append, List.mem_map] at hl
      rcases hl with ⟨x, hx, rfl⟩ | ⟨x, hx, rfl⟩ | ⟨x, hx, rfl⟩ | ⟨x, hx, rfl⟩
      · exact g2 x hx
      · exact g5 x hx
      · exact (g9 x hx).1
      · exact (g10 x hx).1
    refine ⟨⟨l0, l1, l2, l3, l4, l5, l6, z7, z8, l9, l10, ⟨a0, c0⟩, ⟨a1, c1⟩, ⟨a2, c2⟩, ⟨a3, c3⟩, ⟨a4, c4⟩, ⟨a5, c5⟩, ⟨a6, c6⟩, ⟨a9, c9⟩, ⟨a10, c10⟩⟩, rfl,
      ⟨r0, r1, r2, r3, r4, r5, r6, r9, r10, fun l hl => (hcodes l hl).1, fun e he => (g9 e he).2.1, fun e he => (g10 e he).2.1⟩,
      ⟨b0, b1, b2, b3, b4, b5, b6, b9, b10, fun l hl => (hcodes l hl).2, fun e he => (g9 e he).2.2.1, fun e he => (g10 e he).2.2.1, fun e he => g1 e he, fun e he => (g6 e he).1⟩, ⟨k0, k1, k2, k5, k6, k9, k10⟩,
      ⟨fun l hl => (List.mem_append.1 hl).elim (fun h => g3 l h) (fun h => g4 l h), fun e he => (g6 e he).2, fun e he => (g9 e he).2.2.2, fun d hd => (g10 d hd).2.2.2, (bounds_u32 wf8).1, by have := (bounds_u32 wf8).2; show z8 < _; omega⟩⟩
set_option maxRecDepth 100000 in
theorem open_module {ts : List TypeId} {ds : List (DataW H)} {base : Nat} {v : Value} {d : DataW H} {p : List MemPlace}
    (hsz : (DataW.weightsEach Tryz.prog ts ds).all (· ≤ reachBytes) = true) (j : Nat) (ht : ts[j]? = some 32) (hd : ds[j]? = some d)
    (hv : Value.okWide Tryz.prog W .any base 32 v) (h : DataW.Trod enc Tryz.prog W 0 (fun _ => true) true 32 v d p) :
    ∃ m : Md, v = .agg m.v ∧ ModAt W.heap.size W m ∧ m.fits ∧ m.caps := by
  obtain ⟨m, e, h1, h2, h3, _⟩ := open_moduleR hsz j ht hd hv h
  exact ⟨m, e, h1, h2, h3⟩
end Go.Proofs.YtepbjkkakfpjgaaGreatDoor.Mod

/-
  MODULE: the statements' kit: SameCodes; '==' of imports and exports, as the walk meets it.
-/
namespace Go.Proofs.YtepbjkkakfpjgaaGreatDoor.Mod
open Go.RowKit Go.Proofs.YtepbjkkakfpjgaaGreatDoor.Instr

theorem eqImp (a b a' b' : ByteArray) (c c' : Int) (w : World) : (Op.equalIn 10000 73 (.agg #[.string a, .string b, .int .i64 c]) (.agg #[.string a', .string b', .int .i64 c'])).run Tryz.prog w = .ok (a.toList == a'.toList && b.toList == b'.toList && c == c') w := by
  have u3 := Tryz.underlying3
  have a3 := Tryz.isAgg3
  have z3 := Tryz.sizeOf3
  have u4 := Tryz.underlying9
  have a4 := Tryz.isAgg9
  have z4 := Tryz.sizeOf9
  have hS : Tryz.prog.underlying 73 = some (.struct (Tryz.prog.fieldsOf 73)) := by kernel_rfl
  have hp : Tryz.prog.stoodInHeld 73 = false := by kernel_rfl
  rw [show (10000 : Nat) = 9999 + 1 from rfl, run_equalIn_agg w 9999 73 _ _ hS hp]
  simp only [Program.fieldsOf, Tryz.underlying73]
  go_simp
  by_cases h1 : a.toList = a'.toList <;> by_cases h2 : b.toList = b'.toList <;> by_cases h3 : c = c' <;> simp [h1, h2, h3]
theorem guardImp (op : BinOp) (x y : Operand) (xs ys : Array Value) (w : World) : (eqGuard op 73 x y (.agg xs) (.agg ys)).run Tryz.prog w = .ok () w :=
  run_eqGuard_agg w op _ x y xs ys (by kernel_rfl)
theorem eqExp (a a' : ByteArray) (b c b' c' : Int) (w : World) : (Op.equalIn 10000 75 (.agg #[.string a, .int .i64 b, .int .u32 c]) (.agg #[.string a', .int .i64 b', .int .u32 c'])).run Tryz.prog w = .ok (a.toList == a'.toList && b == b' && c == c') w := by
  have u3 := Tryz.underlying3
  have a3 := Tryz.isAgg3
  have z3 := Tryz.sizeOf3
  have u4 := Tryz.underlying9
  have a4 := Tryz.isAgg9
  have z4 := Tryz.sizeOf9
  have u5 := Tryz.underlying28
  have a5 := Tryz.isAgg28
  have z5 := Tryz.sizeOf28
  have hS : Tryz.prog.underlying 75 = some (.struct (Tryz.prog.fieldsOf 75)) := by kernel_rfl
  have hp : Tryz.prog.stoodInHeld 75 = false := by kernel_rfl
  rw [show (10000 : Nat) = 9999 + 1 from rfl, run_equalIn_agg w 9999 75 _ _ hS hp]
  simp only [Program.fieldsOf, Tryz.underlying75]
  go_simp
  by_cases h1 : a.toList = a'.toList <;> by_cases h2 : b = b' <;> by_cases h3 : c = c' <;> simp [h1, h2, h3]
theorem guardExp (op : BinOp) (x y : Operand) (xs ys : Array Value) (w : World) : (eqGuard op 75 x y (.agg xs) (.agg ys)).run Tryz.prog w = .ok () w :=
  run_eqGuard_agg w op _ x y xs ys (by kernel_rfl)
theorem toList_ne {a b : ByteArray} (h : ¬ a = b) : ¬ a.toList = b.toList := fun e => h (ByteArray.ext (Array.toList_inj.1 (by rwa [ByteArray.toList_eq, ByteArray.toList_eq] at e)))
set_option maxRecDepth 100000 in
set_option maxHeartbeats 2000000 in
theorem SameCodes_any (x y : Mod.Fn) (n₀ : Nat) (w : World) (h1 : ListAt n₀ w x.l.a x.l.t.len x.l.t) (h2 : ListAt n₀ w y.l.a y.l.t.len y.l.t) (hn : n₀ ≤ w.heap.size) (b1 : x.l.t.len ≤ 140737488351232) (b2 : y.l.t.len ≤ 140737488351232) :
    Calls Tryz.prog 36 #[.agg #[.int .i64 x.lo, .slice x.l.a x.l.t.len x.l.c], .agg #[.int .i64 y.lo, .slice y.l.a y.l.t.len y.l.c]] w fun e w' => e = .returned (.bool (is (x.lo = y.lo ∧ x.l.t.bare = y.l.t.bare))) ∧ Below w.heap.size w w' := by
  have hb0 := (Below.refl w.heap.size w).alloc (Nat.le_refl _) (.cells #[.int .i64 x.lo, .slice x.l.a x.l.t.len x.l.c] 64)
  have hb1 := thenA hb0 (.cells #[.int .i64 y.lo, .slice y.l.a y.l.t.len y.l.c] 64)
  have C := hid (SameInstrs_any n₀ (max x.l.t.count y.l.t.count) x.l.t y.l.t x.l.a y.l.a x.l.t.len y.l.t.len x.l.c y.l.c _ (by omega) (by omega) (h1.below (hb1.mono hn)) (h2.below (hb1.mono hn)) (Nat.le_trans hn hb1.size) b1 b2)
  have HB := hid hb1
  obtain ⟨lo, hlo⟩ : ∃ n, x.lo = n := ⟨_, rfl⟩
  obtain ⟨lo', hlo'⟩ : ∃ n, y.lo = n := ⟨_, rfl⟩
  have HY := hid (fun (g : lo = lo') (g2 : x.l.t.bare = y.l.t.bare) => is_yes (p := x.lo = y.lo ∧ x.l.t.bare = y.l.t.bare) ⟨by rw [hlo, hlo', g], g2⟩)
  have HN := hid (fun (g : ¬ (lo = lo' ∧ x.l.t.bare = y.l.t.bare)) => is_no (p := x.lo = y.lo ∧ x.l.t.bare = y.l.t.bare) (fun e => g ⟨by rw [← hlo, ← hlo', e.1], e.2⟩))
  obtain ⟨r, hr⟩ : ∃ r, is (x.lo = y.lo ∧ x.l.t.bare = y.l.t.bare) = r := ⟨_, rfl⟩
  rw [hr] at HY HN ⊢
  rw [hlo, hlo'] at C HB ⊢
  clear h1 h2 hb0 hb1 hlo hlo' hr
  by_cases g : lo = lo'
  · subst g
    by_cases g2 : x.l.t.bare = y.l.t.bare
    · rw [is_yes g2] at C
      have HE := hid (HY.out rfl g2)
      clear HY HN g2
      go_enter Tryz.func36, Tryz.ntmps36
      go_wp2_with fail
      refine C.out.mono ?_
      rintro e w1 ⟨rfl, hb⟩
      clear C
      go_wp2
      go_ret
      exact ⟨ret_bool HE.out.symm, HB.out.trans (hb.mono HB.out.size)⟩
    · rw [is_no g2] at C
      have HE := hid (HN.out (fun h => g2 h.2))
      clear HY HN g2
      go_enter Tryz.func36, Tryz.ntmps36
      go_wp2_with fail
      refine C.out.mono ?_
      rintro e w1 ⟨rfl, hb⟩
      clear C
      go_wp2
      go_ret
      exact ⟨ret_bool HE.out.symm, HB.out.trans (hb.mono HB.out.size)⟩
  · have HE := hid (HN.out (fun h => g h.1))
    have q1 : (lo == lo') = false := beq_eq_false_iff_ne.2 g
    clear HY HN C
    go_enter Tryz.func36, Tryz.ntmps36
    go_wp2
    go_ret
    exact ⟨ret_bool HE.out.symm, HB.out⟩
end Go.Proofs.YtepbjkkakfpjgaaGreatDoor.Mod
