import Derived.Test.YtiadgkdkjinnjaaGreatDoorBun04
import Derived.Test.YtiadgkdkjinnjaaGreatDoorBun02
import Derived.Test.YtiadgkdkjinnjaaGreatDoorBun03
import Derived.Deep.RegionLaw
import Derived.Deep.RegionHeld3
import Derived.Deep.RegionHeldLaw
/-
  BODY: bytes appended to bytes of one's own: one byte; a number's bytes. Only the row that was handed in may turn.
-/
namespace Go.Proofs.YtiadgkdkjinnjaaGreatDoor.Body
open Go.RowKit Go.Proofs.YtiadgkdkjinnjaaGreatDoor.Instr

/-- From v in world w on: v' holds these bytes, and of what was there only v's own row has turned. -/
structure Grew (B : Nat) (v : Value) (w : World) (v' : Value) (zs : List Int) (w' : World) : Prop where
  own : Own B w' v' zs
  touch : Touch (fun j => v.ownBlock = some j) w w'
  new : ∀ g, v'.ownBlock = some g → v.ownBlock = some g ∨ w.heap.size ≤ g
theorem Grew.refl {B : Nat} {v : Value} {w : World} {zs : List Int} (h : Own B w v zs) : Grew B v w v zs w := ⟨h, .refl _ _, fun _ hg => .inl hg⟩
theorem Grew.pre {B : Nat} {v v' : Value} {w w1 w' : World} {zs : List Int} (hb : Below w.heap.size w w1) (h : Grew B v w1 v' zs w') : Grew B v w v' zs w' :=
  ⟨h.own, (Touch.of_below hb).trans h.touch, fun g hg => (h.new g hg).imp id (fun hl => Nat.le_trans hb.size hl)⟩
theorem Grew.post {B : Nat} {v v' : Value} {w w1 w' : World} {zs : List Int} (h : Grew B v w v' zs w1) (hb : Below w1.heap.size w1 w') : Grew B v w v' zs w' :=
  ⟨h.own.below hb, h.touch.trans (Touch.of_below hb), h.new⟩
theorem Grew.trans {B : Nat} {v v1 v2 : Value} {w w1 w2 : World} {xs zs : List Int} (h : Grew B v w v1 xs w1) (g : Grew B v1 w1 v2 zs w2) : Grew B v w v2 zs w2 := by
  refine ⟨g.own, ⟨g.touch.os.trans h.touch.os, g.touch.tape.trans h.touch.tape, g.touch.output.trans h.touch.output, Nat.le_trans h.touch.size g.touch.size, fun j hj hk => ?_⟩, fun q hq => ?_⟩
  · refine (g.touch.block j (Nat.lt_of_lt_of_le hj h.touch.size) (fun e => ?_)).trans (h.touch.block j hj hk)
    rcases h.new j e with e | e
    · exact hk e
    · omega
  · rcases g.new q hq with e | e
    · exact h.new q e
    · exact .inr (Nat.le_trans h.touch.size e)
theorem Grew.below {B : Nat} {v v' : Value} {w w' : World} {xs zs : List Int} (h : Grew B v w v' zs w') (hv : Own B w v xs) (hB : B ≤ w.heap.size) : Below B w w' := h.touch.below hB (fun j hj => (World.ownsRow.lt hv j hj).1)
theorem Grew.at_ {B X : Nat} {v v' : Value} {w w' : World} {zs : List Int} {x : Ix} (h : Grew B v w v' zs w') (ha : At x X w) (hv : v.ownBlock ≠ some X) : At x X w' :=
  ⟨h.touch.cell hv ha.c0, h.touch.cell hv ha.c1, h.touch.cell hv ha.c2, h.touch.cell hv ha.c3, h.touch.cell hv ha.c4, h.touch.cell hv ha.c5, h.touch.cell hv ha.c6, h.touch.cell hv ha.c7⟩
/-- A call that hands back bytes, grown from v. -/
def PutsTo (B : Nat) (v : Value) (w : World) (zs : List Int) (e : Ending) (w' : World) : Prop := ∃ v', e = .returned v' ∧ Grew B v w v' zs w'

section
variable {ops : Array Oper} {rest : List Oper} {o : Oper} {act : Act} {Q : Exit → Act → World → Prop}
theorem put_byte (hgd : o.guard = none) (s x : Operand) (ho : o.op = .call { callee := .builtin .append, args := #[s, x], argTypes := #[35, 35] })
    {B : Nat} {w0 wr : World} {v0 v : Value} {xs : List Int} (z : Int) (hs : act.eval s = v) (hG : Grew B v0 w0 v xs wr) (hB : B ≤ w0.heap.size)
    (hx : act.eval x = .slice (some ⟨wr.heap.size, 0, none⟩) 1 1) (hl : xs.length ≤ 140737488351232)
    (h : ∀ v' w', Grew B v0 w0 v' (xs ++ [z]) w' → wpList Tryz.prog ops Q rest (act.put o.dst v') w') :
    wpList Tryz.prog ops Q (o :: rest) act (wr.alloc (.cells #[.int .u8 z] 5)) := by
  obtain ⟨i0, hi, hz0, hz1, hz2⟩ := info_parts infoByte
  have hBr : B ≤ wr.heap.size := Nat.le_trans hB hG.touch.size
  refine wpList_append_lies _ hgd s x 35 ho B 5 i0 (.int .u8 0) 1 1 Tryz.underlying35 hi hz0 hz1 hz2 rfl (by decide) v xs.length _ hs (World.ownsRow.alloc hG.own _) ⟨wr.heap.size, 0, none⟩ 1 1 [.int .u8 z] hx rfl
    ?_ ?_ (by decide) ?_ ?_ ?_ _ rfl (fun g cap w' hown' hgrow hat _ => h _ w' (hG.trans ⟨Own.of_snoc rfl hown', (Touch.refl _ wr).alloc _ |>.trans (Touch.of_grown hgrow), ?_⟩))
  · intro j u hj
    match j, hj with
    | 0, hj => simp at hj; subst hj; simp [Addr.add]
  · intro u hu; simp at hu; subst hu; rfl
  · unfold maxLen; omega
  · omega
  · simp; omega
  · intro q hq
    simp only [Value.ownBlock, Option.some.injEq] at hq
    rw [← hq]
    rcases hat with e | e
    · exact .inl e
    · exact .inr (by simp only [World.size_alloc] at e; omega)
theorem put_bytes (hgd : o.guard = none) (s x : Operand) (ho : o.op = .call { callee := .builtin .append, args := #[s, x], argTypes := #[35, 35] })
    {B : Nat} {w0 wr : World} {v0 v : Value} {xs ys : List Int} {a : Option Addr} {n c : Nat} (hs : act.eval s = v) (hG : Grew B v0 w0 v xs wr) (hB : B ≤ w0.heap.size)
    (hx : act.eval x = .slice a n c) (hn : ys.length = n) (hy : Bytes wr a ys) (hne : ys ≠ []) (hl : xs.length + ys.length ≤ 140737488351232)
    (h : ∀ v' w', Grew B v0 w0 v' (xs ++ ys) w' → wpList Tryz.prog ops Q rest (act.put o.dst v') w') :
    wpList Tryz.prog ops Q (o :: rest) act wr := by
  obtain ⟨i0, hi, hz0, hz1, hz2⟩ := info_parts infoByte
  have hBr : B ≤ wr.heap.size := Nat.le_trans hB hG.touch.size
  subst hn
  obtain ⟨b, off, rfl, hc⟩ := hy.at (List.length_pos_iff.2 hne)
  refine wpList_append_lies _ hgd s x 35 ho B 5 i0 (.int .u8 0) 1 1 Tryz.underlying35 hi hz0 hz1 hz2 rfl (by decide) v xs.length _ hs hG.own ⟨b, off, none⟩ ys.length c (ys.map (Value.int .u8)) hx (by simp)
    ?_ ?_ (List.length_pos_iff.2 hne) ?_ ?_ hBr _ rfl (fun g cap w' hown' hgrow hat _ => h _ w' (hG.trans ⟨?_, Touch.of_grown hgrow, ?_⟩))
  · intro j u hj
    have hjl : j < ys.length := by
      rcases Nat.lt_or_ge j ys.length with h | h
      · exact h
      · rw [List.getElem?_eq_none (by simpa using h)] at hj; cases hj
    have hplain : (⟨b, off, none⟩ : Addr).add j = ⟨b, off + j, none⟩ := by unfold Addr.add; split <;> simp_all
    rw [hplain, hc j hjl]
    rw [← hj, getD_lt hjl]; simp [hjl]
  · intro u hu
    obtain ⟨n, _, rfl⟩ := List.mem_map.1 hu
    rfl
  · unfold maxLen; omega
  · omega
  · unfold Own; rw [List.length_append, List.map_append]; exact hown'
  · intro q hq
    simp only [Value.ownBlock, Option.some.injEq] at hq
    rw [← hq]
    rcases hat with e | e
    · exact .inl e
    · exact .inr (by omega)
end
section
variable {ops : Array Oper} {o : Oper} {act : Act} {K : Act → World → Prop} {Q : Exit → Act → World → Prop} {E : Prop}
theorem step_put_byte (hgd : o.guard = none) (s x : Operand) (ho : o.op = .call { callee := .builtin .append, args := #[s, x], argTypes := #[35, 35] })
    {B g : Nat} {w0 wr : World} {v0 v : Value} {xs : List Int} (z : Int) (hs : act.eval s = v) (hG : Grew B v0 w0 v xs wr) (hB : B ≤ w0.heap.size)
    (hx : act.eval x = .slice (some ⟨g, 0, none⟩) 1 1) (hc : wr.cell? ⟨g, 0, none⟩ = some (.int .u8 z)) (hl : xs.length ≤ 140737488351232)
    (h : ∀ v' w', Grew B v0 w0 v' (xs ++ [z]) w' → K (act.put o.dst v') w') :
    if Region.wanted o (yielded ops act.tmps) = true then Oper.wp Tryz.prog o act wr K Q else E := by
  obtain ⟨i0, hi, hz0, hz1, hz2⟩ := info_parts infoByte
  have hBr : B ≤ wr.heap.size := Nat.le_trans hB hG.touch.size
  refine step_append_lies wr hgd s x 35 ho B 5 i0 (.int .u8 0) 1 1 Tryz.underlying35 hi hz0 hz1 hz2 rfl (by decide) v xs.length _ hs hG.own ⟨g, 0, none⟩ 1 1 [.int .u8 z] hx rfl
    ?_ ?_ (by decide) ?_ ?_ hBr _ rfl (fun g' cap w' hown' hgrow hat _ => h _ w' (hG.trans ⟨Own.of_snoc rfl hown', Touch.of_grown hgrow, ?_⟩))
  · intro j u hj
    match j, hj with
    | 0, hj => simp at hj; subst hj; rw [plain_add]; exact hc
  · intro u hu; simp at hu; subst hu; rfl
  · unfold maxLen; omega
  · omega
  · intro q hq
    simp only [Value.ownBlock, Option.some.injEq] at hq
    rw [← hq]
    rcases hat with e | e
    · exact .inl e
    · exact .inr (by omega)
end
/-- What a call gave of bytes, as what is appended. -/
theorem gives_put {w w' : World} {zs : List Int} {e : Ending} (h : Gives w zs e w') (hz : ∀ z ∈ zs, 0 ≤ z ∧ z < 256) (hn : zs.length ≤ 140737488351232) : ∃ a c, e = .returned (.slice a zs.length c) ∧ Bytes w' a zs ∧ Below w.heap.size w w' := by
  obtain ⟨v, rfl, ho, hb⟩ := h
  obtain ⟨a, c, rfl⟩ := ho.slice
  exact ⟨a, c, rfl, ho.bytes hz hn, hb⟩
theorem putResults_any (r : Int) (w : World) : Calls Tryz.prog 239 #[.int .i64 r] w fun e w' => e = .returned (.int .u8 (if r = 0 then 64 else 127)) ∧ w = w' := by
  by_cases h : r = 0
  · subst h
    rw [if_pos rfl]
    go_enter Tryz.func239, Tryz.ntmps239
    go_wp2
    go_ret
    exact ⟨rfl, rfl⟩
  · rw [if_neg h]
    go_enter Tryz.func239, Tryz.ntmps239
    go_wp2
    go_ret
    exact ⟨rfl, rfl⟩
end Go.Proofs.YtiadgkdkjinnjaaGreatDoor.Body

/-
  BODY: appendLabels, appendOne, appendInner, appendList by contract. (tools/gen_bodyput.py)
-/
namespace Go.Proofs.YtiadgkdkjinnjaaGreatDoor.Body
open Go.RowKit Go.Proofs.YtiadgkdkjinnjaaGreatDoor.Instr Go.Proofs.YtiadgkdkjinnjaaGreatDoor.Leb
open Go.Proofs.YtiadgkdkjinnjaaGreatDoor.Kind (Rd numR refuseR startR numR_good numR_bounds refuseR_good getL_next)

theorem encU_lens (n : Int) : (encU n).length ≤ 5 ∧ encU n ≠ [] := by
  have := sizeU_pos n
  rw [← List.length_pos_iff, encU_length]
  omega
theorem encS_lens (n : Int) : (encS n).length ≤ 5 ∧ encS n ≠ [] := by
  have := sizeS_pos n
  rw [← List.length_pos_iff, encS_length]
  omega
theorem flatMap_snoc (l : List Int) (z : Int) : (l ++ [z]).flatMap encU = l.flatMap encU ++ encU z := by simp
theorem flatMap_len : ∀ l : List Int, (l.flatMap encU).length ≤ 5 * l.length
  | [] => by simp
  | z :: l => by have := flatMap_len l; have := (encU_lens z).1; simp only [List.flatMap_cons, List.length_append, List.length_cons]; omega
/-- PutU's bytes, as what is appended. -/
theorem putU_put (n : Int) (w : World) (h0 : 0 ≤ n) (h1 : n < 4294967296) : Calls Tryz.prog 176 #[.int .u32 n] w fun e w' => ∃ a c, e = .returned (.slice a (encU n).length c) ∧ Bytes w' a (encU n) ∧ Below w.heap.size w w' :=
  (putU_any n w h0 h1).mono fun _ _ h => gives_put h (encU_bytes n) (by have := (encU_lens n).1; omega)
theorem putS_put (n : Int) (w : World) (h0 : -2147483648 ≤ n) (h1 : n < 2147483648) : Calls Tryz.prog 241 #[.int .i32 n] w fun e w' => ∃ a c, e = .returned (.slice a (encS n).length c) ∧ Bytes w' a (encS n) ∧ Below w.heap.size w w' :=
  (putS_any n w h0 h1).mono fun _ _ h => gives_put h (encS_bytes n) (by have := (encS_lens n).1; omega)

set_option maxRecDepth 100000 in
set_option maxHeartbeats 3200000 in
theorem appendLabels_any (B : Nat) (v : Value) (xs l : List Int) (a : Option Addr) (len c : Nat) (w : World) (hv : Own B w v xs) (hB : B ≤ w.heap.size) (hlen : l.length = len) (hl : TagsAt B w a l) (hz : ∀ z ∈ l, 0 ≤ z ∧ z < 4294967296) (hfew : len ≤ 16384) (hx : xs.length ≤ 70368744178000) :
    Calls Tryz.prog 240 #[v, .slice a len c] w (PutsTo B v w (xs ++ encTags l)) := by
  have HV := hid hv
  have HT := hid hl
  have HZ := hid hz
  have HL := hid hlen
  have P1 := hid (fun w' => putU_put (len : Int) w' (by omega) (by omega))
  have HE : Hid (xs ++ encTags l = (xs ++ encU (len : Int)) ++ l.flatMap encU) := by show _ = _; rw [encTags, hlen, List.append_assoc]
  rw [HE.out]
  have hfl := flatMap_len l
  rw [hlen] at hfl
  have q1 := encU_lens (len : Int)
  obtain ⟨e1, he1⟩ : ∃ e, encU (len : Int) = e := ⟨_, rfl⟩
  rw [he1] at P1 q1 ⊢
  have Q1 := hid q1
  have HX := hid hx
  have HFL := hid hfl
  clear hv hl hz hlen HE q1 he1 hx hfl
  go_enter Tryz.func240, Tryz.ntmps240
  go_wp2_with fail
  refine (P1.out w).mono ?_
  clear P1
  rintro e w1 ⟨a1, c1, rfl, hb1, hw1⟩
  have G1 := hid ((Grew.refl HV.out).post hw1)
  have HB1 := hid hb1
  have T1 := hid (show xs.length + e1.length ≤ 140737488351232 by have := HX.out; have := Q1.out.1; omega)
  clear hb1 hw1
  go_wp2_with (first
    | (at_builtin; refine put_bytes rfl (.tmp 7) (.tmp 11) rfl rfl G1.out hB rfl rfl HB1.out Q1.out.2 T1.out ?_; intro v2 w2 hg2; refine Hid.out ?_))
  refine hid ?_
  clear G1 HB1 T1
  go_wp2
  go_loopw [0, 15] (fun s0 s15 wr => ∃ j : Nat, j ≤ len ∧ s15 = .int .i64 j ∧ Hid (Grew B v w s0 ((xs ++ e1) ++ (l.take j).flatMap encU) wr)) (fun _ s15 _ => len - (intOf s15).toNat)
  case atStart => exact ⟨0, by omega, rfl, by simpa using hid hg2⟩
  case round =>
    obtain ⟨j, hj, rfl, hG⟩ := hrel
    by_cases hlt : j < len
    · have hil : j < l.length := by have := HL.out; omega
      have hz' := HZ.out _ (List.getElem_mem hil)
      rw [← getD_lt hil] at hz'
      have hd : Hid ((l.take (j + 1)).flatMap encU = (l.take j).flatMap encU ++ encU (l.getD j 0)) := by
        show _ = _
        rw [List.take_succ_eq_append_getElem hil, flatMap_snoc, getD_lt hil]
      rcases HT.out with h0 | ⟨b, off, rfl, hbl, hc⟩
      · rw [h0] at hil; simp at hil
      have hcj := (hG.out.below HV.out hB).cell (p := ⟨b, off + j, none⟩) hbl |>.trans (hc j hil)
      have hlen3 : Hid (((xs ++ e1) ++ (l.take j).flatMap encU).length ≤ 70368744270000) := by
        refine hid ?_
        have h1 := flatMap_len (l.take j)
        have h2 := HX.out
        have h3 := Q1.out.1
        simp only [List.length_append, List.length_take] at h1 ⊢
        have := HL.out
        omega
      obtain ⟨z, hz⟩ : ∃ z, l.getD j 0 = z := ⟨_, rfl⟩
      rw [hz] at hz' hd hcj
      have P2 := hid (fun w' => putU_put z w' hz'.1 hz'.2)
      have q2 := encU_lens z
      obtain ⟨e2, he2⟩ : ∃ e, encU z = e := ⟨_, rfl⟩
      rw [he2] at P2 q2 hd
      obtain ⟨zs, hzs⟩ : ∃ zs, (xs ++ e1) ++ (l.take j).flatMap encU = zs := ⟨_, rfl⟩
      rw [hzs] at hG hlen3
      have hd2 : Hid ((xs ++ e1) ++ (l.take (j + 1)).flatMap encU = zs ++ e2) := by show _ = _; rw [hd.out, ← List.append_assoc, hzs]
      have Q2 := hid q2
      clear hd hzs he2 hz hz' hc hil q2
      go_wp2_with fail
      refine (P2.out _).mono ?_
      clear P2
      rintro e w3 ⟨a3, c3, rfl, hb3, hw3⟩
      have G3 := hid (hG.out.post hw3)
      have HB3 := hid hb3
      have T3 := hid (show zs.length + e2.length ≤ 140737488351232 by have := hlen3.out; have := Q2.out.1; omega)
      clear hb3 hw3
      go_wp2_with (first
        | (at_builtin; refine put_bytes rfl (.tmp 19) (.tmp 21) rfl rfl G3.out hB rfl rfl HB3.out Q2.out.2 T3.out ?_; intro v4 w4 hg4; refine Hid.out ?_))
      refine hid ?_
      go_wp2
      go_roundw
      case rel => exact ⟨j + 1, by omega, by simp, by rw [hd2.out]; exact hid hg4⟩
      case measure => simp [intOf]; omega
    · obtain rfl : j = len := by omega
      have hd : Hid (l.take j = l) := by show _ = _; rw [List.take_of_length_le (by have := HL.out; omega)]
      rw [hd.out] at hG
      go_wp2
      go_ret
      exact ⟨_, rfl, hG.out⟩

/-- What appendList must do with a list. -/
def ALok (t : Il) : Prop := ∀ (B : Nat) (v : Value) (xs : List Int) (a : Option Addr) (n c : Nat) (w : World), Own B w v xs → B ≤ w.heap.size → ListAt B w a n t → n ≤ 140737488351232 → xs.length + (encL t).length ≤ 70368744177664 →
  Calls Tryz.prog 214 #[v, .slice a n c] w (PutsTo B v w (xs ++ encL t))
set_option maxRecDepth 100000 in
set_option maxHeartbeats 3200000 in
theorem put0 (B : Nat) (v : Value) (xs : List Int) (x : Ix) (w : World) (hv : Own B w v xs) (hB : B ≤ w.heap.size) (hx : May x) (_ht : TagsAt B w x.ta x.tags) (hl : xs.length ≤ 70368744177700) (hk : kindP x.op = 0) (hp : partsP x.op = 0) :
    Calls Tryz.prog 230 #[v, .agg x.vals] w (PutsTo B v w (xs ++ (x.op :: encRest x))) := by
  have hop := name_range ((lawful_iff x).1 hx.law).1
  obtain ⟨o0, o1, _, _⟩ := hop
  have F := hid (fun w' => follows_any x.op w')
  rw [hp] at F
  have b1 : bits .and .u8 0 1 = 0 := by decide
  have b2 : bits .and .u8 0 2 = 0 := by decide
  have b4 : bits .and .u8 0 4 = 0 := by decide
  have b8 : bits .and .u8 0 8 = 0 := by decide
  have b16 : bits .and .u8 0 16 = 0 := by decide
  have b32 : bits .and .u8 0 32 = 0 := by decide
  have b64 : bits .and .u8 0 64 = 0 := by decide
  have hXv : v.ownBlock ≠ some w.heap.size := fun h => by have := (World.ownsRow.lt hv _ h).2; omega
  have HXV := hid hXv
  have X0 := hid (At.made x w)
  have G0 := hid ((Grew.refl hv).post ((Below.refl w.heap.size w).alloc (Nat.le_refl _) (.cells x.vals 126)))
  rw [encRest0 hk]
  have GW : Hid (Grew B v (w.alloc (.cells x.vals 126)) v xs (w.alloc (.cells x.vals 126))) := hid (Grew.refl G0.out.own)
  have HL := hid hl
  have HB2 : Hid (B ≤ (w.alloc (.cells x.vals 126)).heap.size) := by refine hid ?_; simp; omega
  have HW1 : Hid (Below w.heap.size w (w.alloc (.cells x.vals 126))) := hid ((Below.refl w.heap.size w).alloc (Nat.le_refl _) _)
  clear hv hB _ht hl hk hp hXv G0 hx
  unfold Ix.vals at GW X0 HB2 HW1 ⊢
  obtain ⟨c0, c1, c2, c3, c4, c5, c6, c7⟩ := X0.out
  go_enter Tryz.func230, Tryz.ntmps230
  go_wp2_with fail
  refine (F.out _).mono ?_
  rintro e w' ⟨rfl, rfl⟩
  have T0 := hid (show xs.length ≤ 140737488351232 by have := HL.out; omega)
  generalize hW1 : (w.alloc (.cells #[.int .i64 x.op, .int .i64 x.res, .int .u32 x.a, .int .u32 x.b, .int .i32 x.n, .slice x.ta x.tags.length x.tc, .slice x.la x.ln x.lc, .slice x.ea x.en x.ec] 126)) = W1 at *
  go_wp2_with (first
    | (at_builtin; refine put_byte rfl (.tmp 9) (.tmp 13) rfl x.op rfl GW.out HB2.out rfl T0.out ?_; intro v1 w1 hg1; refine Hid.out ?_))
  refine hid ?_
  go_wp2
  go_ret
  refine ⟨_, rfl, Grew.pre HW1.out ?_⟩
  simpa [List.append_assoc] using hg1

set_option maxRecDepth 100000 in
set_option maxHeartbeats 3200000 in
theorem put2 (B : Nat) (v : Value) (xs : List Int) (x : Ix) (w : World) (hv : Own B w v xs) (hB : B ≤ w.heap.size) (hx : May x) (_ht : TagsAt B w x.ta x.tags) (hl : xs.length ≤ 70368744177700) (hk : kindP x.op = 2) (hp : partsP x.op = 4) :
    Calls Tryz.prog 230 #[v, .agg x.vals] w (PutsTo B v w (xs ++ (x.op :: encRest x))) := by
  have hop := name_range ((lawful_iff x).1 hx.law).1
  obtain ⟨o0, o1, _, _⟩ := hop
  have F := hid (fun w' => follows_any x.op w')
  rw [hp] at F
  have b1 : bits .and .u8 4 1 = 0 := by decide
  have b2 : bits .and .u8 4 2 = 0 := by decide
  have b4 : bits .and .u8 4 4 = 4 := by decide
  have b8 : bits .and .u8 4 8 = 0 := by decide
  have b16 : bits .and .u8 4 16 = 0 := by decide
  have b32 : bits .and .u8 4 32 = 0 := by decide
  have b64 : bits .and .u8 4 64 = 0 := by decide
  have hXv : v.ownBlock ≠ some w.heap.size := fun h => by have := (World.ownsRow.lt hv _ h).2; omega
  have HXV := hid hXv
  have X0 := hid (At.made x w)
  have G0 := hid ((Grew.refl hv).post ((Below.refl w.heap.size w).alloc (Nat.le_refl _) (.cells x.vals 126)))
  rw [encRest2 hk]
  have GW : Hid (Grew B v (w.alloc (.cells x.vals 126)) v xs (w.alloc (.cells x.vals 126))) := hid (Grew.refl G0.out.own)
  have P1 := hid (fun w' => putU_put x.a w' hx.a.1 hx.a.2)
  have Q1 := hid (encU_lens x.a)
  obtain ⟨ea, hea⟩ : ∃ e, encU x.a = e := ⟨_, rfl⟩
  rw [hea] at P1 Q1
  rw [hea]
  clear hea
  have HL := hid hl
  have HB2 : Hid (B ≤ (w.alloc (.cells x.vals 126)).heap.size) := by refine hid ?_; simp; omega
  have HW1 : Hid (Below w.heap.size w (w.alloc (.cells x.vals 126))) := hid ((Below.refl w.heap.size w).alloc (Nat.le_refl _) _)
  clear hv hB _ht hl hk hp hXv G0 hx
  unfold Ix.vals at GW X0 HB2 HW1 ⊢
  obtain ⟨c0, c1, c2, c3, c4, c5, c6, c7⟩ := X0.out
  go_enter Tryz.func230, Tryz.ntmps230
  go_wp2_with fail
  refine (F.out _).mono ?_
  rintro e w' ⟨rfl, rfl⟩
  have T0 := hid (show xs.length ≤ 140737488351232 by have := HL.out; omega)
  generalize hW1 : (w.alloc (.cells #[.int .i64 x.op, .int .i64 x.res, .int .u32 x.a, .int .u32 x.b, .int .i32 x.n, .slice x.ta x.tags.length x.tc, .slice x.la x.ln x.lc, .slice x.ea x.en x.ec] 126)) = W1 at *
  go_wp2_with (first
    | (at_builtin; refine put_byte rfl (.tmp 9) (.tmp 13) rfl x.op rfl GW.out HB2.out rfl T0.out ?_; intro v1 w1 hg1; refine Hid.out ?_))
  refine hid ?_
  have A1 := hg1.at_ X0.out HXV.out
  have GH1 := hid hg1
  clear c0 c1 c2 c3 c4 c5 c6 c7 hg1
  obtain ⟨c0, c1, c2, c3, c4, c5, c6, c7⟩ := A1
  go_wp2_with fail
  refine (P1.out _).mono ?_
  rintro e q1 ⟨a1, cc1, rfl, hb1, hw1⟩
  have GC1 := hid (GH1.out.post hw1)
  have HB1c := hid hb1
  have TT1 := hid (show (xs ++ [x.op]).length + ea.length ≤ 140737488351232 by have h1 := HL.out; have h2 := Q1.out.1; simp only [List.length_append, List.length_cons, List.length_nil]; omega)
  have AX1 := GC1.out.at_ X0.out HXV.out
  clear c0 c1 c2 c3 c4 c5 c6 c7 hb1 hw1
  go_wp2_with (first
    | (at_builtin; refine put_bytes rfl (.tmp 34) (.tmp 37) rfl rfl GC1.out HB2.out rfl rfl HB1c.out Q1.out.2 TT1.out ?_; intro v2 w2 hg2; refine Hid.out ?_))
  refine hid ?_
  obtain ⟨c0, c1, c2, c3, c4, c5, c6, c7⟩ := hg2.at_ X0.out HXV.out
  go_wp2
  go_ret
  refine ⟨_, rfl, Grew.pre HW1.out ?_⟩
  simpa [List.append_assoc] using hg2

set_option maxRecDepth 100000 in
set_option maxHeartbeats 3200000 in
theorem put3 (B : Nat) (v : Value) (xs : List Int) (x : Ix) (w : World) (hv : Own B w v xs) (hB : B ≤ w.heap.size) (hx : May x) (_ht : TagsAt B w x.ta x.tags) (hl : xs.length ≤ 70368744177700) (hk : kindP x.op = 3) (hp : partsP x.op = 36) :
    Calls Tryz.prog 230 #[v, .agg x.vals] w (PutsTo B v w (xs ++ (x.op :: encRest x))) := by
  have hop := name_range ((lawful_iff x).1 hx.law).1
  obtain ⟨o0, o1, _, _⟩ := hop
  have F := hid (fun w' => follows_any x.op w')
  rw [hp] at F
  have b1 : bits .and .u8 36 1 = 0 := by decide
  have b2 : bits .and .u8 36 2 = 0 := by decide
  have b4 : bits .and .u8 36 4 = 4 := by decide
  have b8 : bits .and .u8 36 8 = 0 := by decide
  have b16 : bits .and .u8 36 16 = 0 := by decide
  have b32 : bits .and .u8 36 32 = 32 := by decide
  have b64 : bits .and .u8 36 64 = 0 := by decide
  have hXv : v.ownBlock ≠ some w.heap.size := fun h => by have := (World.ownsRow.lt hv _ h).2; omega
  have HXV := hid hXv
  have X0 := hid (At.made x w)
  have G0 := hid ((Grew.refl hv).post ((Below.refl w.heap.size w).alloc (Nat.le_refl _) (.cells x.vals 126)))
  rw [encRest3 hk]
  have GW : Hid (Grew B v (w.alloc (.cells x.vals 126)) v xs (w.alloc (.cells x.vals 126))) := hid (Grew.refl G0.out.own)
  have P1 := hid (fun w' => putU_put x.a w' hx.a.1 hx.a.2)
  have Q1 := hid (encU_lens x.a)
  obtain ⟨ea, hea⟩ : ∃ e, encU x.a = e := ⟨_, rfl⟩
  rw [hea] at P1 Q1
  rw [hea]
  clear hea
  have HL := hid hl
  have HB2 : Hid (B ≤ (w.alloc (.cells x.vals 126)).heap.size) := by refine hid ?_; simp; omega
  have HW1 : Hid (Below w.heap.size w (w.alloc (.cells x.vals 126))) := hid ((Below.refl w.heap.size w).alloc (Nat.le_refl _) _)
  clear hv hB _ht hl hk hp hXv G0 hx
  unfold Ix.vals at GW X0 HB2 HW1 ⊢
  obtain ⟨c0, c1, c2, c3, c4, c5, c6, c7⟩ := X0.out
  go_enter Tryz.func230, Tryz.ntmps230
  go_wp2_with fail
  refine (F.out _).mono ?_
  rintro e w' ⟨rfl, rfl⟩
  have T0 := hid (show xs.length ≤ 140737488351232 by have := HL.out; omega)
  generalize hW1 : (w.alloc (.cells #[.int .i64 x.op, .int .i64 x.res, .int .u32 x.a, .int .u32 x.b, .int .i32 x.n, .slice x.ta x.tags.length x.tc, .slice x.la x.ln x.lc, .slice x.ea x.en x.ec] 126)) = W1 at *
  go_wp2_with (first
    | (at_builtin; refine put_byte rfl (.tmp 9) (.tmp 13) rfl x.op rfl GW.out HB2.out rfl T0.out ?_; intro v1 w1 hg1; refine Hid.out ?_))
  refine hid ?_
  have A1 := hg1.at_ X0.out HXV.out
  have GH1 := hid hg1
  clear c0 c1 c2 c3 c4 c5 c6 c7 hg1
  obtain ⟨c0, c1, c2, c3, c4, c5, c6, c7⟩ := A1
  go_wp2_with fail
  refine (P1.out _).mono ?_
  rintro e q1 ⟨a1, cc1, rfl, hb1, hw1⟩
  have GC1 := hid (GH1.out.post hw1)
  have HB1c := hid hb1
  have TT1 := hid (show (xs ++ [x.op]).length + ea.length ≤ 140737488351232 by have h1 := HL.out; have h2 := Q1.out.1; simp only [List.length_append, List.length_cons, List.length_nil]; omega)
  have AX1 := GC1.out.at_ X0.out HXV.out
  clear c0 c1 c2 c3 c4 c5 c6 c7 hb1 hw1
  go_wp2_with (first
    | (at_builtin; refine put_bytes rfl (.tmp 34) (.tmp 37) rfl rfl GC1.out HB2.out rfl rfl HB1c.out Q1.out.2 TT1.out ?_; intro v2 w2 hg2; refine Hid.out ?_))
  refine hid ?_
  obtain ⟨c0, c1, c2, c3, c4, c5, c6, c7⟩ := hg2.at_ X0.out HXV.out
  have A2 := hg2.at_ X0.out HXV.out
  have GH2 := hid hg2
  clear c0 c1 c2 c3 c4 c5 c6 c7 hg2
  obtain ⟨c0, c1, c2, c3, c4, c5, c6, c7⟩ := A2
  have TT2 := hid (show ((xs ++ [x.op]) ++ ea).length ≤ 140737488351232 by have h1 := HL.out; have h2 := Q1.out.1; simp only [List.length_append, List.length_cons, List.length_nil]; omega)
  go_wp2_with (first
    | (at_builtin; refine put_byte rfl (.tmp 58) (.tmp 59) rfl 0 rfl GH2.out HB2.out rfl TT2.out ?_; intro v3 w3 hg3; refine Hid.out ?_))
  refine hid ?_
  obtain ⟨c0, c1, c2, c3, c4, c5, c6, c7⟩ := hg3.at_ X0.out HXV.out
  go_wp2
  go_ret
  refine ⟨_, rfl, Grew.pre HW1.out ?_⟩
  simpa [List.append_assoc] using hg3

set_option maxRecDepth 100000 in
set_option maxHeartbeats 3200000 in
theorem put4 (B : Nat) (v : Value) (xs : List Int) (x : Ix) (w : World) (hv : Own B w v xs) (hB : B ≤ w.heap.size) (hx : May x) (ht : TagsAt B w x.ta x.tags) (hl : xs.length ≤ 70368744177700) (hk : kindP x.op = 4) (hp : partsP x.op = 6) :
    Calls Tryz.prog 230 #[v, .agg x.vals] w (PutsTo B v w (xs ++ (x.op :: encRest x))) := by
  have hop := name_range ((lawful_iff x).1 hx.law).1
  obtain ⟨o0, o1, _, _⟩ := hop
  have F := hid (fun w' => follows_any x.op w')
  rw [hp] at F
  have b1 : bits .and .u8 6 1 = 0 := by decide
  have b2 : bits .and .u8 6 2 = 2 := by decide
  have b4 : bits .and .u8 6 4 = 4 := by decide
  have b8 : bits .and .u8 6 8 = 0 := by decide
  have b16 : bits .and .u8 6 16 = 0 := by decide
  have b32 : bits .and .u8 6 32 = 0 := by decide
  have b64 : bits .and .u8 6 64 = 0 := by decide
  have hXv : v.ownBlock ≠ some w.heap.size := fun h => by have := (World.ownsRow.lt hv _ h).2; omega
  have HXV := hid hXv
  have X0 := hid (At.made x w)
  have G0 := hid ((Grew.refl hv).post ((Below.refl w.heap.size w).alloc (Nat.le_refl _) (.cells x.vals 126)))
  rw [encRest4 hk]
  have GW : Hid (Grew B v (w.alloc (.cells x.vals 126)) v xs (w.alloc (.cells x.vals 126))) := hid (Grew.refl G0.out.own)
  have P1 := hid (fun (v' : Value) (zs : List Int) (w' : World) (h1 : Own B w' v' zs) (h2 : B ≤ w'.heap.size) (h3 : TagsAt B w' x.ta x.tags) (h4 : zs.length ≤ 70368744178000) => appendLabels_any B v' zs x.tags x.ta x.tags.length x.tc w' h1 h2 rfl h3 hx.tags hx.few h4)
  have P2 := hid (fun w' => putU_put x.a w' hx.a.1 hx.a.2)
  have Q2 := hid (encU_lens x.a)
  obtain ⟨ea, hea⟩ : ∃ e, encU x.a = e := ⟨_, rfl⟩
  rw [hea] at P2 Q2
  rw [hea]
  clear hea
  have HTL : Hid ((encTags x.tags).length ≤ 90000) := by refine hid ?_; have h1 := flatMap_len x.tags; have h2 := hx.few; have h3 := (encU_lens (x.tags.length : Int)).1; simp only [encTags, List.length_append]; omega
  have HT := hid ht
  have HB0 := hid hB
  have HL := hid hl
  have HB2 : Hid (B ≤ (w.alloc (.cells x.vals 126)).heap.size) := by refine hid ?_; simp; omega
  have HW1 : Hid (Below w.heap.size w (w.alloc (.cells x.vals 126))) := hid ((Below.refl w.heap.size w).alloc (Nat.le_refl _) _)
  obtain ⟨et, het⟩ : ∃ e, encTags x.tags = e := ⟨_, rfl⟩
  rw [het] at P1 HTL ⊢
  clear het
  clear hv hB ht hl hk hp hXv G0 hx
  unfold Ix.vals at GW X0 HB2 HW1 ⊢
  obtain ⟨c0, c1, c2, c3, c4, c5, c6, c7⟩ := X0.out
  go_enter Tryz.func230, Tryz.ntmps230
  go_wp2_with fail
  refine (F.out _).mono ?_
  rintro e w' ⟨rfl, rfl⟩
  have T0 := hid (show xs.length ≤ 140737488351232 by have := HL.out; omega)
  generalize hW1 : (w.alloc (.cells #[.int .i64 x.op, .int .i64 x.res, .int .u32 x.a, .int .u32 x.b, .int .i32 x.n, .slice x.ta x.tags.length x.tc, .slice x.la x.ln x.lc, .slice x.ea x.en x.ec] 126)) = W1 at *
  go_wp2_with (first
    | (at_builtin; refine put_byte rfl (.tmp 9) (.tmp 13) rfl x.op rfl GW.out HB2.out rfl T0.out ?_; intro v1 w1 hg1; refine Hid.out ?_))
  refine hid ?_
  have A1 := hg1.at_ X0.out HXV.out
  have GH1 := hid hg1
  clear c0 c1 c2 c3 c4 c5 c6 c7 hg1
  obtain ⟨c0, c1, c2, c3, c4, c5, c6, c7⟩ := A1
  have TB := GH1.out.below GW.out.own HB2.out
  have TT1 := hid (show (xs ++ [x.op]).length ≤ 70368744178000 by have h1 := HL.out; simp only [List.length_append, List.length_cons, List.length_nil]; omega)
  go_wp2_with fail
  refine (P1.out _ _ _ GH1.out.own (Nat.le_trans HB2.out GH1.out.touch.size) ((HT.out.below (HW1.out.mono HB0.out)).below TB) TT1.out).mono ?_
  rintro e w2 ⟨v2, rfl, hgl⟩
  have hg2 := GH1.out.trans hgl
  clear TB hgl
  clear c0 c1 c2 c3 c4 c5 c6 c7
  obtain ⟨c0, c1, c2, c3, c4, c5, c6, c7⟩ := hg2.at_ X0.out HXV.out
  have A2 := hg2.at_ X0.out HXV.out
  have GH2 := hid hg2
  clear c0 c1 c2 c3 c4 c5 c6 c7 hg2
  obtain ⟨c0, c1, c2, c3, c4, c5, c6, c7⟩ := A2
  go_wp2_with fail
  refine (P2.out _).mono ?_
  rintro e q2 ⟨a2, cc2, rfl, hb2, hw2⟩
  have GC2 := hid (GH2.out.post hw2)
  have HB2c := hid hb2
  have TT2 := hid (show ((xs ++ [x.op]) ++ et).length + ea.length ≤ 140737488351232 by have h1 := HL.out; have h2 := Q2.out.1; have h3 := HTL.out; simp only [List.length_append, List.length_cons, List.length_nil]; omega)
  have AX2 := GC2.out.at_ X0.out HXV.out
  clear c0 c1 c2 c3 c4 c5 c6 c7 hb2 hw2
  go_wp2_with (first
    | (at_builtin; refine put_bytes rfl (.tmp 34) (.tmp 37) rfl rfl GC2.out HB2.out rfl rfl HB2c.out Q2.out.2 TT2.out ?_; intro v3 w3 hg3; refine Hid.out ?_))
  refine hid ?_
  obtain ⟨c0, c1, c2, c3, c4, c5, c6, c7⟩ := hg3.at_ X0.out HXV.out
  go_wp2
  go_ret
  refine ⟨_, rfl, Grew.pre HW1.out ?_⟩
  simpa [List.append_assoc] using hg3

set_option maxRecDepth 100000 in
set_option maxHeartbeats 3200000 in
theorem put5 (B : Nat) (v : Value) (xs : List Int) (x : Ix) (w : World) (hv : Own B w v xs) (hB : B ≤ w.heap.size) (hx : May x) (_ht : TagsAt B w x.ta x.tags) (hl : xs.length ≤ 70368744177700) (hk : kindP x.op = 5) (hp : partsP x.op = 12) :
    Calls Tryz.prog 230 #[v, .agg x.vals] w (PutsTo B v w (xs ++ (x.op :: encRest x))) := by
  have hop := name_range ((lawful_iff x).1 hx.law).1
  obtain ⟨o0, o1, _, _⟩ := hop
  have F := hid (fun w' => follows_any x.op w')
  rw [hp] at F
  have b1 : bits .and .u8 12 1 = 0 := by decide
  have b2 : bits .and .u8 12 2 = 0 := by decide
  have b4 : bits .and .u8 12 4 = 4 := by decide
  have b8 : bits .and .u8 12 8 = 8 := by decide
  have b16 : bits .and .u8 12 16 = 0 := by decide
  have b32 : bits .and .u8 12 32 = 0 := by decide
  have b64 : bits .and .u8 12 64 = 0 := by decide
  have hXv : v.ownBlock ≠ some w.heap.size := fun h => by have := (World.ownsRow.lt hv _ h).2; omega
  have HXV := hid hXv
  have X0 := hid (At.made x w)
  have G0 := hid ((Grew.refl hv).post ((Below.refl w.heap.size w).alloc (Nat.le_refl _) (.cells x.vals 126)))
  rw [encRest5 hk]
  have GW : Hid (Grew B v (w.alloc (.cells x.vals 126)) v xs (w.alloc (.cells x.vals 126))) := hid (Grew.refl G0.out.own)
  have P1 := hid (fun w' => putU_put x.a w' hx.a.1 hx.a.2)
  have Q1 := hid (encU_lens x.a)
  have P2 := hid (fun w' => putU_put x.b w' hx.b.1 hx.b.2)
  have Q2 := hid (encU_lens x.b)
  obtain ⟨ea, hea⟩ : ∃ e, encU x.a = e := ⟨_, rfl⟩
  rw [hea] at P1 Q1
  rw [hea]
  clear hea
  obtain ⟨eb, heb⟩ : ∃ e, encU x.b = e := ⟨_, rfl⟩
  rw [heb] at P2 Q2
  rw [heb]
  clear heb
  have HL := hid hl
  have HB2 : Hid (B ≤ (w.alloc (.cells x.vals 126)).heap.size) := by refine hid ?_; simp; omega
  have HW1 : Hid (Below w.heap.size w (w.alloc (.cells x.vals 126))) := hid ((Below.refl w.heap.size w).alloc (Nat.le_refl _) _)
  clear hv hB _ht hl hk hp hXv G0 hx
  unfold Ix.vals at GW X0 HB2 HW1 ⊢
  obtain ⟨c0, c1, c2, c3, c4, c5, c6, c7⟩ := X0.out
  go_enter Tryz.func230, Tryz.ntmps230
  go_wp2_with fail
  refine (F.out _).mono ?_
  rintro e w' ⟨rfl, rfl⟩
  have T0 := hid (show xs.length ≤ 140737488351232 by have := HL.out; omega)
  generalize hW1 : (w.alloc (.cells #[.int .i64 x.op, .int .i64 x.res, .int .u32 x.a, .int .u32 x.b, .int .i32 x.n, .slice x.ta x.tags.length x.tc, .slice x.la x.ln x.lc, .slice x.ea x.en x.ec] 126)) = W1 at *
  go_wp2_with (first
    | (at_builtin; refine put_byte rfl (.tmp 9) (.tmp 13) rfl x.op rfl GW.out HB2.out rfl T0.out ?_; intro v1 w1 hg1; refine Hid.out ?_))
  refine hid ?_
  have A1 := hg1.at_ X0.out HXV.out
  have GH1 := hid hg1
  clear c0 c1 c2 c3 c4 c5 c6 c7 hg1
  obtain ⟨c0, c1, c2, c3, c4, c5, c6, c7⟩ := A1
  go_wp2_with fail
  refine (P1.out _).mono ?_
  rintro e q1 ⟨a1, cc1, rfl, hb1, hw1⟩
  have GC1 := hid (GH1.out.post hw1)
  have HB1c := hid hb1
  have TT1 := hid (show (xs ++ [x.op]).length + ea.length ≤ 140737488351232 by have h1 := HL.out; have h2 := Q1.out.1; simp only [List.length_append, List.length_cons, List.length_nil]; omega)
  have AX1 := GC1.out.at_ X0.out HXV.out
  clear c0 c1 c2 c3 c4 c5 c6 c7 hb1 hw1
  go_wp2_with (first
    | (at_builtin; refine put_bytes rfl (.tmp 34) (.tmp 37) rfl rfl GC1.out HB2.out rfl rfl HB1c.out Q1.out.2 TT1.out ?_; intro v2 w2 hg2; refine Hid.out ?_))
  refine hid ?_
  obtain ⟨c0, c1, c2, c3, c4, c5, c6, c7⟩ := hg2.at_ X0.out HXV.out
  have A2 := hg2.at_ X0.out HXV.out
  have GH2 := hid hg2
  clear c0 c1 c2 c3 c4 c5 c6 c7 hg2
  obtain ⟨c0, c1, c2, c3, c4, c5, c6, c7⟩ := A2
  go_wp2_with fail
  refine (P2.out _).mono ?_
  rintro e q2 ⟨a2, cc2, rfl, hb2, hw2⟩
  have GC2 := hid (GH2.out.post hw2)
  have HB2c := hid hb2
  have TT2 := hid (show ((xs ++ [x.op]) ++ ea).length + eb.length ≤ 140737488351232 by have h1 := HL.out; have h2 := Q2.out.1; have h3 := Q1.out.1; simp only [List.length_append, List.length_cons, List.length_nil]; omega)
  have AX2 := GC2.out.at_ X0.out HXV.out
  clear c0 c1 c2 c3 c4 c5 c6 c7 hb2 hw2
  go_wp2_with (first
    | (at_builtin; refine put_bytes rfl (.tmp 42) (.tmp 45) rfl rfl GC2.out HB2.out rfl rfl HB2c.out Q2.out.2 TT2.out ?_; intro v3 w3 hg3; refine Hid.out ?_))
  refine hid ?_
  obtain ⟨c0, c1, c2, c3, c4, c5, c6, c7⟩ := hg3.at_ X0.out HXV.out
  go_wp2
  go_ret
  refine ⟨_, rfl, Grew.pre HW1.out ?_⟩
  simpa [List.append_assoc] using hg3

set_option maxRecDepth 100000 in
set_option maxHeartbeats 3200000 in
theorem put6 (B : Nat) (v : Value) (xs : List Int) (x : Ix) (w : World) (hv : Own B w v xs) (hB : B ≤ w.heap.size) (hx : May x) (_ht : TagsAt B w x.ta x.tags) (hl : xs.length ≤ 70368744177700) (hk : kindP x.op = 6) (hp : partsP x.op = 32) :
    Calls Tryz.prog 230 #[v, .agg x.vals] w (PutsTo B v w (xs ++ (x.op :: encRest x))) := by
  have hop := name_range ((lawful_iff x).1 hx.law).1
  obtain ⟨o0, o1, _, _⟩ := hop
  have F := hid (fun w' => follows_any x.op w')
  rw [hp] at F
  have b1 : bits .and .u8 32 1 = 0 := by decide
  have b2 : bits .and .u8 32 2 = 0 := by decide
  have b4 : bits .and .u8 32 4 = 0 := by decide
  have b8 : bits .and .u8 32 8 = 0 := by decide
  have b16 : bits .and .u8 32 16 = 0 := by decide
  have b32 : bits .and .u8 32 32 = 32 := by decide
  have b64 : bits .and .u8 32 64 = 0 := by decide
  have hXv : v.ownBlock ≠ some w.heap.size := fun h => by have := (World.ownsRow.lt hv _ h).2; omega
  have HXV := hid hXv
  have X0 := hid (At.made x w)
  have G0 := hid ((Grew.refl hv).post ((Below.refl w.heap.size w).alloc (Nat.le_refl _) (.cells x.vals 126)))
  rw [encRest6 hk]
  have GW : Hid (Grew B v (w.alloc (.cells x.vals 126)) v xs (w.alloc (.cells x.vals 126))) := hid (Grew.refl G0.out.own)
  have HL := hid hl
  have HB2 : Hid (B ≤ (w.alloc (.cells x.vals 126)).heap.size) := by refine hid ?_; simp; omega
  have HW1 : Hid (Below w.heap.size w (w.alloc (.cells x.vals 126))) := hid ((Below.refl w.heap.size w).alloc (Nat.le_refl _) _)
  clear hv hB _ht hl hk hp hXv G0 hx
  unfold Ix.vals at GW X0 HB2 HW1 ⊢
  obtain ⟨c0, c1, c2, c3, c4, c5, c6, c7⟩ := X0.out
  go_enter Tryz.func230, Tryz.ntmps230
  go_wp2_with fail
  refine (F.out _).mono ?_
  rintro e w' ⟨rfl, rfl⟩
  have T0 := hid (show xs.length ≤ 140737488351232 by have := HL.out; omega)
  generalize hW1 : (w.alloc (.cells #[.int .i64 x.op, .int .i64 x.res, .int .u32 x.a, .int .u32 x.b, .int .i32 x.n, .slice x.ta x.tags.length x.tc, .slice x.la x.ln x.lc, .slice x.ea x.en x.ec] 126)) = W1 at *
  go_wp2_with (first
    | (at_builtin; refine put_byte rfl (.tmp 9) (.tmp 13) rfl x.op rfl GW.out HB2.out rfl T0.out ?_; intro v1 w1 hg1; refine Hid.out ?_))
  refine hid ?_
  have A1 := hg1.at_ X0.out HXV.out
  have GH1 := hid hg1
  clear c0 c1 c2 c3 c4 c5 c6 c7 hg1
  obtain ⟨c0, c1, c2, c3, c4, c5, c6, c7⟩ := A1
  have TT1 := hid (show (xs ++ [x.op]).length ≤ 140737488351232 by have h1 := HL.out; simp only [List.length_append, List.length_cons, List.length_nil]; omega)
  go_wp2_with (first
    | (at_builtin; refine put_byte rfl (.tmp 58) (.tmp 59) rfl 0 rfl GH1.out HB2.out rfl TT1.out ?_; intro v2 w2 hg2; refine Hid.out ?_))
  refine hid ?_
  obtain ⟨c0, c1, c2, c3, c4, c5, c6, c7⟩ := hg2.at_ X0.out HXV.out
  go_wp2
  go_ret
  refine ⟨_, rfl, Grew.pre HW1.out ?_⟩
  simpa [List.append_assoc] using hg2

set_option maxRecDepth 100000 in
set_option maxHeartbeats 3200000 in
theorem put7 (B : Nat) (v : Value) (xs : List Int) (x : Ix) (w : World) (hv : Own B w v xs) (hB : B ≤ w.heap.size) (hx : May x) (_ht : TagsAt B w x.ta x.tags) (hl : xs.length ≤ 70368744177700) (hk : kindP x.op = 7) (hp : partsP x.op = 16) :
    Calls Tryz.prog 230 #[v, .agg x.vals] w (PutsTo B v w (xs ++ (x.op :: encRest x))) := by
  have hop := name_range ((lawful_iff x).1 hx.law).1
  obtain ⟨o0, o1, _, _⟩ := hop
  have F := hid (fun w' => follows_any x.op w')
  rw [hp] at F
  have b1 : bits .and .u8 16 1 = 0 := by decide
  have b2 : bits .and .u8 16 2 = 0 := by decide
  have b4 : bits .and .u8 16 4 = 0 := by decide
  have b8 : bits .and .u8 16 8 = 0 := by decide
  have b16 : bits .and .u8 16 16 = 16 := by decide
  have b32 : bits .and .u8 16 32 = 0 := by decide
  have b64 : bits .and .u8 16 64 = 0 := by decide
  have hXv : v.ownBlock ≠ some w.heap.size := fun h => by have := (World.ownsRow.lt hv _ h).2; omega
  have HXV := hid hXv
  have X0 := hid (At.made x w)
  have G0 := hid ((Grew.refl hv).post ((Below.refl w.heap.size w).alloc (Nat.le_refl _) (.cells x.vals 126)))
  rw [encRest7 hk]
  have GW : Hid (Grew B v (w.alloc (.cells x.vals 126)) v xs (w.alloc (.cells x.vals 126))) := hid (Grew.refl G0.out.own)
  have P1 := hid (fun w' => putS_put x.n w' hx.n.1 hx.n.2)
  have Q1 := hid (encS_lens x.n)
  obtain ⟨en, hen⟩ : ∃ e, encS x.n = e := ⟨_, rfl⟩
  rw [hen] at P1 Q1
  rw [hen]
  clear hen
  have HL := hid hl
  have HB2 : Hid (B ≤ (w.alloc (.cells x.vals 126)).heap.size) := by refine hid ?_; simp; omega
  have HW1 : Hid (Below w.heap.size w (w.alloc (.cells x.vals 126))) := hid ((Below.refl w.heap.size w).alloc (Nat.le_refl _) _)
  clear hv hB _ht hl hk hp hXv G0 hx
  unfold Ix.vals at GW X0 HB2 HW1 ⊢
  obtain ⟨c0, c1, c2, c3, c4, c5, c6, c7⟩ := X0.out
  go_enter Tryz.func230, Tryz.ntmps230
  go_wp2_with fail
  refine (F.out _).mono ?_
  rintro e w' ⟨rfl, rfl⟩
  have T0 := hid (show xs.length ≤ 140737488351232 by have := HL.out; omega)
  generalize hW1 : (w.alloc (.cells #[.int .i64 x.op, .int .i64 x.res, .int .u32 x.a, .int .u32 x.b, .int .i32 x.n, .slice x.ta x.tags.length x.tc, .slice x.la x.ln x.lc, .slice x.ea x.en x.ec] 126)) = W1 at *
  go_wp2_with (first
    | (at_builtin; refine put_byte rfl (.tmp 9) (.tmp 13) rfl x.op rfl GW.out HB2.out rfl T0.out ?_; intro v1 w1 hg1; refine Hid.out ?_))
  refine hid ?_
  have A1 := hg1.at_ X0.out HXV.out
  have GH1 := hid hg1
  clear c0 c1 c2 c3 c4 c5 c6 c7 hg1
  obtain ⟨c0, c1, c2, c3, c4, c5, c6, c7⟩ := A1
  go_wp2_with fail
  refine (P1.out _).mono ?_
  rintro e q1 ⟨a1, cc1, rfl, hb1, hw1⟩
  have GC1 := hid (GH1.out.post hw1)
  have HB1c := hid hb1
  have TT1 := hid (show (xs ++ [x.op]).length + en.length ≤ 140737488351232 by have h1 := HL.out; have h2 := Q1.out.1; simp only [List.length_append, List.length_cons, List.length_nil]; omega)
  have AX1 := GC1.out.at_ X0.out HXV.out
  clear c0 c1 c2 c3 c4 c5 c6 c7 hb1 hw1
  go_wp2_with (first
    | (at_builtin; refine put_bytes rfl (.tmp 50) (.tmp 53) rfl rfl GC1.out HB2.out rfl rfl HB1c.out Q1.out.2 TT1.out ?_; intro v2 w2 hg2; refine Hid.out ?_))
  refine hid ?_
  obtain ⟨c0, c1, c2, c3, c4, c5, c6, c7⟩ := hg2.at_ X0.out HXV.out
  go_wp2
  go_ret
  refine ⟨_, rfl, Grew.pre HW1.out ?_⟩
  simpa [List.append_assoc] using hg2


set_option maxRecDepth 100000 in
set_option maxHeartbeats 3200000 in
theorem inner_any (B : Nat) (v : Value) (xs : List Int) (x : Ix) (l e : Il) (w : World) (hv : Own B w v xs) (hB : B ≤ w.heap.size) (hl : ListAt B w x.la x.ln l) (he : ListAt B w x.ea x.en e) (hln : x.ln ≤ 140737488351232) (hen : x.en ≤ 140737488351232) (il : ALok l) (ie : ALok e)
    (hx : xs.length + (encL l).length + (encL e).length + 1 ≤ 70368744177664) :
    Calls Tryz.prog 242 #[v, .agg x.vals] w (PutsTo B v w (xs ++ (encL l ++ ((if x.en = 0 then [] else 5 :: encL e) ++ [11])))) := by
  have hXv : v.ownBlock ≠ some w.heap.size := fun h => by have := (World.ownsRow.lt hv _ h).2; omega
  have HXV := hid hXv
  have HW1 : Hid (Below w.heap.size w (w.alloc (.cells x.vals 126))) := hid ((Below.refl w.heap.size w).alloc (Nat.le_refl _) _)
  have X0 := hid (At.made x w)
  have GW : Hid (Grew B v (w.alloc (.cells x.vals 126)) v xs (w.alloc (.cells x.vals 126))) := hid (Grew.refl (hv.alloc _))
  have HB2 : Hid (B ≤ (w.alloc (.cells x.vals 126)).heap.size) := by refine hid ?_; simp; omega
  have LL := hid (hl.below (HW1.out.mono hB))
  have LE := hid (he.below (HW1.out.mono hB))
  have PL := hid (fun (v' : Value) (zs : List Int) (w' : World) (h1 : Own B w' v' zs) (h2 : B ≤ w'.heap.size) (h3 : ListAt B w' x.la x.ln l) (h4 : zs.length + (encL l).length ≤ 70368744177664) => il B v' zs x.la x.ln x.lc w' h1 h2 h3 hln h4)
  have PE := hid (fun (v' : Value) (zs : List Int) (w' : World) (h1 : Own B w' v' zs) (h2 : B ≤ w'.heap.size) (h3 : ListAt B w' x.ea x.en e) (h4 : zs.length + (encL e).length ≤ 70368744177664) => ie B v' zs x.ea x.en x.ec w' h1 h2 h3 hen h4)
  obtain ⟨el, hel⟩ : ∃ r, encL l = r := ⟨_, rfl⟩
  obtain ⟨ee, hee⟩ : ∃ r, encL e = r := ⟨_, rfl⟩
  rw [hel] at PL hx ⊢
  rw [hee] at PE hx ⊢
  have HL := hid hx
  clear hv hB hl he hln hen il ie hx hXv hel hee
  by_cases h0 : x.en = 0
  · rw [if_pos h0, List.nil_append]
    have h0'' : ¬ (0 : Int) < (x.en : Int) := by omega
    clear h0
    unfold Ix.vals at GW X0 HB2 HW1 LL LE ⊢
    obtain ⟨c0, c1, c2, c3, c4, c5, c6, c7⟩ := X0.out
    have T0 := hid (show xs.length + el.length ≤ 70368744177664 by have := HL.out; omega)
    go_enter Tryz.func242, Tryz.ntmps242
    generalize hW1 : (w.alloc (.cells #[.int .i64 x.op, .int .i64 x.res, .int .u32 x.a, .int .u32 x.b, .int .i32 x.n, .slice x.ta x.tags.length x.tc, .slice x.la x.ln x.lc, .slice x.ea x.en x.ec] 126)) = W1 at *
    go_wp2_with fail
    try rw [hW1]
    refine (PL.out v xs W1 GW.out.own HB2.out LL.out T0.out).mono ?_
    clear PL
    rintro e1 w1 ⟨v1, rfl, hg1⟩
    have A1 := hg1.at_ X0.out HXV.out
    have GH1 := hid hg1
    clear c0 c1 c2 c3 c4 c5 c6 c7 hg1
    obtain ⟨c0, c1, c2, c3, c4, c5, c6, c7⟩ := A1
    have T1 := hid (show (xs ++ el).length ≤ 140737488351232 by have := HL.out; simp only [List.length_append]; omega)
    go_wp2_with (first
      | (at_builtin; refine put_byte rfl (.tmp 19) (.tmp 20) rfl 11 rfl GH1.out HB2.out rfl T1.out ?_; intro v2 w2 hg2; refine Hid.out ?_))
    refine hid ?_
    go_wp2
    go_ret
    refine ⟨_, rfl, Grew.pre HW1.out ?_⟩
    simpa [List.append_assoc] using hg2
  · rw [if_neg h0]
    have h0'' : (0 : Int) < (x.en : Int) := by omega
    unfold Ix.vals at GW X0 HB2 HW1 LL LE ⊢
    obtain ⟨c0, c1, c2, c3, c4, c5, c6, c7⟩ := X0.out
    have T0 := hid (show xs.length + el.length ≤ 70368744177664 by have := HL.out; omega)
    go_enter Tryz.func242, Tryz.ntmps242
    generalize hW1 : (w.alloc (.cells #[.int .i64 x.op, .int .i64 x.res, .int .u32 x.a, .int .u32 x.b, .int .i32 x.n, .slice x.ta x.tags.length x.tc, .slice x.la x.ln x.lc, .slice x.ea x.en x.ec] 126)) = W1 at *
    go_wp2_with fail
    try rw [hW1]
    refine (PL.out v xs W1 GW.out.own HB2.out LL.out T0.out).mono ?_
    clear PL
    rintro e1 w1 ⟨v1, rfl, hg1⟩
    have A1 := hg1.at_ X0.out HXV.out
    have GH1 := hid hg1
    clear c0 c1 c2 c3 c4 c5 c6 c7
    obtain ⟨c0, c1, c2, c3, c4, c5, c6, c7⟩ := A1
    have LE1 := hid (LE.out.below (hg1.below GW.out.own HB2.out))
    clear hg1
    have T1 := hid (show (xs ++ el).length ≤ 140737488351232 by have := HL.out; simp only [List.length_append]; omega)
    have G1d := hid (GH1.out.post (Below.refl _ _).drew)
    have G1z := hid (GH1.out.post ((Below.refl w1.heap.size w1).alloc (Nat.le_refl _) (.cells #[.int .u8 5] 5)).drew)
    have Z5 : Hid ((w1.alloc (.cells #[.int .u8 5] 5)).drew.cell? ⟨w1.heap.size, 0, none⟩ = some (.int .u8 5)) := by refine hid ?_; go_simp
    have c7z := keepA c7 (.cells #[.int .u8 5] 5)
    have T2 := hid (show (xs ++ el ++ [5]).length + ee.length ≤ 70368744177664 by have := HL.out; simp only [List.length_append, List.length_cons, List.length_nil]; omega)
    have LE0 := LE
    go_wp2
    go_region_law
      (first
        | (refine step_put_byte rfl (.tmp 13) (.tmp 14) rfl 5 rfl G1z.out HB2.out rfl Z5.out T1.out ?_
           intro v2 w2 hg2
           have c72 := (hg2.at_ X0.out HXV.out).c7
           have LE2 := hid (LE0.out.below (hg2.below GW.out.own HB2.out))
           have HG2 := hid hg2
           clear hg2)
        | (go_simp; go_at_call 214
           refine (PE.out _ _ _ HG2.out.own (Nat.le_trans HB2.out HG2.out.touch.size) LE2.out T2.out).mono ?_
           rintro e3 w3 ⟨v3, rfl, hg3⟩
           have HG3 := hid (HG2.out.trans hg3)
           clear hg3))
    all_goals
      have T3 := hid (show (xs ++ el ++ [5] ++ ee).length ≤ 140737488351232 by have := HL.out; simp only [List.length_append, List.length_cons, List.length_nil]; omega)
      go_wp2_with (first
        | (at_builtin; refine put_byte rfl (.tmp 19) (.tmp 20) rfl 11 rfl HG3.out HB2.out rfl T3.out ?_; intro v4 w4 hg4; refine Hid.out ?_))
      refine hid ?_
      go_wp2
      go_ret
      refine ⟨_, rfl, Grew.pre HW1.out ?_⟩
      simpa [List.append_assoc] using hg4
end Go.Proofs.YtiadgkdkjinnjaaGreatDoor.Body

/-
  ENCODE: bytes that append to themselves: a row whose slice lies in the first cell of block g; nothing else of what was there turns.
-/
namespace Go.Proofs.YtiadgkdkjinnjaaGreatDoor.Enc
open Go.RowKit
open Go.Proofs.YtiadgkdkjinnjaaGreatDoor.Body (Grew)

/-- From world w0, in which cell g held v0, on: it holds v, whose row holds these bytes. -/
structure Buf (g B : Nat) (v0 : Value) (w0 : World) (v : Value) (zs : List Int) (w : World) : Prop where
  c : w.cell? ⟨g, 0, none⟩ = some v
  f : w.frozen? ⟨g, 0, none⟩ = false
  own : Own B w v zs
  touch : Touch (fun j => j = g ∨ v0.ownBlock = some j) w0 w
  rest : ∀ j, j ≠ 0 → w.cell? ⟨g, j, none⟩ = w0.cell? ⟨g, j, none⟩
  new : ∀ q, v.ownBlock = some q → v0.ownBlock = some q ∨ w0.heap.size ≤ q
  sep : v.ownBlock ≠ some g
  low : g ≤ B + 1
  lowB : B ≤ w0.heap.size
  gl : g < w0.heap.size
theorem Buf.start {g B : Nat} {v : Value} {zs : List Int} {w : World} (c : w.cell? ⟨g, 0, none⟩ = some v) (f : w.frozen? ⟨g, 0, none⟩ = false) (own : Own B w v zs) (sep : v.ownBlock ≠ some g) (low : g ≤ B + 1) (lowB : B ≤ w.heap.size) : Buf g B v w v zs w :=
  ⟨c, f, own, .refl _ _, fun _ _ => rfl, fun _ h => .inl h, sep, low, lowB, World.block_lt_of_cell? w _ c⟩
theorem Buf.again {g B : Nat} {v0 v : Value} {zs : List Int} {w0 w : World} (h : Buf g B v0 w0 v zs w) : Buf g B v w v zs w := .start h.c h.f h.own h.sep h.low (Nat.le_trans h.lowB h.touch.size)
theorem Buf.lt {g B : Nat} {v0 v : Value} {zs : List Int} {w0 w : World} (h : Buf g B v0 w0 v zs w) : g < w.heap.size := World.block_lt_of_cell? w _ h.c
theorem Buf.ne {g B : Nat} {v0 v : Value} {zs : List Int} {w0 w : World} (h : Buf g B v0 w0 v zs w) : ¬ v.ownBlock = some g := h.sep
theorem Buf.trans {g B : Nat} {v0 v1 v2 : Value} {xs zs : List Int} {w0 w1 w2 : World} (h : Buf g B v0 w0 v1 xs w1) (k : Buf g B v1 w1 v2 zs w2) : Buf g B v0 w0 v2 zs w2 := by
  refine ⟨k.c, k.f, k.own, ⟨k.touch.os.trans h.touch.os, k.touch.tape.trans h.touch.tape, k.touch.output.trans h.touch.output, Nat.le_trans h.touch.size k.touch.size, fun j hj hk => ?_⟩, fun j hj => (k.rest j hj).trans (h.rest j hj), fun q hq => ?_, k.sep, h.low, h.lowB, h.gl⟩
  · refine (k.touch.block j (Nat.lt_of_lt_of_le hj h.touch.size) (fun e => ?_)).trans (h.touch.block j hj hk)
    rcases e with e | e
    · exact hk (.inl e)
    · rcases h.new j e with e | e
      · exact hk (.inr e)
      · omega
  · rcases k.new q hq with e | e
    · exact h.new q e
    · exact .inr (Nat.le_trans h.touch.size e)
theorem Buf.on {g B : Nat} {v0 v : Value} {zs : List Int} {w0 w w' : World} (h : Buf g B v0 w0 v zs w) (hb : Below w.heap.size w w') : Buf g B v0 w0 v zs w' := by
  refine ⟨keep hb h.c, (hb.frozen (p := ⟨g, 0, none⟩) h.lt).trans h.f, h.own.below hb, h.touch.trans (Touch.of_below hb), fun j hj => ?_, h.new, h.sep, h.low, h.lowB, h.gl⟩
  exact (hb.cell (p := ⟨g, j, none⟩) h.lt).trans (h.rest j hj)
/-- Bytes are appended, and the slice is stored. -/
theorem Buf.put {g B : Nat} {v0 v v' : Value} {xs zs : List Int} {w0 w w' : World} (h : Buf g B v0 w0 v xs w) (k : Grew B v w v' zs w') : Buf g B v0 w0 v' zs (w'.setCell ⟨g, 0, none⟩ v') := by
  have hg : g < w'.heap.size := Nat.lt_of_lt_of_le h.lt k.touch.size
  have hsep : v'.ownBlock ≠ some g := fun e => by
    rcases k.new _ e with e | e
    · exact h.sep e
    · have := h.lt; omega
  have hcell : ∀ j, w'.cell? ⟨g, j, none⟩ = w.cell? ⟨g, j, none⟩ := fun j => World.cell?_of_block (k.touch.block g h.lt h.ne)
  have hfr : w'.frozen? ⟨g, 0, none⟩ = false := (World.frozen?_of_block (w := w) (k.touch.block g h.lt h.ne)).trans h.f
  have t1 : Touch (fun j => j = g ∨ v.ownBlock = some j) w (w'.setCell ⟨g, 0, none⟩ v') := (k.touch.mono (fun j hj => .inr hj)).setCell (.inl (.inl rfl)) v'
  refine ⟨World.cell?_setCell_same' _ _ _ (by rw [hcell 0, h.c]; rfl), by rw [World.frozen?_setCell]; exact hfr, touch_row k.own ((Touch.refl (fun j => j = g) w').setCell (.inl rfl) v') (fun q hq e => hsep (by rw [hq, e])), ⟨t1.os.trans h.touch.os, t1.tape.trans h.touch.tape, t1.output.trans h.touch.output, Nat.le_trans h.touch.size t1.size, fun j hj hk => ?_⟩, fun j hj => ?_, fun q hq => ?_, hsep, h.low, h.lowB, h.gl⟩
  · refine (t1.block j (Nat.lt_of_lt_of_le hj h.touch.size) (fun e => ?_)).trans (h.touch.block j hj hk)
    rcases e with e | e
    · exact hk (.inl e)
    · rcases h.new j e with e | e
      · exact hk (.inr e)
      · omega
  · refine Eq.trans ?_ ((hcell j).trans (h.rest j hj))
    exact World.cell?_setCell_other _ _ _ _ (by intro e; simp only [Addr.mk.injEq, true_and, and_true] at e; exact hj e.symm)
  · rcases k.new q hq with e | e
    · exact h.new q e
    · exact .inr (Nat.le_trans h.touch.size e)
theorem Buf.old {g B : Nat} {v0 v v' : Value} {xs zs : List Int} {w0 w w' : World} (h : Buf g B v0 w0 v xs w) (k : Grew B v w v' zs w') : w'.cell? ⟨g, 0, none⟩ = some v ∧ w'.frozen? ⟨g, 0, none⟩ = false :=
  ⟨(World.cell?_of_block (k.touch.block g h.lt h.ne)).trans h.c, (World.frozen?_of_block (w := w) (k.touch.block g h.lt h.ne)).trans h.f⟩
/-- What lies below, but for the row, is as it was. -/
theorem Buf.below {g B n : Nat} {v0 v : Value} {zs : List Int} {w0 w : World} (h : Buf g B v0 w0 v zs w) (hg : n ≤ g) (hv : ∀ q, v0.ownBlock = some q → n ≤ q) : Below n w0 w :=
  h.touch.below (Nat.le_trans hg (Nat.le_of_lt h.gl)) (fun j hj => by rcases hj with rfl | hj; exact hg; exact hv j hj)
/-- A method that appends these bytes to the bytes in cell g. -/
def Puts (g B : Nat) (v : Value) (w : World) (zs : List Int) (e : Ending) (w' : World) : Prop := e = .returned (.tuple #[]) ∧ ∃ v', Buf g B v w v' zs w'
end Go.Proofs.YtiadgkdkjinnjaaGreatDoor.Enc

/-
  ENCODE: appends to a type of bytes of its own: of a byte, of bytes of any slice; the methods byte, number, put, sized, by contract.
-/
namespace Go.Proofs.YtiadgkdkjinnjaaGreatDoor.Enc
open Go.RowKit Go.Proofs.YtiadgkdkjinnjaaGreatDoor.Leb
open Go.Proofs.YtiadgkdkjinnjaaGreatDoor.Body (Grew)

theorem run_append_two (t t2 ty e e2 : TypeId) (ht : Tryz.prog.underlying t = some (.slice e)) (ht2 : Tryz.prog.underlying t2 = some (.slice e2)) (s x : Value) (w : World) :
    (Builtin.append_ #[t, t2] ty #[s, x]).run Tryz.prog w = (Builtin.append_ #[t, t] ty #[s, x]).run Tryz.prog w := by
  cases s <;> simp [Builtin.append_, run_underlying ht, run_underlying ht2, sizeOf, typeInfo]
/-- An append of bytes as the program runs it. -/
theorem run_puts (t2 e2 ty : TypeId) (ht2 : Tryz.prog.underlying t2 = some (.slice e2)) {B : Nat} {wr : World} {v : Value} {xs ys : List Int} (hown : Own B wr v xs) (hB : B ≤ wr.heap.size)
    (a : Option Addr) (n c : Nat) (hn : ys.length = n) (hy : Bytes wr a ys) (hl : xs.length + ys.length ≤ 140737488351232) :
    ∃ v' w', (Builtin.append_ #[74, t2] ty #[v, .slice a n c]).run Tryz.prog wr = .ok v' w' ∧ Grew B v wr v' (xs ++ ys) w' := by
  obtain ⟨i0, hi, hz0, hz1, hz2⟩ := info_parts infoByte
  subst hn
  rw [run_append_two _ t2 _ _ e2 Tryz.underlying74 ht2]
  have fin : ∀ (v' : Value) (w' : World), w'.ownsRow B 5 1 v' (xs.length + ys.length) (xs.map (Value.int .u8) ++ ys.map (Value.int .u8)) → wr.grownBy w' v.ownBlock → (v'.ownBlock = v.ownBlock ∨ v'.ownBlock = some wr.heap.size) → Grew B v wr v' (xs ++ ys) w' := by
    intro v' w' h1 h2 h3
    refine ⟨by unfold Own; rw [List.length_append, List.map_append]; exact h1, Touch.of_grown h2, fun g hg => ?_⟩
    rcases h3 with h3 | h3
    · exact .inl (by rw [← h3]; exact hg)
    · rw [h3, Option.some.injEq] at hg; exact .inr (by omega)
  cases a with
  | none =>
    have h0 : ys = [] := by
      rcases hy.at_ with h | ⟨b, off, h, _⟩
      · exact h
      · cases h
    subst h0
    refine ⟨v, wr, ?_, by rw [List.append_nil]; exact Grew.refl hown⟩
    rcases hown.2 with ⟨rfl, h0⟩ | ⟨g, cap, cur, rfl, _, _, hnc, _⟩
    · simp [Builtin.append_, run_underlying Tryz.underlying74, sizeOf, typeInfo, hi, Builtin.lenOf, Builtin.firstCells]
    · simp [Builtin.append_, run_underlying Tryz.underlying74, sizeOf, typeInfo, hi, Builtin.lenOf, Builtin.firstCells, hnc, storeCells]
  | some ad =>
    have hnews : ∀ (j : Nat) (u : Value), (ys.map (Value.int .u8))[j]? = some u → wr.cell? (ad.add j) = some u := by
      intro j u hj
      have hjl : j < ys.length := by
        rcases Nat.lt_or_ge j ys.length with h | h
        · exact h
        · rw [List.getElem?_eq_none (by simpa using h)] at hj; cases hj
      rcases hy.at_ with h | ⟨b, off, h, hc⟩
      · subst h; exact absurd hjl (by simp)
      · obtain rfl := Option.some.inj h
        have hplain : (⟨b, off, none⟩ : Addr).add j = ⟨b, off + j, none⟩ := by unfold Addr.add; split <;> simp_all
        rw [hplain, hc j hjl]
        rw [← hj, getD_lt hjl]; simp [hjl]
    obtain ⟨v', w', hr, h2, h3, _, h5⟩ := run_append_own_at (P := Tryz.prog) wr B 74 ty 5 i0 (.int .u8 0) 1 1 Tryz.underlying74 hi hz0 hz1 hz2 rfl (by decide) v xs.length _ hown ad ys.length c (ys.map (Value.int .u8)) (by simp)
      hnews (fun u hu => by obtain ⟨n, _, rfl⟩ := List.mem_map.1 hu; rfl) (by unfold maxLen; omega) (by omega) hB
    exact ⟨v', w', hr, fin v' w' h2 h3 h5⟩
section
variable {ops : Array Oper} {rest : List Oper} {o : Oper} {act : Act} {Q : Exit → Act → World → Prop}
theorem puts_wp (t2 e2 : TypeId) (ht2 : Tryz.prog.underlying t2 = some (.slice e2)) (hgd : o.guard = none) (s x : Operand) (ho : o.op = .call { callee := .builtin .append, args := #[s, x], argTypes := #[74, t2] })
    {B : Nat} {wr : World} {v : Value} {xs ys : List Int} (hs : act.eval s = v) (hown : Own B wr v xs) (hB : B ≤ wr.heap.size)
    (a : Option Addr) (n c : Nat) (hx : act.eval x = .slice a n c) (hn : ys.length = n) (hy : Bytes wr a ys) (hl : xs.length + ys.length ≤ 140737488351232)
    (h : ∀ v' w', Grew B v wr v' (xs ++ ys) w' → wpList Tryz.prog ops Q rest (act.put o.dst v') w') :
    wpList Tryz.prog ops Q (o :: rest) act wr := by
  refine wpList_plain hgd fun K hK => ?_
  obtain ⟨v', w', hr, hg⟩ := run_puts t2 e2 o.type ht2 hown hB a n c hn hy hl
  unfold Oper.wp
  simp [execOp, ho, resolve, invoke, builtin, hs, hx, hr, Result.andThen]
  exact hK _ _ (h v' w' hg)
end
section
variable {ops : Array Oper} {o : Oper} {act : Act} {K : Act → World → Prop} {Q : Exit → Act → World → Prop} {E : Prop}
theorem puts_step (t2 e2 : TypeId) (ht2 : Tryz.prog.underlying t2 = some (.slice e2)) (hgd : o.guard = none) (s x : Operand) (ho : o.op = .call { callee := .builtin .append, args := #[s, x], argTypes := #[74, t2] })
    {B : Nat} {wr : World} {v : Value} {xs ys : List Int} (hs : act.eval s = v) (hown : Own B wr v xs) (hB : B ≤ wr.heap.size)
    (a : Option Addr) (n c : Nat) (hx : act.eval x = .slice a n c) (hn : ys.length = n) (hy : Bytes wr a ys) (hl : xs.length + ys.length ≤ 140737488351232)
    (h : ∀ v' w', Grew B v wr v' (xs ++ ys) w' → K (act.put o.dst v') w') :
    if Region.wanted o (yielded ops act.tmps) = true then Oper.wp Tryz.prog o act wr K Q else E := by
  have hw : Region.wanted o (yielded ops act.tmps) = true := by simp [Region.wanted, hgd]
  rw [if_pos hw]
  obtain ⟨v', w', hr, hg⟩ := run_puts t2 e2 o.type ht2 hown hB a n c hn hy hl
  unfold Oper.wp
  simp [execOp, ho, resolve, invoke, builtin, hs, hx, hr, Result.andThen]
  exact h v' w' hg
end
/-- A byte that a literal holds. -/
theorem lit_byte (w : World) (z : Int) (t : TypeId) (g : Nat) (hg : g = w.heap.size) (hz : 0 ≤ z ∧ z < 256) : Bytes (w.alloc (.cells #[.int .u8 z] t)) (some ⟨g, 0, none⟩) [z] := by
  subst hg
  exact ⟨by simpa using hz, by simp, .inr ⟨_, 0, rfl, fun i hi => by
    have : i = 0 := by simpa using hi
    subst this
    simp [go_sem]⟩⟩
theorem Buf.lit {g B : Nat} {v0 v : Value} {zs : List Int} {w0 w : World} (h : Buf g B v0 w0 v zs w) (o : Obj) : Buf g B v0 w0 v zs (w.alloc o) := h.on ((Below.refl _ _).alloc (Nat.le_refl _) o)

set_option maxRecDepth 100000 in
set_option maxHeartbeats 1000000 in
theorem byte_any (g B : Nat) (v : Value) (xs : List Int) (z : Int) (w : World) (h : Buf g B v w v xs w) (hz : 0 ≤ z ∧ z < 256) (hl : xs.length ≤ 2000000000) :
    Calls Tryz.prog 35 #[.pointer (some ⟨g, 0, none⟩), .int .u8 z] w (Puts g B v w (xs ++ [z])) := by
  have H := hid h
  have H1 := hid (h.lit (.cells #[.int .u8 z] 5))
  have c0 := h.c
  have f0 := h.f
  have LB := hid (lit_byte w z 5 w.heap.size rfl hz)
  have HL := hid (show xs.length + [z].length ≤ 140737488351232 by simp; omega)
  clear h hz hl
  go_enter Tryz.func35, Tryz.ntmps35
  go_wp2_with (first
    | (at_builtin; refine puts_wp (ys := [z]) 74 5 Tryz.underlying74 rfl (.tmp 7) (.tmp 9) rfl rfl H1.out.own (Nat.le_trans H1.out.lowB H1.out.touch.size) _ 1 1 rfl rfl LB.out HL.out ?_; intro v1 w1 hg; obtain ⟨c1, f1⟩ := H1.out.old hg; have HN := hid hg.own; obtain ⟨N, hN⟩ : ∃ N, (xs ++ [z]).length = N := ⟨_, rfl⟩; obtain ⟨a1, q1, rfl⟩ := HN.out.sliceN hN; have HG := hid (H1.out.put hg); clear hg c0 f0 HN hN))
  go_end0
  exact ⟨rfl, _, HG.out⟩
set_option maxRecDepth 100000 in
set_option maxHeartbeats 1000000 in
theorem put_anyE (g B : Nat) (v : Value) (xs ys : List Int) (a : Option Addr) (n c : Nat) (e : Int) (w : World) (h : Buf g B v w v xs w) (hn : ys.length = n) (hy : Bytes w a ys) (hl : xs.length + ys.length ≤ 2000000000) :
    Calls Tryz.prog 194 #[.pointer (some ⟨g, 0, none⟩), .slice a n c, .int .i64 e] w (Puts g B v w (xs ++ ys)) := by
  have H := hid h
  have c0 := h.c
  have f0 := h.f
  have LB := hid hy
  have LN := hid hn
  have HL := hid (show xs.length + ys.length ≤ 140737488351232 by omega)
  clear h hy hl hn
  go_enter Tryz.func194, Tryz.ntmps194
  go_wp2_with (first
    | (at_builtin; refine puts_wp (ys := ys) 35 5 Tryz.underlying35 rfl (.tmp 9) (.tmp 10) rfl rfl H.out.own (Nat.le_trans H.out.lowB H.out.touch.size) a n c rfl LN.out LB.out HL.out ?_; intro v1 w1 hg; obtain ⟨c1, f1⟩ := H.out.old hg; have HN := hid hg.own; obtain ⟨N, hN⟩ : ∃ N, (xs ++ ys).length = N := ⟨_, rfl⟩; obtain ⟨a1, q1, rfl⟩ := HN.out.sliceN hN; have HG := hid (H.out.put hg); clear hg c0 f0 HN hN))
  go_end0
  exact ⟨rfl, _, HG.out⟩
set_option maxRecDepth 100000 in
set_option maxHeartbeats 2000000 in
theorem number_any (g B : Nat) (v : Value) (xs : List Int) (z : Int) (w : World) (h : Buf g B v w v xs w) (h0 : 0 ≤ z) (h1 : z < 4294967296) (hl : xs.length ≤ 2000000000) :
    Calls Tryz.prog 111 #[.pointer (some ⟨g, 0, none⟩), .int .u32 z] w (Puts g B v w (xs ++ encU z)) := by
  have H := hid h
  have P := hid (fun W => putU_any z W h0 h1)
  have HBY := hid (encU_bytes z)
  have HEL := hid (show (encU z).length ≤ 5 from by rw [encU_length]; exact (sizeU_pos z).2)
  have HL := hid hl
  have c0 := h.c
  have f0 := h.f
  have HD := hid ((Below.refl w.heap.size w).drew)
  obtain ⟨ys, hys⟩ : ∃ ys, encU z = ys := ⟨_, rfl⟩
  rw [hys] at P HBY HEL ⊢
  clear h hl hys
  go_enter Tryz.func111, Tryz.ntmps111
  go_wp2
  have hd := (Below.refl w.heap.size w).drew
  have H0 := hid (H.out.on hd)
  clear hd
  go_region_law
    (first
      | (refine puts_step (ys := ys) 35 5 Tryz.underlying35 rfl (.tmp 7) (.tmp 9) rfl rfl H2.out.own (Nat.le_trans H2.out.lowB H2.out.touch.size) _ _ _ rfl HN2.out HY2.out HL2.out ?_; intro v3 w3 hg; obtain ⟨c3, f3⟩ := H2.out.old hg; have HN := hid hg.own; obtain ⟨N, hN⟩ : ∃ N, (xs ++ ys).length = N := ⟨_, rfl⟩; obtain ⟨a1, q1, rfl⟩ := HN.out.sliceN hN; have HG := hid (H2.out.put hg); clear hg HN hN)
      | (go_simp; go_at_call 176; refine (P.out _).mono ?_; rintro e1 w2 ⟨v2, rfl, ho2, hb2⟩; obtain ⟨n2, hn2⟩ : ∃ n, ys.length = n := ⟨_, rfl⟩; have HN2 := hid hn2; have ho3 := ho2; obtain ⟨a2, q2, rfl⟩ := ho3.sliceN hn2; have HY2 := hid (ho2.bytes HBY.out (by have := HEL.out; omega)); have H2 := hid (H0.out.on hb2); have c2 := H2.out.c; have f2 := H2.out.f; have HL2 := hid (show xs.length + ys.length ≤ 140737488351232 by have := HEL.out; have := HL.out; omega); clear ho2 ho3 hb2 hn2))
  all_goals
    go_end0
    exact ⟨rfl, _, HG.out⟩
theorem Bytes.touchE {S : Nat → Prop} {w w' : World} {a : Option Addr} {zs : List Int} (h : Bytes w a zs) (ht : Touch S w w') (hk : ∀ b off, a = some ⟨b, off, none⟩ → zs ≠ [] → ¬ S b) : Bytes w' a zs := by
  refine ⟨h.byte, h.size, ?_⟩
  by_cases h9 : zs = []
  · exact .inl h9
  · rcases h.at_ with h0 | ⟨b, off, rfl, hc⟩
    · exact .inl h0
    · exact .inr ⟨b, off, rfl, fun i hi => ht.cell (hk b off rfl h9) (hc i hi)⟩
set_option maxRecDepth 100000 in
set_option maxHeartbeats 2000000 in
theorem sized_any (g B : Nat) (v : Value) (xs ys : List Int) (a : Option Addr) (n c : Nat) (w : World) (h : Buf g B v w v xs w) (hn : ys.length = n) (hy : Bytes w a ys) (hl : xs.length + ys.length ≤ 1500000000)
    (hs : ∀ b off, a = some ⟨b, off, none⟩ → ys ≠ [] → ¬ (b = g ∨ v.ownBlock = some b)) :
    Calls Tryz.prog 36 #[.pointer (some ⟨g, 0, none⟩), .slice a n c] w (Puts g B v w (xs ++ (encU n ++ ys))) := by
  have H := hid h
  have hn4 : (n : Int) < 4294967296 := by omega
  have hw : IntKind.u32.wrap (n : Int) = n := by rw [IntKind.wrap_u32]; omega
  have P := hid (number_any g B v xs n w h (by omega) hn4 (by omega))
  have HEL := hid (show (encU n).length ≤ 5 from by rw [encU_length]; exact (sizeU_pos n).2)
  have HL := hid hl
  have LB := hid (fun w' (ht : Touch (fun j => j = g ∨ v.ownBlock = some j) w w') => Bytes.touchE hy ht hs)
  have LN := hid hn
  obtain ⟨zs, hzs⟩ : ∃ zs, encU n = zs := ⟨_, rfl⟩
  rw [hzs] at P HEL ⊢
  have e : xs ++ (zs ++ ys) = (xs ++ zs) ++ ys := by rw [List.append_assoc]
  rw [e]
  clear h hl hy hn hs hzs e
  go_enter Tryz.func36, Tryz.ntmps36
  go_wp2_with fail
  refine P.out.mono ?_
  rintro e1 w1 ⟨rfl, v1, hb⟩
  have H1 := hid hb
  have LB1 := hid (LB.out w1 hb.touch)
  have c1 := hb.c
  have f1 := hb.f
  have HL1 := hid (show (xs ++ zs).length + ys.length ≤ 140737488351232 by rw [List.length_append]; have := HL.out; have := HEL.out; omega)
  clear P hb LB
  go_wp2_with (first
    | (at_builtin; refine puts_wp (ys := ys) 35 5 Tryz.underlying35 rfl (.tmp 12) (.tmp 13) rfl rfl H1.out.own (Nat.le_trans H1.out.lowB H1.out.touch.size) a n c rfl LN.out LB1.out HL1.out ?_; intro v2 w2 hg; obtain ⟨c2, f2⟩ := H1.out.old hg; have HN := hid hg.own; obtain ⟨N, hN⟩ : ∃ N, (xs ++ zs ++ ys).length = N := ⟨_, rfl⟩; obtain ⟨a1, q1, rfl⟩ := HN.out.sliceN hN; have HG := hid (H1.out.put hg); clear hg c1 f1 HN hN))
  go_end0
  exact ⟨rfl, _, HG.out⟩
end Go.Proofs.YtiadgkdkjinnjaaGreatDoor.Enc

/-
  Kind: Put and PutLimits, the program's and the document's, each in one piece; what the statements' own small function 'awake' answers: true.
-/
namespace Go.Proofs.YtiadgkdkjinnjaaGreatDoor.Kind
set_option linter.unusedVariables false
open Go.RowKit Go.Proofs.YtiadgkdkjinnjaaGreatDoor.Leb

def putZ (p r : Int) : List Int := if okType p r then typeL p r else []
def limZ (n x : Int) (c : Bool) (most : Int) : List Int := if okLim n x c most then limL n x c else []
def PutRes (w : World) (zs : List Int) (m : Nat) (er : Int) (e : Ending) (w' : World) : Prop := ∃ a q, e = .returned (.tuple #[.slice a m q, .int .i64 er]) ∧ Bytes w' a zs ∧ Hid (a = none → q = 0) ∧ Below w.heap.size w w'

theorem typeL_bytes (p r : Int) : ∀ z ∈ typeL p r, 0 ≤ z ∧ z < 256 := by
  intro z hz
  unfold typeL at hz
  rcases List.mem_cons.1 hz with h | h
  · omega
  · rcases List.mem_append.1 h with h | h
    · exact wordsL_bytes _ z h
    · exact wordsL_bytes _ z h
theorem limL_bytes (n x : Int) (c : Bool) : ∀ z ∈ limL n x c, 0 ≤ z ∧ z < 256 := by
  intro z hz
  unfold limL at hz
  cases c
  · simp only [Bool.false_eq_true, if_false] at hz
    rcases List.mem_cons.1 hz with h | h
    · omega
    · exact encU_bytes _ z h
  · simp only [if_true] at hz
    rcases List.mem_cons.1 hz with h | h
    · omega
    · rcases List.mem_append.1 h with h | h
      · exact encU_bytes _ z h
      · exact encU_bytes _ z h
theorem putRes_ok {w w' : World} {zs : List Int} {m : Nat} {e : Ending} (hm : zs.length = m) (hb : ∀ z ∈ zs, 0 ≤ z ∧ z < 256) (hl : zs.length ≤ 1000) (h : PutOk w zs e w') : PutRes w zs m 0 e w' := by
  obtain ⟨v, he, ho, hB⟩ := h
  obtain ⟨a, q, rfl⟩ := ho.sliceN hm
  exact ⟨a, q, he, ho.bytes hb (by omega), ho.nil, hB⟩
theorem putRes_no {w w' : World} {e : Ending} (h : PutNo w e w') : PutRes w [] 0 2 e w' :=
  ⟨none, 0, h.1, ⟨by simp, by simp, .inl rfl⟩, (hid fun _ => rfl), h.2⟩
theorem okType_nat {p r : Int} (h : okType p r = true) : ∃ a b : Nat, p = a ∧ r = b ∧ a ≤ 255 ∧ b ≤ 1 := by
  unfold okType at h; simp at h
  exact ⟨p.toNat, r.toNat, by omega, by omega, by omega, by omega⟩
theorem typeL_le (p r : Nat) (hp : p ≤ 255) (hr : r ≤ 1) : (typeL p r).length ≤ 1000 := by
  rw [typeL_len]; have := sizeU_pos p; have := sizeU_pos r; omega
theorem put_any (p r : Int) (m : Nat) (hm : (putZ p r).length = m) (w : World) : Calls Tryz.prog 195 #[.agg #[.int .i64 p, .int .i64 r]] w (PutRes w (putZ p r) m (codeType p r)) := by
  by_cases h : okType p r = true
  · have e1 : putZ p r = typeL p r := by unfold putZ; rw [if_pos h]
    have e2 : codeType p r = 0 := by unfold codeType; rw [if_pos h]
    rw [e1] at hm; rw [e1, e2]
    obtain ⟨a, b, rfl, rfl, ha, hb⟩ := okType_nat h
    exact (put_ok a b ha hb w).mono fun e w' he => putRes_ok hm (typeL_bytes _ _) (typeL_le a b ha hb) he
  · have h' : okType p r = false := by simpa using h
    have e1 : putZ p r = [] := by unfold putZ; rw [h']; rfl
    have e2 : codeType p r = 2 := by unfold codeType; rw [h']; rfl
    rw [e1] at hm; rw [e1, e2]
    obtain rfl : m = 0 := by simpa using hm.symm
    exact (put_no p r h' w).mono fun e w' he => putRes_no he
theorem refPut_any (p r : Int) (m : Nat) (hm : (putZ p r).length = m) (w : World) : Calls Tryz.prog 113 #[.agg #[.int .i64 p, .int .i64 r]] w (PutRes w (putZ p r) m (codeType p r)) := by
  by_cases h : okType p r = true
  · have e1 : putZ p r = typeL p r := by unfold putZ; rw [if_pos h]
    have e2 : codeType p r = 0 := by unfold codeType; rw [if_pos h]
    rw [e1] at hm; rw [e1, e2]
    obtain ⟨a, b, rfl, rfl, ha, hb⟩ := okType_nat h
    exact (refPut_ok a b ha hb w).mono fun e w' he => putRes_ok hm (typeL_bytes _ _) (typeL_le a b ha hb) he
  · have h' : okType p r = false := by simpa using h
    have e1 : putZ p r = [] := by unfold putZ; rw [h']; rfl
    have e2 : codeType p r = 2 := by unfold codeType; rw [h']; rfl
    rw [e1] at hm; rw [e1, e2]
    obtain rfl : m = 0 := by simpa using hm.symm
    exact (refPut_no p r h' w).mono fun e w' he => putRes_no he
theorem okLim_x {n x most : Int} (h : okLim n x false most = true) : x = 0 := by unfold okLim at h; simp at h; exact h.2
theorem limL_le (n x : Int) (c : Bool) : (limL n x c).length ≤ 1000 := by
  have := sizeU_pos n; have := sizeU_pos x
  cases c <;> unfold limL <;> simp [encU_length] <;> omega
theorem putLim_any (n x : Int) (c : Bool) (most : Int) (m : Nat) (hm : (limZ n x c most).length = m) (h0 : 0 ≤ n ∧ n ≤ 4294967295) (h1 : 0 ≤ x ∧ x ≤ 4294967295) (w : World) :
    Calls Tryz.prog 197 #[.agg #[.int .u32 n, .int .u32 x, .bool c], .int .u32 most] w (PutRes w (limZ n x c most) m (codeLim n x c most)) := by
  by_cases h : okLim n x c most = true
  · have e1 : limZ n x c most = limL n x c := by unfold limZ; rw [if_pos h]
    have e2 : codeLim n x c most = 0 := by unfold codeLim; rw [if_pos h]
    rw [e1] at hm; rw [e1, e2]
    cases c
    · exact (putLimits_plain n x most h h0 w).mono fun e w' he => putRes_ok hm (limL_bytes _ _ _) (limL_le _ _ _) he
    · exact (putLimits_capped n x most h h0 h1 w).mono fun e w' he => putRes_ok hm (limL_bytes _ _ _) (limL_le _ _ _) he
  · have h' : okLim n x c most = false := by simpa using h
    have e1 : limZ n x c most = [] := by unfold limZ; rw [h']; rfl
    have e2 : codeLim n x c most = 2 := by unfold codeLim; rw [h']; rfl
    rw [e1] at hm; rw [e1, e2]
    obtain rfl : m = 0 := by simpa using hm.symm
    exact (putLimits_no n x c most h' w).mono fun e w' he => putRes_no he
theorem refPutLim_any (n x : Int) (c : Bool) (most : Int) (m : Nat) (hm : (limZ n x c most).length = m) (h0 : 0 ≤ n ∧ n ≤ 4294967295) (h1 : 0 ≤ x ∧ x ≤ 4294967295) (w : World) :
    Calls Tryz.prog 115 #[.agg #[.int .u32 n, .int .u32 x, .bool c], .int .u32 most] w (PutRes w (limZ n x c most) m (codeLim n x c most)) := by
  by_cases h : okLim n x c most = true
  · have e1 : limZ n x c most = limL n x c := by unfold limZ; rw [if_pos h]
    have e2 : codeLim n x c most = 0 := by unfold codeLim; rw [if_pos h]
    rw [e1] at hm; rw [e1, e2]
    cases c
    · exact (refPutLimits_plain n x most h h0 w).mono fun e w' he => putRes_ok hm (limL_bytes _ _ _) (limL_le _ _ _) he
    · exact (refPutLimits_capped n x most h h0 h1 w).mono fun e w' he => putRes_ok hm (limL_bytes _ _ _) (limL_le _ _ _) he
  · have h' : okLim n x c most = false := by simpa using h
    have e1 : limZ n x c most = [] := by unfold limZ; rw [h']; rfl
    have e2 : codeLim n x c most = 2 := by unfold codeLim; rw [h']; rfl
    rw [e1] at hm; rw [e1, e2]
    obtain rfl : m = 0 := by simpa using hm.symm
    exact (refPutLimits_no n x c most h' w).mono fun e w' he => putRes_no he

theorem two_two {W w' : World} {x y u v : Value} {t t' : TypeId} (hb : Below ((W.alloc (.cells #[x, y] t)).alloc (.cells #[u, v] t')).heap.size ((W.alloc (.cells #[x, y] t)).alloc (.cells #[u, v] t')) w') :
    w'.cell? ⟨W.heap.size, 0, none⟩ = some x ∧ w'.cell? ⟨W.heap.size, 1, none⟩ = some y ∧ w'.cell? ⟨W.heap.size + 1, 0, none⟩ = some u ∧ w'.cell? ⟨W.heap.size + 1, 1, none⟩ = some v := by
  obtain ⟨hc, _⟩ := old hb
  refine ⟨(hc _ _ (by simp; omega)).trans ?_, (hc _ _ (by simp; omega)).trans ?_, (hc _ _ (by simp)).trans ?_, (hc _ _ (by simp)).trans ?_⟩ <;> go_simp
/-- Three bytes, laid. -/
theorem lit3 (w : World) (a b c : Int) (h : ∀ z ∈ [a, b, c], 0 ≤ z ∧ z < 256) : Bytes (w.alloc (.cells #[.int .u8 a, .int .u8 b, .int .u8 c] 5)) (some ⟨w.heap.size, 0, none⟩) [a, b, c] :=
  ⟨h, by simp, .inr ⟨_, 0, rfl, fun i hi => by
    match i, hi with
    | 0, _ => go_simp
    | 1, _ => go_simp
    | 2, _ => go_simp⟩⟩
theorem lit2 (w : World) (a b : Int) (h : ∀ z ∈ [a, b], 0 ≤ z ∧ z < 256) : Bytes (w.alloc (.cells #[.int .u8 a, .int .u8 b] 5)) (some ⟨w.heap.size, 0, none⟩) [a, b] :=
  ⟨h, by simp, .inr ⟨_, 0, rfl, fun i hi => by
    match i, hi with
    | 0, _ => go_simp
    | 1, _ => go_simp⟩⟩
theorem lit1 (w : World) (a : Int) (h : ∀ z ∈ [a], 0 ≤ z ∧ z < 256) : Bytes (w.alloc (.cells #[.int .u8 a] 5)) (some ⟨w.heap.size, 0, none⟩) [a] :=
  ⟨h, by simp, .inr ⟨_, 0, rfl, fun i hi => by
    match i, hi with
    | 0, _ => go_simp⟩⟩

end Go.Proofs.YtiadgkdkjinnjaaGreatDoor.Kind
