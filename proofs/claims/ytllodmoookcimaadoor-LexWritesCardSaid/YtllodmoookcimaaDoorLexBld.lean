/-
  strings.Builder's writing methods, by contract, where the kit's own layings do not fit (copyCheck's panic is left out of the translation).
-/
import Derived.Test.YtllodmoookcimaaDoorLexKit
import Derived.Shelf.Strings.Builder1
import Derived.Deep.Cut
namespace Go.Proofs.YtllodmoookcimaaDoor.Lex
open Go.RowKit Go.Proofs.YtllodmoookcimaaDoor.Utf
set_option linter.unusedSimpArgs false
set_option linter.unusedVariables false
set_option linter.unusedVariables false

/-- What lies below base stays, and every block that is none of bytes. -/
structure Upon (base : Nat) (w w' : World) : Prop where
  below : Below base w w'
  others : Lib.OthersKept 5 none w w'
theorem Upon.refl (base : Nat) (w : World) : Upon base w w := ⟨Below.refl _ _, Lib.OthersKept.refl _ _ _⟩
theorem Upon.trans {base : Nat} {a b c : World} (h : Upon base a b) (g : Upon base b c) : Upon base a c := ⟨h.below.trans g.below, h.others.trans g.others⟩
theorem Upon.alloc {base : Nat} {a b : World} (h : Upon base a b) (o : Obj) (hb : base ≤ b.heap.size) : Upon base a (b.alloc o) := ⟨h.below.alloc hb o, h.others.alloc o⟩
theorem Upon.cells {base g : Nat} {a b : World} {c : Array Value} {T : TypeId} (h : Upon base a b) (hT : T ≠ 5) {fz : Nat × Nat} (hg : a.heap[g]? = some (.cells c T fz)) : b.heap[g]? = some (.cells c T fz) :=
  h.others g _ hg (by simp) (fun c' fz' e => by simp only [Obj.cells.injEq] at e; exact hT e.2.1)
theorem own_row {base n : Nat} {w : World} {v : Value} {xs : List Value} (h : w.ownsRow base 5 1 v n xs) : ∀ g, v.ownBlock = some g → ∃ c fz, w.heap[g]? = some (.cells c 5 fz) := by
  intro g hg
  rcases h.2 with ⟨rfl, _⟩ | ⟨g', cap, cur, rfl, _, hh, _⟩
  · simp [Value.ownBlock] at hg
  · simp [Value.ownBlock] at hg
    subst hg
    exact ⟨_, _, hh⟩

section
variable {ops : Array Oper} {rest : List Oper} {o : Oper} {act : Act} {Q : Exit → Act → World → Prop}
theorem append_byteU (hgd : o.guard = none) (s x : Operand) (ho : o.op = .call { callee := .builtin .append, args := #[s, x], argTypes := #[43, 43] })
    {base : Nat} {w0 wr : World} {v : Value} {xs : List Int} (z : Int) (hs : act.eval s = v) (hown : Own base wr v xs) (hb : Upon base w0 wr) (hbase : base ≤ wr.heap.size)
    (hx : act.eval x = .slice (some ⟨wr.heap.size, 0, none⟩) 1 1) (hl : xs.length ≤ 140737488351232)
    (h : ∀ v' w', Own base w' v' (xs ++ [z]) → Upon base w0 w' → base ≤ w'.heap.size → wpList Tryd.prog ops Q rest (act.put o.dst v') w') :
    wpList Tryd.prog ops Q (o :: rest) act (wr.alloc (.cells #[.int .u8 z] 5)) := by
  obtain ⟨i0, hi, hz0, hz1, hz2⟩ := info_parts infoByte
  have hown2 := World.ownsRow.alloc hown (.cells #[.int .u8 z] 5)
  refine wpList_append_own _ hgd s x 43 ho base 5 i0 (.int .u8 0) 1 1 Tryd.underlying43 hi hz0 hz1 hz2 rfl (by decide) v xs.length _ hs hown2 ⟨wr.heap.size, 0, none⟩ 1 1 [.int .u8 z] hx rfl
    ?_ ?_ ?_ ?_ ?_ (fun v' w' hown' hgrow _ => ?_)
  · intro j u hj
    match j, hj with
    | 0, hj => simp at hj; subst hj; simp [Addr.add]
  · intro u hu; simp at hu; subst hu; rfl
  · unfold maxLen; omega
  · omega
  · simp; omega
  · have hb' := below_append hown hb.below _ hbase hgrow
    refine h v' w' (Own.of_snoc rfl hown') ⟨hb', (hb.others.alloc _).grown hgrow (own_row hown2)⟩ ?_
    have := hgrow.size; simp at this; omega
theorem append_strU (hgd : o.guard = none) (s x : Operand) (ho : o.op = .call { callee := .builtin .append, args := #[s, x], argTypes := #[43, 9] })
    {base : Nat} {w0 wr : World} {v : Value} {xs : List Int} (ys : List Int) (hs : act.eval s = v) (hown : Own base wr v xs) (hb : Upon base w0 wr) (hbase : base ≤ wr.heap.size)
    (hx : act.eval x = .string (strOfNums ys)) (hy : ∀ z ∈ ys, 0 ≤ z ∧ z < 256) (hl : xs.length + ys.length ≤ 140737488355328)
    (h : ∀ v' w', Own base w' v' (xs ++ ys) → Upon base w0 w' → base ≤ w'.heap.size → wpList Tryd.prog ops Q rest (act.put o.dst v') w') :
    wpList Tryd.prog ops Q (o :: rest) act wr := by
  obtain ⟨i0, hi, hz0, hz1, hz2⟩ := info_parts infoByte
  refine Lib.wpList_append_own_string _ hgd s x 43 9 ho base 5 i0 Tryd.underlying43 Tryd.underlying9 hi hz0 hz1 hz2 v xs.length _ hs hown (strOfNums ys) hx
    (by rw [strOfNums_size]; unfold maxLen; omega) (by rw [strOfNums_size]; exact hl) hbase (fun v' w' hown' hgrow _ => ?_)
  refine h v' w' ?_ ⟨hb.below.grown hgrow hbase (fun k hk => (World.ownsRow.lt hown k hk).1), hb.others.grown hgrow (own_row hown)⟩ (by have := hgrow.size; omega)
  unfold Own
  rw [strOfNums_size, strCells_nums hy] at hown'
  rw [List.length_append, List.map_append]
  exact hown'
end
theorem sizeBld : (Tryd.prog.info? 56).map (·.size) = some 2 := by kernel_rfl
set_option maxHeartbeats 1000000 in
set_option maxRecDepth 100000 in
theorem check_used (b : Nat) (w : World) (h0 : w.cell? ⟨b, 0, none⟩ = some (.pointer (some ⟨b, 0, none⟩))) :
    Calls Tryd.prog 66 #[.pointer (some ⟨b, 0, none⟩)] w fun e w' => e = .returned (.tuple #[]) ∧ w' = w := by
  obtain ⟨j, hj, _⟩ := Option.map_eq_some_iff.1 sizeBld
  go_enter Tryd.func66, Tryd.ntmps66
  go_wp2
  rw [Lib.run_neq_ptr_same w _ Tryd.underlying54 hj]
  go_wp2
  go_end0
  exact ⟨rfl, rfl⟩
set_option maxHeartbeats 1000000 in
set_option maxRecDepth 100000 in
theorem check_fresh (b : Nat) (w : World) (h0 : w.cell? ⟨b, 0, none⟩ = some (.pointer none)) (hsh : w.shape? b = some (56, 2)) (hfz : w.frozen? ⟨b, 0, none⟩ = false) :
    Calls Tryd.prog 66 #[.pointer (some ⟨b, 0, none⟩)] w fun e w' => e = .returned (.tuple #[]) ∧ w' = w.setCell ⟨b, 0, none⟩ (.pointer (some ⟨b, 0, none⟩)) := by
  obtain ⟨j, hj, hjs⟩ := Option.map_eq_some_iff.1 sizeBld
  go_enter Tryd.func66, Tryd.ntmps66
  go_wp2
  rw [Lib.run_to_unsafe w ⟨b, 0, none⟩ Tryd.underlying54 Tryd.underlying93 hj (by rw [hjs]; decide) hsh (Nat.zero_lt_succ 1)]
  simp only [Result.andThen]
  rw [Oper.upon_value]
  go_wp2
  rw [run_callFunc_extern Tryd.func80 (by kernel_rfl) (by kernel_rfl) (by kernel_rfl) (e := Extern.AbiNoEscape.same) (by kernel_rfl)]
  rw [Lib.run_noEscape]
  simp only [Result.andThen]
  rw [Oper.upon_value]
  go_wp2
  rw [Lib.run_from_unsafe w ⟨b, 0, none⟩ Tryd.underlying93 Tryd.underlying54 hj hsh (by kernel_rfl)]
  simp only [Result.andThen]
  rw [Oper.upon_value]
  go_wp2
  go_end0
  exact ⟨rfl, rfl⟩
/-- A builder in memory: its box, the bytes that it holds in blocks made later. -/
def BAt (w : World) (b : Nat) (p : Value) (zs : List Int) : Prop := ∃ v, w.heap[b]? = some (.cells #[p, v] 56 (0, 0)) ∧ Own (b + 1) w v zs
def Bld (w : World) (b : Nat) (zs : List Int) : Prop := BAt w b (.pointer none) zs ∨ BAt w b (.pointer (some ⟨b, 0, none⟩)) zs
theorem BAt.below {w w' : World} {b : Nat} {p : Value} {zs : List Int} (h : BAt w b p zs) (hb : Below w.heap.size w w') : BAt w' b p zs := by
  obtain ⟨v, h1, h2⟩ := h
  exact ⟨v, (hb.block b (Array.getElem?_eq_some_iff.1 h1).1).trans h1, h2.below hb⟩
theorem Bld.below {w w' : World} {b : Nat} {zs : List Int} (h : Bld w b zs) (hb : Below w.heap.size w w') : Bld w' b zs := h.imp (·.below hb) (·.below hb)
theorem BAt.is {w : World} {b : Nat} {p : Value} {zs : List Int} (h : BAt w b p zs) : Lib.BuilderAt 56 5 b b p (zs.map (Value.int .u8)) w := by
  obtain ⟨v, h1, h2⟩ := h
  refine ⟨Nat.le_refl _, v, h1, ?_, fun he => ?_⟩
  · rw [List.length_map]; exact h2.mono (Nat.le_succ b)
  · have := (World.ownsRow.lt h2 b he).1; omega
theorem Bld.is {w : World} {b : Nat} {zs : List Int} (h : Bld w b zs) : Lib.IsBuilder 56 5 b b (zs.map (Value.int .u8)) w := h.imp (·.is) (·.is)
theorem Bld.made (w : World) : Bld (w.alloc (.cells #[.pointer none, .slice none 0 0] 56)) w.heap.size [] :=
  .inl ⟨_, heap_alloc_new w _, Own.none _ _⟩
theorem kept_some {e : TypeId} {b : Nat} {w w' : World} (h : Lib.OthersKept e none w w') : Lib.OthersKept e (some b) w w' := fun k o hk _ ho => h k o hk (by simp) ho
theorem check_any (b : Nat) (zs : List Int) (w : World) (h : Bld w b zs) :
    Calls Tryd.prog 66 #[.pointer (some ⟨b, 0, none⟩)] w fun e w' => e = .returned (.tuple #[]) ∧ BAt w' b (.pointer (some ⟨b, 0, none⟩)) zs ∧ Below b w w' ∧ w'.heap.size = w.heap.size ∧ Lib.OthersKept 5 (some b) w w' := by
  rcases h with h | h
  · have hs := h.is
    refine (check_fresh b w hs.cell0 hs.shape hs.frozen0).mono ?_
    rintro e w' ⟨rfl, rfl⟩
    obtain ⟨v, h1, h2⟩ := h
    exact ⟨rfl, ⟨v, heap_setCell_same w b 0 _ _ _ h1, h2.setCell (Nat.lt_succ_self b) _⟩, (Below.refl b w).setCell (p := ⟨b, 0, none⟩) (Nat.le_refl _) _, World.size_setCell _ _ _, (Lib.OthersKept.refl _ _ w).setCell ⟨b, 0, none⟩ rfl _⟩
  · refine (check_used b w h.is.cell0).mono ?_
    rintro e w' ⟨rfl, rfl⟩
    exact ⟨rfl, h, Below.refl b _, rfl, Lib.OthersKept.refl _ _ _⟩

set_option maxHeartbeats 2000000 in
set_option maxRecDepth 100000 in
theorem writeByte_any (b : Nat) (zs : List Int) (c : Int) (w : World) (h : Bld w b zs) (hlen : zs.length ≤ 140737488351232) :
    Calls Tryd.prog 34 #[.pointer (some ⟨b, 0, none⟩), .int .u8 c] w fun e w' => e = .returned .nilIface ∧ Bld w' b (zs ++ [c]) ∧ Below b w w' ∧ Lib.OthersKept 5 (some b) w w' := by
  have C := hid (fun W h => check_any b zs W h)
  have H := hid h
  clear h
  go_enter Tryd.func34, Tryd.ntmps34
  go_wp2_with fail
  refine (C.out _ H.out).mono ?_
  rintro e w1 ⟨rfl, ⟨v, hbk, hown⟩, hb1, hs1, hk1⟩
  have c1 : w1.cell? ⟨b, 1, none⟩ = some v := by rw [Lib.cell_of_heap hbk]; rfl
  have hlt : b + 1 ≤ w1.heap.size := (Array.getElem?_eq_some_iff.1 hbk).1
  have HBK := hid hbk
  have HB1 := hid hb1
  have HK1 := hid hk1
  clear hbk hb1 hs1 hk1 C H
  go_wp2_with (at_builtin; refine (?_ : _ ∧ True).1)
  refine ⟨?_, trivial⟩
  refine append_byteU rfl (.tmp 11) (.tmp 13) rfl c rfl hown (Upon.refl (b + 1) w1) hlt rfl hlen ?_
  intro v' w2 hown2 hu2 hs2
  have hb2 := hu2.below
  have HU2 := hid hu2.others
  clear hu2
  have hbk2 := (hb2.block b (Nat.lt_succ_self b)).trans HBK.out
  have d1 : w2.cell? ⟨b, 1, none⟩ = some v := by rw [Lib.cell_of_heap hbk2]; rfl
  have f1 : w2.frozen? ⟨b, 1, none⟩ = false := by simp [World.frozen?, hbk2]
  have HK2 := hid hbk2
  obtain ⟨a, n, hv'⟩ := hown2.sliceN (n := zs.length + 1) (by simp)
  subst hv'
  have HO2 := hid hown2
  have HB2 := hid hb2
  clear hbk2 hown2 hb2 hown c1
  go_wp2
  go_ret
  exact ⟨rfl, .inr ⟨_, heap_setCell_same w2 b 1 _ _ _ HK2.out, HO2.out.setCell (Nat.lt_succ_self b) _⟩, (HB1.out.trans (HB2.out.mono (Nat.le_succ b))).setCell (p := ⟨b, 1, none⟩) (Nat.le_refl _) _, (HK1.out.trans (kept_some HU2.out)).setCell ⟨b, 1, none⟩ rfl _⟩
set_option maxHeartbeats 2000000 in
set_option maxRecDepth 100000 in
theorem writeStr_any (b : Nat) (zs ys : List Int) (w : World) (h : Bld w b zs) (hy : ∀ z ∈ ys, 0 ≤ z ∧ z < 256) (hlen : zs.length + ys.length ≤ 140737488355328) :
    Calls Tryd.prog 35 #[.pointer (some ⟨b, 0, none⟩), .string (strOfNums ys)] w fun e w' => (∃ v, e = .returned v) ∧ Bld w' b (zs ++ ys) ∧ Below b w w' ∧ Lib.OthersKept 5 (some b) w w' := by
  have C := hid (fun W h => check_any b zs W h)
  have H := hid h
  have HY := hid hy
  obtain ⟨s, hse⟩ : ∃ s, strOfNums ys = s := ⟨_, rfl⟩
  rw [hse]
  have HS := hid hse
  clear h hse hy
  go_enter Tryd.func35, Tryd.ntmps35
  go_wp2_with fail
  refine (C.out _ H.out).mono ?_
  rintro e w1 ⟨rfl, ⟨v, hbk, hown⟩, hb1, hs1, hk1⟩
  have c1 : w1.cell? ⟨b, 1, none⟩ = some v := by rw [Lib.cell_of_heap hbk]; rfl
  have hlt : b + 1 ≤ w1.heap.size := (Array.getElem?_eq_some_iff.1 hbk).1
  have HBK := hid hbk
  have HB1 := hid hb1
  have HK1 := hid hk1
  clear hbk hb1 hs1 hk1 C H
  go_wp2_with (at_builtin; refine (?_ : _ ∧ True).1)
  refine ⟨?_, trivial⟩
  refine append_strU rfl (.tmp 12) (.tmp 13) rfl ys rfl hown (Upon.refl (b + 1) w1) hlt (by rw [HS.out]; rfl) HY.out hlen ?_
  intro v' w2 hown2 hu2 hs2
  have hb2 := hu2.below
  have HU2 := hid hu2.others
  clear hu2
  have hbk2 := (hb2.block b (Nat.lt_succ_self b)).trans HBK.out
  have d1 : w2.cell? ⟨b, 1, none⟩ = some v := by rw [Lib.cell_of_heap hbk2]; rfl
  have f1 : w2.frozen? ⟨b, 1, none⟩ = false := by simp [World.frozen?, hbk2]
  have HK2 := hid hbk2
  obtain ⟨a, n, hv'⟩ := hown2.sliceN (n := zs.length + ys.length) (by simp)
  subst hv'
  have HO2 := hid hown2
  have HB2 := hid hb2
  clear hbk2 hown2 hb2 hown c1
  go_wp2
  refine bodyPost_ret (v := .tuple #[.int .i64 s.size, .nilIface]) (by simp [results, Tryd.results35, go_sem]) rfl ⟨⟨_, rfl⟩, .inr ⟨_, heap_setCell_same w2 b 1 _ _ _ HK2.out, HO2.out.setCell (Nat.lt_succ_self b) _⟩, (HB1.out.trans (HB2.out.mono (Nat.le_succ b))).setCell (p := ⟨b, 1, none⟩) (Nat.le_refl _) _, (HK1.out.trans (kept_some HU2.out)).setCell ⟨b, 1, none⟩ rfl _⟩
theorem byteCells_nums {zs : List Int} (hz : ∀ z ∈ zs, 0 ≤ z ∧ z < 256) : Lib.byteCells (strOfNums zs).data.toList = zs.map (Value.int .u8) := by
  rw [strOfNums_data]
  unfold Lib.byteCells
  rw [List.map_map]
  refine List.map_congr_left fun z hm => ?_
  have := hz z hm
  simp
  omega
theorem bldString_any (b : Nat) (zs : List Int) (w : World) (h : Bld w b zs) (hz : ∀ z ∈ zs, 0 ≤ z ∧ z < 256) :
    Calls Tryd.prog 37 #[.pointer (some ⟨b, 0, none⟩)] w fun e w' => e = .returned (.string (strOfNums zs)) ∧ Below b w w' := by
  have hlt : b ≤ w.heap.size := by
    rcases h with ⟨v, h1, _⟩ | ⟨v, h1, _⟩ <;> exact Nat.le_of_lt (Array.getElem?_eq_some_iff.1 h1).1
  refine (Tryd.Builder_String_any b b (strOfNums zs).data.toList w (by rw [byteCells_nums hz]; exact h.is) hlt).mono ?_
  rintro e w' ⟨rfl, hb⟩
  exact ⟨rfl, hb⟩
end Go.Proofs.YtllodmoookcimaaDoor.Lex
