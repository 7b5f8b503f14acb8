/-
  INSTR: appends that leave all blocks but those of bytes; appendNumber by contract.
-/
import Derived.Test.YtolbdioijbdlmaaDoorInstrHeap
import Derived.Test.YtolbdioijbdlmaaDoorAppend
import Derived.Test.YtolbdioijbdlmaaDoorShelf
import Derived.Lib.AppendIntMem
import Derived.Lib.ItoaLen
import Derived.Lib.BufferKept
namespace Go.Proofs.YtolbdioijbdlmaaDoor.Instr
open Go.RowKit

/-- What lies below base stays, and every block that is none of bytes. -/
structure Upon (base : Nat) (w w' : World) : Prop where
  below : Below base w w'
  others : Lib.OthersKept 5 none w w'
theorem Upon.refl (base : Nat) (w : World) : Upon base w w := ⟨Below.refl _ _, Lib.OthersKept.refl _ _ _⟩
theorem Upon.trans {base : Nat} {a b c : World} (h : Upon base a b) (g : Upon base b c) : Upon base a c := ⟨h.below.trans g.below, h.others.trans g.others⟩
theorem Upon.alloc {base : Nat} {a b : World} (h : Upon base a b) (o : Obj) (hb : base ≤ b.heap.size) : Upon base a (b.alloc o) := ⟨h.below.alloc hb o, h.others.alloc o⟩
theorem Upon.of_below {base : Nat} {a b : World} (h : Below a.heap.size a b) (hb : base ≤ a.heap.size) : Upon base a b := ⟨h.mono hb, (Lib.OthersKept.refl _ _ a).below h⟩
theorem Upon.box {base g : Nat} {a b : World} {c : Array Value} (h : Upon base a b) (hg : a.heap[g]? = some (.cells c 34)) : b.heap[g]? = some (.cells c 34) :=
  h.others g _ hg (by simp) (fun c' fz e => by cases e)
theorem at_box {x : Ix} {g : Nat} {w : World} (h : w.heap[g]? = some (.cells x.vals 34)) : At x g w := by
  constructor <;> simp [World.cell?, h, Ix.vals]
theorem own_row {base n : Nat} {w : World} {v : Value} {xs : List Value} (h : w.ownsRow base 5 1 v n xs) : ∀ g, v.ownBlock = some g → ∃ c fz, w.heap[g]? = some (.cells c 5 fz) := by
  intro g hg
  rcases h.2 with ⟨rfl, _⟩ | ⟨g', cap, cur, rfl, _, hh, _⟩
  · simp [Value.ownBlock] at hg
  · simp [Value.ownBlock] at hg
    subst hg
    exact ⟨_, _, hh⟩

section
variable {ops : Array Oper} {rest : List Oper} {o : Oper} {act : Act} {Q : Exit → Act → World → Prop}
theorem append_byteU (hgd : o.guard = none) (s x : Operand) (ho : o.op = .call { callee := .builtin .append, args := #[s, x], argTypes := #[53, 53] })
    {base : Nat} {w0 wr : World} {v : Value} {xs : List Int} (z : Int) (hs : act.eval s = v) (hown : Own base wr v xs) (hb : Upon base w0 wr) (hbase : base ≤ wr.heap.size)
    (hx : act.eval x = .slice (some ⟨wr.heap.size, 0, none⟩) 1 1) (hl : xs.length ≤ 140737488351232)
    (h : ∀ v' w', Own base w' v' (xs ++ [z]) → Upon base w0 w' → base ≤ w'.heap.size → wpList Tryd.prog ops Q rest (act.put o.dst v') w') :
    wpList Tryd.prog ops Q (o :: rest) act (wr.alloc (.cells #[.int .u8 z] 5)) := by
  obtain ⟨i0, hi, hz0, hz1, hz2⟩ := info_parts infoByte
  have hown2 := World.ownsRow.alloc hown (.cells #[.int .u8 z] 5)
  refine wpList_append_own _ hgd s x 53 ho base 5 i0 (.int .u8 0) 1 1 Tryd.underlying53 hi hz0 hz1 hz2 rfl (by decide) v xs.length _ hs hown2 ⟨wr.heap.size, 0, none⟩ 1 1 [.int .u8 z] hx rfl
    ?_ ?_ ?_ ?_ ?_ (fun v' w' hown' hgrow _ => ?_)
  · intro j u hj
    match j, hj with
    | 0, hj => simp at hj; subst hj; simp [Addr.add]
  · intro u hu; simp at hu; subst hu; rfl
  · unfold maxLen; omega
  · omega
  · simp; omega
  · have hb' := below_append hown hb.below _ hbase hgrow
    refine h v' w' (Own.of_snoc rfl hown') ⟨hb', (hb.others.alloc _).grown hgrow (own_row hown2)⟩ ?_
    have := hgrow.size; simp at this; omega
theorem append_strU (hgd : o.guard = none) (s x : Operand) (ho : o.op = .call { callee := .builtin .append, args := #[s, x], argTypes := #[53, 9] })
    {base : Nat} {w0 wr : World} {v : Value} {xs : List Int} (ys : List Int) (hs : act.eval s = v) (hown : Own base wr v xs) (hb : Upon base w0 wr) (hbase : base ≤ wr.heap.size)
    (hx : act.eval x = .string (strOfNums ys)) (hy : ∀ z ∈ ys, 0 ≤ z ∧ z < 256) (hl : xs.length + ys.length ≤ 140737488355328)
    (h : ∀ v' w', Own base w' v' (xs ++ ys) → Upon base w0 w' → base ≤ w'.heap.size → wpList Tryd.prog ops Q rest (act.put o.dst v') w') :
    wpList Tryd.prog ops Q (o :: rest) act wr := by
  obtain ⟨i0, hi, hz0, hz1, hz2⟩ := info_parts infoByte
  refine Lib.wpList_append_own_string _ hgd s x 53 9 ho base 5 i0 Tryd.underlying53 Tryd.underlying9 hi hz0 hz1 hz2 v xs.length _ hs hown (strOfNums ys) hx
    (by rw [strOfNums_size]; unfold maxLen; omega) (by rw [strOfNums_size]; exact hl) hbase (fun v' w' hown' hgrow _ => ?_)
  refine h v' w' ?_ ⟨hb.below.grown hgrow hbase (fun k hk => (World.ownsRow.lt hown k hk).1), hb.others.grown hgrow (own_row hown)⟩ (by have := hgrow.size; omega)
  unfold Own
  rw [strOfNums_size, strCells_nums hy] at hown'
  rw [List.length_append, List.map_append]
  exact hown'
end

theorem decL_cells (n : Int) : (decL n).map (Value.int .u8) = Lib.byteCells (Lib.itoa n) := by simp [decL, Lib.byteCells]
theorem decL_length (n : Int) (h0 : -9223372036854775808 ≤ n) (h1 : n ≤ 9223372036854775807) : (decL n).length ≤ 21 := by simpa [decL] using Lib.itoa_length_le n h0 h1
theorem decL_bytes (n : Int) : ∀ z ∈ decL n, 0 ≤ z ∧ z < 256 := by
  intro z hz
  obtain ⟨b, _, rfl⟩ := List.mem_map.1 hz
  have := b.toNat_lt
  omega
theorem numT_bytes (n : Int) : ∀ z ∈ numT n, 0 ≤ z ∧ z < 256 := by
  intro z hz
  rcases List.mem_cons.1 hz with rfl | h
  · decide
  · exact decL_bytes n z h
abbrev PowTab (B : Nat) (w : World) : Prop := Lib.TabBelow Tryd.prog B w "internal/strconv.uint64pow10" .u64 Lib.pow10Tab

set_option maxHeartbeats 1000000 in
theorem appendNumber_any (base : Nat) (w : World) (v : Value) (xs : List Int) (n : Int) (h0 : -9223372036854775808 ≤ n) (h1 : n ≤ 9223372036854775807) (hown : Own base w v xs) (hbase : base ≤ w.heap.size)
    (hl : xs.length ≤ 105553116266496) (hT : PowTab base w) :
    Calls Tryd.prog 44 #[v, .int .i64 n] w fun e w' => ∃ v', e = .returned v' ∧ Own base w' v' (xs ++ numT n) ∧ Upon base w w' ∧ base ≤ w'.heap.size := by
  have hb := Upon.refl base w
  go_enter Tryd.func44, Tryd.ntmps44
  go_wp2_with (first
    | (at_builtin; refine append_byteU rfl (.tmp 5) (.tmp 6) rfl 32 rfl hown hb hbase rfl (by omega) ?_; intro v1 w1 hown1 hb1 hz1; refine Hid.out ?_))
  refine hid ?_
  go_wp2_with fail
  refine (Tryd.strconv_AppendInt_10 base _ n h0 h1 v1 _ w1 hown1 hz1 (by simp; omega) (hT.on hb1.below)).mono ?_
  rintro e w2 ⟨v2, rfl, hown2, hb2, hk2⟩
  go_wp2
  go_ret
  refine ⟨_, rfl, ?_, hb1.trans ⟨hb2, hk2⟩, Nat.le_trans hz1 hb2.size⟩
  unfold Own
  rw [← decL_cells] at hown2
  have e1 : (xs ++ numT n).length = (xs ++ [32]).length + (Lib.itoa n).length := by simp [numT, decL]; omega
  rw [e1]
  simpa [numT] using hown2
end Go.Proofs.YtolbdioijbdlmaaDoor.Instr
