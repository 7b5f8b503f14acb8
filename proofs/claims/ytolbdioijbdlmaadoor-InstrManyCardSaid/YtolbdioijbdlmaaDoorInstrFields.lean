/-
  INSTR: appendFields by contract.
-/
import Derived.Test.YtolbdioijbdlmaaDoorInstrNumber
namespace Go.Proofs.YtolbdioijbdlmaaDoor.Instr
open Go.RowKit

theorem used_cases (op : Int) : usedP op = 6 ∨ usedP op = 33 ∨ usedP op = 97 ∨ usedP op = 2 ∨ usedP op = 18 ∨ usedP op = 8 ∨ usedP op = 0 := by
  unfold usedP
  (repeat' split) <;> simp
theorem fields_6 (x : Ix) : fieldsL x 6 = numT x.a ++ numT x.b := by simp [fieldsL, show uses 6 1 = false by decide, show uses 6 16 = false by decide, show uses 6 2 = true by decide, show uses 6 4 = true by decide, show uses 6 8 = false by decide]
theorem fields_2 (x : Ix) : fieldsL x 2 = numT x.a := by simp [fieldsL, show uses 2 1 = false by decide, show uses 2 16 = false by decide, show uses 2 2 = true by decide, show uses 2 4 = false by decide, show uses 2 8 = false by decide]
theorem fields_18 (x : Ix) : fieldsL x 18 = x.tags.flatMap numT ++ numT x.a := by simp [fieldsL, show uses 18 1 = false by decide, show uses 18 16 = true by decide, show uses 18 2 = true by decide, show uses 18 4 = false by decide, show uses 18 8 = false by decide]
theorem fields_8 (x : Ix) : fieldsL x 8 = numT x.n := by simp [fieldsL, show uses 8 1 = false by decide, show uses 8 16 = false by decide, show uses 8 2 = false by decide, show uses 8 4 = false by decide, show uses 8 8 = true by decide]
theorem fields_0 (x : Ix) : fieldsL x 0 = [] := by simp [fieldsL, show uses 0 1 = false by decide, show uses 0 16 = false by decide, show uses 0 2 = false by decide, show uses 0 4 = false by decide, show uses 0 8 = false by decide]
theorem fields_33 (x : Ix) : fieldsL x 33 = if x.res = 1 then [32, 105, 51, 50] else [] := by simp [fieldsL, show uses 33 1 = true by decide, show uses 33 16 = false by decide, show uses 33 2 = false by decide, show uses 33 4 = false by decide, show uses 33 8 = false by decide]
theorem fields_97 (x : Ix) : fieldsL x 97 = if x.res = 1 then [32, 105, 51, 50] else [] := by simp [fieldsL, show uses 97 1 = true by decide, show uses 97 16 = false by decide, show uses 97 2 = false by decide, show uses 97 4 = false by decide, show uses 97 8 = false by decide]

theorem box_made (x : Ix) (w : World) : (w.alloc (.cells x.vals 34)).heap[w.heap.size]? = some (.cells x.vals 34) := World.alloc_heap_new w _
/-- What the call hands back. -/
def Hands (base : Nat) (w : World) (zs : List Int) (e : Ending) (w' : World) : Prop := ∃ v', e = .returned v' ∧ Own base w' v' zs ∧ Upon base w w' ∧ base ≤ w'.heap.size
theorem str_i32 : strOfNums [32, 105, 51, 50] = ⟨#[32, 105, 51, 50]⟩ := rfl

/-- What the walks of appendFields carry: the box of the instruction, the bytes so far. -/
structure Bx (base : Nat) (w0 : World) (x : Ix) (g : Nat) (v : Value) (zs : List Int) (w : World) : Prop where
  box : w.heap[g]? = some (.cells x.vals 34)
  own : Own base w v zs
  upon : Upon base w0 w
  size : base ≤ w.heap.size
theorem number_step (base : Nat) (w0 : World) (x : Ix) (g : Nat) (v : Value) (zs : List Int) (n : Int) (w : World) (hB : Bx base w0 x g v zs w) (h0 : -9223372036854775808 ≤ n) (h1 : n ≤ 9223372036854775807) (hl : zs.length ≤ 105553116266496) (hT : PowTab base w0) :
    Calls Tryd.prog 44 #[v, .int .i64 n] w fun e w' => ∃ v', e = .returned v' ∧ Bx base w0 x g v' (zs ++ numT n) w' :=
  (appendNumber_any base w v zs n h0 h1 hB.own hB.size hl (hT.on hB.upon.below)).mono fun _ _ ⟨v', he, ho, hu, hs⟩ => ⟨v', he, hu.box hB.box, ho, hB.upon.trans hu, hs⟩
theorem wrap64_id {n : Int} (h0 : -9223372036854775808 ≤ n) (h1 : n ≤ 9223372036854775807) : wrap64 n = n := by unfold wrap64; omega
theorem wrapI_id {n : Int} (h0 : -9223372036854775808 ≤ n) (h1 : n ≤ 9223372036854775807) : IntKind.i64.wrap n = n := by rw [IntKind.wrap_i64]; omega

set_option maxHeartbeats 1000000 in
theorem fields_any6 (base : Nat) (w : World) (v : Value) (xs : List Int) (x : Ix) (hx : x.ok) (hown : Own base w v xs) (hbase : base ≤ w.heap.size) (hl : xs.length + (fieldsL x 6).length ≤ 70368744177664) (hT : PowTab base w) :
    Calls Tryd.prog 43 #[v, .agg x.vals, .int .u8 6] w (Hands base w (xs ++ fieldsL x 6)) := by
  rw [fields_6] at hl ⊢
  have hB0 : Bx base w x w.heap.size v xs (w.alloc (.cells x.vals 34)) := ⟨box_made x w, hown.alloc _, (Upon.refl base w).alloc _ hbase, by simp; omega⟩
  have hva := hx.a
  have hvb := hx.b
  have hvn := hx.n
  have hwa := wrap64_id (n := x.a) (by omega) (by omega)
  have hwb := wrap64_id (n := x.b) (by omega) (by omega)
  have hwn := wrap64_id (n := x.n) (by omega) (by omega)
  have e1 : bits .and .u8 6 1 = 0 := by decide
  have e16 : bits .and .u8 6 16 = 0 := by decide
  have e2 : bits .and .u8 6 2 = 2 := by decide
  have e4 : bits .and .u8 6 4 = 4 := by decide
  have e8 : bits .and .u8 6 8 = 0 := by decide
  have HL := hid hl
  clear hl
  obtain ⟨c0, c1, c2, c3, c4, c5, c6, c7⟩ := at_box hB0.box
  unfold Ix.vals
  unfold Ix.vals at c0 c1 c2 c3 c4 c5 c6 c7
  go_enter Tryd.func43, Tryd.ntmps43
  go_wp2_with fail
  refine (number_step base w x w.heap.size _ _ x.a _ hB0 (by omega) (by omega) (by have := HL.out; (try simp only [List.length_append] at *); omega) hT).mono ?_
  rintro e w1 ⟨v1, rfl, hB1⟩
  clear c0 c1 c2 c3 c4 c5 c6 c7
  obtain ⟨c0, c1, c2, c3, c4, c5, c6, c7⟩ := at_box hB1.box
  go_wp2_with fail
  refine (number_step base w x w.heap.size _ _ x.b _ hB1 (by omega) (by omega) (by have := HL.out; (try simp only [List.length_append] at *); omega) hT).mono ?_
  rintro e w2 ⟨v2, rfl, hB2⟩
  clear c0 c1 c2 c3 c4 c5 c6 c7
  obtain ⟨c0, c1, c2, c3, c4, c5, c6, c7⟩ := at_box hB2.box
  go_wp2
  go_ret
  exact ⟨_, rfl, by simpa [List.append_assoc] using hB2.own, hB2.upon, hB2.size⟩
set_option maxHeartbeats 1000000 in
theorem fields_any2 (base : Nat) (w : World) (v : Value) (xs : List Int) (x : Ix) (hx : x.ok) (hown : Own base w v xs) (hbase : base ≤ w.heap.size) (hl : xs.length + (fieldsL x 2).length ≤ 70368744177664) (hT : PowTab base w) :
    Calls Tryd.prog 43 #[v, .agg x.vals, .int .u8 2] w (Hands base w (xs ++ fieldsL x 2)) := by
  rw [fields_2] at hl ⊢
  have hB0 : Bx base w x w.heap.size v xs (w.alloc (.cells x.vals 34)) := ⟨box_made x w, hown.alloc _, (Upon.refl base w).alloc _ hbase, by simp; omega⟩
  have hva := hx.a
  have hvb := hx.b
  have hvn := hx.n
  have hwa := wrap64_id (n := x.a) (by omega) (by omega)
  have hwb := wrap64_id (n := x.b) (by omega) (by omega)
  have hwn := wrap64_id (n := x.n) (by omega) (by omega)
  have e1 : bits .and .u8 2 1 = 0 := by decide
  have e16 : bits .and .u8 2 16 = 0 := by decide
  have e2 : bits .and .u8 2 2 = 2 := by decide
  have e4 : bits .and .u8 2 4 = 0 := by decide
  have e8 : bits .and .u8 2 8 = 0 := by decide
  have HL := hid hl
  clear hl
  obtain ⟨c0, c1, c2, c3, c4, c5, c6, c7⟩ := at_box hB0.box
  unfold Ix.vals
  unfold Ix.vals at c0 c1 c2 c3 c4 c5 c6 c7
  go_enter Tryd.func43, Tryd.ntmps43
  go_wp2_with fail
  refine (number_step base w x w.heap.size _ _ x.a _ hB0 (by omega) (by omega) (by have := HL.out; (try simp only [List.length_append] at *); omega) hT).mono ?_
  rintro e w1 ⟨v1, rfl, hB1⟩
  clear c0 c1 c2 c3 c4 c5 c6 c7
  obtain ⟨c0, c1, c2, c3, c4, c5, c6, c7⟩ := at_box hB1.box
  go_wp2
  go_ret
  exact ⟨_, rfl, by simpa [List.append_assoc] using hB1.own, hB1.upon, hB1.size⟩
set_option maxHeartbeats 1000000 in
theorem fields_any8 (base : Nat) (w : World) (v : Value) (xs : List Int) (x : Ix) (hx : x.ok) (hown : Own base w v xs) (hbase : base ≤ w.heap.size) (hl : xs.length + (fieldsL x 8).length ≤ 70368744177664) (hT : PowTab base w) :
    Calls Tryd.prog 43 #[v, .agg x.vals, .int .u8 8] w (Hands base w (xs ++ fieldsL x 8)) := by
  rw [fields_8] at hl ⊢
  have hB0 : Bx base w x w.heap.size v xs (w.alloc (.cells x.vals 34)) := ⟨box_made x w, hown.alloc _, (Upon.refl base w).alloc _ hbase, by simp; omega⟩
  have hva := hx.a
  have hvb := hx.b
  have hvn := hx.n
  have hwa := wrap64_id (n := x.a) (by omega) (by omega)
  have hwb := wrap64_id (n := x.b) (by omega) (by omega)
  have hwn := wrap64_id (n := x.n) (by omega) (by omega)
  have e1 : bits .and .u8 8 1 = 0 := by decide
  have e16 : bits .and .u8 8 16 = 0 := by decide
  have e2 : bits .and .u8 8 2 = 0 := by decide
  have e4 : bits .and .u8 8 4 = 0 := by decide
  have e8 : bits .and .u8 8 8 = 8 := by decide
  have HL := hid hl
  clear hl
  obtain ⟨c0, c1, c2, c3, c4, c5, c6, c7⟩ := at_box hB0.box
  unfold Ix.vals
  unfold Ix.vals at c0 c1 c2 c3 c4 c5 c6 c7
  go_enter Tryd.func43, Tryd.ntmps43
  go_wp2_with fail
  refine (number_step base w x w.heap.size _ _ x.n _ hB0 (by omega) (by omega) (by have := HL.out; (try simp only [List.length_append] at *); omega) hT).mono ?_
  rintro e w1 ⟨v1, rfl, hB1⟩
  clear c0 c1 c2 c3 c4 c5 c6 c7
  obtain ⟨c0, c1, c2, c3, c4, c5, c6, c7⟩ := at_box hB1.box
  go_wp2
  go_ret
  exact ⟨_, rfl, by simpa [List.append_assoc] using hB1.own, hB1.upon, hB1.size⟩
set_option maxHeartbeats 1000000 in
theorem fields_any0 (base : Nat) (w : World) (v : Value) (xs : List Int) (x : Ix) (hown : Own base w v xs) (hbase : base ≤ w.heap.size) (hl : xs.length + (fieldsL x 0).length ≤ 70368744177664) :
    Calls Tryd.prog 43 #[v, .agg x.vals, .int .u8 0] w (Hands base w (xs ++ fieldsL x 0)) := by
  rw [fields_0] at hl ⊢
  have hB0 : Bx base w x w.heap.size v xs (w.alloc (.cells x.vals 34)) := ⟨box_made x w, hown.alloc _, (Upon.refl base w).alloc _ hbase, by simp; omega⟩
  have e1 : bits .and .u8 0 1 = 0 := by decide
  have e16 : bits .and .u8 0 16 = 0 := by decide
  have e2 : bits .and .u8 0 2 = 0 := by decide
  have e4 : bits .and .u8 0 4 = 0 := by decide
  have e8 : bits .and .u8 0 8 = 0 := by decide
  have HL := hid hl
  clear hl
  obtain ⟨c0, c1, c2, c3, c4, c5, c6, c7⟩ := at_box hB0.box
  unfold Ix.vals
  unfold Ix.vals at c0 c1 c2 c3 c4 c5 c6 c7
  go_enter Tryd.func43, Tryd.ntmps43
  go_wp2
  go_ret
  exact ⟨_, rfl, by simpa [Ix.vals] using hB0.own, hB0.upon, hB0.size⟩
set_option maxHeartbeats 1000000 in
theorem fields_any33 (base : Nat) (w : World) (v : Value) (xs : List Int) (x : Ix) (hown : Own base w v xs) (hbase : base ≤ w.heap.size) (hl : xs.length + (fieldsL x 33).length ≤ 70368744177664) :
    Calls Tryd.prog 43 #[v, .agg x.vals, .int .u8 33] w (Hands base w (xs ++ fieldsL x 33)) := by
  rw [fields_33] at hl ⊢
  have hB0 : Bx base w x w.heap.size v xs (w.alloc (.cells x.vals 34)) := ⟨box_made x w, hown.alloc _, (Upon.refl base w).alloc _ hbase, by simp; omega⟩
  have e1 : bits .and .u8 33 1 = 1 := by decide
  have e16 : bits .and .u8 33 16 = 0 := by decide
  have e2 : bits .and .u8 33 2 = 0 := by decide
  have e4 : bits .and .u8 33 4 = 0 := by decide
  have e8 : bits .and .u8 33 8 = 0 := by decide
  by_cases hr : x.res = 1
  · rw [if_pos hr] at hl ⊢
    have HL := hid hl
    clear hl
    obtain ⟨op, res, a, b, n, tags, ta, tc, la, ln, lc, ea, en, ec⟩ := x
    dsimp only at hr
    subst hr
    obtain ⟨c0, c1, c2, c3, c4, c5, c6, c7⟩ := at_box hB0.box
    have hown0 := hB0.own
    have hup0 := hB0.upon
    have hsz0 := hB0.size
    unfold Ix.vals at *
    dsimp only at *
    go_enter Tryd.func43, Tryd.ntmps43
    go_wp2_with (first
      | (at_builtin; refine append_strU rfl (.tmp 17) _ rfl [32, 105, 51, 50] rfl hown0 hup0 hsz0 rfl (by decide) (by have := HL.out; simp at this ⊢; omega) ?_; intro v1 w1 hown1 hb1 hz1; refine Hid.out ?_))
    refine hid ?_
    go_wp2
    go_ret
    exact ⟨_, rfl, hown1, hb1, hz1⟩
  · rw [if_neg hr] at hl ⊢
    clear hl
    have hrb : (x.res == 1) = false := by simpa using hr
    obtain ⟨c0, c1, c2, c3, c4, c5, c6, c7⟩ := at_box hB0.box
    unfold Ix.vals at *
    go_enter Tryd.func43, Tryd.ntmps43
    go_wp2
    go_ret
    exact ⟨_, rfl, by simpa using hB0.own, hB0.upon, hB0.size⟩
set_option maxHeartbeats 1000000 in
theorem fields_any97 (base : Nat) (w : World) (v : Value) (xs : List Int) (x : Ix) (hown : Own base w v xs) (hbase : base ≤ w.heap.size) (hl : xs.length + (fieldsL x 97).length ≤ 70368744177664) :
    Calls Tryd.prog 43 #[v, .agg x.vals, .int .u8 97] w (Hands base w (xs ++ fieldsL x 97)) := by
  rw [fields_97] at hl ⊢
  have hB0 : Bx base w x w.heap.size v xs (w.alloc (.cells x.vals 34)) := ⟨box_made x w, hown.alloc _, (Upon.refl base w).alloc _ hbase, by simp; omega⟩
  have e1 : bits .and .u8 97 1 = 1 := by decide
  have e16 : bits .and .u8 97 16 = 0 := by decide
  have e2 : bits .and .u8 97 2 = 0 := by decide
  have e4 : bits .and .u8 97 4 = 0 := by decide
  have e8 : bits .and .u8 97 8 = 0 := by decide
  by_cases hr : x.res = 1
  · rw [if_pos hr] at hl ⊢
    have HL := hid hl
    clear hl
    obtain ⟨op, res, a, b, n, tags, ta, tc, la, ln, lc, ea, en, ec⟩ := x
    dsimp only at hr
    subst hr
    obtain ⟨c0, c1, c2, c3, c4, c5, c6, c7⟩ := at_box hB0.box
    have hown0 := hB0.own
    have hup0 := hB0.upon
    have hsz0 := hB0.size
    unfold Ix.vals at *
    dsimp only at *
    go_enter Tryd.func43, Tryd.ntmps43
    go_wp2_with (first
      | (at_builtin; refine append_strU rfl (.tmp 17) _ rfl [32, 105, 51, 50] rfl hown0 hup0 hsz0 rfl (by decide) (by have := HL.out; simp at this ⊢; omega) ?_; intro v1 w1 hown1 hb1 hz1; refine Hid.out ?_))
    refine hid ?_
    go_wp2
    go_ret
    exact ⟨_, rfl, hown1, hb1, hz1⟩
  · rw [if_neg hr] at hl ⊢
    clear hl
    have hrb : (x.res == 1) = false := by simpa using hr
    obtain ⟨c0, c1, c2, c3, c4, c5, c6, c7⟩ := at_box hB0.box
    unfold Ix.vals at *
    go_enter Tryd.func43, Tryd.ntmps43
    go_wp2
    go_ret
    exact ⟨_, rfl, by simpa using hB0.own, hB0.upon, hB0.size⟩
theorem flat_take (tags : List Int) (k : Nat) (h : k < tags.length) : (tags.take (k + 1)).flatMap numT = (tags.take k).flatMap numT ++ numT (tags.getD k 0) := by
  rw [List.take_add_one, List.getElem?_eq_getElem h, getD_lt h, List.flatMap_append]
  simp
theorem flat_len (tags : List Int) (k : Nat) : ((tags.take k).flatMap numT).length ≤ (tags.flatMap numT).length := by
  have : tags.flatMap numT = (tags.take k).flatMap numT ++ (tags.drop k).flatMap numT := by rw [← List.flatMap_append, List.take_append_drop]
  rw [this, List.length_append]; omega
set_option maxHeartbeats 2000000 in
theorem fields_18some (base : Nat) (w : World) (v : Value) (xs : List Int) (op res a b0 n : Int) (tags : List Int) (b off tc : Nat) (la : Option Addr) (ln lc : Nat) (ea : Option Addr) (en ec : Nat) (hx : (⟨op, res, a, b0, n, tags, some ⟨b, off, none⟩, tc, la, ln, lc, ea, en, ec⟩ : Ix).ok) (hbn : b < base)
    (hcs : ∀ i, i < tags.length → w.cell? ⟨b, off + i, none⟩ = some (.int .u32 (tags.getD i 0))) (hown : Own base w v xs) (hbase : base ≤ w.heap.size) (hl : xs.length + (fieldsL (⟨op, res, a, b0, n, tags, some ⟨b, off, none⟩, tc, la, ln, lc, ea, en, ec⟩ : Ix) 18).length ≤ 70368744177664) (hT : PowTab base w) :
    Calls Tryd.prog 43 #[v, .agg (Ix.vals (⟨op, res, a, b0, n, tags, some ⟨b, off, none⟩, tc, la, ln, lc, ea, en, ec⟩ : Ix)), .int .u8 18] w (Hands base w (xs ++ fieldsL (⟨op, res, a, b0, n, tags, some ⟨b, off, none⟩, tc, la, ln, lc, ea, en, ec⟩ : Ix) 18)) := by
  rw [fields_18] at hl ⊢
  dsimp only at hl ⊢
  have hB0 : Bx base w (⟨op, res, a, b0, n, tags, some ⟨b, off, none⟩, tc, la, ln, lc, ea, en, ec⟩ : Ix) w.heap.size v xs (w.alloc (.cells (Ix.vals (⟨op, res, a, b0, n, tags, some ⟨b, off, none⟩, tc, la, ln, lc, ea, en, ec⟩ : Ix)) 34)) := ⟨box_made (⟨op, res, a, b0, n, tags, some ⟨b, off, none⟩, tc, la, ln, lc, ea, en, ec⟩ : Ix) w, hown.alloc _, (Upon.refl base w).alloc _ hbase, by simp; omega⟩
  have hva : 0 ≤ a ∧ a < 4294967296 := hx.a
  have htags : ∀ z ∈ tags, 0 ≤ z ∧ z < 4294967296 := Ix.ok.tags hx
  have htn : tags.length ≤ 140737488351232 := hx.tn
  have hwa := wrap64_id (n := a) (by omega) (by omega)
  have e1 : bits .and .u8 18 1 = 0 := by decide
  have e16 : bits .and .u8 18 16 = 16 := by decide
  have e2 : bits .and .u8 18 2 = 2 := by decide
  have e4 : bits .and .u8 18 4 = 0 := by decide
  have e8 : bits .and .u8 18 8 = 0 := by decide
  have HL := hid hl
  clear hl
  obtain ⟨c0, c1, c2, c3, c4, c5, c6, c7⟩ := at_box hB0.box
  unfold Ix.vals
  unfold Ix.vals at c0 c1 c2 c3 c4 c5 c6 c7
  dsimp only at c0 c1 c2 c3 c4 c5 c6 c7 ⊢
  go_enter Tryd.func43, Tryd.ntmps43
  go_wp2
  go_loopw [0, 25] (fun u i wr => ∃ k : Nat, k ≤ tags.length ∧ i = .int .i64 k ∧ Bx base w (⟨op, res, a, b0, n, tags, some ⟨b, off, none⟩, tc, la, ln, lc, ea, en, ec⟩ : Ix) w.heap.size u (xs ++ (tags.take k).flatMap numT) wr) (fun _ i _ => tags.length - (intOf i).toNat)
  case atStart => exact ⟨0, Nat.zero_le _, rfl, by have h := hB0; unfold Ix.vals at h; dsimp only at h; simpa using h⟩
  case round =>
    obtain ⟨k, hk, rfl, hBk⟩ := hrel
    have hkl : xs.length + ((tags.take k).flatMap numT).length ≤ 70368744177664 := by
      have := HL.out; have := flat_len tags k
      simp only [List.length_append] at *; omega
    have HK := hid hkl
    clear hkl c0 c1 c2 c3 c4 c5 c6 c7
    obtain ⟨c0, c1, c2, c3, c4, c5, c6, c7⟩ := at_box hBk.box
    by_cases hlt : k < tags.length
    · have hz := htags (tags.getD k 0) (by rw [getD_lt hlt]; exact List.getElem_mem hlt)
      have hck := (hBk.upon.below.cell (p := ⟨b, off + k, none⟩) hbn).trans (hcs k hlt)
      have hft := hid (flat_take tags k hlt)
      obtain ⟨z, hzz⟩ : ∃ z, tags.getD k 0 = z := ⟨_, rfl⟩
      rw [hzz] at hz hck hft
      have hwz := wrap64_id (n := z) (by omega) (by omega)
      clear hzz
      go_wp2_with fail
      refine (number_step base w (⟨op, res, a, b0, n, tags, some ⟨b, off, none⟩, tc, la, ln, lc, ea, en, ec⟩ : Ix) w.heap.size _ _ z _ hBk (by omega) (by omega) (by have := HK.out; rw [List.length_append]; omega) hT).mono ?_
      rintro e w2 ⟨v2, rfl, hB2⟩
      go_wp2
      go_roundw
      case rel => exact ⟨k + 1, by omega, by simp, by rw [hft.out, ← List.append_assoc]; exact hB2⟩
      case measure => simp [intOf]; omega
    · obtain rfl : k = tags.length := by omega
      go_wp2_with fail
      refine (number_step base w (⟨op, res, a, b0, n, tags, some ⟨b, off, none⟩, tc, la, ln, lc, ea, en, ec⟩ : Ix) w.heap.size _ _ a _ hBk (by omega) (by omega) (by have := HK.out; rw [List.length_append]; omega) hT).mono ?_
      rintro e w2 ⟨v2, rfl, hB2⟩
      clear c0 c1 c2 c3 c4 c5 c6 c7
      obtain ⟨c0, c1, c2, c3, c4, c5, c6, c7⟩ := at_box hB2.box
      go_wp2
      go_ret
      exact ⟨_, rfl, by simpa [List.append_assoc] using hB2.own, hB2.upon, hB2.size⟩
set_option maxHeartbeats 2000000 in
theorem fields_18none (base : Nat) (w : World) (v : Value) (xs : List Int) (x : Ix) (hx : x.ok) (h0 : x.tags = []) (hown : Own base w v xs) (hbase : base ≤ w.heap.size) (hl : xs.length + (fieldsL x 18).length ≤ 70368744177664) (hT : PowTab base w) :
    Calls Tryd.prog 43 #[v, .agg x.vals, .int .u8 18] w (Hands base w (xs ++ fieldsL x 18)) := by
  rw [fields_18] at hl ⊢
  have HH := hid h0
  clear h0
  have hB0 : Bx base w x w.heap.size v xs (w.alloc (.cells x.vals 34)) := ⟨box_made x w, hown.alloc _, (Upon.refl base w).alloc _ hbase, by simp; omega⟩
  have hva := hx.a
  have hwa := wrap64_id (n := x.a) (by omega) (by omega)
  have e1 : bits .and .u8 18 1 = 0 := by decide
  have e16 : bits .and .u8 18 16 = 16 := by decide
  have e2 : bits .and .u8 18 2 = 2 := by decide
  have e4 : bits .and .u8 18 4 = 0 := by decide
  have e8 : bits .and .u8 18 8 = 0 := by decide
  have HL := hid hl
  have htn := hx.tn
  clear hl
  obtain ⟨c0, c1, c2, c3, c4, c5, c6, c7⟩ := at_box hB0.box
  unfold Ix.vals
  unfold Ix.vals at c0 c1 c2 c3 c4 c5 c6 c7
  go_enter Tryd.func43, Tryd.ntmps43
  go_wp2
  go_loopw [0, 25] (fun u i wr => ∃ k : Nat, k ≤ x.tags.length ∧ i = .int .i64 k ∧ Bx base w x w.heap.size u (xs ++ (x.tags.take k).flatMap numT) wr) (fun _ i _ => x.tags.length - (intOf i).toNat)
  case atStart => exact ⟨0, Nat.zero_le _, rfl, by have h := hB0; unfold Ix.vals at h; simpa using h⟩
  case round =>
    obtain ⟨k, hk, rfl, hBk⟩ := hrel
    have hkl : xs.length + ((x.tags.take k).flatMap numT).length ≤ 70368744177664 := by
      have := HL.out; have := flat_len x.tags k
      simp only [List.length_append] at *; omega
    have HK := hid hkl
    clear hkl c0 c1 c2 c3 c4 c5 c6 c7
    obtain ⟨c0, c1, c2, c3, c4, c5, c6, c7⟩ := at_box hBk.box
    by_cases hlt : k < x.tags.length
    · have h0 := HH.out
      rw [h0] at hlt
      simp at hlt
    · obtain rfl : k = x.tags.length := by omega
      go_wp2_with fail
      refine (number_step base w x w.heap.size _ _ x.a _ hBk (by omega) (by omega) (by have := HK.out; rw [List.length_append]; omega) hT).mono ?_
      rintro e w2 ⟨v2, rfl, hB2⟩
      clear c0 c1 c2 c3 c4 c5 c6 c7
      obtain ⟨c0, c1, c2, c3, c4, c5, c6, c7⟩ := at_box hB2.box
      go_wp2
      go_ret
      exact ⟨_, rfl, by simpa [List.append_assoc] using hB2.own, hB2.upon, hB2.size⟩
theorem fields_any18 (base : Nat) (w : World) (v : Value) (xs : List Int) (x : Ix) (hx : x.ok) (ht : TagsAt base w x.ta x.tags) (hown : Own base w v xs) (hbase : base ≤ w.heap.size) (hl : xs.length + (fieldsL x 18).length ≤ 70368744177664) (hT : PowTab base w) :
    Calls Tryd.prog 43 #[v, .agg x.vals, .int .u8 18] w (Hands base w (xs ++ fieldsL x 18)) := by
  rcases ht with h0 | ⟨b, off, hta, hbn, hcs⟩
  · exact fields_18none base w v xs x hx h0 hown hbase hl hT
  · obtain ⟨op, res, a, b0, n, tags, ta, tc, la, ln, lc, ea, en, ec⟩ := x
    dsimp only at hta hcs
    subst hta
    exact fields_18some base w v xs op res a b0 n tags b off tc la ln lc ea en ec hx hbn hcs hown hbase hl hT
theorem fields_any (base : Nat) (w : World) (v : Value) (xs : List Int) (x : Ix) (op : Int) (hx : x.ok) (ht : TagsAt base w x.ta x.tags) (hown : Own base w v xs) (hbase : base ≤ w.heap.size) (hl : xs.length + (fieldsL x (usedP op)).length ≤ 70368744177664) (hT : PowTab base w) :
    Calls Tryd.prog 43 #[v, .agg x.vals, .int .u8 (usedP op)] w (Hands base w (xs ++ fieldsL x (usedP op))) := by
  rcases used_cases op with h | h | h | h | h | h | h
  all_goals rw [h] at hl ⊢
  · exact fields_any6 base w v xs x hx hown hbase hl hT
  · exact fields_any33 base w v xs x hown hbase hl
  · exact fields_any97 base w v xs x hown hbase hl
  · exact fields_any2 base w v xs x hx hown hbase hl hT
  · exact fields_any18 base w v xs x hx ht hown hbase hl hT
  · exact fields_any8 base w v xs x hx hown hbase hl hT
  · exact fields_any0 base w v xs x hown hbase hl
end Go.Proofs.YtolbdioijbdlmaaDoor.Instr
