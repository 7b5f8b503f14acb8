/-
  INSTR: appendOne, appendList and Text by contracts.
-/
import Derived.Test.YtolbdioijbdlmaaDoorInstrFields
namespace Go.Proofs.YtolbdioijbdlmaaDoor.Instr
open Go.RowKit

def NamB (base : Nat) (w : World) : Prop := ∀ w', Below base w w' → Nams w'
theorem NamB.on {base : Nat} {w w' : World} (h : NamB base w) (hb : Below base w w') : NamB base w' := fun w'' h' => h w'' (hb.trans h')
theorem NamB.here {base : Nat} {w : World} (h : NamB base w) : Nams w := h w (Below.refl _ _)
theorem Nams.base {w : World} (h : Nams w) : NamB w.heap.size w := fun _ hb => h.below hb
theorem nameTab_bytes : ∀ j : Fin 121, ∀ z ∈ nameTab.getD j.val [], 0 ≤ z ∧ z < 256 := by decide +kernel
theorem nameL_bytes (op : Int) : ∀ z ∈ nameL op, 0 ≤ z ∧ z < 256 := by
  unfold nameL
  split
  · exact nameTab_bytes ⟨op.toNat, by omega⟩
  · simp
/-- The text of one instruction with these lists. -/
def oneT (x : Ix) (l e : Il) : List Int :=
  nameL x.op ++ fieldsL x (usedP x.op) ++ [59] ++
      (if uses (usedP x.op) 32 then l.text ++ (if uses (usedP x.op) 64 && decide (0 < x.en) then [101, 108, 115, 101, 59] ++ e.text else []) ++ [101, 110, 100, 59] else [])
theorem text_cons (x : Ix) (l e r : Il) : (Il.cons x l e r).text = oneT x l e ++ r.text := rfl
/-- The contract of appendList at these instructions. -/
def LC (base : Nat) (t : Il) : Prop := ∀ (w : World) (v : Value) (xs : List Int) (a : Option Addr) (n c : Nat), base ≤ w.heap.size → ListAt base w a n t → Own base w v xs → xs.length + t.text.length ≤ 70368744177664 → n ≤ 140737488351232 → PowTab base w → NamB base w →
  Calls Tryd.prog 32 #[v, .slice a n c] w (Hands base w (xs ++ t.text))

set_option maxHeartbeats 2000000 in
theorem one_A (base : Nat) (w : World) (v : Value) (xs : List Int) (x : Ix) (l e : Il) (u : Int) (hu : usedP x.op = u) (e32 : bits .and .u8 u 32 = 0) (hx : x.ok) (ht : TagsAt base w x.ta x.tags) (_hLl : ListAt base w x.la x.ln l) (_hLe : ListAt base w x.ea x.en e) (CL : LC base l) (CE : LC base e)
    (hown : Own base w v xs) (hbase : base ≤ w.heap.size) (hl : xs.length + (nameL x.op ++ fieldsL x u ++ [59]).length ≤ 70368744177664) (hT : PowTab base w) (hN : NamB base w) :
    Calls Tryd.prog 39 #[v, .agg x.vals] w (Hands base w (xs ++ (nameL x.op ++ fieldsL x u ++ [59]))) := by
  have CU := fun w' => used_any x.op w'
  have CF := fun w' v' xs' => fields_any base w' v' xs' x x.op hx
  rw [hu] at CU CF
  have CF2 := hid CF
  have CU2 := hid CU
  have CL2 := hid CL
  have CE2 := hid CE
  have hlnn := hx.ln
  have henn := hx.en
  have hb0 : Upon base w (w.alloc (.cells x.vals 34)) := (Upon.refl base w).alloc _ hbase
  have hz0 : base ≤ (w.alloc (.cells x.vals 34)).heap.size := by simp; omega
  have hown0 : Own base (w.alloc (.cells x.vals 34)) v xs := hown.alloc _
  have hbx0 := box_made x w
  have hl' := hl
  simp only [List.length_append] at hl'
  have HL := hid hl'
  clear hl hl' CU CF CL CE hu
  obtain ⟨c0, c1, c2, c3, c4, c5, c6, c7⟩ := at_box hbx0
  unfold Ix.vals
  unfold Ix.vals at c0 c1 c2 c3 c4 c5 c6 c7
  go_enter Tryd.func39, Tryd.ntmps39
  go_wp2_with fail
  refine (CU2.out _).mono ?_
  clear CU2
  rintro e1 w1 ⟨rfl, rfl⟩
  go_wp2_with fail
  refine (Name_any x.op _ (hN _ hb0.below)).mono ?_
  rintro e1 w1 ⟨rfl, rfl⟩
  go_wp2_with (first
    | (at_builtin; refine append_strU rfl (.tmp 9) (.tmp 12) rfl (nameL x.op) rfl hown0 (Upon.refl base _) hz0 rfl (nameL_bytes _) (by have := HL.out; omega) ?_; intro v1 w1 hown1 hb1 hz1; refine Hid.out ?_))
  refine hid ?_
  have hbx1 := hb1.box hbx0
  clear c0 c1 c2 c3 c4 c5 c6 c7
  obtain ⟨c0, c1, c2, c3, c4, c5, c6, c7⟩ := at_box hbx1
  have hB1 := hb0.trans hb1
  clear hb1 hbx0 hown0
  go_wp2_with fail
  refine (CF2.out w1 v1 _ (ht.below hB1.below) hown1 hz1 (by have := HL.out; simp only [List.length_append]; omega) (hT.on hB1.below)).mono ?_
  clear CF2
  rintro e1 w2 ⟨v2, rfl, hown2, hb2, hz2⟩
  have hB2 := hB1.trans hb2
  have hbx2 := hb2.box hbx1
  clear hb2 hbx1 hown1 hB1 c0 c1 c2 c3 c4 c5 c6 c7
  go_wp2_with (first
    | (at_builtin; refine append_byteU rfl (.tmp 18) (.tmp 19) rfl 59 rfl hown2 (Upon.refl base _) hz2 rfl (by have := HL.out; simp only [List.length_append]; omega) ?_; intro v3 w3 hown3 hb3 hz3; refine Hid.out ?_))
  refine hid ?_
  have hB3 := hB2.trans hb3
  have hbx3 := hb3.box hbx2
  clear hb3 hbx2 hown2 hB2
  obtain ⟨c0, c1, c2, c3, c4, c5, c6, c7⟩ := at_box hbx3
  go_wp2
  go_ret
  exact ⟨v3, rfl, by simpa only [List.append_assoc] using hown3, hB3, hz3⟩

set_option maxHeartbeats 2000000 in
theorem one_B (base : Nat) (w : World) (v : Value) (xs : List Int) (x : Ix) (l e : Il) (u : Int) (hu : usedP x.op = u) (e32 : bits .and .u8 u 32 = 32) (e64 : bits .and .u8 u 64 = 0) (hx : x.ok) (ht : TagsAt base w x.ta x.tags) (hLl : ListAt base w x.la x.ln l) (_hLe : ListAt base w x.ea x.en e) (CL : LC base l) (CE : LC base e)
    (hown : Own base w v xs) (hbase : base ≤ w.heap.size) (hl : xs.length + (nameL x.op ++ fieldsL x u ++ [59] ++ l.text ++ [101, 110, 100, 59]).length ≤ 70368744177664) (hT : PowTab base w) (hN : NamB base w) :
    Calls Tryd.prog 39 #[v, .agg x.vals] w (Hands base w (xs ++ (nameL x.op ++ fieldsL x u ++ [59] ++ l.text ++ [101, 110, 100, 59]))) := by
  have CU := fun w' => used_any x.op w'
  have CF := fun w' v' xs' => fields_any base w' v' xs' x x.op hx
  rw [hu] at CU CF
  have CF2 := hid CF
  have CU2 := hid CU
  have CL2 := hid CL
  have CE2 := hid CE
  have hlnn := hx.ln
  have henn := hx.en
  have hb0 : Upon base w (w.alloc (.cells x.vals 34)) := (Upon.refl base w).alloc _ hbase
  have hz0 : base ≤ (w.alloc (.cells x.vals 34)).heap.size := by simp; omega
  have hown0 : Own base (w.alloc (.cells x.vals 34)) v xs := hown.alloc _
  have hbx0 := box_made x w
  have hl' := hl
  simp only [List.length_append] at hl'
  have HL := hid hl'
  clear hl hl' CU CF CL CE hu
  obtain ⟨c0, c1, c2, c3, c4, c5, c6, c7⟩ := at_box hbx0
  unfold Ix.vals
  unfold Ix.vals at c0 c1 c2 c3 c4 c5 c6 c7
  go_enter Tryd.func39, Tryd.ntmps39
  go_wp2_with fail
  refine (CU2.out _).mono ?_
  clear CU2
  rintro e1 w1 ⟨rfl, rfl⟩
  go_wp2_with fail
  refine (Name_any x.op _ (hN _ hb0.below)).mono ?_
  rintro e1 w1 ⟨rfl, rfl⟩
  go_wp2_with (first
    | (at_builtin; refine append_strU rfl (.tmp 9) (.tmp 12) rfl (nameL x.op) rfl hown0 (Upon.refl base _) hz0 rfl (nameL_bytes _) (by have := HL.out; omega) ?_; intro v1 w1 hown1 hb1 hz1; refine Hid.out ?_))
  refine hid ?_
  have hbx1 := hb1.box hbx0
  clear c0 c1 c2 c3 c4 c5 c6 c7
  obtain ⟨c0, c1, c2, c3, c4, c5, c6, c7⟩ := at_box hbx1
  have hB1 := hb0.trans hb1
  clear hb1 hbx0 hown0
  go_wp2_with fail
  refine (CF2.out w1 v1 _ (ht.below hB1.below) hown1 hz1 (by have := HL.out; simp only [List.length_append]; omega) (hT.on hB1.below)).mono ?_
  clear CF2
  rintro e1 w2 ⟨v2, rfl, hown2, hb2, hz2⟩
  have hB2 := hB1.trans hb2
  have hbx2 := hb2.box hbx1
  clear hb2 hbx1 hown1 hB1 c0 c1 c2 c3 c4 c5 c6 c7
  go_wp2_with (first
    | (at_builtin; refine append_byteU rfl (.tmp 18) (.tmp 19) rfl 59 rfl hown2 (Upon.refl base _) hz2 rfl (by have := HL.out; simp only [List.length_append]; omega) ?_; intro v3 w3 hown3 hb3 hz3; refine Hid.out ?_))
  refine hid ?_
  have hB3 := hB2.trans hb3
  have hbx3 := hb3.box hbx2
  clear hb3 hbx2 hown2 hB2
  obtain ⟨c0, c1, c2, c3, c4, c5, c6, c7⟩ := at_box hbx3
  go_wp2_with fail
  refine (CL2.out w3 v3 _ x.la x.ln _ hz3 (hLl.below hB3.below) hown3 (by have := HL.out; simp only [List.length_append]; omega) (by omega) (hT.on hB3.below) (hN.on hB3.below)).mono ?_
  clear CL2
  rintro e1 w4 ⟨v4, rfl, hown4, hb4, hz4⟩
  have hB4 := hB3.trans hb4
  have hbx4 := hb4.box hbx3
  clear hb4 hbx3 hown3 hB3 c0 c1 c2 c3 c4 c5 c6 c7
  obtain ⟨c0, c1, c2, c3, c4, c5, c6, c7⟩ := at_box hbx4
  go_wp2_with (first
    | (at_builtin; refine append_strU rfl (.tmp 44) _ rfl [101, 110, 100, 59] rfl hown4 (Upon.refl base _) hz4 rfl (by decide) (by have := HL.out; simp only [List.length_append, List.length_cons, List.length_nil] at *; omega) ?_; intro v5 w5 hown5 hb5 hz5; refine Hid.out ?_))
  refine hid ?_
  have hB5 := hB4.trans hb5
  have hbx5 := hb5.box hbx4
  clear hb5 hbx4 hown4 hB4 c0 c1 c2 c3 c4 c5 c6 c7
  obtain ⟨c0, c1, c2, c3, c4, c5, c6, c7⟩ := at_box hbx5
  go_wp2
  go_ret
  exact ⟨v5, rfl, by simpa only [List.append_assoc] using hown5, hB5, hz5⟩

set_option maxHeartbeats 2000000 in
theorem one_D (base : Nat) (w : World) (v : Value) (xs : List Int) (x : Ix) (l e : Il) (u : Int) (hu : usedP x.op = u) (e32 : bits .and .u8 u 32 = 32) (e64 : bits .and .u8 u 64 = 64) (he0 : ¬ 0 < x.en) (hx : x.ok) (ht : TagsAt base w x.ta x.tags) (hLl : ListAt base w x.la x.ln l) (_hLe : ListAt base w x.ea x.en e) (CL : LC base l) (CE : LC base e)
    (hown : Own base w v xs) (hbase : base ≤ w.heap.size) (hl : xs.length + (nameL x.op ++ fieldsL x u ++ [59] ++ l.text ++ [101, 110, 100, 59]).length ≤ 70368744177664) (hT : PowTab base w) (hN : NamB base w) :
    Calls Tryd.prog 39 #[v, .agg x.vals] w (Hands base w (xs ++ (nameL x.op ++ fieldsL x u ++ [59] ++ l.text ++ [101, 110, 100, 59]))) := by
  have CU := fun w' => used_any x.op w'
  have CF := fun w' v' xs' => fields_any base w' v' xs' x x.op hx
  rw [hu] at CU CF
  have CF2 := hid CF
  have CU2 := hid CU
  have CL2 := hid CL
  have CE2 := hid CE
  have hlnn := hx.ln
  have henn := hx.en
  have hb0 : Upon base w (w.alloc (.cells x.vals 34)) := (Upon.refl base w).alloc _ hbase
  have hz0 : base ≤ (w.alloc (.cells x.vals 34)).heap.size := by simp; omega
  have hown0 : Own base (w.alloc (.cells x.vals 34)) v xs := hown.alloc _
  have hbx0 := box_made x w
  have hl' := hl
  simp only [List.length_append] at hl'
  have HL := hid hl'
  clear hl hl' CU CF CL CE hu
  obtain ⟨c0, c1, c2, c3, c4, c5, c6, c7⟩ := at_box hbx0
  unfold Ix.vals
  unfold Ix.vals at c0 c1 c2 c3 c4 c5 c6 c7
  go_enter Tryd.func39, Tryd.ntmps39
  go_wp2_with fail
  refine (CU2.out _).mono ?_
  clear CU2
  rintro e1 w1 ⟨rfl, rfl⟩
  go_wp2_with fail
  refine (Name_any x.op _ (hN _ hb0.below)).mono ?_
  rintro e1 w1 ⟨rfl, rfl⟩
  go_wp2_with (first
    | (at_builtin; refine append_strU rfl (.tmp 9) (.tmp 12) rfl (nameL x.op) rfl hown0 (Upon.refl base _) hz0 rfl (nameL_bytes _) (by have := HL.out; omega) ?_; intro v1 w1 hown1 hb1 hz1; refine Hid.out ?_))
  refine hid ?_
  have hbx1 := hb1.box hbx0
  clear c0 c1 c2 c3 c4 c5 c6 c7
  obtain ⟨c0, c1, c2, c3, c4, c5, c6, c7⟩ := at_box hbx1
  have hB1 := hb0.trans hb1
  clear hb1 hbx0 hown0
  go_wp2_with fail
  refine (CF2.out w1 v1 _ (ht.below hB1.below) hown1 hz1 (by have := HL.out; simp only [List.length_append]; omega) (hT.on hB1.below)).mono ?_
  clear CF2
  rintro e1 w2 ⟨v2, rfl, hown2, hb2, hz2⟩
  have hB2 := hB1.trans hb2
  have hbx2 := hb2.box hbx1
  clear hb2 hbx1 hown1 hB1 c0 c1 c2 c3 c4 c5 c6 c7
  go_wp2_with (first
    | (at_builtin; refine append_byteU rfl (.tmp 18) (.tmp 19) rfl 59 rfl hown2 (Upon.refl base _) hz2 rfl (by have := HL.out; simp only [List.length_append]; omega) ?_; intro v3 w3 hown3 hb3 hz3; refine Hid.out ?_))
  refine hid ?_
  have hB3 := hB2.trans hb3
  have hbx3 := hb3.box hbx2
  clear hb3 hbx2 hown2 hB2
  obtain ⟨c0, c1, c2, c3, c4, c5, c6, c7⟩ := at_box hbx3
  go_wp2_with fail
  refine (CL2.out w3 v3 _ x.la x.ln _ hz3 (hLl.below hB3.below) hown3 (by have := HL.out; simp only [List.length_append]; omega) (by omega) (hT.on hB3.below) (hN.on hB3.below)).mono ?_
  clear CL2
  rintro e1 w4 ⟨v4, rfl, hown4, hb4, hz4⟩
  have hB4 := hB3.trans hb4
  have hbx4 := hb4.box hbx3
  clear hb4 hbx3 hown3 hB3 c0 c1 c2 c3 c4 c5 c6 c7
  obtain ⟨c0, c1, c2, c3, c4, c5, c6, c7⟩ := at_box hbx4
  go_wp2_with (first
    | (at_builtin; refine append_strU rfl (.tmp 44) _ rfl [101, 110, 100, 59] rfl hown4 (Upon.refl base _) hz4 rfl (by decide) (by have := HL.out; simp only [List.length_append, List.length_cons, List.length_nil] at *; omega) ?_; intro v5 w5 hown5 hb5 hz5; refine Hid.out ?_))
  refine hid ?_
  have hB5 := hB4.trans hb5
  have hbx5 := hb5.box hbx4
  clear hb5 hbx4 hown4 hB4 c0 c1 c2 c3 c4 c5 c6 c7
  obtain ⟨c0, c1, c2, c3, c4, c5, c6, c7⟩ := at_box hbx5
  go_wp2
  go_ret
  exact ⟨v5, rfl, by simpa only [List.append_assoc] using hown5, hB5, hz5⟩

set_option maxHeartbeats 2000000 in
theorem one_C (base : Nat) (w : World) (v : Value) (xs : List Int) (x : Ix) (l e : Il) (u : Int) (hu : usedP x.op = u) (e32 : bits .and .u8 u 32 = 32) (e64 : bits .and .u8 u 64 = 64) (he0 : 0 < x.en) (hx : x.ok) (ht : TagsAt base w x.ta x.tags) (hLl : ListAt base w x.la x.ln l) (hLe : ListAt base w x.ea x.en e) (CL : LC base l) (CE : LC base e)
    (hown : Own base w v xs) (hbase : base ≤ w.heap.size) (hl : xs.length + (nameL x.op ++ fieldsL x u ++ [59] ++ l.text ++ [101, 108, 115, 101, 59] ++ e.text ++ [101, 110, 100, 59]).length ≤ 70368744177664) (hT : PowTab base w) (hN : NamB base w) :
    Calls Tryd.prog 39 #[v, .agg x.vals] w (Hands base w (xs ++ (nameL x.op ++ fieldsL x u ++ [59] ++ l.text ++ [101, 108, 115, 101, 59] ++ e.text ++ [101, 110, 100, 59]))) := by
  have CU := fun w' => used_any x.op w'
  have CF := fun w' v' xs' => fields_any base w' v' xs' x x.op hx
  rw [hu] at CU CF
  have CF2 := hid CF
  have CU2 := hid CU
  have CL2 := hid CL
  have CE2 := hid CE
  have hlnn := hx.ln
  have henn := hx.en
  have hb0 : Upon base w (w.alloc (.cells x.vals 34)) := (Upon.refl base w).alloc _ hbase
  have hz0 : base ≤ (w.alloc (.cells x.vals 34)).heap.size := by simp; omega
  have hown0 : Own base (w.alloc (.cells x.vals 34)) v xs := hown.alloc _
  have hbx0 := box_made x w
  have hl' := hl
  simp only [List.length_append] at hl'
  have HL := hid hl'
  clear hl hl' CU CF CL CE hu
  obtain ⟨c0, c1, c2, c3, c4, c5, c6, c7⟩ := at_box hbx0
  unfold Ix.vals
  unfold Ix.vals at c0 c1 c2 c3 c4 c5 c6 c7
  go_enter Tryd.func39, Tryd.ntmps39
  go_wp2_with fail
  refine (CU2.out _).mono ?_
  clear CU2
  rintro e1 w1 ⟨rfl, rfl⟩
  go_wp2_with fail
  refine (Name_any x.op _ (hN _ hb0.below)).mono ?_
  rintro e1 w1 ⟨rfl, rfl⟩
  go_wp2_with (first
    | (at_builtin; refine append_strU rfl (.tmp 9) (.tmp 12) rfl (nameL x.op) rfl hown0 (Upon.refl base _) hz0 rfl (nameL_bytes _) (by have := HL.out; omega) ?_; intro v1 w1 hown1 hb1 hz1; refine Hid.out ?_))
  refine hid ?_
  have hbx1 := hb1.box hbx0
  clear c0 c1 c2 c3 c4 c5 c6 c7
  obtain ⟨c0, c1, c2, c3, c4, c5, c6, c7⟩ := at_box hbx1
  have hB1 := hb0.trans hb1
  clear hb1 hbx0 hown0
  go_wp2_with fail
  refine (CF2.out w1 v1 _ (ht.below hB1.below) hown1 hz1 (by have := HL.out; simp only [List.length_append]; omega) (hT.on hB1.below)).mono ?_
  clear CF2
  rintro e1 w2 ⟨v2, rfl, hown2, hb2, hz2⟩
  have hB2 := hB1.trans hb2
  have hbx2 := hb2.box hbx1
  clear hb2 hbx1 hown1 hB1 c0 c1 c2 c3 c4 c5 c6 c7
  go_wp2_with (first
    | (at_builtin; refine append_byteU rfl (.tmp 18) (.tmp 19) rfl 59 rfl hown2 (Upon.refl base _) hz2 rfl (by have := HL.out; simp only [List.length_append]; omega) ?_; intro v3 w3 hown3 hb3 hz3; refine Hid.out ?_))
  refine hid ?_
  have hB3 := hB2.trans hb3
  have hbx3 := hb3.box hbx2
  clear hb3 hbx2 hown2 hB2
  obtain ⟨c0, c1, c2, c3, c4, c5, c6, c7⟩ := at_box hbx3
  go_wp2_with fail
  refine (CL2.out w3 v3 _ x.la x.ln _ hz3 (hLl.below hB3.below) hown3 (by have := HL.out; simp only [List.length_append]; omega) (by omega) (hT.on hB3.below) (hN.on hB3.below)).mono ?_
  clear CL2
  rintro e1 w4 ⟨v4, rfl, hown4, hb4, hz4⟩
  have hB4 := hB3.trans hb4
  have hbx4 := hb4.box hbx3
  clear hb4 hbx3 hown3 hB3 c0 c1 c2 c3 c4 c5 c6 c7
  obtain ⟨c0, c1, c2, c3, c4, c5, c6, c7⟩ := at_box hbx4
  go_wp2_with (first
    | (at_builtin; refine append_strU rfl (.tmp 38) _ rfl [101, 108, 115, 101, 59] rfl hown4 (Upon.refl base _) hz4 rfl (by decide) (by have := HL.out; simp only [List.length_append, List.length_cons, List.length_nil] at *; omega) ?_; intro v5 w5 hown5 hb5 hz5; refine Hid.out ?_))
  refine hid ?_
  have hB5 := hB4.trans hb5
  have hbx5 := hb5.box hbx4
  clear hb5 hbx4 hown4 hB4 c0 c1 c2 c3 c4 c5 c6 c7
  obtain ⟨c0, c1, c2, c3, c4, c5, c6, c7⟩ := at_box hbx5
  go_wp2_with fail
  refine (CE2.out w5 v5 _ x.ea x.en _ hz5 (hLe.below hB5.below) hown5 (by have := HL.out; simp only [List.length_append]; omega) (by omega) (hT.on hB5.below) (hN.on hB5.below)).mono ?_
  clear CE2
  rintro e1 w6 ⟨v6, rfl, hown6, hb6, hz6⟩
  have hB6 := hB5.trans hb6
  have hbx6 := hb6.box hbx5
  clear hb6 hbx5 hown5 hB5 c0 c1 c2 c3 c4 c5 c6 c7
  obtain ⟨c0, c1, c2, c3, c4, c5, c6, c7⟩ := at_box hbx6
  go_wp2_with (first
    | (at_builtin; refine append_strU rfl (.tmp 44) _ rfl [101, 110, 100, 59] rfl hown6 (Upon.refl base _) hz6 rfl (by decide) (by have := HL.out; simp only [List.length_append, List.length_cons, List.length_nil] at *; omega) ?_; intro v7 w7 hown7 hb7 hz7; refine Hid.out ?_))
  refine hid ?_
  have hB7 := hB6.trans hb7
  have hbx7 := hb7.box hbx6
  clear hb7 hbx6 hown6 hB6 c0 c1 c2 c3 c4 c5 c6 c7
  obtain ⟨c0, c1, c2, c3, c4, c5, c6, c7⟩ := at_box hbx7
  go_wp2
  go_ret
  exact ⟨v7, rfl, by simpa only [List.append_assoc] using hown7, hB7, hz7⟩

theorem one_any (base : Nat) (w : World) (v : Value) (xs : List Int) (x : Ix) (l e : Il) (hx : x.ok) (ht : TagsAt base w x.ta x.tags) (hLl : ListAt base w x.la x.ln l) (hLe : ListAt base w x.ea x.en e) (CL : LC base l) (CE : LC base e)
    (hown : Own base w v xs) (hbase : base ≤ w.heap.size) (hl : xs.length + (oneT x l e).length ≤ 70368744177664) (hT : PowTab base w) (hN : NamB base w) :
    Calls Tryd.prog 39 #[v, .agg x.vals] w (Hands base w (xs ++ oneT x l e)) := by
  have e0 : ∀ u : Int, bits .and .u8 u 32 = 0 → uses u 32 = false := fun u h => by simp [uses, h]
  have e1 : ∀ u : Int, bits .and .u8 u 32 = 32 → uses u 32 = true := fun u h => by simp [uses, h]
  have e2 : ∀ u : Int, bits .and .u8 u 64 = 0 → uses u 64 = false := fun u h => by simp [uses, h]
  have e3 : ∀ u : Int, bits .and .u8 u 64 = 64 → uses u 64 = true := fun u h => by simp [uses, h]
  have hc : (bits .and .u8 (usedP x.op) 32 = 0) ∨ (bits .and .u8 (usedP x.op) 32 = 32 ∧ bits .and .u8 (usedP x.op) 64 = 0) ∨ (bits .and .u8 (usedP x.op) 32 = 32 ∧ bits .and .u8 (usedP x.op) 64 = 64) := by
    rcases used_cases x.op with h | h | h | h | h | h | h <;> rw [h] <;> decide
  unfold oneT at hl ⊢
  rcases hc with h | ⟨h, h'⟩ | ⟨h, h'⟩
  · rw [e0 _ h] at hl ⊢
    simp only [Bool.false_eq_true, if_false, List.append_nil] at hl ⊢
    exact one_A base w v xs x l e _ rfl h hx ht hLl hLe CL CE hown hbase hl hT hN
  · rw [e1 _ h, e2 _ h'] at hl ⊢
    simp only [Bool.false_and, Bool.false_eq_true, if_false, if_true, List.append_nil, ← List.append_assoc] at hl ⊢
    exact one_B base w v xs x l e _ rfl h h' hx ht hLl hLe CL CE hown hbase (by simpa only [List.append_assoc] using hl) hT hN |> fun hh => by simpa only [List.append_assoc] using hh
  · rw [e1 _ h, e3 _ h'] at hl ⊢
    by_cases he : 0 < x.en
    · simp only [Bool.true_and, he, decide_true, if_true] at hl ⊢
      exact one_C base w v xs x l e _ rfl h h' he hx ht hLl hLe CL CE hown hbase (by simpa only [List.append_assoc] using hl) hT hN |> fun hh => by simpa only [List.append_assoc] using hh
    · simp only [Bool.true_and, he, decide_false, Bool.false_eq_true, if_false, if_true, List.append_nil] at hl ⊢
      exact one_D base w v xs x l e _ rfl h h' he hx ht hLl hLe CL CE hown hbase (by simpa only [List.append_assoc] using hl) hT hN |> fun hh => by simpa only [List.append_assoc] using hh

set_option maxHeartbeats 2000000 in
theorem list_any (base : Nat) : ∀ (m : Nat) (t : Il), t.count ≤ m → LC base t := by
  intro m
  induction m with
  | zero =>
    intro t hm w v xs a n c hbase hL hown hl hn hT hN
    cases t with
    | cons x l e r => simp only [Il.count] at hm; omega
    | nil =>
      have h0 : n = 0 := hL.1.symm
      subst h0
      clear hL hm hl hn
      go_enter Tryd.func32, Tryd.ntmps32
      go_wp2
      go_loopw [0, 9] (fun u i wr => i = .int .i64 0 ∧ u = v ∧ Own base wr u xs ∧ Upon base w wr ∧ base ≤ wr.heap.size) (fun _ _ _ => 0)
      case atStart => exact ⟨rfl, rfl, hown, Upon.refl _ _, hbase⟩
      case round =>
        obtain ⟨rfl, rfl, ho, hu, hz⟩ := hrel
        go_wp2
        go_ret
        exact ⟨_, rfl, by simpa [Il.text] using ho, hu, hz⟩
  | succ m ih =>
    intro t hm w v xs a n c hbase hL hown hl hn hT hN
    obtain ⟨hL1, hL2⟩ := hL
    have HM := hid hm
    have HL := hid hl
    have HL1 := hid hL1
    clear hm hl hL1
    rcases hL2 with rfl | ⟨b, off, rfl, hi⟩
    · have h0 : n = 0 := HL1.out.symm
      subst h0
      go_enter Tryd.func32, Tryd.ntmps32
      go_wp2
      go_loopw [0, 9] (fun u i wr => i = .int .i64 0 ∧ u = v ∧ Own base wr u xs ∧ Upon base w wr ∧ base ≤ wr.heap.size) (fun _ _ _ => 0)
      case atStart => exact ⟨rfl, rfl, hown, Upon.refl _ _, hbase⟩
      case round =>
        obtain ⟨rfl, rfl, ho, hu, hz⟩ := hrel
        go_wp2
        go_ret
        exact ⟨_, rfl, by simpa [Il.text] using ho, hu, hz⟩
    · go_enter Tryd.func32, Tryd.ntmps32
      go_wp2
      go_loopw [0, 9] (fun u i wr => ∃ (k : Nat) (zs : List Int) (rest : Il), i = .int .i64 k ∧ k ≤ n ∧ Hid (k + rest.len = n ∧ zs ++ rest.text = xs ++ t.text ∧ rest.count ≤ t.count) ∧ Items base wr b (off + k * 8) rest ∧ Own base wr u zs ∧ Upon base w wr ∧ base ≤ wr.heap.size)
        (fun _ i _ => n - (intOf i).toNat)
      case atStart => exact ⟨0, xs, t, rfl, Nat.zero_le _, ⟨by have := HL1.out; omega, rfl, Nat.le_refl _⟩, by simpa using hi, hown, Upon.refl _ _, hbase⟩
      case round =>
        obtain ⟨k, zs, rest, rfl, hk, HR, hir, ho, hu, hz⟩ := hrel
        cases rest with
        | nil =>
          obtain ⟨r1, r2, _⟩ := HR.out
          have hkl : k = n := by simpa [Il.len] using r1
          subst hkl
          simp only [Il.text, List.append_nil] at r2
          have R2 := hid r2
          clear r2
          go_wp2
          go_ret
          exact ⟨_, rfl, by rw [← R2.out]; exact ho, hu, hz⟩
        | cons x tl te r =>
          obtain ⟨hbn, hx, ⟨c0, c1, c2, c3, c4, c5, c6, c7⟩, ht, hLl, hLe, hir'⟩ := hir
          have hlt : k < n := by have := HR.out.1; simp only [Il.len] at this; omega
          have hB1 : Upon base w (wr.alloc (.cells x.vals 34)) := hu.alloc _ hz
          have hb1 : Below base wr (wr.alloc (.cells x.vals 34)) := (Below.refl _ _).alloc hz _
          have hcnt := HR.out.2.2
          simp only [Il.count] at hcnt
          have hlen : zs.length + (oneT x tl te).length ≤ 70368744177664 := by
            have h1 := congrArg List.length HR.out.2.1
            have h2 := HL.out
            rw [text_cons] at h1
            simp only [List.length_append] at h1
            omega
          have C1 := one_any base (wr.alloc (.cells x.vals 34)) u0 zs x tl te hx (ht.below hb1) (ListAt.below hb1 hLl) (ListAt.below hb1 hLe) (ih tl (by have := HM.out; omega)) (ih te (by have := HM.out; omega)) (ho.alloc _) (by simp; omega) hlen (hT.on hB1.below) (hN.on hB1.below)
          have D1 := hid C1
          clear C1 hlen hcnt
          unfold Ix.vals at D1 hB1 hb1
          go_wp2_with fail
          refine D1.out.mono ?_
          clear D1
          rintro e1 w2 ⟨v2, rfl, ho2, hu2, hz2⟩
          clear c0 c1 c2 c3 c4 c5 c6 c7
          go_wp2
          go_roundw
          case rel =>
            refine ⟨k + 1, zs ++ oneT x tl te, r, by simp, by omega, ?_, ?_, ho2, hB1.trans hu2, hz2⟩
            · have h1 := HR.out
              refine ⟨by simp only [Il.len] at h1; omega, ?_, by simp only [Il.count] at h1; omega⟩
              rw [← h1.2.1, text_cons, List.append_assoc]
            · have := Items.below (hb1.trans hu2.below) hir'
              rw [show off + (k + 1) * 8 = off + k * 8 + 8 by omega]
              exact this
          case measure => simp [intOf]; omega
end Go.Proofs.YtolbdioijbdlmaaDoor.Instr
