import Derived.Test.YtckdnhafookcgaaGreatDoorPr15
import Derived.Deep.Cut
namespace Go.Proofs.YtckdnhafookcgaaGreatDoor.Instr
end Go.Proofs.YtckdnhafookcgaaGreatDoor.Instr
namespace Go.Proofs.YtckdnhafookcgaaGreatDoor.Mod
open Go.RowKit Go.Proofs.YtckdnhafookcgaaGreatDoor.Instr
set_option linter.unusedVariables false

theorem two_boxesG (w : World) (cs zs : Array Value) (t : TypeId) : ∃ W0, W0 = (w.alloc (.cells cs t)).alloc (.cells zs t) ∧ Below w.heap.size w W0 ∧ W0.heap[w.heap.size]? = some (.cells cs t (0, 0)) ∧ W0.heap[w.heap.size + 1]? = some (.cells zs t (0, 0)) ∧ W0.heap.size = w.heap.size + 2 := by
  refine ⟨_, rfl, ((Below.refl w.heap.size w).alloc (Nat.le_refl _) _).alloc (by simp) _, ?_, ?_, by simp⟩
  · exact (((Below.refl _ _).alloc (Nat.le_refl _) _).block w.heap.size (by simp)).trans (heap_alloc_new w _)
  · have h := heap_alloc_new (w.alloc (.cells cs t)) (.cells zs t)
    rw [World.size_alloc] at h
    exact h
def Fn.own (lo hi : Nat) (w : World) (x : Fn) : Prop := ListO lo hi w x.l.a x.l.t.len x.l.t
def Gl.own (lo hi : Nat) (w : World) (x : Gl) : Prop := ListO lo hi w x.l.a x.l.t.len x.l.t
def El.own (lo hi : Nat) (w : World) (x : El) : Prop := ListO lo hi w x.l.a x.l.t.len x.l.t ∧ TagsO lo hi w x.fa x.fs
def Da.own (lo hi : Nat) (w : World) (x : Da) : Prop := ListO lo hi w x.l.a x.l.t.len x.l.t ∧ BytesO lo hi w x.ba x.bs x.bc
def kFn : Kin Fn := ⟨Fn.v, 3, Fn.bare, Fn.own, fun _ => rfl, by omega, fun s h => ListO.frame s h, fun a b h => ListO.mono a b h⟩
def kGl : Kin Gl := ⟨Gl.v, 2, Gl.bare, Gl.own, fun _ => rfl, by omega, fun s h => ListO.frame s h, fun a b h => ListO.mono a b h⟩
def kEl : Kin El := ⟨El.v, 2, El.bare, El.own, fun _ => rfl, by omega, fun s h => ⟨ListO.frame s h.1, TagsO.frame s h.2⟩, fun a b h => ⟨ListO.mono a b h.1, TagsO.mono a b h.2⟩⟩
def kDa : Kin Da := ⟨Da.v, 2, Da.bare, Da.own, fun _ => rfl, by omega, fun s h => ⟨ListO.frame s h.1, BytesO.frame s h.2⟩, fun a b h => ⟨ListO.mono a b h.1, BytesO.mono a b h.2⟩⟩
theorem lst_bare {a a' : Option Addr} {c c' : Nat} {t u : Il} (h : u.bare = t.bare) : (⟨a', c', u⟩ : Lst).bare = (⟨a, c, t⟩ : Lst).bare := by unfold Lst.bare; rw [h]
/-- What an item that is copied has. -/
def Fn.inp (w : World) (x : Fn) : Prop := ListAt w.heap.size w x.l.a x.l.t.len x.l.t ∧ x.l.t.weight ≤ 1000000000 ∧ x.l.t.len ≤ 140737488351232
set_option maxRecDepth 100000 in
set_option maxHeartbeats 4000000 in
theorem cpyFn (x : Fn) (w : World) (hi : x.inp w) :
    Calls Tryz.prog 89 #[.agg #[.int .i64 x.ty, .int .i64 x.lo, .slice x.l.a x.l.t.len x.l.c]] w fun e w' => (∃ x' : Fn, e = .returned (.agg #[.int .i64 x'.ty, .int .i64 x'.lo, .slice x'.l.a x'.l.t.len x'.l.c]) ∧ x'.own w.heap.size w'.heap.size w' ∧ x'.bare = x.bare) ∧ Below w.heap.size w w' := by
  obtain ⟨ty, lo, ⟨la, lc, lt⟩⟩ := x
  obtain ⟨hl, hw, hn⟩ := hi
  dsimp only at hl hw hn ⊢
  have HU : Hid (∀ u : Il, u.bare = lt.bare → u.len = lt.len) := hid (fun u h => by have := congrArg Il.len h; rwa [bare_len, bare_len] at this)
  obtain ⟨n, hln⟩ : ∃ n, lt.len = n := ⟨_, rfl⟩
  rw [hln] at hl hn HU ⊢
  obtain ⟨W0, hW0, hb, hr, hs, hz⟩ := two_boxesG w #[.int .i64 ty, .int .i64 lo, .slice la n lc] #[.int .i64 0, .int .i64 0, .slice none 0 0] 101
  have CL := hid (fun (W : World) (hb : Below w.heap.size w W) => copyList_any lt la n lc W hw ((hl.below hb).more hb.size) hn)
  have HB := hid hb
  have HR := hid hr
  have HS := hid hs
  have HZ := hid hz
  have HW := hid hW0
  have c2 := cs_cell hr (i := 2) rfl
  clear hl hw hn hln hb hr hs hz hW0
  go_enter Tryz.func89, Tryz.ntmps89
  go_upto_region 1 with fail
  rw [← HW.out]
  go_wp2_with fail
  refine (CL.out _ HB.out).mono ?_
  rintro r w1 ⟨⟨la1, lc1, u1, rfl, hL, hbare⟩, hb1⟩
  have HBA := hid hbare
  have rw1 := (hb1.block w.heap.size (by have := HZ.out; omega)).trans HR.out
  have sw1 := (hb1.block (w.heap.size + 1) (by have := HZ.out; omega)).trans HS.out
  have zw1 : w.heap.size + 2 ≤ w1.heap.size := by have := hb1.size; have := HZ.out; omega
  have cz := cs_cell rw1 (i := 2) rfl
  have fz := frozen_of_row w1 w.heap.size 2 _ _ rw1
  have HRa := hid rw1
  have HSa := hid sw1
  have HZa := hid zw1
  have HBa := hid (HB.out.trans (hb1.mono HB.out.size))
  have HLa := hid hL
  have HBb := hid hb1
  clear rw1 sw1 zw1 hL hb1 c2 hbare
  go_upto_region 2 with fail
  obtain ⟨w2, hw2⟩ : ∃ u, u = w1.setCell ⟨w.heap.size, 2, none⟩ (.slice la1 n lc1) := ⟨_, rfl⟩
  rw [← hw2]
  have rw2 : w2.heap[w.heap.size]? = some (.cells #[.int .i64 ty, .int .i64 lo, .slice la1 n lc1] 101 (0, 0)) := by rw [hw2]; exact heap_setCell_same w1 w.heap.size 2 _ _ _ HRa.out
  have sw2 : w2.heap[w.heap.size + 1]? = some (.cells #[.int .i64 0, .int .i64 0, .slice none 0 0] 101 (0, 0)) := by rw [hw2]; exact (Below.heap_setCell w1 ⟨w.heap.size, 2, none⟩ _ (w.heap.size + 1) (by simp)).trans HSa.out
  have ew2 : w2.heap.size = w1.heap.size := by rw [hw2]; simp [World.setCell]
  have HZ1 : Hid (w.heap.size + 2 ≤ w2.heap.size) := hid (by rw [ew2]; exact HZa.out)
  have HB1 : Hid (Below w.heap.size w w2) := hid (by rw [hw2]; exact HBa.out.setCell (by simp) _)
  have SM : Same2 (w.heap.size + 2) w1.heap.size w1 w2 := by rw [hw2]; exact Same2.set (.inl (by omega))
  have HO1 : Hid (ListO (w.heap.size + 2) w2.heap.size w2 la1 n u1) := hid (ListO.mono (Nat.le_refl _) (Nat.le_of_eq ew2.symm) (ListO.frame SM (ListO.mono (by have := HZ.out; omega) (Nat.le_refl _) HLa.out)))
  have HR1 := hid rw2
  have HS1 := hid sw2
  have x0 := cs_cell rw2 (i := 0) rfl
  have y0 := cs_cell sw2 (i := 0) rfl
  have v0 := frozen_of_row w2 (w.heap.size + 1) 0 _ _ sw2
  have x1 := cs_cell rw2 (i := 1) rfl
  have y1 := cs_cell sw2 (i := 1) rfl
  have v1 := frozen_of_row w2 (w.heap.size + 1) 1 _ _ sw2
  have x2 := cs_cell rw2 (i := 2) rfl
  have y2 := cs_cell sw2 (i := 2) rfl
  have v2 := frozen_of_row w2 (w.heap.size + 1) 2 _ _ sw2
  clear hw2 rw2 sw2 ew2 SM cz fz HRa HSa HZa HBa HLa HBb
  go_wp2
  have E8 : (((w2.setCell ⟨w.heap.size + 1, 0, none⟩ (.int .i64 ty)).setCell ⟨w.heap.size + 1, 1, none⟩ (.int .i64 lo)).setCell ⟨w.heap.size + 1, 2, none⟩ (.slice la1 n lc1)).heap.size = w2.heap.size := by simp [World.setCell]
  have F8 : Same2 (w.heap.size + 2) w2.heap.size w2 (((w2.setCell ⟨w.heap.size + 1, 0, none⟩ (.int .i64 ty)).setCell ⟨w.heap.size + 1, 1, none⟩ (.int .i64 lo)).setCell ⟨w.heap.size + 1, 2, none⟩ (.slice la1 n lc1)) := ((Same2.set (b := w.heap.size + 1) (.inl (by omega))).trans (Same2.set (b := w.heap.size + 1) (.inl (by omega)))).trans (Same2.set (b := w.heap.size + 1) (.inl (by omega)))
  have R8 := (heap_setCell_same _ (w.heap.size + 1) 2 _ _ (.slice la1 n lc1) (heap_setCell_same _ (w.heap.size + 1) 1 _ _ (.int .i64 lo) (heap_setCell_same _ (w.heap.size + 1) 0 _ _ (.int .i64 ty) HS1.out)))
  have B8 := (((HB1.out.setCell (p := ⟨w.heap.size + 1, 0, none⟩) (by simp) (.int .i64 ty)).setCell (p := ⟨w.heap.size + 1, 1, none⟩) (by simp) (.int .i64 lo)).setCell (p := ⟨w.heap.size + 1, 2, none⟩) (by simp) (.slice la1 n lc1))
  obtain ⟨w8, hw8⟩ : ∃ w8, w8 = (((w2.setCell ⟨w.heap.size + 1, 0, none⟩ (.int .i64 ty)).setCell ⟨w.heap.size + 1, 1, none⟩ (.int .i64 lo)).setCell ⟨w.heap.size + 1, 2, none⟩ (.slice la1 n lc1)) := ⟨_, rfl⟩
  rw [← hw8] at E8 F8 R8 B8 ⊢
  have hlu := HU.out u1 HBA.out
  have KHO1 : ListO w.heap.size w8.heap.size w8 la1 n u1 := ListO.mono (by omega) (by omega) (ListO.frame F8 HO1.out)
  refine bodyPost_ret (v := .agg #[.int .i64 ty, .int .i64 lo, .slice la1 n lc1]) (results_cell_row Tryz.results89 _ w8 (w.heap.size + 1) _ _ _ _ rfl R8 Tryz.underlying101 rfl (by kernel_rfl)) rfl ⟨⟨⟨ty, lo, ⟨la1, lc1, u1⟩⟩, by dsimp only; rw [hlu], (by show Fn.own _ _ _ _; unfold Fn.own; dsimp only; rw [hlu]; exact KHO1), congrArg (Fn.mk ty lo) (lst_bare HBA.out)⟩, B8⟩
/-- What an item that is copied has. -/
def Gl.inp (w : World) (x : Gl) : Prop := ListAt w.heap.size w x.l.a x.l.t.len x.l.t ∧ x.l.t.weight ≤ 1000000000 ∧ x.l.t.len ≤ 140737488351232
set_option maxRecDepth 100000 in
set_option maxHeartbeats 4000000 in
theorem cpyGl (x : Gl) (w : World) (hi : x.inp w) :
    Calls Tryz.prog 92 #[.agg #[.bool x.mu, .slice x.l.a x.l.t.len x.l.c]] w fun e w' => (∃ x' : Gl, e = .returned (.agg #[.bool x'.mu, .slice x'.l.a x'.l.t.len x'.l.c]) ∧ x'.own w.heap.size w'.heap.size w' ∧ x'.bare = x.bare) ∧ Below w.heap.size w w' := by
  obtain ⟨mu, ⟨la, lc, lt⟩⟩ := x
  obtain ⟨hl, hw, hn⟩ := hi
  dsimp only at hl hw hn ⊢
  have HU : Hid (∀ u : Il, u.bare = lt.bare → u.len = lt.len) := hid (fun u h => by have := congrArg Il.len h; rwa [bare_len, bare_len] at this)
  obtain ⟨n, hln⟩ : ∃ n, lt.len = n := ⟨_, rfl⟩
  rw [hln] at hl hn HU ⊢
  obtain ⟨W0, hW0, hb, hr, hs, hz⟩ := two_boxesG w #[.bool mu, .slice la n lc] #[.bool false, .slice none 0 0] 94
  have CL := hid (fun (W : World) (hb : Below w.heap.size w W) => copyList_any lt la n lc W hw ((hl.below hb).more hb.size) hn)
  have HB := hid hb
  have HR := hid hr
  have HS := hid hs
  have HZ := hid hz
  have HW := hid hW0
  have c1 := cs_cell hr (i := 1) rfl
  clear hl hw hn hln hb hr hs hz hW0
  go_enter Tryz.func92, Tryz.ntmps92
  go_upto_region 1 with fail
  rw [← HW.out]
  go_wp2_with fail
  refine (CL.out _ HB.out).mono ?_
  rintro r w1 ⟨⟨la1, lc1, u1, rfl, hL, hbare⟩, hb1⟩
  have HBA := hid hbare
  have rw1 := (hb1.block w.heap.size (by have := HZ.out; omega)).trans HR.out
  have sw1 := (hb1.block (w.heap.size + 1) (by have := HZ.out; omega)).trans HS.out
  have zw1 : w.heap.size + 2 ≤ w1.heap.size := by have := hb1.size; have := HZ.out; omega
  have cz := cs_cell rw1 (i := 1) rfl
  have fz := frozen_of_row w1 w.heap.size 1 _ _ rw1
  have HRa := hid rw1
  have HSa := hid sw1
  have HZa := hid zw1
  have HBa := hid (HB.out.trans (hb1.mono HB.out.size))
  have HLa := hid hL
  have HBb := hid hb1
  clear rw1 sw1 zw1 hL hb1 c1 hbare
  go_upto_region 2 with fail
  obtain ⟨w2, hw2⟩ : ∃ u, u = w1.setCell ⟨w.heap.size, 1, none⟩ (.slice la1 n lc1) := ⟨_, rfl⟩
  rw [← hw2]
  have rw2 : w2.heap[w.heap.size]? = some (.cells #[.bool mu, .slice la1 n lc1] 94 (0, 0)) := by rw [hw2]; exact heap_setCell_same w1 w.heap.size 1 _ _ _ HRa.out
  have sw2 : w2.heap[w.heap.size + 1]? = some (.cells #[.bool false, .slice none 0 0] 94 (0, 0)) := by rw [hw2]; exact (Below.heap_setCell w1 ⟨w.heap.size, 1, none⟩ _ (w.heap.size + 1) (by simp)).trans HSa.out
  have ew2 : w2.heap.size = w1.heap.size := by rw [hw2]; simp [World.setCell]
  have HZ1 : Hid (w.heap.size + 2 ≤ w2.heap.size) := hid (by rw [ew2]; exact HZa.out)
  have HB1 : Hid (Below w.heap.size w w2) := hid (by rw [hw2]; exact HBa.out.setCell (by simp) _)
  have SM : Same2 (w.heap.size + 2) w1.heap.size w1 w2 := by rw [hw2]; exact Same2.set (.inl (by omega))
  have HO1 : Hid (ListO (w.heap.size + 2) w2.heap.size w2 la1 n u1) := hid (ListO.mono (Nat.le_refl _) (Nat.le_of_eq ew2.symm) (ListO.frame SM (ListO.mono (by have := HZ.out; omega) (Nat.le_refl _) HLa.out)))
  have HR1 := hid rw2
  have HS1 := hid sw2
  have x0 := cs_cell rw2 (i := 0) rfl
  have y0 := cs_cell sw2 (i := 0) rfl
  have v0 := frozen_of_row w2 (w.heap.size + 1) 0 _ _ sw2
  have x1 := cs_cell rw2 (i := 1) rfl
  have y1 := cs_cell sw2 (i := 1) rfl
  have v1 := frozen_of_row w2 (w.heap.size + 1) 1 _ _ sw2
  clear hw2 rw2 sw2 ew2 SM cz fz HRa HSa HZa HBa HLa HBb
  go_wp2
  have E8 : ((w2.setCell ⟨w.heap.size + 1, 0, none⟩ (.bool mu)).setCell ⟨w.heap.size + 1, 1, none⟩ (.slice la1 n lc1)).heap.size = w2.heap.size := by simp [World.setCell]
  have F8 : Same2 (w.heap.size + 2) w2.heap.size w2 ((w2.setCell ⟨w.heap.size + 1, 0, none⟩ (.bool mu)).setCell ⟨w.heap.size + 1, 1, none⟩ (.slice la1 n lc1)) := (Same2.set (b := w.heap.size + 1) (.inl (by omega))).trans (Same2.set (b := w.heap.size + 1) (.inl (by omega)))
  have R8 := (heap_setCell_same _ (w.heap.size + 1) 1 _ _ (.slice la1 n lc1) (heap_setCell_same _ (w.heap.size + 1) 0 _ _ (.bool mu) HS1.out))
  have B8 := ((HB1.out.setCell (p := ⟨w.heap.size + 1, 0, none⟩) (by simp) (.bool mu)).setCell (p := ⟨w.heap.size + 1, 1, none⟩) (by simp) (.slice la1 n lc1))
  obtain ⟨w8, hw8⟩ : ∃ w8, w8 = ((w2.setCell ⟨w.heap.size + 1, 0, none⟩ (.bool mu)).setCell ⟨w.heap.size + 1, 1, none⟩ (.slice la1 n lc1)) := ⟨_, rfl⟩
  rw [← hw8] at E8 F8 R8 B8 ⊢
  have hlu := HU.out u1 HBA.out
  have KHO1 : ListO w.heap.size w8.heap.size w8 la1 n u1 := ListO.mono (by omega) (by omega) (ListO.frame F8 HO1.out)
  refine bodyPost_ret (v := .agg #[.bool mu, .slice la1 n lc1]) (results_cell_row Tryz.results92 _ w8 (w.heap.size + 1) _ _ _ _ rfl R8 Tryz.underlying94 rfl (by kernel_rfl)) rfl ⟨⟨⟨mu, ⟨la1, lc1, u1⟩⟩, by dsimp only; rw [hlu], (by show Gl.own _ _ _ _; unfold Gl.own; dsimp only; rw [hlu]; exact KHO1), congrArg (Gl.mk mu) (lst_bare HBA.out)⟩, B8⟩
/-- What an item that is copied has. -/
def El.inp (w : World) (x : El) : Prop := ListAt w.heap.size w x.l.a x.l.t.len x.l.t ∧ x.l.t.weight ≤ 1000000000 ∧ x.l.t.len ≤ 140737488351232 ∧ TagsAt w.heap.size w x.fa x.fs ∧ x.fs.length ≤ 1000000000
set_option maxRecDepth 100000 in
set_option maxHeartbeats 4000000 in
theorem cpyEl (x : El) (w : World) (hi : x.inp w) :
    Calls Tryz.prog 95 #[.agg #[.slice x.l.a x.l.t.len x.l.c, .slice x.fa x.fs.length x.fc]] w fun e w' => (∃ x' : El, e = .returned (.agg #[.slice x'.l.a x'.l.t.len x'.l.c, .slice x'.fa x'.fs.length x'.fc]) ∧ x'.own w.heap.size w'.heap.size w' ∧ x'.bare = x.bare) ∧ Below w.heap.size w w' := by
  obtain ⟨⟨la, lc, lt⟩, fa, fc, fs⟩ := x
  obtain ⟨hl, hw, hn, h4, h5⟩ := hi
  dsimp only at hl hw hn h4 h5 ⊢
  have HU : Hid (∀ u : Il, u.bare = lt.bare → u.len = lt.len) := hid (fun u h => by have := congrArg Il.len h; rwa [bare_len, bare_len] at this)
  obtain ⟨n, hln⟩ : ∃ n, lt.len = n := ⟨_, rfl⟩
  rw [hln] at hl hn HU ⊢
  obtain ⟨W0, hW0, hb, hr, hs, hz⟩ := two_boxesG w #[.slice la n lc, .slice fa fs.length fc] #[.slice none 0 0, .slice none 0 0] 109
  have CL := hid (fun (W : World) (hb : Below w.heap.size w W) => copyList_any lt la n lc W hw ((hl.below hb).more hb.size) hn)
  have CT := hid (fun (W : World) (hb : Below w.heap.size w W) => clone_u4 W fa fs.length fc (oneU fs) (by unfold oneU; rw [List.length_map]) ((rows_tags (h4.below hb)).more hb.size) (oneU_len fs) (oneU_one fs) (by unfold oneU; rw [List.length_map]; exact h5))
  have HB := hid hb
  have HR := hid hr
  have HS := hid hs
  have HZ := hid hz
  have HW := hid hW0
  have c0 := cs_cell hr (i := 0) rfl
  clear hl hw hn hln hb hr hs hz hW0 h4 h5
  go_enter Tryz.func95, Tryz.ntmps95
  go_upto_region 1 with fail
  rw [← HW.out]
  go_wp2_with fail
  refine (CL.out _ HB.out).mono ?_
  rintro r w1 ⟨⟨la1, lc1, u1, rfl, hL, hbare⟩, hb1⟩
  have HBA := hid hbare
  have rw1 := (hb1.block w.heap.size (by have := HZ.out; omega)).trans HR.out
  have sw1 := (hb1.block (w.heap.size + 1) (by have := HZ.out; omega)).trans HS.out
  have zw1 : w.heap.size + 2 ≤ w1.heap.size := by have := hb1.size; have := HZ.out; omega
  have cz := cs_cell rw1 (i := 0) rfl
  have fz := frozen_of_row w1 w.heap.size 0 _ _ rw1
  have HRa := hid rw1
  have HSa := hid sw1
  have HZa := hid zw1
  have HBa := hid (HB.out.trans (hb1.mono HB.out.size))
  have HLa := hid hL
  have HBb := hid hb1
  clear rw1 sw1 zw1 hL hb1 c0 hbare
  go_upto_region 2 with fail
  obtain ⟨w2, hw2⟩ : ∃ u, u = w1.setCell ⟨w.heap.size, 0, none⟩ (.slice la1 n lc1) := ⟨_, rfl⟩
  rw [← hw2]
  have rw2 : w2.heap[w.heap.size]? = some (.cells #[.slice la1 n lc1, .slice fa fs.length fc] 109 (0, 0)) := by rw [hw2]; exact heap_setCell_same w1 w.heap.size 0 _ _ _ HRa.out
  have sw2 : w2.heap[w.heap.size + 1]? = some (.cells #[.slice none 0 0, .slice none 0 0] 109 (0, 0)) := by rw [hw2]; exact (Below.heap_setCell w1 ⟨w.heap.size, 0, none⟩ _ (w.heap.size + 1) (by simp)).trans HSa.out
  have ew2 : w2.heap.size = w1.heap.size := by rw [hw2]; simp [World.setCell]
  have HZ1 : Hid (w.heap.size + 2 ≤ w2.heap.size) := hid (by rw [ew2]; exact HZa.out)
  have HB1 : Hid (Below w.heap.size w w2) := hid (by rw [hw2]; exact HBa.out.setCell (by simp) _)
  have SM : Same2 (w.heap.size + 2) w1.heap.size w1 w2 := by rw [hw2]; exact Same2.set (.inl (by omega))
  have HO1 : Hid (ListO (w.heap.size + 2) w2.heap.size w2 la1 n u1) := hid (ListO.mono (Nat.le_refl _) (Nat.le_of_eq ew2.symm) (ListO.frame SM (ListO.mono (by have := HZ.out; omega) (Nat.le_refl _) HLa.out)))
  have HR1 := hid rw2
  have HS1 := hid sw2
  have c1 := cs_cell rw2 (i := 1) rfl
  clear hw2 rw2 sw2 ew2 SM cz fz HRa HSa HZa HBa HLa HBb
  go_wp2_with fail
  refine (CT.out _ HB1.out).mono ?_
  rintro r w3 ⟨v, rfl, ho, hb2⟩
  obtain ⟨fa1, fc1, rfl, hL⟩ := own_tags ho
  have rw3 := (hb2.block w.heap.size (by have := HZ1.out; omega)).trans HR1.out
  have sw3 := (hb2.block (w.heap.size + 1) (by have := HZ1.out; omega)).trans HS1.out
  have zw3 : w.heap.size + 2 ≤ w3.heap.size := by have := hb2.size; have := HZ1.out; omega
  have cz := cs_cell rw3 (i := 1) rfl
  have fz := frozen_of_row w3 w.heap.size 1 _ _ rw3
  have HRa := hid rw3
  have HSa := hid sw3
  have HZa := hid zw3
  have HBa := hid (HB1.out.trans (hb2.mono HB1.out.size))
  have HLa := hid hL
  have HBb := hid hb2
  clear rw3 sw3 zw3 hL hb2 c1 ho
  go_upto_region 3 with fail
  obtain ⟨w4, hw4⟩ : ∃ u, u = w3.setCell ⟨w.heap.size, 1, none⟩ (.slice fa1 fs.length fc1) := ⟨_, rfl⟩
  rw [← hw4]
  have rw4 : w4.heap[w.heap.size]? = some (.cells #[.slice la1 n lc1, .slice fa1 fs.length fc1] 109 (0, 0)) := by rw [hw4]; exact heap_setCell_same w3 w.heap.size 1 _ _ _ HRa.out
  have sw4 : w4.heap[w.heap.size + 1]? = some (.cells #[.slice none 0 0, .slice none 0 0] 109 (0, 0)) := by rw [hw4]; exact (Below.heap_setCell w3 ⟨w.heap.size, 1, none⟩ _ (w.heap.size + 1) (by simp)).trans HSa.out
  have ew4 : w4.heap.size = w3.heap.size := by rw [hw4]; simp [World.setCell]
  have HZ2 : Hid (w.heap.size + 2 ≤ w4.heap.size) := hid (by rw [ew4]; exact HZa.out)
  have HB2 : Hid (Below w.heap.size w w4) := hid (by rw [hw4]; exact HBa.out.setCell (by simp) _)
  have SM : Same2 (w.heap.size + 2) w3.heap.size w3 w4 := by rw [hw4]; exact Same2.set (.inl (by omega))
  have HO1 : Hid (ListO (w.heap.size + 2) w4.heap.size w4 la1 n u1) := hid (ListO.mono (Nat.le_refl _) (by rw [ew4]; exact HBb.out.size) (HO1.out.frame ((Same2.of_below HBb.out (Nat.le_refl _)).trans (fun q q1 q2 => SM q q1 (Nat.lt_of_lt_of_le q2 HBb.out.size)))))
  have HO2 : Hid (TagsO (w.heap.size + 2) w4.heap.size w4 fa1 fs) := hid (TagsO.mono (Nat.le_refl _) (Nat.le_of_eq ew4.symm) (TagsO.frame SM (TagsO.mono (by have := HZ1.out; omega) (Nat.le_refl _) HLa.out)))
  have HR2 := hid rw4
  have HS2 := hid sw4
  have x0 := cs_cell rw4 (i := 0) rfl
  have y0 := cs_cell sw4 (i := 0) rfl
  have v0 := frozen_of_row w4 (w.heap.size + 1) 0 _ _ sw4
  have x1 := cs_cell rw4 (i := 1) rfl
  have y1 := cs_cell sw4 (i := 1) rfl
  have v1 := frozen_of_row w4 (w.heap.size + 1) 1 _ _ sw4
  clear hw4 rw4 sw4 ew4 SM cz fz HRa HSa HZa HBa HLa HBb
  go_wp2
  have E8 : ((w4.setCell ⟨w.heap.size + 1, 0, none⟩ (.slice la1 n lc1)).setCell ⟨w.heap.size + 1, 1, none⟩ (.slice fa1 fs.length fc1)).heap.size = w4.heap.size := by simp [World.setCell]
  have F8 : Same2 (w.heap.size + 2) w4.heap.size w4 ((w4.setCell ⟨w.heap.size + 1, 0, none⟩ (.slice la1 n lc1)).setCell ⟨w.heap.size + 1, 1, none⟩ (.slice fa1 fs.length fc1)) := (Same2.set (b := w.heap.size + 1) (.inl (by omega))).trans (Same2.set (b := w.heap.size + 1) (.inl (by omega)))
  have R8 := (heap_setCell_same _ (w.heap.size + 1) 1 _ _ (.slice fa1 fs.length fc1) (heap_setCell_same _ (w.heap.size + 1) 0 _ _ (.slice la1 n lc1) HS2.out))
  have B8 := ((HB2.out.setCell (p := ⟨w.heap.size + 1, 0, none⟩) (by simp) (.slice la1 n lc1)).setCell (p := ⟨w.heap.size + 1, 1, none⟩) (by simp) (.slice fa1 fs.length fc1))
  obtain ⟨w8, hw8⟩ : ∃ w8, w8 = ((w4.setCell ⟨w.heap.size + 1, 0, none⟩ (.slice la1 n lc1)).setCell ⟨w.heap.size + 1, 1, none⟩ (.slice fa1 fs.length fc1)) := ⟨_, rfl⟩
  rw [← hw8] at E8 F8 R8 B8 ⊢
  have hlu := HU.out u1 HBA.out
  have KHO1 : ListO w.heap.size w8.heap.size w8 la1 n u1 := ListO.mono (by omega) (by omega) (ListO.frame F8 HO1.out)
  have KHO2 : TagsO w.heap.size w8.heap.size w8 fa1 fs := TagsO.mono (by omega) (by omega) (TagsO.frame F8 HO2.out)
  refine bodyPost_ret (v := .agg #[.slice la1 n lc1, .slice fa1 fs.length fc1]) (results_cell_row Tryz.results95 _ w8 (w.heap.size + 1) _ _ _ _ rfl R8 Tryz.underlying109 rfl (by kernel_rfl)) rfl ⟨⟨⟨⟨la1, lc1, u1⟩, fa1, fc1, fs⟩, by dsimp only; rw [hlu], (by show El.own _ _ _ _; unfold El.own; dsimp only; rw [hlu]; exact ⟨KHO1, KHO2⟩), (by unfold El.bare; rw [lst_bare (a := la) (c := lc) HBA.out])⟩, B8⟩
/-- What an item that is copied has. -/
def Da.inp (w : World) (x : Da) : Prop := ListAt w.heap.size w x.l.a x.l.t.len x.l.t ∧ x.l.t.weight ≤ 1000000000 ∧ x.l.t.len ≤ 140737488351232 ∧ BytesAt w.heap.size w x.ba x.bs ∧ x.bs.length ≤ 1000000000
set_option maxRecDepth 100000 in
set_option maxHeartbeats 4000000 in
theorem cpyDa (x : Da) (w : World) (hi : x.inp w) :
    Calls Tryz.prog 97 #[.agg #[.slice x.l.a x.l.t.len x.l.c, .slice x.ba x.bs.length x.bc]] w fun e w' => (∃ x' : Da, e = .returned (.agg #[.slice x'.l.a x'.l.t.len x'.l.c, .slice x'.ba x'.bs.length x'.bc]) ∧ x'.own w.heap.size w'.heap.size w' ∧ x'.bare = x.bare) ∧ Below w.heap.size w w' := by
  obtain ⟨⟨la, lc, lt⟩, ba, bc, bs⟩ := x
  obtain ⟨hl, hw, hn, h4, h5⟩ := hi
  dsimp only at hl hw hn h4 h5 ⊢
  have HU : Hid (∀ u : Il, u.bare = lt.bare → u.len = lt.len) := hid (fun u h => by have := congrArg Il.len h; rwa [bare_len, bare_len] at this)
  obtain ⟨n, hln⟩ : ∃ n, lt.len = n := ⟨_, rfl⟩
  rw [hln] at hl hn HU ⊢
  obtain ⟨W0, hW0, hb, hr, hs, hz⟩ := two_boxesG w #[.slice la n lc, .slice ba bs.length bc] #[.slice none 0 0, .slice none 0 0] 88
  have CL := hid (fun (W : World) (hb : Below w.heap.size w W) => copyList_any lt la n lc W hw ((hl.below hb).more hb.size) hn)
  have CT := hid (fun (W : World) (hb : Below w.heap.size w W) => clone_bytes W ba bs.length bc bs rfl ((h4.below hb).more hb.size) h5)
  have HB := hid hb
  have HR := hid hr
  have HS := hid hs
  have HZ := hid hz
  have HW := hid hW0
  have c0 := cs_cell hr (i := 0) rfl
  clear hl hw hn hln hb hr hs hz hW0 h4 h5
  go_enter Tryz.func97, Tryz.ntmps97
  go_upto_region 1 with fail
  rw [← HW.out]
  go_wp2_with fail
  refine (CL.out _ HB.out).mono ?_
  rintro r w1 ⟨⟨la1, lc1, u1, rfl, hL, hbare⟩, hb1⟩
  have HBA := hid hbare
  have rw1 := (hb1.block w.heap.size (by have := HZ.out; omega)).trans HR.out
  have sw1 := (hb1.block (w.heap.size + 1) (by have := HZ.out; omega)).trans HS.out
  have zw1 : w.heap.size + 2 ≤ w1.heap.size := by have := hb1.size; have := HZ.out; omega
  have cz := cs_cell rw1 (i := 0) rfl
  have fz := frozen_of_row w1 w.heap.size 0 _ _ rw1
  have HRa := hid rw1
  have HSa := hid sw1
  have HZa := hid zw1
  have HBa := hid (HB.out.trans (hb1.mono HB.out.size))
  have HLa := hid hL
  have HBb := hid hb1
  clear rw1 sw1 zw1 hL hb1 c0 hbare
  go_upto_region 2 with fail
  obtain ⟨w2, hw2⟩ : ∃ u, u = w1.setCell ⟨w.heap.size, 0, none⟩ (.slice la1 n lc1) := ⟨_, rfl⟩
  rw [← hw2]
  have rw2 : w2.heap[w.heap.size]? = some (.cells #[.slice la1 n lc1, .slice ba bs.length bc] 88 (0, 0)) := by rw [hw2]; exact heap_setCell_same w1 w.heap.size 0 _ _ _ HRa.out
  have sw2 : w2.heap[w.heap.size + 1]? = some (.cells #[.slice none 0 0, .slice none 0 0] 88 (0, 0)) := by rw [hw2]; exact (Below.heap_setCell w1 ⟨w.heap.size, 0, none⟩ _ (w.heap.size + 1) (by simp)).trans HSa.out
  have ew2 : w2.heap.size = w1.heap.size := by rw [hw2]; simp [World.setCell]
  have HZ1 : Hid (w.heap.size + 2 ≤ w2.heap.size) := hid (by rw [ew2]; exact HZa.out)
  have HB1 : Hid (Below w.heap.size w w2) := hid (by rw [hw2]; exact HBa.out.setCell (by simp) _)
  have SM : Same2 (w.heap.size + 2) w1.heap.size w1 w2 := by rw [hw2]; exact Same2.set (.inl (by omega))
  have HO1 : Hid (ListO (w.heap.size + 2) w2.heap.size w2 la1 n u1) := hid (ListO.mono (Nat.le_refl _) (Nat.le_of_eq ew2.symm) (ListO.frame SM (ListO.mono (by have := HZ.out; omega) (Nat.le_refl _) HLa.out)))
  have HR1 := hid rw2
  have HS1 := hid sw2
  have c1 := cs_cell rw2 (i := 1) rfl
  clear hw2 rw2 sw2 ew2 SM cz fz HRa HSa HZa HBa HLa HBb
  go_wp2_with fail
  refine (CT.out _ HB1.out).mono ?_
  rintro r w3 ⟨ba1, bc1, rfl, hL, hb2⟩
  have rw3 := (hb2.block w.heap.size (by have := HZ1.out; omega)).trans HR1.out
  have sw3 := (hb2.block (w.heap.size + 1) (by have := HZ1.out; omega)).trans HS1.out
  have zw3 : w.heap.size + 2 ≤ w3.heap.size := by have := hb2.size; have := HZ1.out; omega
  have cz := cs_cell rw3 (i := 1) rfl
  have fz := frozen_of_row w3 w.heap.size 1 _ _ rw3
  have HRa := hid rw3
  have HSa := hid sw3
  have HZa := hid zw3
  have HBa := hid (HB1.out.trans (hb2.mono HB1.out.size))
  have HLa := hid hL
  have HBb := hid hb2
  clear rw3 sw3 zw3 hL hb2 c1
  go_upto_region 3 with fail
  obtain ⟨w4, hw4⟩ : ∃ u, u = w3.setCell ⟨w.heap.size, 1, none⟩ (.slice ba1 bs.length bc1) := ⟨_, rfl⟩
  rw [← hw4]
  have rw4 : w4.heap[w.heap.size]? = some (.cells #[.slice la1 n lc1, .slice ba1 bs.length bc1] 88 (0, 0)) := by rw [hw4]; exact heap_setCell_same w3 w.heap.size 1 _ _ _ HRa.out
  have sw4 : w4.heap[w.heap.size + 1]? = some (.cells #[.slice none 0 0, .slice none 0 0] 88 (0, 0)) := by rw [hw4]; exact (Below.heap_setCell w3 ⟨w.heap.size, 1, none⟩ _ (w.heap.size + 1) (by simp)).trans HSa.out
  have ew4 : w4.heap.size = w3.heap.size := by rw [hw4]; simp [World.setCell]
  have HZ2 : Hid (w.heap.size + 2 ≤ w4.heap.size) := hid (by rw [ew4]; exact HZa.out)
  have HB2 : Hid (Below w.heap.size w w4) := hid (by rw [hw4]; exact HBa.out.setCell (by simp) _)
  have SM : Same2 (w.heap.size + 2) w3.heap.size w3 w4 := by rw [hw4]; exact Same2.set (.inl (by omega))
  have HO1 : Hid (ListO (w.heap.size + 2) w4.heap.size w4 la1 n u1) := hid (ListO.mono (Nat.le_refl _) (by rw [ew4]; exact HBb.out.size) (HO1.out.frame ((Same2.of_below HBb.out (Nat.le_refl _)).trans (fun q q1 q2 => SM q q1 (Nat.lt_of_lt_of_le q2 HBb.out.size)))))
  have HO2 : Hid (BytesO (w.heap.size + 2) w4.heap.size w4 ba1 bs bc1) := hid (BytesO.mono (Nat.le_refl _) (Nat.le_of_eq ew4.symm) (BytesO.frame SM (BytesO.mono (by have := HZ1.out; omega) (Nat.le_refl _) HLa.out)))
  have HR2 := hid rw4
  have HS2 := hid sw4
  have x0 := cs_cell rw4 (i := 0) rfl
  have y0 := cs_cell sw4 (i := 0) rfl
  have v0 := frozen_of_row w4 (w.heap.size + 1) 0 _ _ sw4
  have x1 := cs_cell rw4 (i := 1) rfl
  have y1 := cs_cell sw4 (i := 1) rfl
  have v1 := frozen_of_row w4 (w.heap.size + 1) 1 _ _ sw4
  clear hw4 rw4 sw4 ew4 SM cz fz HRa HSa HZa HBa HLa HBb
  go_wp2
  have E8 : ((w4.setCell ⟨w.heap.size + 1, 0, none⟩ (.slice la1 n lc1)).setCell ⟨w.heap.size + 1, 1, none⟩ (.slice ba1 bs.length bc1)).heap.size = w4.heap.size := by simp [World.setCell]
  have F8 : Same2 (w.heap.size + 2) w4.heap.size w4 ((w4.setCell ⟨w.heap.size + 1, 0, none⟩ (.slice la1 n lc1)).setCell ⟨w.heap.size + 1, 1, none⟩ (.slice ba1 bs.length bc1)) := (Same2.set (b := w.heap.size + 1) (.inl (by omega))).trans (Same2.set (b := w.heap.size + 1) (.inl (by omega)))
  have R8 := (heap_setCell_same _ (w.heap.size + 1) 1 _ _ (.slice ba1 bs.length bc1) (heap_setCell_same _ (w.heap.size + 1) 0 _ _ (.slice la1 n lc1) HS2.out))
  have B8 := ((HB2.out.setCell (p := ⟨w.heap.size + 1, 0, none⟩) (by simp) (.slice la1 n lc1)).setCell (p := ⟨w.heap.size + 1, 1, none⟩) (by simp) (.slice ba1 bs.length bc1))
  obtain ⟨w8, hw8⟩ : ∃ w8, w8 = ((w4.setCell ⟨w.heap.size + 1, 0, none⟩ (.slice la1 n lc1)).setCell ⟨w.heap.size + 1, 1, none⟩ (.slice ba1 bs.length bc1)) := ⟨_, rfl⟩
  rw [← hw8] at E8 F8 R8 B8 ⊢
  have hlu := HU.out u1 HBA.out
  have KHO1 : ListO w.heap.size w8.heap.size w8 la1 n u1 := ListO.mono (by omega) (by omega) (ListO.frame F8 HO1.out)
  have KHO2 : BytesO w.heap.size w8.heap.size w8 ba1 bs bc1 := BytesO.mono (by omega) (by omega) (BytesO.frame F8 HO2.out)
  refine bodyPost_ret (v := .agg #[.slice la1 n lc1, .slice ba1 bs.length bc1]) (results_cell_row Tryz.results97 _ w8 (w.heap.size + 1) _ _ _ _ rfl R8 Tryz.underlying88 rfl (by kernel_rfl)) rfl ⟨⟨⟨⟨la1, lc1, u1⟩, ba1, bc1, bs⟩, by dsimp only; rw [hlu], (by show Da.own _ _ _ _; unfold Da.own; dsimp only; rw [hlu]; exact ⟨KHO1, KHO2⟩), (by unfold Da.bare; rw [lst_bare (a := la) (c := lc) HBA.out])⟩, B8⟩
end Go.Proofs.YtckdnhafookcgaaGreatDoor.Mod

namespace Go.Proofs.YtckdnhafookcgaaGreatDoor.Mod
open Go.RowKit Go.Proofs.YtckdnhafookcgaaGreatDoor.Instr
set_option linter.unusedVariables false

theorem Fn.inp.on {w W : World} {x : Fn} (h : x.inp w) (hb : Below w.heap.size w W) : x.inp W := ⟨(h.1.below hb).more hb.size, h.2.1, h.2.2⟩
theorem Fn.ones (l : List Fn) : ∀ r ∈ l.map Fn.v, ∀ u ∈ r, u.oneCell' = true := by
  intro r hr u hu
  obtain ⟨f, _, rfl⟩ := List.mem_map.1 hr
  simp only [Fn.v, Lst.val, List.mem_cons, List.not_mem_nil, or_false] at hu
  rcases hu with rfl | rfl | rfl <;> rfl
theorem Fn.lens (l : List Fn) : ∀ r ∈ l.map Fn.v, r.length = 3 := by
  intro r hr
  obtain ⟨f, _, rfl⟩ := List.mem_map.1 hr
  rfl
set_option maxRecDepth 100000 in
set_option maxHeartbeats 4000000 in
theorem mapFn (l : List Fn) (a : Option Addr) (n c : Nat) (w : World) (hn : l.length = n) (hr : Rows w.heap.size w a 3 (l.map Fn.v)) (hi : ∀ x ∈ l, x.inp w) (hl : n ≤ 1000000) :
    Calls Tryz.prog 88 #[.slice a n c, .func (.func 89) #[] #[]] w fun e w' => ∃ v, e = .returned v ∧ MapP kFn l w.heap.size w' v ∧ Below w.heap.size w w' := by
  have CC := hid (clone_fu w a n c (l.map Fn.v) (by simpa using hn) hr (Fn.lens l) (Fn.ones l) (by rw [List.length_map, hn]; omega))
  have HLN := hid hn
  have HI := hid hi
  clear hn hi hr
  go_enter Tryz.func88, Tryz.ntmps88
  go_wp2_with fail
  refine CC.out.mono ?_
  rintro r w1 ⟨v, rfl, ho, hb1⟩
  have HB1 := hid hb1
  rcases ho.row.2 with ⟨rfl, h0⟩ | ⟨g, cap, cur, rfl, hbg, hg, -⟩
  · have h00 : l = [] := by rw [List.length_map] at h0; exact List.eq_nil_of_length_eq_zero h0
    subst h00
    obtain rfl : n = 0 := by rw [← HLN.out]; rfl
    clear ho hb1 h0 CC
    go_wp2
    go_loopw [6, 12] (fun _ vi wr => vi = .int .i64 0 ∧ wr = w1) (fun _ _ _ => 0)
    case atStart => exact ⟨rfl, rfl⟩
    case round =>
      obtain ⟨rfl, rfl⟩ := hrel
      go_wp2
      go_ret
      exact ⟨_, rfl, ⟨none, 0, [], rfl, rfl, rfl, .inl rfl, .inl rfl, by simp⟩, HB1.out⟩
  · have hll : (l.map Fn.v).length = n := by rw [List.length_map]; exact HLN.out
    rw [hll] at ho ⊢
    have HV := hid (InvG.start (K := kFn) ho HLN.out w1.heap.size)
    have HG := hid (show g < w1.heap.size from (Array.getElem?_eq_some_iff.1 hg).1)
    have HBG := hid hbg
    clear ho hb1 CC hg hbg hll cur
    go_wp2
    go_loopw [6, 12] (fun _ vi wr => ∃ k : Nat, vi = .int .i64 k ∧ k ≤ n ∧ Hid (Below w.heap.size w wr) ∧ Hid (w1.heap.size ≤ wr.heap.size) ∧ Hid (InvG kFn l w1.heap.size g k wr)) (fun _ vi _ => n - (intOf vi).toNat)
    case atStart => exact ⟨0, rfl, Nat.zero_le _, HB1, Nat.le_refl _, HV⟩
    case round =>
      obtain ⟨k, rfl, hk, HB, HZ, HV⟩ := hrel
      by_cases hlt : k < n
      · have hkl : k < l.length := by rw [HLN.out]; exact hlt
        have hy := HI.out _ (List.getElem_mem hkl)
        have hleft := HV.out.left k hkl (Nat.le_refl _)
        have HST := hid (fun (W w2 : World) (x' : Fn) (h1 : Below wr.heap.size wr W) (h2 : Below W.heap.size W w2) (hc : x'.own W.heap.size w2.heap.size w2) (hbr : x'.bare = l[k].bare) => HV.out.step (K := kFn) HG.out HZ.out h1 h1.size h2 hkl hc hbr)
        have HCI := hid (fun (W : World) (h1 : Below w.heap.size w W) => cpyFn l[k] W (hy.on h1))
        obtain ⟨y, hye⟩ : ∃ y, l[k] = y := ⟨_, rfl⟩
        rw [hye] at hleft HST HCI
        obtain ⟨ty, lo, ⟨la, lc, lt⟩⟩ := y
        dsimp only at hleft HST HCI
        obtain ⟨ln, hln⟩ : ∃ ln, lt.len = ln := ⟨_, rfl⟩
        rw [hln] at HCI
        have c0 : wr.cell? ⟨g, k * 3, none⟩ = some (.int .i64 ty) := by have h := hleft 0 _ rfl; exact h
        have c1 : wr.cell? ⟨g, k * 3 + 1, none⟩ = some (.int .i64 lo) := by have h := hleft 1 _ rfl; exact h
        have c2 : wr.cell? ⟨g, k * 3 + 2, none⟩ = some (.slice la ln lc) := by have h := hleft 2 _ rfl; dsimp only [Lst.val] at h; rw [hln] at h; exact h
        have hki : (k : Int) < (n : Int) := by omega
        have HSO := hid HV.out.soft
        clear hye hleft hy HV hln
        go_wp2_with fail
        refine (HCI.out _ (HB.out.alloc (HB.out.size) _)).mono ?_
        rintro r w2 ⟨⟨x', rfl, hc, hbr⟩, hb2⟩
        have hA := (Below.refl wr.heap.size wr).alloc (Nat.le_refl _) (.cells #[.int .i64 ty, .int .i64 lo, .slice la ln lc] 101)
        have HN := hid (HST.out _ w2 x' hA hb2 hc hbr)
        have hA2 : Below wr.heap.size wr w2 := hA.trans (hb2.mono hA.size)
        have hgr : g < wr.heap.size := Nat.lt_of_lt_of_le HG.out HZ.out
        have HBF := hid (below_sets (g := g) (x'.v) (k * 3) (HB.out.trans (hA2.mono HB.out.size)) HBG.out)
        have HZF := hid (show w1.heap.size ≤ (w2.setCells g (k * 3) x'.v).heap.size by rw [sets_size]; exact Nat.le_trans HZ.out hA2.size)
        have hso2 : ∃ cs e, w2.heap[g]? = some (.cells cs e (0, 0)) := by
          obtain ⟨cs, e, h⟩ := HSO.out
          exact ⟨cs, e, (hA2.block g hgr).trans h⟩
        obtain ⟨cs, te, hcs⟩ := hso2
        have z := fun j => frozen_of_row w2 g j cs te hcs
        have z0 := z (k * 3)
        have c0 := Go.Proofs.YtckdnhafookcgaaGreatDoor.keep hA2 c0
        have z1 := z (k * 3 + 1)
        have c1 := Go.Proofs.YtckdnhafookcgaaGreatDoor.keep hA2 c1
        have z2 := z (k * 3 + 2)
        have c2 := Go.Proofs.YtckdnhafookcgaaGreatDoor.keep hA2 c2
        clear hc hb2 hA hA2 HST HCI HSO z hcs HB HZ hbr
        obtain ⟨ty1, lo1, ⟨la1, lc1, lt1⟩⟩ := x'
        dsimp only [Fn.v, Lst.val, kFn, World.setCells] at HN HBF HZF ⊢
        go_wp2
        go_roundw
        case rel => exact ⟨k + 1, by go_num, by omega, HBF, HZF, HN⟩
        case measure => simp [intOf]; omega
      · obtain rfl : k = n := by omega
        have HE := hid (InvG.end (K := kFn) (c := cap) (by rw [HLN.out]; exact HV.out) HB1.out.size HBG.out (by have := HG.out; have := HZ.out; omega))
        have HX : Hid (MapP kFn l w.heap.size wr (.slice (some ⟨g, 0, none⟩) k cap)) := hid (by have h := HE.out; rw [HLN.out] at h; exact h)
        clear HV hlt hk HE
        go_wp2
        go_ret
        exact ⟨_, rfl, HX.out, HB.out⟩
theorem Gl.inp.on {w W : World} {x : Gl} (h : x.inp w) (hb : Below w.heap.size w W) : x.inp W := ⟨(h.1.below hb).more hb.size, h.2.1, h.2.2⟩
theorem Gl.ones (l : List Gl) : ∀ r ∈ l.map Gl.v, ∀ u ∈ r, u.oneCell' = true := by
  intro r hr u hu
  obtain ⟨f, _, rfl⟩ := List.mem_map.1 hr
  simp only [Gl.v, Lst.val, List.mem_cons, List.not_mem_nil, or_false] at hu
  rcases hu with rfl | rfl <;> rfl
theorem Gl.lens (l : List Gl) : ∀ r ∈ l.map Gl.v, r.length = 2 := by
  intro r hr
  obtain ⟨f, _, rfl⟩ := List.mem_map.1 hr
  rfl
set_option maxRecDepth 100000 in
set_option maxHeartbeats 4000000 in
theorem mapGl (l : List Gl) (a : Option Addr) (n c : Nat) (w : World) (hn : l.length = n) (hr : Rows w.heap.size w a 2 (l.map Gl.v)) (hi : ∀ x ∈ l, x.inp w) (hl : n ≤ 1000000) :
    Calls Tryz.prog 91 #[.slice a n c, .func (.func 92) #[] #[]] w fun e w' => ∃ v, e = .returned v ∧ MapP kGl l w.heap.size w' v ∧ Below w.heap.size w w' := by
  have CC := hid (clone_gl w a n c (l.map Gl.v) (by simpa using hn) hr (Gl.lens l) (Gl.ones l) (by rw [List.length_map, hn]; omega))
  have HLN := hid hn
  have HI := hid hi
  clear hn hi hr
  go_enter Tryz.func91, Tryz.ntmps91
  go_wp2_with fail
  refine CC.out.mono ?_
  rintro r w1 ⟨v, rfl, ho, hb1⟩
  have HB1 := hid hb1
  rcases ho.row.2 with ⟨rfl, h0⟩ | ⟨g, cap, cur, rfl, hbg, hg, -⟩
  · have h00 : l = [] := by rw [List.length_map] at h0; exact List.eq_nil_of_length_eq_zero h0
    subst h00
    obtain rfl : n = 0 := by rw [← HLN.out]; rfl
    clear ho hb1 h0 CC
    go_wp2
    go_loopw [6, 12] (fun _ vi wr => vi = .int .i64 0 ∧ wr = w1) (fun _ _ _ => 0)
    case atStart => exact ⟨rfl, rfl⟩
    case round =>
      obtain ⟨rfl, rfl⟩ := hrel
      go_wp2
      go_ret
      exact ⟨_, rfl, ⟨none, 0, [], rfl, rfl, rfl, .inl rfl, .inl rfl, by simp⟩, HB1.out⟩
  · have hll : (l.map Gl.v).length = n := by rw [List.length_map]; exact HLN.out
    rw [hll] at ho ⊢
    have HV := hid (InvG.start (K := kGl) ho HLN.out w1.heap.size)
    have HG := hid (show g < w1.heap.size from (Array.getElem?_eq_some_iff.1 hg).1)
    have HBG := hid hbg
    clear ho hb1 CC hg hbg hll cur
    go_wp2
    go_loopw [6, 12] (fun _ vi wr => ∃ k : Nat, vi = .int .i64 k ∧ k ≤ n ∧ Hid (Below w.heap.size w wr) ∧ Hid (w1.heap.size ≤ wr.heap.size) ∧ Hid (InvG kGl l w1.heap.size g k wr)) (fun _ vi _ => n - (intOf vi).toNat)
    case atStart => exact ⟨0, rfl, Nat.zero_le _, HB1, Nat.le_refl _, HV⟩
    case round =>
      obtain ⟨k, rfl, hk, HB, HZ, HV⟩ := hrel
      by_cases hlt : k < n
      · have hkl : k < l.length := by rw [HLN.out]; exact hlt
        have hy := HI.out _ (List.getElem_mem hkl)
        have hleft := HV.out.left k hkl (Nat.le_refl _)
        have HST := hid (fun (W w2 : World) (x' : Gl) (h1 : Below wr.heap.size wr W) (h2 : Below W.heap.size W w2) (hc : x'.own W.heap.size w2.heap.size w2) (hbr : x'.bare = l[k].bare) => HV.out.step (K := kGl) HG.out HZ.out h1 h1.size h2 hkl hc hbr)
        have HCI := hid (fun (W : World) (h1 : Below w.heap.size w W) => cpyGl l[k] W (hy.on h1))
        obtain ⟨y, hye⟩ : ∃ y, l[k] = y := ⟨_, rfl⟩
        rw [hye] at hleft HST HCI
        obtain ⟨mu, ⟨la, lc, lt⟩⟩ := y
        dsimp only at hleft HST HCI
        obtain ⟨ln, hln⟩ : ∃ ln, lt.len = ln := ⟨_, rfl⟩
        rw [hln] at HCI
        have c0 : wr.cell? ⟨g, k * 2, none⟩ = some (.bool mu) := by have h := hleft 0 _ rfl; exact h
        have c1 : wr.cell? ⟨g, k * 2 + 1, none⟩ = some (.slice la ln lc) := by have h := hleft 1 _ rfl; dsimp only [Lst.val] at h; rw [hln] at h; exact h
        have hki : (k : Int) < (n : Int) := by omega
        have HSO := hid HV.out.soft
        clear hye hleft hy HV hln
        go_wp2_with fail
        refine (HCI.out _ (HB.out.alloc (HB.out.size) _)).mono ?_
        rintro r w2 ⟨⟨x', rfl, hc, hbr⟩, hb2⟩
        have hA := (Below.refl wr.heap.size wr).alloc (Nat.le_refl _) (.cells #[.bool mu, .slice la ln lc] 94)
        have HN := hid (HST.out _ w2 x' hA hb2 hc hbr)
        have hA2 : Below wr.heap.size wr w2 := hA.trans (hb2.mono hA.size)
        have hgr : g < wr.heap.size := Nat.lt_of_lt_of_le HG.out HZ.out
        have HBF := hid (below_sets (g := g) (x'.v) (k * 2) (HB.out.trans (hA2.mono HB.out.size)) HBG.out)
        have HZF := hid (show w1.heap.size ≤ (w2.setCells g (k * 2) x'.v).heap.size by rw [sets_size]; exact Nat.le_trans HZ.out hA2.size)
        have hso2 : ∃ cs e, w2.heap[g]? = some (.cells cs e (0, 0)) := by
          obtain ⟨cs, e, h⟩ := HSO.out
          exact ⟨cs, e, (hA2.block g hgr).trans h⟩
        obtain ⟨cs, te, hcs⟩ := hso2
        have z := fun j => frozen_of_row w2 g j cs te hcs
        have z0 := z (k * 2)
        have c0 := Go.Proofs.YtckdnhafookcgaaGreatDoor.keep hA2 c0
        have z1 := z (k * 2 + 1)
        have c1 := Go.Proofs.YtckdnhafookcgaaGreatDoor.keep hA2 c1
        clear hc hb2 hA hA2 HST HCI HSO z hcs HB HZ hbr
        obtain ⟨mu1, ⟨la1, lc1, lt1⟩⟩ := x'
        dsimp only [Gl.v, Lst.val, kGl, World.setCells] at HN HBF HZF ⊢
        go_wp2
        go_roundw
        case rel => exact ⟨k + 1, by go_num, by omega, HBF, HZF, HN⟩
        case measure => simp [intOf]; omega
      · obtain rfl : k = n := by omega
        have HE := hid (InvG.end (K := kGl) (c := cap) (by rw [HLN.out]; exact HV.out) HB1.out.size HBG.out (by have := HG.out; have := HZ.out; omega))
        have HX : Hid (MapP kGl l w.heap.size wr (.slice (some ⟨g, 0, none⟩) k cap)) := hid (by have h := HE.out; rw [HLN.out] at h; exact h)
        clear HV hlt hk HE
        go_wp2
        go_ret
        exact ⟨_, rfl, HX.out, HB.out⟩
theorem El.inp.on {w W : World} {x : El} (h : x.inp w) (hb : Below w.heap.size w W) : x.inp W := ⟨(h.1.below hb).more hb.size, h.2.1, h.2.2.1, (h.2.2.2.1.below hb).more hb.size, h.2.2.2.2⟩
theorem El.ones (l : List El) : ∀ r ∈ l.map El.v, ∀ u ∈ r, u.oneCell' = true := by
  intro r hr u hu
  obtain ⟨f, _, rfl⟩ := List.mem_map.1 hr
  simp only [El.v, Lst.val, List.mem_cons, List.not_mem_nil, or_false] at hu
  rcases hu with rfl | rfl <;> rfl
theorem El.lens (l : List El) : ∀ r ∈ l.map El.v, r.length = 2 := by
  intro r hr
  obtain ⟨f, _, rfl⟩ := List.mem_map.1 hr
  rfl
set_option maxRecDepth 100000 in
set_option maxHeartbeats 4000000 in
theorem mapEl (l : List El) (a : Option Addr) (n c : Nat) (w : World) (hn : l.length = n) (hr : Rows w.heap.size w a 2 (l.map El.v)) (hi : ∀ x ∈ l, x.inp w) (hl : n ≤ 1000000) :
    Calls Tryz.prog 94 #[.slice a n c, .func (.func 95) #[] #[]] w fun e w' => ∃ v, e = .returned v ∧ MapP kEl l w.heap.size w' v ∧ Below w.heap.size w w' := by
  have CC := hid (clone_el w a n c (l.map El.v) (by simpa using hn) hr (El.lens l) (El.ones l) (by rw [List.length_map, hn]; omega))
  have HLN := hid hn
  have HI := hid hi
  clear hn hi hr
  go_enter Tryz.func94, Tryz.ntmps94
  go_wp2_with fail
  refine CC.out.mono ?_
  rintro r w1 ⟨v, rfl, ho, hb1⟩
  have HB1 := hid hb1
  rcases ho.row.2 with ⟨rfl, h0⟩ | ⟨g, cap, cur, rfl, hbg, hg, -⟩
  · have h00 : l = [] := by rw [List.length_map] at h0; exact List.eq_nil_of_length_eq_zero h0
    subst h00
    obtain rfl : n = 0 := by rw [← HLN.out]; rfl
    clear ho hb1 h0 CC
    go_wp2
    go_loopw [6, 12] (fun _ vi wr => vi = .int .i64 0 ∧ wr = w1) (fun _ _ _ => 0)
    case atStart => exact ⟨rfl, rfl⟩
    case round =>
      obtain ⟨rfl, rfl⟩ := hrel
      go_wp2
      go_ret
      exact ⟨_, rfl, ⟨none, 0, [], rfl, rfl, rfl, .inl rfl, .inl rfl, by simp⟩, HB1.out⟩
  · have hll : (l.map El.v).length = n := by rw [List.length_map]; exact HLN.out
    rw [hll] at ho ⊢
    have HV := hid (InvG.start (K := kEl) ho HLN.out w1.heap.size)
    have HG := hid (show g < w1.heap.size from (Array.getElem?_eq_some_iff.1 hg).1)
    have HBG := hid hbg
    clear ho hb1 CC hg hbg hll cur
    go_wp2
    go_loopw [6, 12] (fun _ vi wr => ∃ k : Nat, vi = .int .i64 k ∧ k ≤ n ∧ Hid (Below w.heap.size w wr) ∧ Hid (w1.heap.size ≤ wr.heap.size) ∧ Hid (InvG kEl l w1.heap.size g k wr)) (fun _ vi _ => n - (intOf vi).toNat)
    case atStart => exact ⟨0, rfl, Nat.zero_le _, HB1, Nat.le_refl _, HV⟩
    case round =>
      obtain ⟨k, rfl, hk, HB, HZ, HV⟩ := hrel
      by_cases hlt : k < n
      · have hkl : k < l.length := by rw [HLN.out]; exact hlt
        have hy := HI.out _ (List.getElem_mem hkl)
        have hleft := HV.out.left k hkl (Nat.le_refl _)
        have HST := hid (fun (W w2 : World) (x' : El) (h1 : Below wr.heap.size wr W) (h2 : Below W.heap.size W w2) (hc : x'.own W.heap.size w2.heap.size w2) (hbr : x'.bare = l[k].bare) => HV.out.step (K := kEl) HG.out HZ.out h1 h1.size h2 hkl hc hbr)
        have HCI := hid (fun (W : World) (h1 : Below w.heap.size w W) => cpyEl l[k] W (hy.on h1))
        obtain ⟨y, hye⟩ : ∃ y, l[k] = y := ⟨_, rfl⟩
        rw [hye] at hleft HST HCI
        obtain ⟨⟨la, lc, lt⟩, fa, fc, fs⟩ := y
        dsimp only at hleft HST HCI
        obtain ⟨ln, hln⟩ : ∃ ln, lt.len = ln := ⟨_, rfl⟩
        rw [hln] at HCI
        have c0 : wr.cell? ⟨g, k * 2, none⟩ = some (.slice la ln lc) := by have h := hleft 0 _ rfl; dsimp only [Lst.val] at h; rw [hln] at h; exact h
        have c1 : wr.cell? ⟨g, k * 2 + 1, none⟩ = some (.slice fa fs.length fc) := by have h := hleft 1 _ rfl; exact h
        have hki : (k : Int) < (n : Int) := by omega
        have HSO := hid HV.out.soft
        clear hye hleft hy HV hln
        go_wp2_with fail
        refine (HCI.out _ (HB.out.alloc (HB.out.size) _)).mono ?_
        rintro r w2 ⟨⟨x', rfl, hc, hbr⟩, hb2⟩
        have hA := (Below.refl wr.heap.size wr).alloc (Nat.le_refl _) (.cells #[.slice la ln lc, .slice fa fs.length fc] 109)
        have HN := hid (HST.out _ w2 x' hA hb2 hc hbr)
        have hA2 : Below wr.heap.size wr w2 := hA.trans (hb2.mono hA.size)
        have hgr : g < wr.heap.size := Nat.lt_of_lt_of_le HG.out HZ.out
        have HBF := hid (below_sets (g := g) (x'.v) (k * 2) (HB.out.trans (hA2.mono HB.out.size)) HBG.out)
        have HZF := hid (show w1.heap.size ≤ (w2.setCells g (k * 2) x'.v).heap.size by rw [sets_size]; exact Nat.le_trans HZ.out hA2.size)
        have hso2 : ∃ cs e, w2.heap[g]? = some (.cells cs e (0, 0)) := by
          obtain ⟨cs, e, h⟩ := HSO.out
          exact ⟨cs, e, (hA2.block g hgr).trans h⟩
        obtain ⟨cs, te, hcs⟩ := hso2
        have z := fun j => frozen_of_row w2 g j cs te hcs
        have z0 := z (k * 2)
        have c0 := Go.Proofs.YtckdnhafookcgaaGreatDoor.keep hA2 c0
        have z1 := z (k * 2 + 1)
        have c1 := Go.Proofs.YtckdnhafookcgaaGreatDoor.keep hA2 c1
        clear hc hb2 hA hA2 HST HCI HSO z hcs HB HZ hbr
        obtain ⟨⟨la1, lc1, lt1⟩, fa1, fc1, fs1⟩ := x'
        dsimp only [El.v, Lst.val, kEl, World.setCells] at HN HBF HZF ⊢
        go_wp2
        go_roundw
        case rel => exact ⟨k + 1, by go_num, by omega, HBF, HZF, HN⟩
        case measure => simp [intOf]; omega
      · obtain rfl : k = n := by omega
        have HE := hid (InvG.end (K := kEl) (c := cap) (by rw [HLN.out]; exact HV.out) HB1.out.size HBG.out (by have := HG.out; have := HZ.out; omega))
        have HX : Hid (MapP kEl l w.heap.size wr (.slice (some ⟨g, 0, none⟩) k cap)) := hid (by have h := HE.out; rw [HLN.out] at h; exact h)
        clear HV hlt hk HE
        go_wp2
        go_ret
        exact ⟨_, rfl, HX.out, HB.out⟩
theorem Da.inp.on {w W : World} {x : Da} (h : x.inp w) (hb : Below w.heap.size w W) : x.inp W := ⟨(h.1.below hb).more hb.size, h.2.1, h.2.2.1, (h.2.2.2.1.below hb).more hb.size, h.2.2.2.2⟩
theorem Da.ones (l : List Da) : ∀ r ∈ l.map Da.v, ∀ u ∈ r, u.oneCell' = true := by
  intro r hr u hu
  obtain ⟨f, _, rfl⟩ := List.mem_map.1 hr
  simp only [Da.v, Lst.val, List.mem_cons, List.not_mem_nil, or_false] at hu
  rcases hu with rfl | rfl <;> rfl
theorem Da.lens (l : List Da) : ∀ r ∈ l.map Da.v, r.length = 2 := by
  intro r hr
  obtain ⟨f, _, rfl⟩ := List.mem_map.1 hr
  rfl
set_option maxRecDepth 100000 in
set_option maxHeartbeats 4000000 in
theorem mapDa (l : List Da) (a : Option Addr) (n c : Nat) (w : World) (hn : l.length = n) (hr : Rows w.heap.size w a 2 (l.map Da.v)) (hi : ∀ x ∈ l, x.inp w) (hl : n ≤ 1000000) :
    Calls Tryz.prog 96 #[.slice a n c, .func (.func 97) #[] #[]] w fun e w' => ∃ v, e = .returned v ∧ MapP kDa l w.heap.size w' v ∧ Below w.heap.size w w' := by
  have CC := hid (clone_da w a n c (l.map Da.v) (by simpa using hn) hr (Da.lens l) (Da.ones l) (by rw [List.length_map, hn]; omega))
  have HLN := hid hn
  have HI := hid hi
  clear hn hi hr
  go_enter Tryz.func96, Tryz.ntmps96
  go_wp2_with fail
  refine CC.out.mono ?_
  rintro r w1 ⟨v, rfl, ho, hb1⟩
  have HB1 := hid hb1
  rcases ho.row.2 with ⟨rfl, h0⟩ | ⟨g, cap, cur, rfl, hbg, hg, -⟩
  · have h00 : l = [] := by rw [List.length_map] at h0; exact List.eq_nil_of_length_eq_zero h0
    subst h00
    obtain rfl : n = 0 := by rw [← HLN.out]; rfl
    clear ho hb1 h0 CC
    go_wp2
    go_loopw [6, 12] (fun _ vi wr => vi = .int .i64 0 ∧ wr = w1) (fun _ _ _ => 0)
    case atStart => exact ⟨rfl, rfl⟩
    case round =>
      obtain ⟨rfl, rfl⟩ := hrel
      go_wp2
      go_ret
      exact ⟨_, rfl, ⟨none, 0, [], rfl, rfl, rfl, .inl rfl, .inl rfl, by simp⟩, HB1.out⟩
  · have hll : (l.map Da.v).length = n := by rw [List.length_map]; exact HLN.out
    rw [hll] at ho ⊢
    have HV := hid (InvG.start (K := kDa) ho HLN.out w1.heap.size)
    have HG := hid (show g < w1.heap.size from (Array.getElem?_eq_some_iff.1 hg).1)
    have HBG := hid hbg
    clear ho hb1 CC hg hbg hll cur
    go_wp2
    go_loopw [6, 12] (fun _ vi wr => ∃ k : Nat, vi = .int .i64 k ∧ k ≤ n ∧ Hid (Below w.heap.size w wr) ∧ Hid (w1.heap.size ≤ wr.heap.size) ∧ Hid (InvG kDa l w1.heap.size g k wr)) (fun _ vi _ => n - (intOf vi).toNat)
    case atStart => exact ⟨0, rfl, Nat.zero_le _, HB1, Nat.le_refl _, HV⟩
    case round =>
      obtain ⟨k, rfl, hk, HB, HZ, HV⟩ := hrel
      by_cases hlt : k < n
      · have hkl : k < l.length := by rw [HLN.out]; exact hlt
        have hy := HI.out _ (List.getElem_mem hkl)
        have hleft := HV.out.left k hkl (Nat.le_refl _)
        have HST := hid (fun (W w2 : World) (x' : Da) (h1 : Below wr.heap.size wr W) (h2 : Below W.heap.size W w2) (hc : x'.own W.heap.size w2.heap.size w2) (hbr : x'.bare = l[k].bare) => HV.out.step (K := kDa) HG.out HZ.out h1 h1.size h2 hkl hc hbr)
        have HCI := hid (fun (W : World) (h1 : Below w.heap.size w W) => cpyDa l[k] W (hy.on h1))
        obtain ⟨y, hye⟩ : ∃ y, l[k] = y := ⟨_, rfl⟩
        rw [hye] at hleft HST HCI
        obtain ⟨⟨la, lc, lt⟩, ba, bc, bs⟩ := y
        dsimp only at hleft HST HCI
        obtain ⟨ln, hln⟩ : ∃ ln, lt.len = ln := ⟨_, rfl⟩
        rw [hln] at HCI
        have c0 : wr.cell? ⟨g, k * 2, none⟩ = some (.slice la ln lc) := by have h := hleft 0 _ rfl; dsimp only [Lst.val] at h; rw [hln] at h; exact h
        have c1 : wr.cell? ⟨g, k * 2 + 1, none⟩ = some (.slice ba bs.length bc) := by have h := hleft 1 _ rfl; exact h
        have hki : (k : Int) < (n : Int) := by omega
        have HSO := hid HV.out.soft
        clear hye hleft hy HV hln
        go_wp2_with fail
        refine (HCI.out _ (HB.out.alloc (HB.out.size) _)).mono ?_
        rintro r w2 ⟨⟨x', rfl, hc, hbr⟩, hb2⟩
        have hA := (Below.refl wr.heap.size wr).alloc (Nat.le_refl _) (.cells #[.slice la ln lc, .slice ba bs.length bc] 88)
        have HN := hid (HST.out _ w2 x' hA hb2 hc hbr)
        have hA2 : Below wr.heap.size wr w2 := hA.trans (hb2.mono hA.size)
        have hgr : g < wr.heap.size := Nat.lt_of_lt_of_le HG.out HZ.out
        have HBF := hid (below_sets (g := g) (x'.v) (k * 2) (HB.out.trans (hA2.mono HB.out.size)) HBG.out)
        have HZF := hid (show w1.heap.size ≤ (w2.setCells g (k * 2) x'.v).heap.size by rw [sets_size]; exact Nat.le_trans HZ.out hA2.size)
        have hso2 : ∃ cs e, w2.heap[g]? = some (.cells cs e (0, 0)) := by
          obtain ⟨cs, e, h⟩ := HSO.out
          exact ⟨cs, e, (hA2.block g hgr).trans h⟩
        obtain ⟨cs, te, hcs⟩ := hso2
        have z := fun j => frozen_of_row w2 g j cs te hcs
        have z0 := z (k * 2)
        have c0 := Go.Proofs.YtckdnhafookcgaaGreatDoor.keep hA2 c0
        have z1 := z (k * 2 + 1)
        have c1 := Go.Proofs.YtckdnhafookcgaaGreatDoor.keep hA2 c1
        clear hc hb2 hA hA2 HST HCI HSO z hcs HB HZ hbr
        obtain ⟨⟨la1, lc1, lt1⟩, ba1, bc1, bs1⟩ := x'
        dsimp only [Da.v, Lst.val, kDa, World.setCells] at HN HBF HZF ⊢
        go_wp2
        go_roundw
        case rel => exact ⟨k + 1, by go_num, by omega, HBF, HZF, HN⟩
        case measure => simp [intOf]; omega
      · obtain rfl : k = n := by omega
        have HE := hid (InvG.end (K := kDa) (c := cap) (by rw [HLN.out]; exact HV.out) HB1.out.size HBG.out (by have := HG.out; have := HZ.out; omega))
        have HX : Hid (MapP kDa l w.heap.size wr (.slice (some ⟨g, 0, none⟩) k cap)) := hid (by have h := HE.out; rw [HLN.out] at h; exact h)
        clear HV hlt hk HE
        go_wp2
        go_ret
        exact ⟨_, rfl, HX.out, HB.out⟩
end Go.Proofs.YtckdnhafookcgaaGreatDoor.Mod
