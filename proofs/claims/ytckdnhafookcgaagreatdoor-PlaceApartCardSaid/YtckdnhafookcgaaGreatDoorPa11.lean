import Derived.Test.YtckdnhafookcgaaGreatDoorPa10
import Derived.Test.YtckdnhafookcgaaGreatDoorPa04
import Derived.Test.YtckdnhafookcgaaGreatDoorPa06
import Derived.Test.YtckdnhafookcgaaGreatDoorPa01
import Derived.Test.YtckdnhafookcgaaGreatDoorPa08
import Derived.Test.YtckdnhafookcgaaGreatDoorPa09
import Derived.KernelRfl
namespace Go.Proofs.YtckdnhafookcgaaGreatDoor.Instr
end Go.Proofs.YtckdnhafookcgaaGreatDoor.Instr
namespace Go.Proofs.YtckdnhafookcgaaGreatDoor.Mod
end Go.Proofs.YtckdnhafookcgaaGreatDoor.Mod
namespace Go.Proofs.YtckdnhafookcgaaGreatDoor.Val
end Go.Proofs.YtckdnhafookcgaaGreatDoor.Val
namespace Go.Proofs.YtckdnhafookcgaaGreatDoor.Num
end Go.Proofs.YtckdnhafookcgaaGreatDoor.Num
namespace Go.Proofs.YtckdnhafookcgaaGreatDoor.Kind
end Go.Proofs.YtckdnhafookcgaaGreatDoor.Kind
namespace Go.Proofs.YtckdnhafookcgaaGreatDoor.Val
open Go.RowKit Go.Shelf Go.Proofs.YtckdnhafookcgaaGreatDoor.Instr Go.Proofs.YtckdnhafookcgaaGreatDoor.Mod
set_option linter.unusedVariables false

/-- As large as the numbers' types let them be. -/
structure Rg (m : Md) : Prop where
  ei : ∀ e ∈ m.ex, 0 ≤ e.i ∧ e.i < 4294967296
  ef : ∀ e ∈ m.el, ∀ z ∈ e.fs, 0 ≤ z ∧ z < 4294967296
  sn : 0 ≤ m.sn ∧ m.sn < 4294967296
/-- What the sections' functions find in memory. -/
structure Sx (gm gn bm : Nat) (m : Md) (W : World) : Prop where
  bx : BoxAt W gm m.v
  nm : W.cell? ⟨gn, 0, none⟩ = some (.map (some bm))
  na : NamesAt W bm m.ex
  md : ModAt W.heap.size W m
  nt : Nams W
  ar : Num.Arit W
theorem Sx.on {gm gn bm : Nat} {m : Md} {W W' : World} (h : Sx gm gn bm m W) (hb : Below W.heap.size W W') : Sx gm gn bm m W' := ⟨h.bx.keep hb, Go.Proofs.YtckdnhafookcgaaGreatDoor.keep hb h.nm, h.na.below hb, h.md.on hb, h.nt.below hb, h.ar.below hb⟩
def imAt (m : Md) (k : Nat) : Imp := m.im.getD k ⟨⟨#[]⟩, ⟨#[]⟩, 0⟩
def fuAt (m : Md) (k : Nat) : Mod.Fn := m.fu.getD k ⟨0, 0, ⟨none, 0, .nil⟩⟩
def glAt (m : Md) (k : Nat) : Gl := m.gl.getD k ⟨false, ⟨none, 0, .nil⟩⟩
def elAt (m : Md) (k : Nat) : El := m.el.getD k ⟨⟨none, 0, .nil⟩, none, 0, []⟩
def daAt (m : Md) (k : Nat) : Da := m.da.getD k ⟨⟨none, 0, .nil⟩, none, 0, []⟩
/-- The error of the k-th item of the j-th section that is checked, and of which of its instructions. -/
def secE (m : Md) (j k : Nat) : Int × Int :=
  match j with
  | 0 => (typeEP m (imAt m k).ty, 0)
  | 1 => (typeEP m (fuAt m k).ty, 0)
  | 2 => ((constP (glAt m k).l.t).2, 0)
  | 3 => (exportEP m k, 0)
  | 4 => (startEP m, 0)
  | 5 => (elemEP m (elAt m k), 0)
  | 6 => Md.bodyP m k
  | _ => (dataEP m (daAt m k).l.t, 0)
def secL (m : Md) (j : Nat) : Nat :=
  match j with
  | 0 => m.im.length
  | 1 => m.fu.length
  | 2 => m.gl.length
  | 3 => m.ex.length
  | 4 => if m.st then 1 else 0
  | 5 => m.el.length
  | 6 => m.fu.length
  | _ => m.da.length
def secN (j : Nat) : Int :=
  match j with
  | 0 => 2
  | 1 => 3
  | 2 => 6
  | 3 => 7
  | 4 => 8
  | 5 => 9
  | 6 => 10
  | _ => 11
theorem held_keep12 {w w1 w2 : World} {p0 p1 p2 p3 p4 p5 p6 p7 p8 p9 p10 p11 : Addr} {v0 v1 v2 v3 v4 v5 v6 v7 v8 v9 v10 v11 : Value} (h : Below w.heap.size w w1 ∧ w1.cell? p0 = some v0 ∧ w1.cell? p1 = some v1 ∧ w1.cell? p2 = some v2 ∧ w1.cell? p3 = some v3 ∧ w1.cell? p4 = some v4 ∧ w1.cell? p5 = some v5 ∧ w1.cell? p6 = some v6 ∧ w1.cell? p7 = some v7 ∧ w1.cell? p8 = some v8 ∧ w1.cell? p9 = some v9 ∧ w1.cell? p10 = some v10 ∧ w1.cell? p11 = some v11) (hb : Below w1.heap.size w1 w2) :
    Below w.heap.size w w2 ∧ w2.cell? p0 = some v0 ∧ w2.cell? p1 = some v1 ∧ w2.cell? p2 = some v2 ∧ w2.cell? p3 = some v3 ∧ w2.cell? p4 = some v4 ∧ w2.cell? p5 = some v5 ∧ w2.cell? p6 = some v6 ∧ w2.cell? p7 = some v7 ∧ w2.cell? p8 = some v8 ∧ w2.cell? p9 = some v9 ∧ w2.cell? p10 = some v10 ∧ w2.cell? p11 = some v11 :=
  ⟨thenB h.1 hb, Go.Proofs.YtckdnhafookcgaaGreatDoor.keep hb h.2.1, Go.Proofs.YtckdnhafookcgaaGreatDoor.keep hb h.2.2.1, Go.Proofs.YtckdnhafookcgaaGreatDoor.keep hb h.2.2.2.1, Go.Proofs.YtckdnhafookcgaaGreatDoor.keep hb h.2.2.2.2.1, Go.Proofs.YtckdnhafookcgaaGreatDoor.keep hb h.2.2.2.2.2.1, Go.Proofs.YtckdnhafookcgaaGreatDoor.keep hb h.2.2.2.2.2.2.1, Go.Proofs.YtckdnhafookcgaaGreatDoor.keep hb h.2.2.2.2.2.2.2.1, Go.Proofs.YtckdnhafookcgaaGreatDoor.keep hb h.2.2.2.2.2.2.2.2.1, Go.Proofs.YtckdnhafookcgaaGreatDoor.keep hb h.2.2.2.2.2.2.2.2.2.1, Go.Proofs.YtckdnhafookcgaaGreatDoor.keep hb h.2.2.2.2.2.2.2.2.2.2.1, Go.Proofs.YtckdnhafookcgaaGreatDoor.keep hb h.2.2.2.2.2.2.2.2.2.2.2.1, Go.Proofs.YtckdnhafookcgaaGreatDoor.keep hb h.2.2.2.2.2.2.2.2.2.2.2.2⟩
set_option maxRecDepth 100000 in
set_option maxHeartbeats 4000000 in
theorem sec0_m (gm gn bm : Nat) (m : Md) (k : Nat) (W : World) (h : Sx gm gn bm m W) (hf : m.few) (hfi : Fine m) (hrg : Rg m) (hk : k < secL m 0) :
    Calls Tryz.prog 137 #[.int .i64 k, .pointer (some ⟨gm, 0, none⟩)] W fun e w' => e = .returned (.tuple #[.int .i64 (secE m 0 k).1, .int .i64 (secE m 0 k).2]) ∧ Below W.heap.size W w' := by
  change k < m.im.length at hk
  have HE : Hid (secE m 0 k = (typeEP m (imAt m k).ty, 0)) := rfl
  have hgd : imAt m k = m.im[k] := by unfold imAt; simp [hk]
  rw [hgd] at HE
  have hmem := List.getElem_mem hk
  obtain ⟨b, off, ha, hb, hcc⟩ := Mod.Rows.get h.md.im hk
  have C := hid (fun w' (hb' : Below W.heap.size W w') => typeError_m m (m.im[k].ty) hf.fit w')
  obtain ⟨x, hx⟩ : ∃ x, m.im[k] = x := ⟨_, rfl⟩
  rw [hx] at HE hcc C
  have c2 : W.cell? ⟨b, off + k * 3 + 2, none⟩ = some (.int .i64 x.ty) := hcc 2 (by omega) _ rfl
  obtain ⟨v0, v2, v3, v4, v5, v6, v7, v8, v9, v10, hv⟩ : ∃ v0 v2 v3 v4 v5 v6 v7 v8 v9 v10, m.v = #[v0, .slice m.im'.a m.im.length m.im'.c, v2, v3, v4, v5, v6, v7, v8, v9, v10] := ⟨_, _, _, _, _, _, _, _, _, _, rfl⟩
  have hbx := h.bx
  rw [hv, ha] at C hbx
  obtain ⟨n0, n1, n2, n3, n4, n5, n6, n7, n8, n9, n10⟩ := BoxAt.mod hbx
  have hki : (k : Int) < (m.im.length : Int) := by omega
  have bl := hf.fit.im
  clear h hf hfi hrg hk hgd hmem hcc hx hbx hv
  generalize m.im.length = E at *
  obtain ⟨q, hq⟩ : ∃ q, secE m 0 k = q := ⟨_, rfl⟩
  rw [hq] at HE ⊢
  have HQ := HE
  clear hq HE
  go_enter Tryz.func137, Tryz.ntmps137
  go_upto_region 1 with fail
  have hS0 : Below W.heap.size W W.drew ∧ W.drew.cell? ⟨gm, 0, none⟩ = some v0 ∧ W.drew.cell? ⟨gm, 1, none⟩ = some (.slice (some ⟨b, off, none⟩) E m.im'.c) ∧ W.drew.cell? ⟨gm, 2, none⟩ = some v2 ∧ W.drew.cell? ⟨gm, 3, none⟩ = some v3 ∧ W.drew.cell? ⟨gm, 4, none⟩ = some v4 ∧ W.drew.cell? ⟨gm, 5, none⟩ = some v5 ∧ W.drew.cell? ⟨gm, 6, none⟩ = some v6 ∧ W.drew.cell? ⟨gm, 7, none⟩ = some v7 ∧ W.drew.cell? ⟨gm, 8, none⟩ = some v8 ∧ W.drew.cell? ⟨gm, 9, none⟩ = some v9 ∧ W.drew.cell? ⟨gm, 10, none⟩ = some v10 ∧ W.drew.cell? ⟨b, off + k * 3 + 2, none⟩ = some (.int .i64 x.ty) := ⟨(Below.refl _ _).drew, n0, n1, n2, n3, n4, n5, n6, n7, n8, n9, n10, c2⟩
  clear c2 n0 n1 n2 n3 n4 n5 n6 n7 n8 n9 n10
  go_region_held3 (fun w' => Below W.heap.size W w' ∧ w'.cell? ⟨gm, 0, none⟩ = some v0 ∧ w'.cell? ⟨gm, 1, none⟩ = some (.slice (some ⟨b, off, none⟩) E m.im'.c) ∧ w'.cell? ⟨gm, 2, none⟩ = some v2 ∧ w'.cell? ⟨gm, 3, none⟩ = some v3 ∧ w'.cell? ⟨gm, 4, none⟩ = some v4 ∧ w'.cell? ⟨gm, 5, none⟩ = some v5 ∧ w'.cell? ⟨gm, 6, none⟩ = some v6 ∧ w'.cell? ⟨gm, 7, none⟩ = some v7 ∧ w'.cell? ⟨gm, 8, none⟩ = some v8 ∧ w'.cell? ⟨gm, 9, none⟩ = some v9 ∧ w'.cell? ⟨gm, 10, none⟩ = some v10 ∧ w'.cell? ⟨b, off + k * 3 + 2, none⟩ = some (.int .i64 x.ty)) (first | assumption | exact held_keep12 (by assumption) (by assumption))
    (first
      | (go_at_call 138; refine (C.out _ (Below.refl _ _).drew).mono ?_; rintro e1 w2 ⟨rfl, hb2⟩))
  have hB2 : Below W.heap.size W w2 := Stk.undrew hb2
  have HB2 := hid hB2
  clear hB2 hb2 hS0
  go_wp2
  go_ret2
  refine ⟨?_, HB2.out⟩
  rw [HQ.out]; rfl
set_option maxRecDepth 100000 in
set_option maxHeartbeats 4000000 in
theorem sec1_m (gm gn bm : Nat) (m : Md) (k : Nat) (W : World) (h : Sx gm gn bm m W) (hf : m.few) (hfi : Fine m) (hrg : Rg m) (hk : k < secL m 1) :
    Calls Tryz.prog 139 #[.int .i64 k, .pointer (some ⟨gm, 0, none⟩)] W fun e w' => e = .returned (.tuple #[.int .i64 (secE m 1 k).1, .int .i64 (secE m 1 k).2]) ∧ Below W.heap.size W w' := by
  change k < m.fu.length at hk
  have HE : Hid (secE m 1 k = (typeEP m (fuAt m k).ty, 0)) := rfl
  have hgd : fuAt m k = m.fu[k] := by unfold fuAt; simp [hk]
  rw [hgd] at HE
  have hmem := List.getElem_mem hk
  obtain ⟨b, off, ha, hb, hcc⟩ := Mod.Rows.get h.md.fu hk
  have C := hid (fun w' (hb' : Below W.heap.size W w') => typeError_m m (m.fu[k].ty) hf.fit w')
  obtain ⟨x, hx⟩ : ∃ x, m.fu[k] = x := ⟨_, rfl⟩
  rw [hx] at HE hcc C
  have c0 : W.cell? ⟨b, off + k * 3, none⟩ = some (.int .i64 x.ty) := hcc 0 (by omega) _ rfl
  obtain ⟨v0, v1, v3, v4, v5, v6, v7, v8, v9, v10, hv⟩ : ∃ v0 v1 v3 v4 v5 v6 v7 v8 v9 v10, m.v = #[v0, v1, .slice m.fu'.a m.fu.length m.fu'.c, v3, v4, v5, v6, v7, v8, v9, v10] := ⟨_, _, _, _, _, _, _, _, _, _, rfl⟩
  have hbx := h.bx
  rw [hv, ha] at C hbx
  obtain ⟨n0, n1, n2, n3, n4, n5, n6, n7, n8, n9, n10⟩ := BoxAt.mod hbx
  have hki : (k : Int) < (m.fu.length : Int) := by omega
  have bl := hf.fit.fu
  clear h hf hfi hrg hk hgd hmem hcc hx hbx hv
  generalize m.fu.length = E at *
  obtain ⟨q, hq⟩ : ∃ q, secE m 1 k = q := ⟨_, rfl⟩
  rw [hq] at HE ⊢
  have HQ := HE
  clear hq HE
  go_enter Tryz.func139, Tryz.ntmps139
  go_upto_region 1 with fail
  have hS0 : Below W.heap.size W W.drew ∧ W.drew.cell? ⟨gm, 0, none⟩ = some v0 ∧ W.drew.cell? ⟨gm, 1, none⟩ = some v1 ∧ W.drew.cell? ⟨gm, 2, none⟩ = some (.slice (some ⟨b, off, none⟩) E m.fu'.c) ∧ W.drew.cell? ⟨gm, 3, none⟩ = some v3 ∧ W.drew.cell? ⟨gm, 4, none⟩ = some v4 ∧ W.drew.cell? ⟨gm, 5, none⟩ = some v5 ∧ W.drew.cell? ⟨gm, 6, none⟩ = some v6 ∧ W.drew.cell? ⟨gm, 7, none⟩ = some v7 ∧ W.drew.cell? ⟨gm, 8, none⟩ = some v8 ∧ W.drew.cell? ⟨gm, 9, none⟩ = some v9 ∧ W.drew.cell? ⟨gm, 10, none⟩ = some v10 ∧ W.drew.cell? ⟨b, off + k * 3, none⟩ = some (.int .i64 x.ty) := ⟨(Below.refl _ _).drew, n0, n1, n2, n3, n4, n5, n6, n7, n8, n9, n10, c0⟩
  clear c0 n0 n1 n2 n3 n4 n5 n6 n7 n8 n9 n10
  go_region_held3 (fun w' => Below W.heap.size W w' ∧ w'.cell? ⟨gm, 0, none⟩ = some v0 ∧ w'.cell? ⟨gm, 1, none⟩ = some v1 ∧ w'.cell? ⟨gm, 2, none⟩ = some (.slice (some ⟨b, off, none⟩) E m.fu'.c) ∧ w'.cell? ⟨gm, 3, none⟩ = some v3 ∧ w'.cell? ⟨gm, 4, none⟩ = some v4 ∧ w'.cell? ⟨gm, 5, none⟩ = some v5 ∧ w'.cell? ⟨gm, 6, none⟩ = some v6 ∧ w'.cell? ⟨gm, 7, none⟩ = some v7 ∧ w'.cell? ⟨gm, 8, none⟩ = some v8 ∧ w'.cell? ⟨gm, 9, none⟩ = some v9 ∧ w'.cell? ⟨gm, 10, none⟩ = some v10 ∧ w'.cell? ⟨b, off + k * 3, none⟩ = some (.int .i64 x.ty)) (first | assumption | exact held_keep12 (by assumption) (by assumption))
    (first
      | (go_at_call 138; refine (C.out _ (Below.refl _ _).drew).mono ?_; rintro e1 w2 ⟨rfl, hb2⟩))
  have hB2 : Below W.heap.size W w2 := Stk.undrew hb2
  have HB2 := hid hB2
  clear hB2 hb2 hS0
  go_wp2
  go_ret2
  refine ⟨?_, HB2.out⟩
  rw [HQ.out]; rfl
set_option maxRecDepth 100000 in
set_option maxHeartbeats 4000000 in
theorem sec2_m (gm gn bm : Nat) (m : Md) (k : Nat) (W : World) (h : Sx gm gn bm m W) (hf : m.few) (hfi : Fine m) (hrg : Rg m) (hk : k < secL m 2) :
    Calls Tryz.prog 140 #[.int .i64 k, .pointer (some ⟨gm, 0, none⟩)] W fun e w' => e = .returned (.tuple #[.int .i64 (secE m 2 k).1, .int .i64 (secE m 2 k).2]) ∧ Below W.heap.size W w' := by
  change k < m.gl.length at hk
  have HE : Hid (secE m 2 k = ((constP (glAt m k).l.t).2, 0)) := rfl
  have hgd : glAt m k = m.gl[k] := by unfold glAt; simp [hk]
  rw [hgd] at HE
  have hmem : m.gl[k].l ∈ m.codes := by unfold Md.codes; exact List.mem_append_right _ (List.mem_append_left _ (List.mem_map.2 ⟨_, List.getElem_mem hk, rfl⟩))
  obtain ⟨b, off, ha, hb, hcc⟩ := Mod.Rows.get h.md.gl hk
  have C := hid (constError_m m.gl[k].l.t m.gl[k].l.a m.gl[k].l.t.len m.gl[k].l.c W (h.md.ls _ hmem) (hf.fit.ls _ hmem) (by have := hf.cs _ hmem; omega) h.nt)
  obtain ⟨x, hx⟩ : ∃ x, m.gl[k] = x := ⟨_, rfl⟩
  rw [hx] at HE hcc C
  have c1 : W.cell? ⟨b, off + k * 2 + 1, none⟩ = some (.slice x.l.a x.l.t.len x.l.c) := hcc 1 (by omega) _ rfl
  have n5 : W.cell? ⟨gm, 5, none⟩ = some (.slice m.gl'.a m.gl.length m.gl'.c) := h.bx 5 _ rfl
  rw [ha] at n5
  have hki : (k : Int) < (m.gl.length : Int) := by omega
  have bl := hf.fit.gl
  clear h hf hfi hrg hk hgd hmem hcc hx
  generalize m.gl.length = E at *
  obtain ⟨q, hq⟩ : ∃ q, secE m 2 k = q := ⟨_, rfl⟩
  rw [hq] at HE ⊢
  clear hq
  go_enter Tryz.func140, Tryz.ntmps140
  go_wp2_with fail
  refine C.out.mono ?_
  rintro e1 w2 ⟨rfl, hb2⟩
  have HB2 := hid hb2
  clear C hb2 c1 n5
  go_wp2
  go_ret2
  refine ⟨?_, HB2.out⟩
  rw [HE.out]; rfl
set_option maxRecDepth 100000 in
set_option maxHeartbeats 4000000 in
theorem sec3_m (gm gn bm : Nat) (m : Md) (k : Nat) (W : World) (h : Sx gm gn bm m W) (hf : m.few) (hfi : Fine m) (hrg : Rg m) (hk : k < secL m 3) :
    Calls Tryz.prog 142 #[.int .i64 k, .pointer (some ⟨gm, 0, none⟩), .pointer (some ⟨gn, 0, none⟩)] W fun e w' => e = .returned (.tuple #[.int .i64 (secE m 3 k).1, .int .i64 (secE m 3 k).2]) ∧ Below W.heap.size W w' := by
  change k < m.ex.length at hk
  have HE : Hid (secE m 3 k = (exportEP m k, 0)) := rfl
  have C := hid (exportError_m m k bm W h.md hf.fit hfi.im hfi.fu hk h.na hrg.ei)
  obtain ⟨v0, v1, v2, v3, v4, v5, v6, v7, v8, v9, v10, hv⟩ : ∃ v0 v1 v2 v3 v4 v5 v6 v7 v8 v9 v10, m.v = #[v0, v1, v2, v3, v4, v5, v6, v7, v8, v9, v10] := ⟨_, _, _, _, _, _, _, _, _, _, _, rfl⟩
  have hbx := h.bx
  have hnm := h.nm
  rw [hv] at C hbx
  obtain ⟨n0, n1, n2, n3, n4, n5, n6, n7, n8, n9, n10⟩ := BoxAt.mod hbx
  clear h hf hfi hrg hk hbx hv
  obtain ⟨q, hq⟩ : ∃ q, secE m 3 k = q := ⟨_, rfl⟩
  rw [hq] at HE ⊢
  clear hq
  go_enter Tryz.func142, Tryz.ntmps142
  go_wp2_with fail
  refine C.out.mono ?_
  rintro e1 w2 ⟨rfl, hb2⟩
  have HB2 := hid hb2
  clear C hb2 n0 n1 n2 n3 n4 n5 n6 n7 n8 n9 n10 hnm
  go_wp2
  go_ret2
  refine ⟨?_, HB2.out⟩
  rw [HE.out]; rfl
set_option maxRecDepth 100000 in
set_option maxHeartbeats 4000000 in
theorem sec4_m (gm gn bm : Nat) (m : Md) (k : Nat) (W : World) (h : Sx gm gn bm m W) (hf : m.few) (hfi : Fine m) (hrg : Rg m) (hk : k < secL m 4) :
    Calls Tryz.prog 144 #[.int .i64 k, .pointer (some ⟨gm, 0, none⟩)] W fun e w' => e = .returned (.tuple #[.int .i64 (secE m 4 k).1, .int .i64 (secE m 4 k).2]) ∧ Below W.heap.size W w' := by
  have HE : Hid (secE m 4 k = (startEP m, 0)) := rfl
  have C := hid (startError_m m W h.md hf.fit hrg.sn)
  obtain ⟨v0, v1, v2, v3, v4, v5, v6, v7, v8, v9, v10, hv⟩ : ∃ v0 v1 v2 v3 v4 v5 v6 v7 v8 v9 v10, m.v = #[v0, v1, v2, v3, v4, v5, v6, v7, v8, v9, v10] := ⟨_, _, _, _, _, _, _, _, _, _, _, rfl⟩
  have hbx := h.bx
  rw [hv] at C hbx
  obtain ⟨n0, n1, n2, n3, n4, n5, n6, n7, n8, n9, n10⟩ := BoxAt.mod hbx
  clear h hf hfi hrg hk hbx hv
  obtain ⟨q, hq⟩ : ∃ q, secE m 4 k = q := ⟨_, rfl⟩
  rw [hq] at HE ⊢
  clear hq
  go_enter Tryz.func144, Tryz.ntmps144
  go_wp2_with fail
  refine C.out.mono ?_
  rintro e1 w2 ⟨rfl, hb2⟩
  have HB2 := hid hb2
  clear C hb2 n0 n1 n2 n3 n4 n5 n6 n7 n8 n9 n10
  go_wp2
  go_ret2
  refine ⟨?_, HB2.out⟩
  rw [HE.out]; rfl
set_option maxRecDepth 100000 in
set_option maxHeartbeats 4000000 in
theorem sec5_m (gm gn bm : Nat) (m : Md) (k : Nat) (W : World) (h : Sx gm gn bm m W) (hf : m.few) (hfi : Fine m) (hrg : Rg m) (hk : k < secL m 5) :
    Calls Tryz.prog 146 #[.int .i64 k, .pointer (some ⟨gm, 0, none⟩)] W fun e w' => e = .returned (.tuple #[.int .i64 (secE m 5 k).1, .int .i64 (secE m 5 k).2]) ∧ Below W.heap.size W w' := by
  change k < m.el.length at hk
  have HE : Hid (secE m 5 k = (elemEP m (elAt m k), 0)) := rfl
  have hgd : elAt m k = m.el[k] := by unfold elAt; simp [hk]
  rw [hgd] at HE
  have hmem := List.getElem_mem hk
  obtain ⟨b, off, ha, hb, hcc⟩ := Mod.Rows.get h.md.el hk
  have hlm : m.el[k].l ∈ m.codes := by unfold Md.codes; exact List.mem_append_right _ (List.mem_append_right _ (List.mem_append_left _ (List.mem_map.2 ⟨_, hmem, rfl⟩)))
  have C := hid (fun w' (hb' : Below W.heap.size W w') => elemError_m m m.el[k] w' hf.fit hfi.im hfi.fu ((h.md.on hb').ls _ hlm) (hf.fit.ls _ hlm) (by have := hf.cs _ hlm; omega) (h.nt.below hb') ((h.md.on hb').fs _ hmem) (hf.fit.fs _ hmem) (hrg.ef _ hmem))
  clear hlm
  obtain ⟨x, hx⟩ : ∃ x, m.el[k] = x := ⟨_, rfl⟩
  rw [hx] at HE hcc C
  have c0 : W.cell? ⟨b, off + k * 2, none⟩ = some (.slice x.l.a x.l.t.len x.l.c) := hcc 0 (by omega) _ rfl
  have c1 : W.cell? ⟨b, off + k * 2 + 1, none⟩ = some (.slice x.fa x.fs.length x.fc) := hcc 1 (by omega) _ rfl
  obtain ⟨v0, v1, v2, v3, v4, v5, v6, v7, v8, v10, hv⟩ : ∃ v0 v1 v2 v3 v4 v5 v6 v7 v8 v10, m.v = #[v0, v1, v2, v3, v4, v5, v6, v7, v8, .slice m.el'.a m.el.length m.el'.c, v10] := ⟨_, _, _, _, _, _, _, _, _, _, rfl⟩
  have hbx := h.bx
  rw [hv, ha] at C hbx
  obtain ⟨n0, n1, n2, n3, n4, n5, n6, n7, n8, n9, n10⟩ := BoxAt.mod hbx
  have hki : (k : Int) < (m.el.length : Int) := by omega
  have bl := hf.fit.el
  clear h hf hfi hrg hk hgd hmem hcc hx hbx hv
  generalize m.el.length = E at *
  obtain ⟨q, hq⟩ : ∃ q, secE m 5 k = q := ⟨_, rfl⟩
  rw [hq] at HE ⊢
  have HQ := HE
  clear hq HE
  go_enter Tryz.func146, Tryz.ntmps146
  go_upto_region 1 with fail
  have hS0 : Below W.heap.size W W.drew ∧ W.drew.cell? ⟨gm, 0, none⟩ = some v0 ∧ W.drew.cell? ⟨gm, 1, none⟩ = some v1 ∧ W.drew.cell? ⟨gm, 2, none⟩ = some v2 ∧ W.drew.cell? ⟨gm, 3, none⟩ = some v3 ∧ W.drew.cell? ⟨gm, 4, none⟩ = some v4 ∧ W.drew.cell? ⟨gm, 5, none⟩ = some v5 ∧ W.drew.cell? ⟨gm, 6, none⟩ = some v6 ∧ W.drew.cell? ⟨gm, 7, none⟩ = some v7 ∧ W.drew.cell? ⟨gm, 8, none⟩ = some v8 ∧ W.drew.cell? ⟨gm, 9, none⟩ = some (.slice (some ⟨b, off, none⟩) E m.el'.c) ∧ W.drew.cell? ⟨gm, 10, none⟩ = some v10 ∧ W.drew.cell? ⟨b, off + k * 2, none⟩ = some (.slice x.l.a x.l.t.len x.l.c) ∧ W.drew.cell? ⟨b, off + k * 2 + 1, none⟩ = some (.slice x.fa x.fs.length x.fc) := ⟨(Below.refl _ _).drew, n0, n1, n2, n3, n4, n5, n6, n7, n8, n9, n10, c0, c1⟩
  clear c0 c1 n0 n1 n2 n3 n4 n5 n6 n7 n8 n9 n10
  go_region_held3 (fun w' => Below W.heap.size W w' ∧ w'.cell? ⟨gm, 0, none⟩ = some v0 ∧ w'.cell? ⟨gm, 1, none⟩ = some v1 ∧ w'.cell? ⟨gm, 2, none⟩ = some v2 ∧ w'.cell? ⟨gm, 3, none⟩ = some v3 ∧ w'.cell? ⟨gm, 4, none⟩ = some v4 ∧ w'.cell? ⟨gm, 5, none⟩ = some v5 ∧ w'.cell? ⟨gm, 6, none⟩ = some v6 ∧ w'.cell? ⟨gm, 7, none⟩ = some v7 ∧ w'.cell? ⟨gm, 8, none⟩ = some v8 ∧ w'.cell? ⟨gm, 9, none⟩ = some (.slice (some ⟨b, off, none⟩) E m.el'.c) ∧ w'.cell? ⟨gm, 10, none⟩ = some v10 ∧ w'.cell? ⟨b, off + k * 2, none⟩ = some (.slice x.l.a x.l.t.len x.l.c) ∧ w'.cell? ⟨b, off + k * 2 + 1, none⟩ = some (.slice x.fa x.fs.length x.fc)) (first | assumption | exact held_keep13 (by assumption) (by assumption))
    (first
      | (go_at_call 147; refine (C.out _ (Below.refl _ _).drew).mono ?_; rintro e1 w2 ⟨rfl, hb2⟩))
  have hB2 : Below W.heap.size W w2 := Stk.undrew hb2
  have HB2 := hid hB2
  clear hB2 hb2 hS0
  go_wp2
  go_ret2
  refine ⟨?_, HB2.out⟩
  rw [HQ.out]; rfl
set_option maxRecDepth 100000 in
set_option maxHeartbeats 4000000 in
theorem sec6_m (gm gn bm : Nat) (m : Md) (k : Nat) (W : World) (h : Sx gm gn bm m W) (hf : m.few) (hfi : Fine m) (hrg : Rg m) (hk : k < secL m 6) :
    Calls Tryz.prog 148 #[.int .i64 k, .pointer (some ⟨gm, 0, none⟩)] W fun e w' => e = .returned (.tuple #[.int .i64 (secE m 6 k).1, .int .i64 (secE m 6 k).2]) ∧ Below W.heap.size W w' := by
  change k < m.fu.length at hk
  have HE : Hid (secE m 6 k = ((Md.bodyP m k).1, (Md.bodyP m k).2)) := rfl
  have C := hid (bodyError_m m k W h.md h.ar hf hfi hk)
  unfold BodyP at C
  obtain ⟨v0, v1, v2, v3, v4, v5, v6, v7, v8, v9, v10, hv⟩ : ∃ v0 v1 v2 v3 v4 v5 v6 v7 v8 v9 v10, m.v = #[v0, v1, v2, v3, v4, v5, v6, v7, v8, v9, v10] := ⟨_, _, _, _, _, _, _, _, _, _, _, rfl⟩
  have hbx := h.bx
  rw [hv] at C hbx
  obtain ⟨n0, n1, n2, n3, n4, n5, n6, n7, n8, n9, n10⟩ := BoxAt.mod hbx
  clear h hf hfi hrg hk hbx hv
  obtain ⟨q, hq⟩ : ∃ q, secE m 6 k = q := ⟨_, rfl⟩
  rw [hq] at HE ⊢
  clear hq
  go_enter Tryz.func148, Tryz.ntmps148
  go_wp2_with fail
  refine C.out.mono ?_
  rintro e1 w2 ⟨rfl, hb2⟩
  have HB2 := hid hb2
  clear C hb2 n0 n1 n2 n3 n4 n5 n6 n7 n8 n9 n10
  go_wp2
  go_ret2
  refine ⟨?_, HB2.out⟩
  rw [HE.out]; rfl
set_option maxRecDepth 100000 in
set_option maxHeartbeats 4000000 in
theorem sec7_m (gm gn bm : Nat) (m : Md) (k : Nat) (W : World) (h : Sx gm gn bm m W) (hf : m.few) (hfi : Fine m) (hrg : Rg m) (hk : k < secL m 7) :
    Calls Tryz.prog 149 #[.int .i64 k, .pointer (some ⟨gm, 0, none⟩)] W fun e w' => e = .returned (.tuple #[.int .i64 (secE m 7 k).1, .int .i64 (secE m 7 k).2]) ∧ Below W.heap.size W w' := by
  change k < m.da.length at hk
  have HE : Hid (secE m 7 k = (dataEP m (daAt m k).l.t, 0)) := rfl
  have hgd : daAt m k = m.da[k] := by unfold daAt; simp [hk]
  rw [hgd] at HE
  have hmem := List.getElem_mem hk
  obtain ⟨b, off, ha, hb, hcc⟩ := Mod.Rows.get h.md.da hk
  have hlm : m.da[k].l ∈ m.codes := by unfold Md.codes; exact List.mem_append_right _ (List.mem_append_right _ (List.mem_append_right _ (List.mem_map.2 ⟨_, hmem, rfl⟩)))
  have C := hid (fun w' (hb' : Below W.heap.size W w') => dataError_m m m.da[k] w' hf.fit ((h.md.on hb').ls _ hlm) (hf.fit.ls _ hlm) (by have := hf.cs _ hlm; omega) (h.nt.below hb'))
  clear hlm
  obtain ⟨x, hx⟩ : ∃ x, m.da[k] = x := ⟨_, rfl⟩
  rw [hx] at HE hcc C
  have c0 : W.cell? ⟨b, off + k * 2, none⟩ = some (.slice x.l.a x.l.t.len x.l.c) := hcc 0 (by omega) _ rfl
  have c1 : W.cell? ⟨b, off + k * 2 + 1, none⟩ = some (.slice x.ba x.bs.length x.bc) := hcc 1 (by omega) _ rfl
  obtain ⟨v0, v1, v2, v3, v4, v5, v6, v7, v8, v9, hv⟩ : ∃ v0 v1 v2 v3 v4 v5 v6 v7 v8 v9, m.v = #[v0, v1, v2, v3, v4, v5, v6, v7, v8, v9, .slice m.da'.a m.da.length m.da'.c] := ⟨_, _, _, _, _, _, _, _, _, _, rfl⟩
  have hbx := h.bx
  rw [hv, ha] at C hbx
  obtain ⟨n0, n1, n2, n3, n4, n5, n6, n7, n8, n9, n10⟩ := BoxAt.mod hbx
  have hki : (k : Int) < (m.da.length : Int) := by omega
  have bl := hf.fit.da
  clear h hf hfi hrg hk hgd hmem hcc hx hbx hv
  generalize m.da.length = E at *
  obtain ⟨q, hq⟩ : ∃ q, secE m 7 k = q := ⟨_, rfl⟩
  rw [hq] at HE ⊢
  have HQ := HE
  clear hq HE
  go_enter Tryz.func149, Tryz.ntmps149
  go_upto_region 1 with fail
  have hS0 : Below W.heap.size W W.drew ∧ W.drew.cell? ⟨gm, 0, none⟩ = some v0 ∧ W.drew.cell? ⟨gm, 1, none⟩ = some v1 ∧ W.drew.cell? ⟨gm, 2, none⟩ = some v2 ∧ W.drew.cell? ⟨gm, 3, none⟩ = some v3 ∧ W.drew.cell? ⟨gm, 4, none⟩ = some v4 ∧ W.drew.cell? ⟨gm, 5, none⟩ = some v5 ∧ W.drew.cell? ⟨gm, 6, none⟩ = some v6 ∧ W.drew.cell? ⟨gm, 7, none⟩ = some v7 ∧ W.drew.cell? ⟨gm, 8, none⟩ = some v8 ∧ W.drew.cell? ⟨gm, 9, none⟩ = some v9 ∧ W.drew.cell? ⟨gm, 10, none⟩ = some (.slice (some ⟨b, off, none⟩) E m.da'.c) ∧ W.drew.cell? ⟨b, off + k * 2, none⟩ = some (.slice x.l.a x.l.t.len x.l.c) ∧ W.drew.cell? ⟨b, off + k * 2 + 1, none⟩ = some (.slice x.ba x.bs.length x.bc) := ⟨(Below.refl _ _).drew, n0, n1, n2, n3, n4, n5, n6, n7, n8, n9, n10, c0, c1⟩
  clear c0 c1 n0 n1 n2 n3 n4 n5 n6 n7 n8 n9 n10
  go_region_held3 (fun w' => Below W.heap.size W w' ∧ w'.cell? ⟨gm, 0, none⟩ = some v0 ∧ w'.cell? ⟨gm, 1, none⟩ = some v1 ∧ w'.cell? ⟨gm, 2, none⟩ = some v2 ∧ w'.cell? ⟨gm, 3, none⟩ = some v3 ∧ w'.cell? ⟨gm, 4, none⟩ = some v4 ∧ w'.cell? ⟨gm, 5, none⟩ = some v5 ∧ w'.cell? ⟨gm, 6, none⟩ = some v6 ∧ w'.cell? ⟨gm, 7, none⟩ = some v7 ∧ w'.cell? ⟨gm, 8, none⟩ = some v8 ∧ w'.cell? ⟨gm, 9, none⟩ = some v9 ∧ w'.cell? ⟨gm, 10, none⟩ = some (.slice (some ⟨b, off, none⟩) E m.da'.c) ∧ w'.cell? ⟨b, off + k * 2, none⟩ = some (.slice x.l.a x.l.t.len x.l.c) ∧ w'.cell? ⟨b, off + k * 2 + 1, none⟩ = some (.slice x.ba x.bs.length x.bc)) (first | assumption | exact held_keep13 (by assumption) (by assumption))
    (first
      | (go_at_call 150; refine (C.out _ (Below.refl _ _).drew).mono ?_; rintro e1 w2 ⟨rfl, hb2⟩))
  have hB2 : Below W.heap.size W w2 := Stk.undrew hb2
  have HB2 := hid hB2
  clear hB2 hb2 hS0
  go_wp2
  go_ret2
  refine ⟨?_, HB2.out⟩
  rw [HQ.out]; rfl
/-- The functions of the sections. -/
def secF (j : Nat) : Nat := [137, 139, 140, 142, 144, 146, 148, 149].getD j 0
def secB (gm gn j : Nat) : Array Value := if j = 3 then #[.pointer (some ⟨gm, 0, none⟩), .pointer (some ⟨gn, 0, none⟩)] else #[.pointer (some ⟨gm, 0, none⟩)]
/-- The list of sections in memory. -/
def SecsAt (gs gm gn : Nat) (m : Md) (W : World) : Prop := ∀ j, j < 8 → W.cell? ⟨gs, j * 3, none⟩ = some (.int .i64 (secN j)) ∧ W.cell? ⟨gs, j * 3 + 1, none⟩ = some (.int .i64 (secL m j)) ∧ W.cell? ⟨gs, j * 3 + 2, none⟩ = some (.func (.func (secF j)) #[] (secB gm gn j))
theorem SecsAt.on {gs gm gn : Nat} {m : Md} {W W' : World} (h : SecsAt gs gm gn m W) (hb : Below W.heap.size W W') : SecsAt gs gm gn m W' := fun j hj => ⟨Go.Proofs.YtckdnhafookcgaaGreatDoor.keep hb (h j hj).1, Go.Proofs.YtckdnhafookcgaaGreatDoor.keep hb (h j hj).2.1, Go.Proofs.YtckdnhafookcgaaGreatDoor.keep hb (h j hj).2.2⟩
theorem secs_of {gs gm gn : Nat} {m : Md} {W : World} {ty : TypeId} {s : Int} (hs : s = (secL m 4 : Int)) (h : W.heap[gs]? = some (.cells #[.int .i64 2, .int .i64 m.im.length, .func (.func 137) #[] #[.pointer (some ⟨gm, 0, none⟩)], .int .i64 3, .int .i64 m.fu.length, .func (.func 139) #[] #[.pointer (some ⟨gm, 0, none⟩)], .int .i64 6, .int .i64 m.gl.length, .func (.func 140) #[] #[.pointer (some ⟨gm, 0, none⟩)], .int .i64 7, .int .i64 m.ex.length, .func (.func 142) #[] #[.pointer (some ⟨gm, 0, none⟩), .pointer (some ⟨gn, 0, none⟩)], .int .i64 8, .int .i64 s, .func (.func 144) #[] #[.pointer (some ⟨gm, 0, none⟩)], .int .i64 9, .int .i64 m.el.length, .func (.func 146) #[] #[.pointer (some ⟨gm, 0, none⟩)], .int .i64 10, .int .i64 m.fu.length, .func (.func 148) #[] #[.pointer (some ⟨gm, 0, none⟩)], .int .i64 11, .int .i64 m.da.length, .func (.func 149) #[] #[.pointer (some ⟨gm, 0, none⟩)]] ty (0, 0))) : SecsAt gs gm gn m W := by
  subst hs
  intro j hj
  have c : ∀ i, W.cell? ⟨gs, i, none⟩ = _ := fun i => cell_of_row W gs i _ _ _ h
  match j, hj with
  | 0, _ => exact ⟨c 0, c 1, c 2⟩
  | 1, _ => exact ⟨c 3, c 4, c 5⟩
  | 2, _ => exact ⟨c 6, c 7, c 8⟩
  | 3, _ => exact ⟨c 9, c 10, c 11⟩
  | 4, _ => exact ⟨c 12, c 13, c 14⟩
  | 5, _ => exact ⟨c 15, c 16, c 17⟩
  | 6, _ => exact ⟨c 18, c 19, c 20⟩
  | 7, _ => exact ⟨c 21, c 22, c 23⟩
  | j + 8, hj => omega
def SectionsP (m : Md) (w : World) (e : Ending) (w' : World) : Prop := ∃ gs gm gn bm, e = .returned (.slice (some ⟨gs, 0, none⟩) 8 8) ∧ SecsAt gs gm gn m w' ∧ Sx gm gn bm m w' ∧ Below w.heap.size w w'
set_option maxRecDepth 100000 in
set_option maxHeartbeats 4000000 in
theorem sections_m (m : Md) (w : World) (hm : ModAt w.heap.size w m) (hf : m.few) (hT : Nams w) (hA : Num.Arit w) :
    Calls Tryz.prog 72 #[.agg m.v] w (SectionsP m w) := by
  have hmf : ∀ (fn : Go.Fn) (first cap : Array Value) (w : World), (Instr.makeFunc fn first cap).run Tryz.prog w = .ok (.func fn first cap) w := fun fn first cap w => by simp [Instr.makeFunc, go_sem]
  obtain ⟨W0, hW0⟩ : ∃ W0, W0 = w.alloc (.cells m.v 32) := ⟨_, rfl⟩
  have hb0 : Below w.heap.size w W0 := by rw [hW0]; exact thenA (Below.refl _ _) _
  have hbx : BoxAt W0 w.heap.size m.v := by rw [hW0]; exact BoxAt.made w m.v _
  have HX := hid hbx
  have HB := hid hb0
  have HM := hid (hm.on hb0)
  have HT := hid (hT.below hb0)
  have HAR := hid (hA.below hb0)
  have C := hid (firstNames_m m.ex m.ex'.a m.ex.length m.ex'.c W0 rfl hf.fit.ex (hm.on hb0).ex (fun e he => hf.fit.eS e he))
  have n6 : W0.cell? ⟨w.heap.size, 6, none⟩ = some (.slice m.ex'.a m.ex.length m.ex'.c) := hbx 6 _ rfl
  unfold Md.v at hW0 HX ⊢
  clear hm hf hT hA hb0 hbx
  go_enter Tryz.func72, Tryz.ntmps72
  go_upto_region 1 with fail
  rw [← hW0]
  clear hW0
  go_wp2_with fail
  refine C.out.mono ?_
  rintro e1 w1 ⟨bm, rfl, hn1, hb1⟩
  have HN := hid hn1
  have HX1 := hid (HX.out.keep hb1)
  have HB1 := hid (HB.out.trans (hb1.mono HB.out.size))
  have HM1 := hid (HM.out.on hb1)
  have HT1 := hid (HT.out.below hb1)
  have HA1 := hid (HAR.out.below hb1)
  clear C hn1 hb1 n6 HX HB HM HT HAR
  go_upto_region 2 with fail
  have hA : Below w1.heap.size w1 (w1.alloc (.cells #[.map (some bm)] 203)) := (Below.refl _ _).alloc (Nat.le_refl _) _
  have hg : (w1.alloc (.cells #[.map (some bm)] 203)).cell? ⟨w1.heap.size, 0, none⟩ = some (.map (some bm)) := by simp [go_sem]
  obtain ⟨w2, hw2⟩ : ∃ u, u = w1.alloc (.cells #[.map (some bm)] 203) := ⟨_, rfl⟩
  rw [← hw2] at hA hg ⊢
  obtain ⟨gn, hgn⟩ : ∃ gn, gn = w1.heap.size := ⟨_, rfl⟩
  rw [← hgn] at hg ⊢
  have hSx : Sx w.heap.size gn bm m w2 := ⟨by unfold Md.v; exact HX1.out.keep hA, hg, HN.out.below hA, HM1.out.on hA, HT1.out.below hA, HA1.out.below hA⟩
  have HSX := hid hSx
  have HB2 := hid (HB1.out.trans (hA.mono HB1.out.size))
  have hX2 := HX1.out.keep hA
  obtain ⟨n0, n1, n2, n3, n4, n5, n6, n7, n8, n9, n10⟩ := BoxAt.mod hX2
  clear hw2 hgn hA hg hSx hX2 HN HX1 HB1 HM1 HT1 HA1
  have HL : Hid (secL m 4 = if m.st then 1 else 0) := rfl
  obtain ⟨st, hst⟩ : ∃ b, m.st = b := ⟨_, rfl⟩
  rw [hst] at n7 HL
  clear hst
  cases st
  all_goals
    go_wp2
    go_ret
    refine ⟨w2.heap.size, w.heap.size, gn, bm, rfl, secs_of (by rw [HL.out]; rfl) (heap_alloc_new w2 _), HSX.out.on ((Below.refl _ _).alloc (Nat.le_refl _) _), thenA HB2.out _⟩
end Go.Proofs.YtckdnhafookcgaaGreatDoor.Val

namespace Go.Proofs.YtckdnhafookcgaaGreatDoor.Val
open Go.RowKit Go.Shelf Go.Proofs.YtckdnhafookcgaaGreatDoor.Instr Go.Proofs.YtckdnhafookcgaaGreatDoor.Mod
set_option linter.unusedVariables false

/-- What is wrong, and where. -/
structure Wr where
  e : Int
  s : Int
  i : Int
  a : Int
def Wr.v (r : Wr) : Array Value := #[.int .i64 r.e, .int .i64 r.s, .int .i64 r.i, .int .i64 r.a]
/-- Of n items from the k-th on: the first that is wrong. -/
def scanI (m : Md) (j : Nat) : Nat → Nat → Option Wr
  | _, 0 => none
  | k, n + 1 => if (secE m j k).1 = 0 then scanI m j (k + 1) n else some ⟨(secE m j k).1, secN j, k, (secE m j k).2⟩
/-- Of c sections from the j-th on. -/
def scanS (m : Md) : Nat → Nat → Option Wr
  | _, 0 => none
  | j, c + 1 => match scanI m j 0 (secL m j) with
    | some r => some r
    | none => scanS m (j + 1) c
def wrongP (m : Md) : Wr := if m.check = 0 then (scanS m 0 8).getD ⟨0, 0, 0, 0⟩ else ⟨m.check, 0, 0, 0⟩
theorem scanS_hit {m : Md} {j c : Nat} {r : Wr} (h : scanI m j 0 (secL m j) = some r) : scanS m j (c + 1) = some r := by rw [scanS, h]
theorem scanS_miss {m : Md} {j c : Nat} (h : scanI m j 0 (secL m j) = none) : scanS m j (c + 1) = scanS m (j + 1) c := by rw [scanS, h]
theorem sec_enters (k : Nat) (hk : k < 8) : ∀ args w, (callFunc (secF k) args).run Tryz.prog w = .ok (.enter (secF k) args) w := by
  match k, hk with
  | 0, _ => exact enters_of Tryz.func137 (by kernel_rfl) rfl
  | 1, _ => exact enters_of Tryz.func139 (by kernel_rfl) rfl
  | 2, _ => exact enters_of Tryz.func140 (by kernel_rfl) rfl
  | 3, _ => exact enters_of Tryz.func142 (by kernel_rfl) rfl
  | 4, _ => exact enters_of Tryz.func144 (by kernel_rfl) rfl
  | 5, _ => exact enters_of Tryz.func146 (by kernel_rfl) rfl
  | 6, _ => exact enters_of Tryz.func148 (by kernel_rfl) rfl
  | 7, _ => exact enters_of Tryz.func149 (by kernel_rfl) rfl
theorem sec_m (gm gn bm : Nat) (m : Md) (j k : Nat) (hj : j < 8) (W : World) (h : Sx gm gn bm m W) (hf : m.few) (hfi : Fine m) (hrg : Rg m) (hk : k < secL m j) :
    Calls Tryz.prog (secF j) (#[.int .i64 k] ++ secB gm gn j) W fun e w' => e = .returned (.tuple #[.int .i64 (secE m j k).1, .int .i64 (secE m j k).2]) ∧ Below W.heap.size W w' := by
  match j, hj, hk with
  | 0, _, hk => exact sec0_m gm gn bm m k W h hf hfi hrg hk
  | 1, _, hk => exact sec1_m gm gn bm m k W h hf hfi hrg hk
  | 2, _, hk => exact sec2_m gm gn bm m k W h hf hfi hrg hk
  | 3, _, hk => exact sec3_m gm gn bm m k W h hf hfi hrg hk
  | 4, _, hk => exact sec4_m gm gn bm m k W h hf hfi hrg hk
  | 5, _, hk => exact sec5_m gm gn bm m k W h hf hfi hrg hk
  | 6, _, hk => exact sec6_m gm gn bm m k W h hf hfi hrg hk
  | 7, _, hk => exact sec7_m gm gn bm m k W h hf hfi hrg hk
theorem secL_le {m : Md} (hf : m.few) (j : Nat) : secL m j ≤ 1000000 := by
  have h := hf.lens
  unfold secL
  split <;> (try split) <;> omega
/-- A box of four numbers. -/
def Bx4 (W : World) (g : Nat) (r : Wr) : Prop := W.heap[g]? = some (.cells r.v 80 (0, 0))
theorem Bx4.lt {W : World} {g : Nat} {r : Wr} (h : Bx4 W g r) : g < W.heap.size := (Array.getElem?_eq_some_iff.1 h).1
theorem Bx4.on {W W' : World} {g : Nat} {r : Wr} (h : Bx4 W g r) (hb : Below W.heap.size W W') : Bx4 W' g r := (hb.block g h.lt).trans h
theorem Bx4.c {W : World} {g : Nat} {r : Wr} (h : Bx4 W g r) : W.cell? ⟨g, 0, none⟩ = some (.int .i64 r.e) ∧ W.cell? ⟨g, 1, none⟩ = some (.int .i64 r.s) ∧ W.cell? ⟨g, 2, none⟩ = some (.int .i64 r.i) ∧ W.cell? ⟨g, 3, none⟩ = some (.int .i64 r.a) ∧
    W.frozen? ⟨g, 0, none⟩ = false ∧ W.frozen? ⟨g, 1, none⟩ = false ∧ W.frozen? ⟨g, 2, none⟩ = false ∧ W.frozen? ⟨g, 3, none⟩ = false :=
  ⟨cell_of_row W g 0 _ _ _ h, cell_of_row W g 1 _ _ _ h, cell_of_row W g 2 _ _ _ h, cell_of_row W g 3 _ _ _ h, frozen_of_row W g 0 _ _ h, frozen_of_row W g 1 _ _ h, frozen_of_row W g 2 _ _ h, frozen_of_row W g 3 _ _ h⟩
theorem Bx4.set {W : World} {g : Nat} {r : Wr} (h : Bx4 W g r) (x y z t : Int) : Bx4 ((((W.setCell ⟨g, 0, none⟩ (.int .i64 x)).setCell ⟨g, 1, none⟩ (.int .i64 y)).setCell ⟨g, 2, none⟩ (.int .i64 z)).setCell ⟨g, 3, none⟩ (.int .i64 t)) g ⟨x, y, z, t⟩ :=
  heap_setCell_same _ g 3 _ _ _ (heap_setCell_same _ g 2 _ _ _ (heap_setCell_same _ g 1 _ _ _ (heap_setCell_same W g 0 _ _ _ h)))
theorem results_w {fn : Func} {p : Tmp} (h : fn.results = #[.cell p 80]) (tmps : Array Value) (w : World) (g : Nat) {r : Wr} (hp : tmps.getD p undef = .pointer (some ⟨g, 0, none⟩)) (hb : Bx4 w g r) :
    (results fn tmps).run Tryz.prog w = .ok (.agg r.v) w := by
  have hp' : tmps[p]?.getD undef = .pointer (some ⟨g, 0, none⟩) := by simpa using hp
  simp [results, h, hp', asAddr, run_loadVar_row w g _ 80 _ _ _ hb Tryz.underlying80 rfl (by kernel_rfl)]
def CheckP (m : Md) (w : World) (e : Ending) (w' : World) : Prop := e = .returned (.agg (wrongP m).v) ∧ Below w.heap.size w w'
set_option maxRecDepth 100000 in
set_option maxHeartbeats 4000000 in
theorem Check_m (m : Md) (w : World) (hm : ModAt w.heap.size w m) (hf : m.few) (hrg : Rg m) (hT : Nams w) (hU : Utf.Tabs w) (hA : Num.Arit w) : Calls Tryz.prog 30 #[.agg m.v] w (CheckP m w) := by
  obtain ⟨W0, hW0⟩ : ∃ W0, W0 = (w.alloc (.cells m.v 32)).alloc (.cells #[.int .i64 0, .int .i64 0, .int .i64 0, .int .i64 0] 80) := ⟨_, rfl⟩
  have hb0 : Below w.heap.size w W0 := by rw [hW0]; exact thenA (thenA (Below.refl _ _) _) _
  have hbx : BoxAt W0 w.heap.size m.v := by rw [hW0]; exact (BoxAt.made w m.v _).keep (belowAlloc _ _)
  have hr : Bx4 W0 (w.heap.size + 1) ⟨0, 0, 0, 0⟩ := by rw [hW0]; have := heap_alloc_new (w.alloc (.cells m.v 32)) (.cells #[.int .i64 0, .int .i64 0, .int .i64 0, .int .i64 0] 80); rw [World.size_alloc] at this; exact this
  have HX := hid hbx
  have HB := hid hb0
  have HR := hid hr
  have HM := hid (hm.on hb0)
  have HF := hid hf
  have HRG := hid hrg
  have HT := hid (hT.below hb0)
  have HAR := hid (hA.below hb0)
  have C := hid (ModCheck_any m W0 (hT.below hb0) (hU.below hb0) (hm.on hb0) hf)
  have HFI := hid (fun h => fine_of (m := m) h)
  have HE : Hid (wrongP m = if m.check = 0 then (scanS m 0 8).getD ⟨0, 0, 0, 0⟩ else ⟨m.check, 0, 0, 0⟩) := rfl
  obtain ⟨ck, hck⟩ : ∃ c, m.check = c := ⟨_, rfl⟩
  rw [hck] at C HFI HE
  obtain ⟨v0, v1, v2, v3, v4, v5, v6, v7, v8, v9, v10, hv⟩ : ∃ v0 v1 v2 v3 v4 v5 v6 v7 v8 v9 v10, m.v = #[v0, v1, v2, v3, v4, v5, v6, v7, v8, v9, v10] := ⟨_, _, _, _, _, _, _, _, _, _, _, rfl⟩
  have CS := hid (fun w' hm' hT' hA' => sections_m m w' hm' hf hT' hA')
  rw [hv] at hW0 HX C CS ⊢
  obtain ⟨n0, n1, n2, n3, n4, n5, n6, n7, n8, n9, n10⟩ := BoxAt.mod HX.out
  clear hm hf hrg hT hU hA hb0 hbx hr hck hv
  go_enter Tryz.func30, Tryz.ntmps30
  go_upto_region 1 with fail
  rw [← hW0]
  clear hW0
  go_wp2_with fail
  refine C.out.mono ?_
  rintro e1 w1 ⟨rfl, hb1⟩
  have HX1 := hid (HX.out.keep hb1)
  have HB1 := hid (HB.out.trans (hb1.mono HB.out.size))
  have HR1 := hid (HR.out.on hb1)
  have HM1 := hid (HM.out.on hb1)
  have HT1 := hid (HT.out.below hb1)
  have HA1 := hid (HAR.out.below hb1)
  clear C hb1 n0 n1 n2 n3 n4 n5 n6 n7 n8 n9 n10 HX HB HR HM HT HAR
  by_cases hc : ck = 0
  · subst hc
    have HW := hid (show wrongP m = (scanS m 0 8).getD ⟨0, 0, 0, 0⟩ by rw [HE.out, if_pos rfl])
    have HFN := hid (HFI.out rfl)
    obtain ⟨n0, n1, n2, n3, n4, n5, n6, n7, n8, n9, n10⟩ := BoxAt.mod HX1.out
    have C2 := hid (CS.out w1 HM1.out HT1.out HA1.out)
    clear HE HFI CS
    go_wp2_with fail
    refine C2.out.mono ?_
    rintro e2 w2 ⟨gs, gm, gn, bm, rfl, hs2, hx2, hb2⟩
    have HB2 := hid (HB1.out.trans (hb2.mono HB1.out.size))
    have HR2 := hid (HR1.out.on hb2)
    have HS2 := hid hs2
    have HX2 := hid hx2
    clear C2 hs2 hx2 hb2 n0 n1 n2 n3 n4 n5 n6 n7 n8 n9 n10 HX1 HB1 HR1 HM1 HT1 HA1
    go_wp2
    go_loopw [18] (fun vi wr => ∃ j : Nat, vi = .int .i64 j ∧ j ≤ 8 ∧ Hid (scanS m 0 8 = scanS m j (8 - j)) ∧ Hid (SecsAt gs gm gn m wr) ∧ Hid (Sx gm gn bm m wr) ∧ Hid (Bx4 wr (w.heap.size + 1) ⟨0, 0, 0, 0⟩) ∧ Hid (Below w.heap.size w wr)) (fun vi _ => 8 - (intOf vi).toNat)
    case atStart => exact ⟨0, rfl, Nat.zero_le _, rfl, HS2, HX2, HR2, HB2⟩
    case round =>
      clear HB2 HR2 HS2 HX2
      obtain ⟨j, rfl, hj, HQ, HS, HX, HR, HB⟩ := hrel
      by_cases hlt : j < 8
      · have hji : (j : Int) < 8 := by omega
        obtain ⟨s0, s1, s2⟩ := HS.out j hlt
        have HLE := hid (secL_le HF.out j)
        have HL8 := hid hlt
        have eg := sec_enters j hlt
        have HCC := hid (fun k hk W hx => sec_m gm gn bm m j k hlt W hx HF.out HFN.out HRG.out hk)
        obtain ⟨L, hL⟩ : ∃ L, secL m j = L := ⟨_, rfl⟩
        obtain ⟨N, hN⟩ : ∃ N, secN j = N := ⟨_, rfl⟩
        obtain ⟨G, hG⟩ : ∃ G, secF j = G := ⟨_, rfl⟩
        obtain ⟨cb, hcb⟩ : ∃ L, secB gm gn j = L := ⟨_, rfl⟩
        rw [hL] at s1 HLE HCC
        rw [hN] at s0
        rw [hG] at s2 eg HCC
        rw [hcb] at s2 HCC
        have HLL := hid hL
        have HNN := hid hN
        clear hL hN hG hcb hlt
        go_upto_region 7 with fail
        have hA : Below wr.heap.size wr (wr.alloc (.cells #[.int .i64 N, .int .i64 L, .func (.func G) #[] cb] 143)) := (Below.refl _ _).alloc (Nat.le_refl _) _
        have b0 : (wr.alloc (.cells #[.int .i64 N, .int .i64 L, .func (.func G) #[] cb] 143)).cell? ⟨wr.heap.size, 0, none⟩ = some (.int .i64 N) := by simp [go_sem]
        have b1 : (wr.alloc (.cells #[.int .i64 N, .int .i64 L, .func (.func G) #[] cb] 143)).cell? ⟨wr.heap.size, 1, none⟩ = some (.int .i64 L) := by simp [go_sem]
        have b2 : (wr.alloc (.cells #[.int .i64 N, .int .i64 L, .func (.func G) #[] cb] 143)).cell? ⟨wr.heap.size, 2, none⟩ = some (.func (.func G) #[] cb) := by simp [go_sem]
        obtain ⟨u1, hu1⟩ : ∃ u, u = wr.alloc (.cells #[.int .i64 N, .int .i64 L, .func (.func G) #[] cb] 143) := ⟨_, rfl⟩
        rw [← hu1] at hA b0 b1 b2 ⊢
        obtain ⟨gx, hgx⟩ : ∃ gx, gx = wr.heap.size := ⟨_, rfl⟩
        rw [← hgx] at b0 b1 b2 ⊢
        replace HS := hid (HS.out.on hA)
        replace HX := hid (HX.out.on hA)
        replace HR := hid (HR.out.on hA)
        replace HB := hid (HB.out.trans (hA.mono HB.out.size))
        have K0 := hid b0
        have K2 := hid b2
        clear hu1 hgx hA b0 b2 s0 s1 s2
        go_wp2
        clear b1
        go_loopw [24] (fun vi wr' => ∃ k : Nat, vi = .int .i64 k ∧ k ≤ L ∧ Hid (scanI m j 0 L = scanI m j k (L - k)) ∧ Hid (SecsAt gs gm gn m wr') ∧ Hid (Sx gm gn bm m wr') ∧ Hid (Bx4 wr' (w.heap.size + 1) ⟨0, 0, 0, 0⟩) ∧ Hid (Below w.heap.size w wr') ∧ Hid (wr'.cell? ⟨gx, 0, none⟩ = some (.int .i64 N)) ∧ Hid (wr'.cell? ⟨gx, 2, none⟩ = some (.func (.func G) #[] cb))) (fun vi _ => L - (intOf vi).toNat)
        case atStart => exact ⟨0, rfl, Nat.zero_le _, rfl, HS, HX, HR, HB, K0, K2⟩
        case round =>
          clear HS HX HR HB K0 K2
          obtain ⟨k, rfl, hk, HI, HS, HX, HR, HB, K0, K2⟩ := hrel
          by_cases hlk : k < L
          · have hki : (k : Int) < (L : Int) := by omega
            have hLb : L ≤ 1000000 := HLE.out
            have C3 := hid (HCC.out k hlk wr HX.out)
            obtain ⟨q, hq⟩ : ∃ q, secE m j k = q := ⟨_, rfl⟩
            rw [hq] at C3
            have HSQ := hid hq
            obtain ⟨q1, q2⟩ := q
            simp only at C3
            have b0 := K0.out
            have b2 := K2.out
            have HLK := hid hlk
            clear hq hlk
            by_cases hz : q1 = 0
            · subst hz
              go_wp2_with (go_at_fn G; refine C3.out.mono ?_; rintro e3 u3 ⟨rfl, hb3⟩; clear b0 b2)
              have HB3 := hid (HB.out.trans (hb3.mono HB.out.size))
              have HS3 := hid (HS.out.on hb3)
              have HX3 := hid (HX.out.on hb3)
              have HR3 := hid (HR.out.on hb3)
              have K03 := hid (Go.Proofs.YtckdnhafookcgaaGreatDoor.keep hb3 K0.out)
              have K23 := hid (Go.Proofs.YtckdnhafookcgaaGreatDoor.keep hb3 K2.out)
              go_roundw
              case rel =>
                refine ⟨k + 1, by go_num, by have := HLK.out; omega, hid ?_, HS3, HX3, HR3, HB3, K03, K23⟩
                rw [HI.out]
                have : L - k = (L - (k + 1)) + 1 := by have := HLK.out; omega
                rw [this, scanI, HSQ.out, if_pos rfl]
              case measure => simp [intOf]; have := HLK.out; omega
            · have hzb : (q1 == 0) = false := by simpa using hz
              have HV := hid (show wrongP m = ⟨q1, N, k, q2⟩ by
                have h1 : scanI m j 0 (secL m j) = some ⟨q1, N, k, q2⟩ := by
                  rw [HLL.out, HI.out]
                  have : L - k = (L - (k + 1)) + 1 := by have := HLK.out; omega
                  rw [this, scanI, HSQ.out, if_neg hz, HNN.out]
                have h2 : 8 - j = (8 - (j + 1)) + 1 := by have := HL8.out; omega
                rw [HW.out, HQ.out, h2, scanS_hit h1]; rfl)
              go_wp2_with (go_at_fn G; refine C3.out.mono ?_; rintro e3 u3 ⟨rfl, hb3⟩; have b03 := Go.Proofs.YtckdnhafookcgaaGreatDoor.keep hb3 K0.out; obtain ⟨c0, c1, c2, c3, f0, f1, f2, f3⟩ := (HR.out.on hb3).c)
              have HB3 := hid (HB.out.trans (hb3.mono HB.out.size))
              have HR3 := hid (HR.out.on hb3)
              exact bodyPost_ret (results_w Tryz.results30 _ _ (w.heap.size + 1) rfl (HR3.out.set q1 N k q2)) rfl ⟨by rw [HV.out], (((HB3.out.setCell (by simp) _).setCell (by simp) _).setCell (by simp) _).setCell (by simp) _⟩
          · obtain rfl : L = k := by omega
            have hn : scanI m j 0 (secL m j) = none := by
              rw [HLL.out, HI.out, Nat.sub_self]; rfl
            have h2 : 8 - j = (8 - (j + 1)) + 1 := by have := HL8.out; omega
            have HQ2 := hid (show scanS m 0 8 = scanS m (j + 1) (8 - (j + 1)) by rw [HQ.out, h2, scanS_miss hn])
            clear hn h2
            go_wp2
            go_roundw
            case rel => exact ⟨j + 1, by go_num, by have := HL8.out; omega, HQ2, HS, HX, HR, HB⟩
            case measure => simp [intOf]; have := HL8.out; omega
      · obtain rfl : j = 8 := by omega
        have HV := hid (show wrongP m = ⟨0, 0, 0, 0⟩ by rw [HW.out, HQ.out]; rfl)
        obtain ⟨c0, c1, c2, c3, f0, f1, f2, f3⟩ := HR.out.c
        go_wp2
        exact bodyPost_ret (results_w Tryz.results30 _ _ (w.heap.size + 1) rfl (HR.out.set 0 0 0 0)) rfl ⟨by rw [HV.out], (((HB.out.setCell (by simp) _).setCell (by simp) _).setCell (by simp) _).setCell (by simp) _⟩
  · have HV := hid (show wrongP m = ⟨ck, 0, 0, 0⟩ by rw [HE.out, if_neg hc])
    have hcb : (ck == 0) = false := by simpa using hc
    obtain ⟨c0, c1, c2, c3, f0, f1, f2, f3⟩ := HR1.out.c
    clear HE HFI CS
    go_wp2
    exact bodyPost_ret (results_w Tryz.results30 _ _ (w.heap.size + 1) rfl (HR1.out.set ck 0 0 0)) rfl ⟨by rw [HV.out], (((HB1.out.setCell (by simp) _).setCell (by simp) _).setCell (by simp) _).setCell (by simp) _⟩
end Go.Proofs.YtckdnhafookcgaaGreatDoor.Val

namespace Go.Proofs.YtckdnhafookcgaaGreatDoor.Pl
open Go.RowKit Go.Shelf Go.Proofs.YtckdnhafookcgaaGreatDoor.Instr Go.Proofs.YtckdnhafookcgaaGreatDoor.Mod Go.Proofs.YtckdnhafookcgaaGreatDoor.Val
set_option linter.unusedVariables false

def strHost : ByteArray := ⟨#[104, 111, 115, 116]⟩
def strGet : ByteArray := ⟨#[103, 101, 116, 99]⟩
def strPut : ByteArray := ⟨#[112, 117, 116, 99]⟩
/-- The number of a host's function, by its names and its type; 0: there is none. -/
def hostP (mo na : ByteArray) (t : Int × Int) : Int :=
  if mo = strHost ∧ na = strGet then (if t = (0, 1) then 1 else 0) else if mo = strHost ∧ na = strPut then (if t = (1, 0) then 2 else 0) else 0
def hostI (m : Md) (k : Nat) : Int := hostP (imAt m k).mo (imAt m k).na (m.typeOf k).1
def hostsL (m : Md) : List Int := (List.range m.im.length).map (hostI m)
def hostsOk (m : Md) : Bool := (hostsL m).all (fun z => decide (z ≠ 0))
/-- The globals' first words. -/
def globs (m : Md) : List Int := m.gl.map fun g => (constP g.l.t).1
/-- The numbers fs laid from place s on. -/
def layF (tb : List (Option Int)) (s : Nat) : List Int → List (Option Int)
  | [] => tb
  | z :: r => layF (tb.set s (some z)) (s + 1) r
theorem layF_length : ∀ (zs : List Int) (tb : List (Option Int)) (s : Nat), (layF tb s zs).length = tb.length
  | [], _, _ => rfl
  | z :: r, tb, s => by rw [layF, layF_length r]; simp
/-- The numbers of elements, one behind the other: none, where a place is not there. -/
def elemsP : List El → List (Option Int) → Option (List (Option Int))
  | [], tb => some tb
  | e :: r, tb => if (constP e.l.t).1.toNat + e.fs.length ≤ tb.length then elemsP r (layF tb (constP e.l.t).1.toNat e.fs) else none
def tab0 (m : Md) : List (Option Int) := match m.tb with
  | [] => []
  | l :: _ => List.replicate l.n.toNat none
def tabP (m : Md) : Option (List (Option Int)) := if m.tb.length = 0 then some [] else elemsP m.el (tab0 m)
/-- Bytes, one behind the other. -/
def datasP : List Da → Mem.Mm → Option Mem.Mm
  | [], x => some x
  | d :: r, x => if (x.write (constP d.l.t).1.toNat d.bs).2 = 0 then datasP r (x.write (constP d.l.t).1.toNat d.bs).1 else none
def mem0 (l : Li) : Mem.Mm := ⟨l.n.toNat, if l.c then l.x.toNat else 65536, fun _ => 0⟩
/-- The memory: none: bytes are not there; some none: there is no memory. -/
def memP (m : Md) : Option (Option Mem.Mm) := match m.me with
  | [] => some none
  | l :: _ => (datasP m.da (mem0 l)).map some
/-- A place. -/
structure Pc where
  hs : List Int
  gs : List Int
  tb : List (Option Int)
  me : Option Mem.Mm
/-- P13.1. -/
def newP (m : Md) : Int × Pc :=
  if (wrongP m).e ≠ 0 then (2, ⟨[], [], [], none⟩)
  else if hostsOk m = false then (230, ⟨[], [], [], none⟩)
  else match tabP m, memP m with
    | none, _ => (220, ⟨[], [], [], none⟩)
    | some _, none => (220, ⟨[], [], [], none⟩)
    | some t, some x => (0, ⟨hostsL m, globs m, t, x⟩)
theorem hostsOk_at {m : Md} (h : hostsOk m = true) {k : Nat} (hk : k < m.im.length) : hostI m k ≠ 0 := by
  have := List.all_eq_true.1 h (hostI m k) (List.mem_map.2 ⟨k, List.mem_range.2 hk, rfl⟩)
  simpa using this
theorem hostsOk_no {m : Md} {k : Nat} (hk : k < m.im.length) (h : hostI m k = 0) : hostsOk m = false := by
  cases ho : hostsOk m with
  | false => rfl
  | true => exact absurd h (hostsOk_at ho hk)
theorem hostsOk_yes {m : Md} (h : ∀ k, k < m.im.length → hostI m k ≠ 0) : hostsOk m = true :=
  List.all_eq_true.2 fun z hz => by
    obtain ⟨k, hk, rfl⟩ := List.mem_map.1 hz
    simpa using h k (List.mem_range.1 hk)
theorem elemsP_length : ∀ (es : List El) (tb t : List (Option Int)), elemsP es tb = some t → t.length = tb.length
  | [], tb, t, h => by cases h; rfl
  | e :: r, tb, t, h => by
    unfold elemsP at h
    split at h
    · rw [elemsP_length r _ _ h, layF_length]
    · cases h
end Go.Proofs.YtckdnhafookcgaaGreatDoor.Pl

namespace Go.Proofs.YtckdnhafookcgaaGreatDoor.Mem
open Go.RowKit
open Go.Maps (Keyed int_keyed IsMap)
set_option linter.unusedVariables false

theorem rowF_over {R : List Int} {f : Nat → Int} {off s j T : Nat} (h : off + j + T ≤ R.length) : over (over R (rowF f s j) off) (rowF f (s + j) T) (off + j) = over R (rowF f s (j + T)) off := by
  have hl1 : off + (rowF f s j).length ≤ R.length := by rw [rowF_length]; omega
  have hlen : (over R (rowF f s j) off).length = R.length := over_length hl1
  apply List.ext_getElem?
  intro i
  have e : ∀ (X Y : List Int), X.length = Y.length → X.getD i 0 = Y.getD i 0 → X[i]? = Y[i]? := by
    intro X Y hl hd
    by_cases hi : i < X.length
    · rw [List.getElem?_eq_getElem hi, List.getElem?_eq_getElem (by omega)]
      rw [getD_lt hi, getD_lt (by omega)] at hd
      rw [hd]
    · rw [List.getElem?_eq_none (by omega), List.getElem?_eq_none (by omega)]
  refine e _ _ ?_ ?_
  · rw [over_length (by rw [rowF_length, hlen]; omega), hlen, over_length (by rw [rowF_length]; omega)]
  · rw [over_getD (by rw [rowF_length, hlen]; omega), over_getD hl1, over_getD (by rw [rowF_length]; omega)]
    simp only [rowF_length]
    by_cases h1 : off + j ≤ i ∧ i < off + j + T
    · rw [if_pos h1, if_pos (by omega), rowF_getD _ _ _ _ (by omega), rowF_getD _ _ _ _ (by omega)]
      congr 1; omega
    · rw [if_neg h1]
      by_cases h2 : off ≤ i ∧ i < off + j
      · rw [if_pos h2, if_pos (by omega), rowF_getD _ _ _ _ (by omega), rowF_getD _ _ _ _ (by omega)]
      · rw [if_neg h2, if_neg (by omega)]
theorem over_nil (R : List Int) (off : Nat) : over R [] off = R := by simp [over]
theorem over_same {R : List Int} {f : Nat → Int} {off s : Nat} {n : Nat} (h : off + n ≤ R.length) (hz : ∀ i, i < n → R.getD (off + i) 0 = f (s + i)) : over R (rowF f s n) off = R := by
  apply List.ext_getElem?
  intro i
  have hlen : (over R (rowF f s n) off).length = R.length := over_length (by rw [rowF_length]; omega)
  by_cases hi : i < R.length
  · have hd := over_getD (R := R) (xs := rowF f s n) (off := off) (by rw [rowF_length]; omega) i
    rw [rowF_length] at hd
    rw [List.getElem?_eq_getElem (by omega), List.getElem?_eq_getElem hi]
    rw [getD_lt (by omega), getD_lt hi] at hd
    rw [hd]
    split
    · rename_i hb
      have := hz (i - off) (by omega)
      rw [show off + (i - off) = i by omega, getD_lt hi] at this
      rw [rowF_getD _ _ _ _ (by omega), this]
    · rfl
  · rw [List.getElem?_eq_none (by omega), List.getElem?_eq_none (by omega)]

/-- What get has done of n bytes when j are behind it. -/
structure GotTo (W : World) (m : Mm) (g : Nat) (T : TypeId) (R : List Int) (off s j : Nat) (wr : World) : Prop where
  heap : wr.heap[g]? = some (.cells ((over R (rowF m.f s j) off).map (Value.int .u8)).toArray T (0, 0))
  save : Save g W wr
  size : wr.heap.size = W.heap.size
theorem GotTo.step {W : World} {m : Mm} {g : Nat} {T : TypeId} {R : List Int} {off s j t : Nat} {wr wr' : World} (h : GotTo W m g T R off s j wr) (hl : off + j + t ≤ R.length)
    (hh : wr'.heap[g]? = some (.cells ((over (over R (rowF m.f s j) off) (rowF m.f (s + j) t) (off + j)).map (Value.int .u8)).toArray T (0, 0))) (hs : Save g wr wr') (hz : wr'.heap.size = wr.heap.size) : GotTo W m g T R off s (j + t) wr' :=
  ⟨by rw [hh, rowF_over hl], h.save.trans hs, hz.trans h.size⟩
theorem GotTo.skip {W : World} {m : Mm} {g : Nat} {T : TypeId} {R : List Int} {off s j t n : Nat} {wr : World} (h : GotTo W m g T R off s j wr) (hjn : j + t ≤ n) (hl : off + n ≤ R.length) (hz : ∀ i, i < n → R.getD (off + i) 0 = 0)
    (hf : ∀ i, i < t → m.f (s + j + i) = 0) : GotTo W m g T R off s (j + t) wr := by
  have e := over_same (R := over R (rowF m.f s j) off) (f := m.f) (off := off + j) (s := s + j) (n := t) (by rw [over_length (by rw [rowF_length]; omega)]; omega) (fun i hi => by
    rw [over_getD (by rw [rowF_length]; omega), rowF_length, if_neg (by omega), hf i hi]
    have := hz (j + i) (by omega)
    rw [show off + j + i = off + (j + i) by omega]
    exact this)
  exact ⟨by rw [h.heap, ← rowF_over (by omega), e], h.save, h.size⟩
set_option maxRecDepth 100000 in
set_option maxHeartbeats 1600000 in
theorem get_any {B : Nat} {W : World} {p mb K : Nat} {D : DataW Unit} {m : Mm} (hM : MemAt B W p mb K D m) (g : Nat) (T : TypeId) (R : List Int) (a : Option Addr) (off n c s : Nat) (hh : W.heap[g]? = some (.cells (R.map (Value.int .u8)).toArray T (0, 0)))
    (hT : (T == 146 || T == 187) = false) (hoff : off + n ≤ R.length) (hc : n ≤ c) (hcm : c ≤ 140737488355328) (ha : 0 < n → a = some ⟨g, off, none⟩) (hs : s + n ≤ m.n * 65536) (hz : ∀ i, i < n → R.getD (off + i) 0 = 0) :
    Calls Tryz.prog 69 #[.pointer (some ⟨p, 0, none⟩), .int .u64 s, .slice a n c] W fun e W' => e = .returned (.tuple #[]) ∧ GotTo W m g T R off s n W' := by
  have hnp : m.n ≤ 65536 := Nat.le_trans hM.ok.n hM.ok.most
  have HM := hid hM
  have HH := hid hh
  have HT := hid hT
  have HS := hid hs
  have HZ := hid hz
  have HO := hid hoff
  have HP := hid hnp
  have HA := hid ha
  clear hM hh hT hs hz hoff hnp ha
  obtain ⟨S0, hS0⟩ : ∃ S0 : Int, (s : Int) = S0 := ⟨_, rfl⟩
  rw [hS0]
  have HS0 := hid hS0
  clear hS0
  go_enter Tryz.func69, Tryz.ntmps69
  go_wp2
  go_loopw [1, 2] (fun v1 v2 wr => ∃ (S : Int) (j r cc : Nat) (aa : Option Addr), v1 = .int .u64 S ∧ v2 = .slice aa r cc ∧ Hid (S = (s : Int) + j) ∧ Hid (r + j = n) ∧ r ≤ cc ∧ cc ≤ 140737488355328 ∧ Hid (0 < r → aa = some ⟨g, off + j, none⟩) ∧ Hid (GotTo W m g T R off s j wr)) (fun _ v2 _ => match v2 with | .slice _ r _ => r | _ => 0)
  case atStart => exact ⟨S0, 0, n, c, a, rfl, rfl, by show _ = _; rw [← HS0.out]; simp, rfl, hc, hcm, HA, ⟨by rw [show rowF m.f s 0 = [] from rfl, over_nil]; exact HH.out, Save.refl _ _, rfl⟩⟩
  case round =>
    obtain ⟨S, j, r, cc, aa, rfl, rfl, HSj, HR, hrc, hcc, HAA, HG⟩ := hrel
    clear HA hc hcm HS0
    by_cases hr : 0 < r
    · have hai := HAA.out hr
      subst hai
      clear HAA
      have hsj := HSj.out
      have hrj := HR.out
      have hs := HS.out
      have hp := HP.out
      obtain ⟨k, q, hkq, hq⟩ : ∃ k q : Nat, s + j = k * 65536 + q ∧ q < 65536 := ⟨(s + j) / 65536, (s + j) % 65536, by omega, by omega⟩
      have hdiv : S / 65536 = (k : Int) := by omega
      have hmod : S % 65536 = (q : Int) := by omega
      have hS0 : 0 ≤ S := by omega
      have hS1 : S ≤ 4294967296 := by have : m.n * 65536 ≤ 65536 * 65536 := Nat.mul_le_mul_right _ hp; omega
      obtain ⟨t, ht⟩ : ∃ t : Nat, min r (65536 - q) = t := ⟨_, rfl⟩
      have htr : t ≤ r := by omega
      have htq : t ≤ 65536 - q := by omega
      have ht0 : 0 < t := by omega
      have hmin : min (r : Int) (65536 - (q : Int)) = (t : Int) := by omega
      have hmin2 : (if 65536 - (q : Int) < (r : Int) then 65536 - (q : Int) else (r : Int)) = (t : Int) := by split <;> omega
      have hM2 : MemAt B wr p mb K D m := HM.out.save HG.out.save HH.out HT.out
      have c3 := hM2.cells.2.2.2
      have HL := hM2.look k (by omega)
      have HKQ := hid hkq
      have HQ := hid hq
      clear hM2 hsj hrj hs hp hkq hq ht
      have hS2 : S + (t : Int) ≤ 4295032832 := by omega
      have hq1 : (q : Int) < 65536 := by have := HQ.out; omega
      have hq2 : (t : Int) ≤ 65536 - (q : Int) := by omega
      have htri : (t : Int) ≤ (r : Int) := by omega
      have htci : (t : Int) ≤ (cc : Int) := by omega
      rcases HL with ⟨hrun, _, hnull⟩ | ⟨pg, hpB, hrun, _, hpage⟩
      · have HN : Hid (GotTo W m g T R off s (j + t) wr) := HG.out.skip (by have := HR.out; omega) HO.out HZ.out (fun i hi => by
          have h1 := HKQ.out
          rw [h1, show k * 65536 + q + i = k * 65536 + (q + i) by omega]
          exact hnull _ (by omega))
        clear hnull
        have hrel : Hid (S + (t : Int) = (s : Int) + ((j + t : Nat) : Int)) := hid (by have := HSj.out; push_cast; omega)
        have hrel2 : Hid (r - t + (j + t) = n) := hid (by have := HR.out; omega)
        by_cases htc : t = cc
        · subst htc
          obtain rfl : r = t := by omega
          go_wp2
          go_roundw
          case rel => exact ⟨_, j + r, 0, 0, _, rfl, rfl, hrel, by simpa using hrel2, by omega, by omega, fun h => by omega, HN⟩
          case measure => simp; omega
        · go_wp2
          go_roundw
          case rel => exact ⟨_, j + t, r - t, _, _, rfl, rfl, hrel, hrel2, by omega, by omega, fun _ => by rw [Nat.add_assoc], HN⟩
          case measure => simp; omega
      · have hrel : Hid (S + (t : Int) = (s : Int) + ((j + t : Nat) : Int)) := hid (by have := HSj.out; push_cast; omega)
        have hrel2 : Hid (r - t + (j + t) = n) := hid (by have := HR.out; omega)
        obtain ⟨L, hL, hLl, hLf⟩ := hpage
        have hdst := HG.out.heap
        have hfit : off + j + t ≤ (over R (rowF m.f s j) off).length := by
          have h1 := HR.out
          have h2 := HO.out
          rw [over_length (by rw [rowF_length]; omega)]
          omega
        have hsrc : ∀ i, i < t → wr.cell? ⟨pg, q + i, none⟩ = some (.int .u8 ((rowF m.f (s + j) t).getD i 0)) := fun i hi => by
          have h1 := HKQ.out
          have h2 := hLf (q + i) (by omega)
          rw [rowF_getD _ _ _ _ hi, h1, show k * 65536 + q + i = k * 65536 + (q + i) by omega, ← h2]
          have h3 : q + i < L.length := by omega
          simp [World.cell?, hL, h3]
        have hlen := rowF_length m.f t (s + j)
        have hmn : Hid (t = Nat.min (65536 - q) t) := hid (Nat.min_eq_right (by omega)).symm
        have HSTEP := hid (fun (w2 : World) (h1 : Hid (w2.heap[g]? = some (.cells ((over (over R (rowF m.f s j) off) (rowF m.f (s + j) t) (off + j)).map (Value.int .u8)).toArray T (0, 0)))) (h2 : Save g wr w2) (h3 : w2.heap.size = wr.heap.size) => HG.out.step (by have := HR.out; have := HO.out; omega) h1.out h2 h3)
        have hsl := slice_page pg q (by omega)
        clear hL hLl hLf HG
        by_cases htc : t = cc
        · subst htc
          obtain rfl : r = t := by omega
          go_wp2_with fail
          go_region_law (refine copy_step (g := g) (off := off + j) (dl := r) (dc := r) (sl := 65536 - q) (sc := 65536 - q) (q := pg) (o2 := q) (M := r) (by rfl) (.tmp 31) (.tmp 35) (by rfl) (by go_simp) (by go_simp) hdst hlen hmn.out hfit hsrc ?_; intro w2 hh2 hs2 hz2)
          have HN := hid (HSTEP.out w2 hh2 ((Save.refl g wr).drew.trans hs2) hz2)
          clear HSTEP hh2 hs2 hz2 hdst hfit hsrc hlen
          go_wp2
          go_roundw
          case rel => exact ⟨_, j + r, 0, 0, _, rfl, rfl, hrel, by simpa using hrel2, by omega, by omega, fun h => by omega, HN⟩
          case measure => simp; omega
        · go_wp2_with fail
          go_region_law (refine copy_step (g := g) (off := off + j) (dl := t) (dc := cc) (sl := 65536 - q) (sc := 65536 - q) (q := pg) (o2 := q) (M := t) (by rfl) (.tmp 31) (.tmp 35) (by rfl) (by go_simp) (by go_simp) hdst hlen hmn.out hfit hsrc ?_; intro w2 hh2 hs2 hz2)
          have HN := hid (HSTEP.out w2 hh2 ((Save.refl g wr).drew.trans hs2) hz2)
          clear HSTEP hh2 hs2 hz2 hdst hfit hsrc hlen
          go_wp2
          go_roundw
          case rel => exact ⟨_, j + t, r - t, _, _, rfl, rfl, hrel, hrel2, by omega, by omega, fun _ => by rw [Nat.add_assoc], HN⟩
          case measure => simp; omega
    · obtain rfl : r = 0 := by omega
      have HG2 : Hid (GotTo W m g T R off s n wr) := by
        have h1 := HR.out
        have h2 : j = n := by omega
        rw [← h2]; exact HG.out
      go_wp2
      go_end0
      exact ⟨rfl, HG2.out⟩
end Go.Proofs.YtckdnhafookcgaaGreatDoor.Mem

namespace Go.Proofs.YtckdnhafookcgaaGreatDoor.Mem
open Go.RowKit
open Go.Maps (Keyed int_keyed IsMap)
set_option linter.unusedVariables false

/-- What put has done when j bytes are behind it. -/
def PutTo (B : Nat) (W : World) (p mb K : Nat) (m : Mm) (zs : List Int) (s j : Nat) (wr : World) : Prop :=
  ∃ D K', K' ≤ K + j ∧ MemAt B wr p mb K' D { m with f := putF m.f s (zs.take j) } ∧ Keep W wr ∧ Below B W wr
theorem own_page (C : Array Value) (q : Nat × Nat) : isOwn (.cells C 187 q) = true := by simp [isOwn]
theorem save_of_grown {w w' : World} {k : Nat} (h : w.grownBy w' (some k)) : Save k w w' := ⟨h.os, h.tape, h.output, h.size, fun j hj hk => h.block j hj (fun e => hk (by cases e; rfl))⟩
/-- Bytes are laid on a page. -/
theorem PageAt.lay {L xs : List Int} {f : Nat → Int} {k q : Nat} (hl : L.length = 65536) (hf : ∀ i, i < 65536 → L.getD i 0 = f (k * 65536 + i)) (hx : q + xs.length ≤ 65536) :
    (over L xs q).length = 65536 ∧ ∀ i, i < 65536 → (over L xs q).getD i 0 = putF f (k * 65536 + q) xs (k * 65536 + i) := by
  refine ⟨by rw [over_length (by omega), hl], fun i hi => ?_⟩
  rw [over_getD (by omega)]
  unfold putF
  by_cases h : q ≤ i ∧ i < q + xs.length
  · rw [if_pos h, if_pos (by omega)]; congr 1; omega
  · rw [if_neg h, if_neg (by omega), hf i hi]
theorem off_page {a k q t P : Nat} (ha : a < k * P ∨ (k + 1) * P ≤ a) (hq : q + t ≤ P) : a < k * P + q ∨ k * P + q + t ≤ a := by
  rw [Nat.succ_mul] at ha
  generalize k * P = X at *
  rcases ha with h | h
  · exact .inl (Nat.lt_of_lt_of_le h (Nat.le_add_right _ _))
  · refine .inr (Nat.le_trans ?_ h)
    rw [Nat.add_assoc]
    exact Nat.add_le_add_left hq X
theorem PutTo.step {B : Nat} {W : World} {p mb K : Nat} {m : Mm} {zs : List Int} {s j t k q pg K' : Nat} {wx w2 : World} {D : DataW Unit} {L : List Int} (hK : K' ≤ K + j + t) (hM : MemAt B wx p mb K' D { m with f := putF m.f s (zs.take j) }) (hk : Keep W wx) (hb : Below B W wx)
    (hD : D.atKey (.int .u64 k) .nil = .lit (.int .i64 pg)) (hpg : B ≤ pg) (hL : wx.heap[pg]? = some (.cells (L.map (Value.int .u8)).toArray 187 (0, 0))) (hLl : L.length = 65536) (hLf : ∀ i, i < 65536 → L.getD i 0 = putF m.f s (zs.take j) (k * 65536 + i))
    (hkq : s + j = k * 65536 + q) (hj : j + t ≤ zs.length) (hq : q + t ≤ 65536) (hz : ∀ z ∈ zs, 0 ≤ z ∧ z < 256) (hB : B ≤ W.heap.size)
    (hh : w2.heap[pg]? = some (.cells ((over L ((zs.drop j).take t) q).map (Value.int .u8)).toArray 187 (0, 0))) (hs : Save pg wx w2) : PutTo B W p mb K m zs s (j + t) w2 := by
  have hxl : ((zs.drop j).take t).length = t := by simp; omega
  have hjl : (zs.take j).length = j := by simp; omega
  have hff : putF (putF m.f s (zs.take j)) (k * 65536 + q) ((zs.drop j).take t) = putF m.f s (zs.take (j + t)) := by
    rw [← hkq]
    have := putF_append m.f s (zs.take j) ((zs.drop j).take t)
    rw [hjl] at this
    rw [this, List.take_add]
  have hlay := PageAt.lay hLl hLf (xs := (zs.drop j).take t) (q := q) (by rw [hxl]; exact hq)
  refine ⟨D, K', by omega, ?_, hk.trans (Keep.of_save hs hL (own_page _ _)), ?_⟩
  · have := hM.written (f' := putF m.f s (zs.take (j + t))) hD hs ⟨_, hh, hlay.1, fun i hi => by rw [hlay.2 i hi, hff]⟩ (fun a ha => by
      show _ = putF m.f s (zs.take j) a
      rw [← hff]
      refine putF_other _ _ _ _ ?_
      rw [hxl]
      exact off_page ha hq) (fun a => by
      rw [← hff]
      refine putF_byte (fun a => hM.ok.byte a) (fun z hzm => hz z (List.mem_of_mem_drop (List.mem_of_mem_take hzm))) _ _)
    exact this
  · exact hb.trans (hs.below (Nat.le_trans hB hb.size) hpg)
theorem src_cells {B : Nat} {W wr : World} {b off n j t : Nat} {zs : List Int} {o : Obj} (hc : ∀ i, i < n → W.cell? ⟨b, off + i, none⟩ = some (.int .u8 (zs.getD i 0))) (ho : W.heap[b]? = some o) (hn : isOwn o = false ∨ b < B) (hk : Keep W wr) (hb : Below B W wr) (hj : j + t ≤ n) (hl : zs.length = n) :
    ∀ i, i < t → wr.cell? ⟨b, off + j + i, none⟩ = some (.int .u8 (((zs.drop j).take t).getD i 0)) := by
  intro i hi
  have h1 := hc (j + i) (by omega)
  have h2 : wr.cell? ⟨b, off + (j + i), none⟩ = W.cell? ⟨b, off + (j + i), none⟩ := World.cell?_of_block (w := W) (by
    rcases hn with hn | hn
    · exact (hk.block b o ho hn).trans ho.symm
    · exact hb.block b hn)
  rw [show off + j + i = off + (j + i) by omega, h2, h1]
  rw [List.getD_eq_getElem?_getD, List.getD_eq_getElem?_getD, List.getElem?_take_of_lt hi, List.getElem?_drop]
set_option maxRecDepth 100000 in
set_option maxHeartbeats 1600000 in
theorem put_any {B : Nat} {W : World} {p mb K : Nat} {D : DataW Unit} {m : Mm} (hM : MemAt B W p mb K D m) (hB : B ≤ W.heap.size) (b off : Nat) (a : Option Addr) (n c s : Nat) (zs : List Int) (hzl : zs.length = n) (hz : ∀ z ∈ zs, 0 ≤ z ∧ z < 256) (hc : n ≤ c) (hcm : c ≤ 9223372036854775807)
    (ha : 0 < n → a = some ⟨b, off, none⟩ ∧ (∀ i, i < n → W.cell? ⟨b, off + i, none⟩ = some (.int .u8 (zs.getD i 0))) ∧ ∃ o, W.heap[b]? = some o ∧ (isOwn o = false ∨ b < B)) (hs : s + n ≤ m.n * 65536) (hK : K + n ≤ 1000000000) :
    Calls Tryz.prog 70 #[.pointer (some ⟨p, 0, none⟩), .int .u64 s, .slice a n c] W fun e W' => e = .returned (.tuple #[]) ∧ PutTo B W p mb K m zs s n W' := by
  have hnp : m.n ≤ 65536 := Nat.le_trans hM.ok.n hM.ok.most
  have H0 : PutTo B W p mb K m zs s 0 W := ⟨D, K, Nat.le_refl _, by rw [List.take_zero, putF_nil]; exact hM, Keep.refl W, Below.refl B W⟩
  have H0 := hid H0
  have HS := hid hs
  have HZ := hid hz
  have HZL := hid hzl
  have HP := hid hnp
  have HA := hid ha
  have HK := hid hK
  have HB := hid hB
  clear hM hs hz hzl hnp ha hK hB
  obtain ⟨S0, hS0⟩ : ∃ S0 : Int, (s : Int) = S0 := ⟨_, rfl⟩
  rw [hS0]
  have HS0 := hid hS0
  clear hS0
  go_enter Tryz.func70, Tryz.ntmps70
  go_wp2
  go_loopw [1, 2] (fun v1 v2 wr => ∃ (S : Int) (j r cc : Nat) (aa : Option Addr), v1 = .int .u64 S ∧ v2 = .slice aa r cc ∧ Hid (S = (s : Int) + j) ∧ Hid (r + j = n) ∧ r ≤ cc ∧ cc ≤ 9223372036854775807 ∧ Hid (0 < r → aa = some ⟨b, off + j, none⟩) ∧ Hid (PutTo B W p mb K m zs s j wr)) (fun _ v2 _ => match v2 with | .slice _ r _ => r | _ => 0)
  case atStart => exact ⟨S0, 0, n, c, a, rfl, rfl, by show _ = _; rw [← HS0.out]; simp, rfl, hc, hcm, fun h => (HA.out h).1, H0⟩
  case round =>
    obtain ⟨S, j, r, cc, aa, rfl, rfl, HSj, HR, hrc, hcc, HAA, HG⟩ := hrel
    clear hc hcm HS0 H0
    by_cases hr : 0 < r
    · have hai := HAA.out hr
      subst hai
      clear HAA
      have hsj := HSj.out
      have hrj := HR.out
      have hs := HS.out
      have hp := HP.out
      obtain ⟨_, hcell, ob, hob, hown⟩ := HA.out (by omega)
      obtain ⟨k, q, hkq, hq⟩ : ∃ k q : Nat, s + j = k * 65536 + q ∧ q < 65536 := ⟨(s + j) / 65536, (s + j) % 65536, by omega, by omega⟩
      have hdiv : S / 65536 = (k : Int) := by omega
      have hmod : S % 65536 = (q : Int) := by omega
      have hS0 : 0 ≤ S := by omega
      have hmn2 : m.n * 65536 ≤ 65536 * 65536 := Nat.mul_le_mul_right _ hp
      have hS1 : S ≤ 4294967296 := by omega
      obtain ⟨t, ht⟩ : ∃ t : Nat, min r (65536 - q) = t := ⟨_, rfl⟩
      have htr : t ≤ r := by omega
      have htq : t ≤ 65536 - q := by omega
      have ht0 : 0 < t := by omega
      have hmn : Hid (t = Nat.min r (65536 - q)) := hid (by show t = min _ _; omega)
      obtain ⟨D1, K1, hK1, hM1, hkeep, hbel⟩ := HG.out
      have c3 := hM1.cells.2.2.2
      have hk64 : k < 18446744073709551616 := by omega
      have HL := hM1.look k hk64
      have HSRC := hid (fun (wx : World) (h : Keep W wx) (hb : Below B W wx) => src_cells (j := j) (t := t) hcell hob hown h hb (by omega) HZL.out)
      have HSTEP := hid (fun (wx w2 : World) (Kx : Nat) (Dx : DataW Unit) (pg : Nat) (L : List Int) (h1 : Kx ≤ K + j + t) (h2 : MemAt B wx p mb Kx Dx { m with f := putF m.f s (zs.take j) }) (h3 : Keep W wx) (h4 : Below B W wx)
        (h5 : Dx.atKey (.int .u64 k) .nil = .lit (.int .i64 pg)) (h6 : B ≤ pg) (h7 : wx.heap[pg]? = some (.cells (L.map (Value.int .u8)).toArray 187 (0, 0))) (h8 : L.length = 65536) (h9 : ∀ i, i < 65536 → L.getD i 0 = putF m.f s (zs.take j) (k * 65536 + i))
        (h10 : w2.heap[pg]? = some (.cells ((over L ((zs.drop j).take t) q).map (Value.int .u8)).toArray 187 (0, 0))) (h11 : Save pg wx w2) =>
        PutTo.step h1 h2 h3 h4 h5 h6 h7 h8 h9 hkq (by rw [HZL.out]; omega) (by omega) HZ.out HB.out h10 h11)
      have hrel : Hid (S + (t : Int) = (s : Int) + ((j + t : Nat) : Int)) := hid (by push_cast; omega)
      have hrel2 : Hid (r - t + (j + t) = n) := hid (by omega)
      have hlen : ((zs.drop j).take t).length = t := by have := HZL.out; simp; omega
      have HKK := hid (show K1 + 1 ≤ K + j + t ∧ K1 < maxLen from ⟨by omega, by have := HK.out; unfold maxLen; omega⟩)
      have HMK := hid hM1
      have HKEEP := hid hkeep
      have HBEL := hid hbel
      clear hsj hrj hs hp hkq ht hcell hob hown hmn2 hM1 hkeep hbel HG hK1
      have hS2 : S + (t : Int) ≤ 4295032832 := by omega
      have hq1 : (q : Int) < 65536 := by omega
      have hq2 : (t : Int) ≤ 65536 - (q : Int) := by omega
      have htri : (t : Int) ≤ (r : Int) := by omega
      have htci : (t : Int) ≤ (cc : Int) := by omega
      rcases HL with ⟨hrun, hD0, hnull⟩ | ⟨pg, hpB, hrun, hD1, hpage⟩
      · obtain ⟨Z, hz0, hzs, hz1, hZ⟩ := zeroPage
        obtain ⟨pg, hpg⟩ : ∃ pg, wr.heap.size = pg := ⟨_, rfl⟩
        obtain ⟨wa, hwa⟩ : ∃ wa, wr.alloc (.cells Z 187) = wa := ⟨_, rfl⟩
        have hba : Below wr.heap.size wr wa := by rw [← hwa]; exact thenA (Below.refl _ _) _
        have hwn : wa.heap[pg]? = some (.cells Z 187 (0, 0)) := by rw [← hwa, ← hpg]; exact (MapKept.heap_alloc wr _).1
        have HMA := hid (HMK.out.below hba)
        have c3a := HMA.out.cells.2.2.2
        have hBpg : B ≤ pg := by have := HBEL.out.size; have := HB.out; omega
        have HFR := hid (fun (wm : World) (hown : wm.ownsMap Tryz.prog 136 ptrElem mb (K1 + 1) (D1.put (.int .u64 k) (.lit (.int .i64 pg)))) (hgr : wa.grownBy wm (some mb)) => (show MemAt B wm p mb (K1 + 1) (D1.put (.int .u64 k) (.lit (.int .i64 pg))) { m with f := putF m.f s (zs.take j) } ∧ Keep W wm ∧ Below B W wm ∧ (D1.put (.int .u64 k) (.lit (.int .i64 pg))).atKey (.int .u64 k) .nil = .lit (.int .i64 pg) ∧ wm.heap[pg]? = some (.cells Z 187 (0, 0)) from by
          have hs := save_of_grown hgr
          obtain ⟨es, ck, hmb⟩ := HMA.out.mblock
          have hne : pg ≠ mb := fun e => by rw [← e, hwn] at hmb; cases hmb
          have hkey : WideAt.IsKeyLit (.int .u64 k) := Maps.keyOf_int_mk (P := Tryz.prog) Tryz.underlying136 (wf64 hk64) |> fun h => (keyed.key h)
          refine ⟨HMA.out.fresh hD0 hBpg (fun k' g' h' => ?_) ⟨List.replicate 65536 0, ?_, List.length_replicate, fun i _ => zeros_getD i⟩ hown hs hkey, ?_, ?_, ?_, ?_⟩
          · have := HMK.out.page_lt k' g' h'; omega
          · rw [hwn, hZ]
          · exact HKEEP.out.trans ((Keep.of_below hba).trans (Keep.of_save hs hmb rfl))
          · exact (HBEL.out.trans (hba.mono (by have := HBEL.out.size; have := HB.out; omega))).trans (hs.below (by have := hba.size; have := HBEL.out.size; have := HB.out; omega) HMA.out.bm)
          · exact Maps.atKey_put_same HMA.out.isMap hkey _ _
          · exact (hs.block pg (Array.getElem?_eq_some_iff.1 hwn).1 hne).trans hwn))
        have hmapa := HMA.out.map
        have hK1m := HKK.out.2
        have hkeyk : keyOf Tryz.prog 136 (.int .u64 (k : Int)) = some (.int .u64 (k : Int)) := Maps.keyOf_int_mk Tryz.underlying136 (wf64 hk64)
        clear hwn hba
        have hsl := slice_page pg q hq
        subst hwa
        subst hpg
        have HSTEP2 := hid (fun (wm : World) (h1 : MemAt B wm p mb (K1 + 1) (D1.put (.int .u64 k) (.lit (.int .i64 wr.heap.size))) { m with f := putF m.f s (zs.take j) }) (h2 : Keep W wm) (h3 : Below B W wm) (h4 : (D1.put (.int .u64 k) (.lit (.int .i64 wr.heap.size))).atKey (.int .u64 k) .nil = .lit (.int .i64 wr.heap.size)) (h5 : wm.heap[wr.heap.size]? = some (.cells ((List.replicate 65536 (0 : Int)).map (Value.int .u8)).toArray 187 (0, 0))) (w2 : World) =>
          HSTEP.out wm w2 (K1 + 1) (D1.put (.int .u64 k) (.lit (.int .i64 wr.heap.size))) wr.heap.size (List.replicate 65536 0) HKK.out.1 h1 h2 h3 h4 hBpg h5 List.length_replicate (fun i hi => (zeros_getD i).trans (hnull i hi).symm))
        have hfit : q + t ≤ (List.replicate 65536 (0 : Int)).length := by rw [List.length_replicate]; omega
        have HZ2 := hid hZ
        clear hnull hZ HSTEP hD0
        by_cases htc : t = cc
        · subst htc
          obtain rfl : r = t := by omega
          go_wp2_with (first
            | (at_mapUpdate
               refine wpList_mapUpdate_own _ rfl _ _ _ 144 rfl 136 185 keyed Tryz.underlying144 ptrElem mb K1 D1 rfl hmapa hK1m (.int .u64 (k : Int)) (.pointer (some ⟨wr.heap.size, 0, none⟩)) (.int .u64 (k : Int)) (by go_simp) rfl hkeyk (.lit (.int .i64 wr.heap.size)) [] rfl ?_
               intro w1 hown1 hgrow1
               obtain ⟨hn1, hn2, hn3, hn4, hn5⟩ := HFR.out w1 hown1 hgrow1
               rw [HZ2.out] at hn5
               have hsrc := HSRC.out w1 hn2 hn3
               have HST := hid (HSTEP2.out w1 hn1 hn2 hn3 hn4 hn5)
               clear hown1 hgrow1 hn1 hn2 hn3 hn4 HFR HSTEP2 hmapa)
            | (refine copy_list (by rfl) (.tmp 32) (.tmp 33) (by rfl) (g := wr.heap.size) (off := q) (dl := 65536 - q) (dc := 65536 - q) (sl := r) (sc := r) (q := b) (o2 := off + j) (M := r) (by go_simp) (by go_simp) hn5 hlen hmn.out hfit hsrc ?_; intro w2 hh2 hs2 hz2))
          have HN := hid (HST.out w2 hh2.out hs2)
          clear HST hh2 hs2 hz2 hfit hsrc hlen hn5
          go_wp2
          go_roundw
          case rel => exact ⟨_, j + r, 0, 0, _, rfl, rfl, hrel, by simpa using hrel2, by omega, by omega, fun h => by omega, HN⟩
          case measure => simp; omega
        · go_wp2_with (first
            | (at_mapUpdate
               refine wpList_mapUpdate_own _ rfl _ _ _ 144 rfl 136 185 keyed Tryz.underlying144 ptrElem mb K1 D1 rfl hmapa hK1m (.int .u64 (k : Int)) (.pointer (some ⟨wr.heap.size, 0, none⟩)) (.int .u64 (k : Int)) (by go_simp) rfl hkeyk (.lit (.int .i64 wr.heap.size)) [] rfl ?_
               intro w1 hown1 hgrow1
               obtain ⟨hn1, hn2, hn3, hn4, hn5⟩ := HFR.out w1 hown1 hgrow1
               rw [HZ2.out] at hn5
               have hsrc := HSRC.out w1 hn2 hn3
               have HST := hid (HSTEP2.out w1 hn1 hn2 hn3 hn4 hn5)
               clear hown1 hgrow1 hn1 hn2 hn3 hn4 HFR HSTEP2 hmapa)
            | (refine copy_list (by rfl) (.tmp 32) (.tmp 33) (by rfl) (g := wr.heap.size) (off := q) (dl := 65536 - q) (dc := 65536 - q) (sl := r) (sc := cc) (q := b) (o2 := off + j) (M := t) (by go_simp) (by go_simp) hn5 hlen hmn.out hfit hsrc ?_; intro w2 hh2 hs2 hz2))
          have HN := hid (HST.out w2 hh2.out hs2)
          clear HST hh2 hs2 hz2 hfit hsrc hlen hn5
          go_wp2
          go_roundw
          case rel => exact ⟨_, j + t, r - t, _, _, rfl, rfl, hrel, hrel2, by omega, by omega, fun _ => by rw [Nat.add_assoc], HN⟩
          case measure => simp; omega
      · obtain ⟨L, hL, hLl, hLf⟩ := hpage
        have hsl := slice_page pg q hq
        have hsrc := HSRC.out wr HKEEP.out HBEL.out
        have hfit : q + t ≤ L.length := by omega
        have HST := hid (fun w2 => HSTEP.out wr w2 K1 D1 pg L (by have := HKK.out.1; omega) HMK.out HKEEP.out HBEL.out hD1 hpB hL hLl hLf)
        have HD1 := hid hD1
        clear hLl hLf HSTEP HSRC hD1
        by_cases htc : t = cc
        · subst htc
          obtain rfl : r = t := by omega
          go_wp2_with (refine copy_list (by rfl) (.tmp 32) (.tmp 33) (by rfl) (g := pg) (off := q) (dl := 65536 - q) (dc := 65536 - q) (sl := r) (sc := r) (q := b) (o2 := off + j) (M := r) (by go_simp) (by go_simp) hL hlen hmn.out hfit hsrc ?_; intro w2 hh2 hs2 hz2)
          have HN := hid (HST.out w2 hh2.out hs2)
          clear HST hh2 hs2 hz2 hfit hsrc hlen hL
          go_wp2
          go_roundw
          case rel => exact ⟨_, j + r, 0, 0, _, rfl, rfl, hrel, by simpa using hrel2, by omega, by omega, fun h => by omega, HN⟩
          case measure => simp; omega
        · go_wp2_with (refine copy_list (by rfl) (.tmp 32) (.tmp 33) (by rfl) (g := pg) (off := q) (dl := 65536 - q) (dc := 65536 - q) (sl := r) (sc := cc) (q := b) (o2 := off + j) (M := t) (by go_simp) (by go_simp) hL hlen hmn.out hfit hsrc ?_; intro w2 hh2 hs2 hz2)
          have HN := hid (HST.out w2 hh2.out hs2)
          clear HST hh2 hs2 hz2 hfit hsrc hlen hL
          go_wp2
          go_roundw
          case rel => exact ⟨_, j + t, r - t, _, _, rfl, rfl, hrel, hrel2, by omega, by omega, fun _ => by rw [Nat.add_assoc], HN⟩
          case measure => simp; omega
    · obtain rfl : r = 0 := by omega
      have HG2 : Hid (PutTo B W p mb K m zs s n wr) := by
        have h1 := HR.out
        have h2 : j = n := by omega
        rw [← h2]; exact HG.out
      go_wp2
      go_end0
      exact ⟨rfl, HG2.out⟩
end Go.Proofs.YtckdnhafookcgaaGreatDoor.Mem

namespace Go.Proofs.YtckdnhafookcgaaGreatDoor.Mem
open Go.RowKit Go.Proofs.YtckdnhafookcgaaGreatDoor.Instr Go.Proofs.YtckdnhafookcgaaGreatDoor.Num
open Go.Maps (Keyed int_keyed IsMap)
set_option linter.unusedVariables false

/-- A memory, whose map has room. -/
def MemIs (B : Nat) (W : World) (p K : Nat) (m : Mm) : Prop := ∃ mb D K', K' ≤ K ∧ MemAt B W p mb K' D m
theorem MemIs.below {B : Nat} {W W' : World} {p K : Nat} {m : Mm} (h : MemIs B W p K m) (hb : Below W.heap.size W W') : MemIs B W' p K m := by
  obtain ⟨mb, D, K', hK, h⟩ := h
  exact ⟨mb, D, K', hK, h.below hb⟩
theorem MemIs.save {B : Nat} {W W' : World} {p K g : Nat} {m : Mm} {o : Obj} (h : MemIs B W p K m) (hs : Save g W W') (hg : W.heap[g]? = some o) (ho : isOwn o = false) : MemIs B W' p K m := by
  obtain ⟨mb, D, K', hK, h⟩ := h
  exact ⟨mb, D, K', hK, h.save hs hg ho⟩
theorem MemIs.mono {B : Nat} {W : World} {p K K2 : Nat} {m : Mm} (h : MemIs B W p K m) (hk : K ≤ K2) : MemIs B W p K2 m := by
  obtain ⟨mb, D, K', hK, h⟩ := h
  exact ⟨mb, D, K', Nat.le_trans hK hk, h⟩
theorem MemIs.ok {B : Nat} {W : World} {p K : Nat} {m : Mm} (h : MemIs B W p K m) : m.ok := by
  obtain ⟨mb, D, K', hK, h⟩ := h
  exact h.ok
theorem MemIs.cells {B : Nat} {W : World} {p K : Nat} {m : Mm} (h : MemIs B W p K m) : W.cell? ⟨p, 0, none⟩ = some (.pointer (some ⟨p, 0, none⟩)) ∧ W.cell? ⟨p, 1, none⟩ = some (.int .u32 m.n) ∧ W.cell? ⟨p, 2, none⟩ = some (.int .u32 m.most) := by
  obtain ⟨mb, D, K', hK, h⟩ := h
  exact ⟨h.cells.1, h.cells.2.1, h.cells.2.2.1⟩

end Go.Proofs.YtckdnhafookcgaaGreatDoor.Mem

namespace Go.Proofs.YtckdnhafookcgaaGreatDoor.Mem
open Go.RowKit Go.Proofs.YtckdnhafookcgaaGreatDoor.Instr Go.Proofs.YtckdnhafookcgaaGreatDoor.Num
open Go.Maps (Keyed int_keyed IsMap)
set_option linter.unusedVariables false

/-- What a call that writes leaves: the memory as told, and all else as it was. -/
def Wrote (B : Nat) (W : World) (p K : Nat) (m : Mm) (w' : World) : Prop := MemIs B w' p K m ∧ Keep W w' ∧ Below B W w'
theorem Wrote.of_put {B : Nat} {W W2 : World} {p mb K K2 n s : Nat} {m : Mm} {zs : List Int} (h : PutTo B W p mb K m zs s n W2) (hk : K + n ≤ K2) (hl : zs.length = n) : Wrote B W p K2 { m with f := putF m.f s zs } W2 := by
  obtain ⟨D, K', hK, hM, h1, h2⟩ := h
  rw [List.take_of_length_le (by omega)] at hM
  exact ⟨⟨mb, D, K', by omega, hM⟩, h1, h2⟩
theorem Wrote.none {B : Nat} {W W2 : World} {p K K2 : Nat} {m : Mm} (h : MemIs B W p K m) (hk : K ≤ K2) (hb : Below W.heap.size W W2) (hB : B ≤ W.heap.size) : Wrote B W p K2 m W2 := ⟨(h.below hb).mono hk, Keep.of_below hb, hb.mono hB⟩
theorem Write_anyC {B : Nat} {W : World} {p K : Nat} {m : Mm} (hM : MemIs B W p K m) (hB : B ≤ W.heap.size) (b off : Nat) (a : Option Addr) (n c s : Nat) (zs : List Int) (hzl : zs.length = n) (hz : ∀ z ∈ zs, 0 ≤ z ∧ z < 256) (hc : n ≤ c) (hcm : c ≤ 9223372036854775807) (hs : s ≤ 4294967295)
    (ha : 0 < n → a = some ⟨b, off, none⟩ ∧ (∀ i, i < n → W.cell? ⟨b, off + i, none⟩ = some (.int .u8 (zs.getD i 0))) ∧ ∃ o, W.heap[b]? = some o ∧ (isOwn o = false ∨ b < B)) (hK : K + n ≤ 1000000000) :
    Calls Tryz.prog 28 #[.pointer (some ⟨p, 0, none⟩), .int .u32 s, .slice a n c] W fun e w' => e = .returned (.int .i64 (m.write s zs).2) ∧ Wrote B W p (K + n) (m.write s zs).1 w' := by
  have hnp : m.n ≤ 65536 := Nat.le_trans hM.ok.n hM.ok.most
  have C1 := hid (made_yes p W hM.cells.1)
  have C2 := has_any p m.n s n W hM.cells.2.1 ⟨by omega, by omega⟩ ⟨by omega, by omega⟩ ⟨by omega, by omega⟩
  have he : m.has s zs.length = decide ((s : Int) + (n : Int) ≤ (m.n : Int) * 65536) := by
    unfold Mm.has
    rw [hzl, decide_eq_decide]; constructor <;> intro h <;> omega
  unfold Mm.write
  rw [he]
  by_cases hin : (s : Int) + (n : Int) ≤ (m.n : Int) * 65536
  · have CP := hid (show Calls Tryz.prog 70 #[.pointer (some ⟨p, 0, none⟩), .int .u64 s, .slice a n c] W fun e W' => e = .returned (.tuple #[]) ∧ Wrote B W p (K + n) { m with f := putF m.f s zs } W' from by
      obtain ⟨mb, D, K', hK', hm⟩ := hM
      exact (put_any hm hB b off a n c s zs hzl hz hc (by omega) ha (by omega) (by omega)).mono fun e W' ⟨he, h⟩ => ⟨he, Wrote.of_put h (by omega) hzl⟩)
    rw [decide_eq_true hin] at C2 ⊢
    have C2 := hid C2
    clear hM hnp he hin ha hz hzl hK
    obtain ⟨S, hS⟩ : ∃ S : Int, (s : Int) = S := ⟨_, rfl⟩
    have hS0 : 0 ≤ S ∧ S ≤ 4294967295 := by omega
    obtain ⟨hS0, hS1⟩ := hS0
    rw [hS] at C2 CP ⊢
    clear hS
    go_enter Tryz.func28, Tryz.ntmps28
    go_wp2_with fail
    refine C1.out.mono ?_
    rintro e w1 ⟨rfl, rfl⟩
    go_wp2_with fail
    refine C2.out.mono ?_
    rintro e w1 ⟨rfl, rfl⟩
    go_wp2_with fail
    refine CP.out.mono ?_
    rintro e w1 ⟨rfl, hW⟩
    go_wp2
    go_ret
    exact ⟨rfl, hW⟩
  · rw [decide_eq_false hin] at C2 ⊢
    have C2 := hid C2
    have HN := hid (Wrote.none (W2 := W) hM (Nat.le_add_right K n) (Below.refl _ _) hB)
    clear hM hnp he hin ha hz hzl hK
    obtain ⟨S, hS⟩ : ∃ S : Int, (s : Int) = S := ⟨_, rfl⟩
    have hS0 : 0 ≤ S ∧ S ≤ 4294967295 := by omega
    obtain ⟨hS0, hS1⟩ := hS0
    rw [hS] at C2 ⊢
    clear hS
    go_enter Tryz.func28, Tryz.ntmps28
    go_wp2_with fail
    refine C1.out.mono ?_
    rintro e w1 ⟨rfl, rfl⟩
    go_wp2_with fail
    refine C2.out.mono ?_
    rintro e w1 ⟨rfl, rfl⟩
    go_wp2
    go_ret
    exact ⟨rfl, HN.out⟩
end Go.Proofs.YtckdnhafookcgaaGreatDoor.Mem

namespace Go.Proofs.YtckdnhafookcgaaGreatDoor.Mem
open Go.RowKit Go.Proofs.YtckdnhafookcgaaGreatDoor.Instr Go.Proofs.YtckdnhafookcgaaGreatDoor.Num Go.Proofs.YtckdnhafookcgaaGreatDoor.Kind
open Go.Maps (Keyed int_keyed IsMap)
set_option linter.unusedVariables false

/-- make([]byte, n), n a word. -/
theorem make_word (w : World) (n : Nat) (hl : n ≤ 140737488355328) :
    ∃ w', (∀ x : Int, x = n → (Instr.makeSlice 73 (.int .u32 x) (.int .u32 x)).run Tryz.prog w = .ok (.slice (some ⟨w.heap.size, 0, none⟩) n n) w') ∧ w'.heap[w.heap.size]? = some (.cells ((List.replicate n (0 : Int)).map (Value.int .u8)).toArray 5 (0, 0)) ∧ Below w.heap.size w w' := by
  obtain ⟨i0, hi, hz0, hz1, hz2⟩ := info_parts infoByte
  obtain ⟨w', h1, h2, h3⟩ := run_make_full w w.heap.size 73 5 i0 (.int .u8 0) 1 Tryz.underlying73 hi hz0 hz1 .u32 .u32 n (by rw [hz2]; omega) (by unfold maxLen; omega) (Nat.le_refl _)
  refine ⟨w', fun x hx => by rw [hx]; exact h1, ?_, (Below.refl _ _).grown h3 (Nat.le_refl _) (fun k h => by cases h)⟩
  have hcells : (Value.int .u8 0).cells = #[Value.int .u8 0] := rfl
  rw [hcells, toList_madeCells_one] at h2
  have h4 : OwnK 5 .u8 w.heap.size w' (.slice (some ⟨w.heap.size, 0, none⟩) n n) (List.replicate n 0) := by
    unfold OwnK
    simpa using h2
  exact (h4.heap (by simp)).2
theorem over_all (R xs : List Int) (h : R.length = xs.length) : over R xs 0 = xs := by
  simp [over, List.drop_of_length_le (Nat.le_of_eq h)]
def Mm.read (m : Mm) (s n : Nat) : List Int × Int := if m.has s n then (if n ≤ 1048576 then (rowF m.f s n, 0) else ([], 2)) else ([], 220)
/-- A list of bytes that a call made: all of its block. -/
def GotB (w : World) (zs : List Int) (e : Int) (en : Ending) (w' : World) : Prop :=
  (∃ g, en = .returned (.tuple #[.slice (some ⟨g, 0, none⟩) zs.length zs.length, .int .i64 e]) ∧ w.heap.size ≤ g ∧ w'.heap[g]? = some (.cells (zs.map (Value.int .u8)).toArray 5 (0, 0))) ∨ (en = .returned (.tuple #[.slice none 0 0, .int .i64 e]) ∧ zs = [])
set_option maxRecDepth 100000 in
set_option maxHeartbeats 1000000 in
theorem Read_any {B : Nat} {W : World} {p K : Nat} {m : Mm} (hM : MemIs B W p K m) (s n : Nat) (hs : s ≤ 4294967295) (hn : n ≤ 4294967295) :
    Calls Tryz.prog 27 #[.pointer (some ⟨p, 0, none⟩), .int .u32 s, .int .u32 n] W fun e w' => GotB W (m.read s n).1 (m.read s n).2 e w' ∧ Below W.heap.size W w' := by
  have hnp : m.n ≤ 65536 := Nat.le_trans hM.ok.n hM.ok.most
  have C1 := hid (made_yes p W hM.cells.1)
  have C2 := has_any p m.n s n W hM.cells.2.1 ⟨by omega, by omega⟩ ⟨by omega, by omega⟩ ⟨by omega, by omega⟩
  have he : m.has s n = decide ((s : Int) + (n : Int) ≤ (m.n : Int) * 65536) := by
    unfold Mm.has
    rw [decide_eq_decide]; constructor <;> intro h <;> omega
  unfold Mm.read
  rw [he]
  obtain ⟨S, hS⟩ : ∃ S : Int, (s : Int) = S := ⟨_, rfl⟩
  obtain ⟨N, hN⟩ : ∃ N : Int, (n : Int) = N := ⟨_, rfl⟩
  have hS0 : 0 ≤ S ∧ S ≤ 4294967295 := by omega
  obtain ⟨hS0, hS1⟩ := hS0
  have hN0 : 0 ≤ N ∧ N ≤ 4294967295 := by omega
  obtain ⟨hN0, hN1⟩ := hN0
  by_cases hin : (s : Int) + (n : Int) ≤ (m.n : Int) * 65536
  · rw [decide_eq_true hin] at C2 ⊢
    by_cases hbig : n ≤ 1048576
    · obtain ⟨w1, hmk, hh1, hb1⟩ := make_word W n (by omega)
      have hmk := hmk N (by omega)
      have CG := hid (show Calls Tryz.prog 69 #[.pointer (some ⟨p, 0, none⟩), .int .u64 s, .slice (some ⟨W.heap.size, 0, none⟩) n n] w1 fun e W' => e = .returned (.tuple #[]) ∧ GotTo w1 m W.heap.size 5 (List.replicate n 0) 0 s n W' from by
        obtain ⟨mb, D, K', hK', hm⟩ := hM.below hb1
        exact get_any hm W.heap.size 5 (List.replicate n 0) (some ⟨W.heap.size, 0, none⟩) 0 n n s hh1 rfl (by simp) (Nat.le_refl _) (by omega) (fun _ => rfl) (by omega) (fun i hi => by
          rw [List.getD_eq_getElem?_getD, List.getElem?_replicate]
          split <;> rfl))
      have HL := rowF_length m.f n s
      have HE := hid (show ∀ w3, GotTo w1 m W.heap.size 5 (List.replicate n 0) 0 s n w3 → GotB W (rowF m.f s n) 0 (.returned (.tuple #[.slice (some ⟨W.heap.size, 0, none⟩) n n, .int .i64 0])) w3 ∧ Below W.heap.size W w3 from fun w3 hG => by
        have h1 := hG.heap
        rw [over_all _ _ (by rw [HL, List.length_replicate])] at h1
        exact ⟨.inl ⟨W.heap.size, by rw [HL], Nat.le_refl _, h1⟩, hb1.trans (hG.save.below hb1.size (Nat.le_refl _))⟩)
      rw [if_pos rfl, if_pos hbig]
      have hb2 : N ≤ 1048576 := by omega
      rw [hS, hN] at C2
      rw [hS] at CG
      have C2 := hid C2
      have HEN := hid hN
      rw [hS, hN]
      clear hM hnp he hin hh1 hb1 HL hbig hS hN hs hn
      go_enter Tryz.func27, Tryz.ntmps27
      go_wp2_with fail
      refine C1.out.mono ?_
      rintro e wx ⟨rfl, rfl⟩
      go_wp2_with fail
      refine C2.out.mono ?_
      rintro e wx ⟨rfl, rfl⟩
      go_wp2_with fail
      refine CG.out.mono ?_
      rintro e w3 ⟨rfl, hG⟩
      have hE := hid (HE.out w3 hG)
      clear HE hG CG
      go_wp2
      go_ret2
      exact hE.out
    · rw [if_pos rfl, if_neg hbig]
      have hb2 : 1048576 < N := by omega
      rw [hS, hN] at C2 ⊢
      have C2 := hid C2
      clear hM hnp he hin hbig hS hN hs hn
      go_enter Tryz.func27, Tryz.ntmps27
      go_wp2_with fail
      refine C1.out.mono ?_
      rintro e wx ⟨rfl, rfl⟩
      go_wp2_with fail
      refine C2.out.mono ?_
      rintro e wx ⟨rfl, rfl⟩
      go_wp2
      go_ret2
      exact ⟨.inr ⟨rfl, rfl⟩, Below.refl _ _⟩
  · rw [decide_eq_false hin] at C2 ⊢
    rw [if_neg (by simp)]
    rw [hS, hN] at C2 ⊢
    have C2 := hid C2
    clear hM hnp he hin hS hN hs hn
    go_enter Tryz.func27, Tryz.ntmps27
    go_wp2_with fail
    refine C1.out.mono ?_
    rintro e wx ⟨rfl, rfl⟩
    go_wp2_with fail
    refine C2.out.mono ?_
    rintro e wx ⟨rfl, rfl⟩
    go_wp2
    go_ret2
    exact ⟨.inr ⟨rfl, rfl⟩, Below.refl _ _⟩
end Go.Proofs.YtckdnhafookcgaaGreatDoor.Mem

namespace Go.Proofs.YtckdnhafookcgaaGreatDoor.Mod
open Go.RowKit Go.Shelf Go.Proofs.YtckdnhafookcgaaGreatDoor.Instr

/-- A box of two numbers. -/
def Two (W : World) (b : Nat) (x y : Int) : Prop := W.cell? ⟨b, 0, none⟩ = some (.int .i64 x) ∧ W.cell? ⟨b, 1, none⟩ = some (.int .i64 y)
theorem Two.on {W W' : World} {b : Nat} {x y : Int} (h : Two W b x y) (hb : Below W.heap.size W W') : Two W' b x y := ⟨Go.Proofs.YtckdnhafookcgaaGreatDoor.keep hb h.1, Go.Proofs.YtckdnhafookcgaaGreatDoor.keep hb h.2⟩
end Go.Proofs.YtckdnhafookcgaaGreatDoor.Mod
