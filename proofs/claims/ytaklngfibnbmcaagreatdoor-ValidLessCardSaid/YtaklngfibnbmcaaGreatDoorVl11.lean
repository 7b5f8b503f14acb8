import Derived.Test.YtaklngfibnbmcaaGreatDoorVl10
import Derived.Test.YtaklngfibnbmcaaGreatDoorVl01
import Derived.Laws.StructEq
namespace Go.Proofs.YtaklngfibnbmcaaGreatDoor.Instr
end Go.Proofs.YtaklngfibnbmcaaGreatDoor.Instr
namespace Go.Proofs.YtaklngfibnbmcaaGreatDoor.Mod
end Go.Proofs.YtaklngfibnbmcaaGreatDoor.Mod
namespace Go.Proofs.YtaklngfibnbmcaaGreatDoor.Val
open Go.RowKit Go.Shelf Go.Proofs.YtaklngfibnbmcaaGreatDoor.Instr Go.Proofs.YtaklngfibnbmcaaGreatDoor.Mod
set_option linter.unusedVariables false

/-- As large as the numbers' types let them be. -/
structure Rg (m : Md) : Prop where
  ei : ∀ e ∈ m.ex, 0 ≤ e.i ∧ e.i < 4294967296
  ef : ∀ e ∈ m.el, ∀ z ∈ e.fs, 0 ≤ z ∧ z < 4294967296
  sn : 0 ≤ m.sn ∧ m.sn < 4294967296
/-- What the sections' functions find in memory. -/
structure Sx (gm gn bm : Nat) (m : Md) (W : World) : Prop where
  bx : BoxAt W gm m.v
  nm : W.cell? ⟨gn, 0, none⟩ = some (.map (some bm))
  na : NamesAt W bm m.ex
  md : ModAt W.heap.size W m
  nt : Nams W
  ar : Num.Arit W
theorem Sx.on {gm gn bm : Nat} {m : Md} {W W' : World} (h : Sx gm gn bm m W) (hb : Below W.heap.size W W') : Sx gm gn bm m W' := ⟨h.bx.keep hb, Go.Proofs.YtaklngfibnbmcaaGreatDoor.keep hb h.nm, h.na.below hb, h.md.on hb, h.nt.below hb, h.ar.below hb⟩
def imAt (m : Md) (k : Nat) : Imp := m.im.getD k ⟨⟨#[]⟩, ⟨#[]⟩, 0⟩
def fuAt (m : Md) (k : Nat) : Mod.Fn := m.fu.getD k ⟨0, 0, ⟨none, 0, .nil⟩⟩
def glAt (m : Md) (k : Nat) : Gl := m.gl.getD k ⟨false, ⟨none, 0, .nil⟩⟩
def elAt (m : Md) (k : Nat) : El := m.el.getD k ⟨⟨none, 0, .nil⟩, none, 0, []⟩
def daAt (m : Md) (k : Nat) : Da := m.da.getD k ⟨⟨none, 0, .nil⟩, none, 0, []⟩
/-- The error of the k-th item of the j-th section that is checked, and of which of its instructions. -/
def secE (m : Md) (j k : Nat) : Int × Int :=
  match j with
  | 0 => (typeEP m (imAt m k).ty, 0)
  | 1 => (typeEP m (fuAt m k).ty, 0)
  | 2 => ((constP (glAt m k).l.t).2, 0)
  | 3 => (exportEP m k, 0)
  | 4 => (startEP m, 0)
  | 5 => (elemEP m (elAt m k), 0)
  | 6 => Md.bodyP m k
  | _ => (dataEP m (daAt m k).l.t, 0)
def secL (m : Md) (j : Nat) : Nat :=
  match j with
  | 0 => m.im.length
  | 1 => m.fu.length
  | 2 => m.gl.length
  | 3 => m.ex.length
  | 4 => if m.st then 1 else 0
  | 5 => m.el.length
  | 6 => m.fu.length
  | _ => m.da.length
def secN (j : Nat) : Int :=
  match j with
  | 0 => 2
  | 1 => 3
  | 2 => 6
  | 3 => 7
  | 4 => 8
  | 5 => 9
  | 6 => 10
  | _ => 11
theorem held_keep12 {w w1 w2 : World} {p0 p1 p2 p3 p4 p5 p6 p7 p8 p9 p10 p11 : Addr} {v0 v1 v2 v3 v4 v5 v6 v7 v8 v9 v10 v11 : Value} (h : Below w.heap.size w w1 ∧ w1.cell? p0 = some v0 ∧ w1.cell? p1 = some v1 ∧ w1.cell? p2 = some v2 ∧ w1.cell? p3 = some v3 ∧ w1.cell? p4 = some v4 ∧ w1.cell? p5 = some v5 ∧ w1.cell? p6 = some v6 ∧ w1.cell? p7 = some v7 ∧ w1.cell? p8 = some v8 ∧ w1.cell? p9 = some v9 ∧ w1.cell? p10 = some v10 ∧ w1.cell? p11 = some v11) (hb : Below w1.heap.size w1 w2) :
    Below w.heap.size w w2 ∧ w2.cell? p0 = some v0 ∧ w2.cell? p1 = some v1 ∧ w2.cell? p2 = some v2 ∧ w2.cell? p3 = some v3 ∧ w2.cell? p4 = some v4 ∧ w2.cell? p5 = some v5 ∧ w2.cell? p6 = some v6 ∧ w2.cell? p7 = some v7 ∧ w2.cell? p8 = some v8 ∧ w2.cell? p9 = some v9 ∧ w2.cell? p10 = some v10 ∧ w2.cell? p11 = some v11 :=
  ⟨thenB h.1 hb, Go.Proofs.YtaklngfibnbmcaaGreatDoor.keep hb h.2.1, Go.Proofs.YtaklngfibnbmcaaGreatDoor.keep hb h.2.2.1, Go.Proofs.YtaklngfibnbmcaaGreatDoor.keep hb h.2.2.2.1, Go.Proofs.YtaklngfibnbmcaaGreatDoor.keep hb h.2.2.2.2.1, Go.Proofs.YtaklngfibnbmcaaGreatDoor.keep hb h.2.2.2.2.2.1, Go.Proofs.YtaklngfibnbmcaaGreatDoor.keep hb h.2.2.2.2.2.2.1, Go.Proofs.YtaklngfibnbmcaaGreatDoor.keep hb h.2.2.2.2.2.2.2.1, Go.Proofs.YtaklngfibnbmcaaGreatDoor.keep hb h.2.2.2.2.2.2.2.2.1, Go.Proofs.YtaklngfibnbmcaaGreatDoor.keep hb h.2.2.2.2.2.2.2.2.2.1, Go.Proofs.YtaklngfibnbmcaaGreatDoor.keep hb h.2.2.2.2.2.2.2.2.2.2.1, Go.Proofs.YtaklngfibnbmcaaGreatDoor.keep hb h.2.2.2.2.2.2.2.2.2.2.2.1, Go.Proofs.YtaklngfibnbmcaaGreatDoor.keep hb h.2.2.2.2.2.2.2.2.2.2.2.2⟩
set_option maxRecDepth 100000 in
set_option maxHeartbeats 4000000 in
theorem sec0_m (gm gn bm : Nat) (m : Md) (k : Nat) (W : World) (h : Sx gm gn bm m W) (hf : m.few) (hfi : Fine m) (hrg : Rg m) (hk : k < secL m 0) :
    Calls Tryz.prog 80 #[.int .i64 k, .pointer (some ⟨gm, 0, none⟩)] W fun e w' => e = .returned (.tuple #[.int .i64 (secE m 0 k).1, .int .i64 (secE m 0 k).2]) ∧ Below W.heap.size W w' := by
  change k < m.im.length at hk
  have HE : Hid (secE m 0 k = (typeEP m (imAt m k).ty, 0)) := rfl
  have hgd : imAt m k = m.im[k] := by unfold imAt; simp [hk]
  rw [hgd] at HE
  have hmem := List.getElem_mem hk
  obtain ⟨b, off, ha, hb, hcc⟩ := Mod.Rows.get h.md.im hk
  have C := hid (fun w' (hb' : Below W.heap.size W w') => typeError_m m (m.im[k].ty) hf.fit w')
  obtain ⟨x, hx⟩ : ∃ x, m.im[k] = x := ⟨_, rfl⟩
  rw [hx] at HE hcc C
  have c2 : W.cell? ⟨b, off + k * 3 + 2, none⟩ = some (.int .i64 x.ty) := hcc 2 (by omega) _ rfl
  obtain ⟨v0, v2, v3, v4, v5, v6, v7, v8, v9, v10, hv⟩ : ∃ v0 v2 v3 v4 v5 v6 v7 v8 v9 v10, m.v = #[v0, .slice m.im'.a m.im.length m.im'.c, v2, v3, v4, v5, v6, v7, v8, v9, v10] := ⟨_, _, _, _, _, _, _, _, _, _, rfl⟩
  have hbx := h.bx
  rw [hv, ha] at C hbx
  obtain ⟨n0, n1, n2, n3, n4, n5, n6, n7, n8, n9, n10⟩ := BoxAt.mod hbx
  have hki : (k : Int) < (m.im.length : Int) := by omega
  have bl := hf.fit.im
  clear h hf hfi hrg hk hgd hmem hcc hx hbx hv
  generalize m.im.length = E at *
  obtain ⟨q, hq⟩ : ∃ q, secE m 0 k = q := ⟨_, rfl⟩
  rw [hq] at HE ⊢
  have HQ := HE
  clear hq HE
  go_enter Tryz.func80, Tryz.ntmps80
  go_upto_region 1 with fail
  have hS0 : Below W.heap.size W W.drew ∧ W.drew.cell? ⟨gm, 0, none⟩ = some v0 ∧ W.drew.cell? ⟨gm, 1, none⟩ = some (.slice (some ⟨b, off, none⟩) E m.im'.c) ∧ W.drew.cell? ⟨gm, 2, none⟩ = some v2 ∧ W.drew.cell? ⟨gm, 3, none⟩ = some v3 ∧ W.drew.cell? ⟨gm, 4, none⟩ = some v4 ∧ W.drew.cell? ⟨gm, 5, none⟩ = some v5 ∧ W.drew.cell? ⟨gm, 6, none⟩ = some v6 ∧ W.drew.cell? ⟨gm, 7, none⟩ = some v7 ∧ W.drew.cell? ⟨gm, 8, none⟩ = some v8 ∧ W.drew.cell? ⟨gm, 9, none⟩ = some v9 ∧ W.drew.cell? ⟨gm, 10, none⟩ = some v10 ∧ W.drew.cell? ⟨b, off + k * 3 + 2, none⟩ = some (.int .i64 x.ty) := ⟨(Below.refl _ _).drew, n0, n1, n2, n3, n4, n5, n6, n7, n8, n9, n10, c2⟩
  clear c2 n0 n1 n2 n3 n4 n5 n6 n7 n8 n9 n10
  go_region_held3 (fun w' => Below W.heap.size W w' ∧ w'.cell? ⟨gm, 0, none⟩ = some v0 ∧ w'.cell? ⟨gm, 1, none⟩ = some (.slice (some ⟨b, off, none⟩) E m.im'.c) ∧ w'.cell? ⟨gm, 2, none⟩ = some v2 ∧ w'.cell? ⟨gm, 3, none⟩ = some v3 ∧ w'.cell? ⟨gm, 4, none⟩ = some v4 ∧ w'.cell? ⟨gm, 5, none⟩ = some v5 ∧ w'.cell? ⟨gm, 6, none⟩ = some v6 ∧ w'.cell? ⟨gm, 7, none⟩ = some v7 ∧ w'.cell? ⟨gm, 8, none⟩ = some v8 ∧ w'.cell? ⟨gm, 9, none⟩ = some v9 ∧ w'.cell? ⟨gm, 10, none⟩ = some v10 ∧ w'.cell? ⟨b, off + k * 3 + 2, none⟩ = some (.int .i64 x.ty)) (first | assumption | exact held_keep12 (by assumption) (by assumption))
    (first
      | (go_at_call 81; refine (C.out _ (Below.refl _ _).drew).mono ?_; rintro e1 w2 ⟨rfl, hb2⟩))
  have hB2 : Below W.heap.size W w2 := Stk.undrew hb2
  have HB2 := hid hB2
  clear hB2 hb2 hS0
  go_wp2
  go_ret2
  refine ⟨?_, HB2.out⟩
  rw [HQ.out]; rfl
set_option maxRecDepth 100000 in
set_option maxHeartbeats 4000000 in
theorem sec1_m (gm gn bm : Nat) (m : Md) (k : Nat) (W : World) (h : Sx gm gn bm m W) (hf : m.few) (hfi : Fine m) (hrg : Rg m) (hk : k < secL m 1) :
    Calls Tryz.prog 82 #[.int .i64 k, .pointer (some ⟨gm, 0, none⟩)] W fun e w' => e = .returned (.tuple #[.int .i64 (secE m 1 k).1, .int .i64 (secE m 1 k).2]) ∧ Below W.heap.size W w' := by
  change k < m.fu.length at hk
  have HE : Hid (secE m 1 k = (typeEP m (fuAt m k).ty, 0)) := rfl
  have hgd : fuAt m k = m.fu[k] := by unfold fuAt; simp [hk]
  rw [hgd] at HE
  have hmem := List.getElem_mem hk
  obtain ⟨b, off, ha, hb, hcc⟩ := Mod.Rows.get h.md.fu hk
  have C := hid (fun w' (hb' : Below W.heap.size W w') => typeError_m m (m.fu[k].ty) hf.fit w')
  obtain ⟨x, hx⟩ : ∃ x, m.fu[k] = x := ⟨_, rfl⟩
  rw [hx] at HE hcc C
  have c0 : W.cell? ⟨b, off + k * 3, none⟩ = some (.int .i64 x.ty) := hcc 0 (by omega) _ rfl
  obtain ⟨v0, v1, v3, v4, v5, v6, v7, v8, v9, v10, hv⟩ : ∃ v0 v1 v3 v4 v5 v6 v7 v8 v9 v10, m.v = #[v0, v1, .slice m.fu'.a m.fu.length m.fu'.c, v3, v4, v5, v6, v7, v8, v9, v10] := ⟨_, _, _, _, _, _, _, _, _, _, rfl⟩
  have hbx := h.bx
  rw [hv, ha] at C hbx
  obtain ⟨n0, n1, n2, n3, n4, n5, n6, n7, n8, n9, n10⟩ := BoxAt.mod hbx
  have hki : (k : Int) < (m.fu.length : Int) := by omega
  have bl := hf.fit.fu
  clear h hf hfi hrg hk hgd hmem hcc hx hbx hv
  generalize m.fu.length = E at *
  obtain ⟨q, hq⟩ : ∃ q, secE m 1 k = q := ⟨_, rfl⟩
  rw [hq] at HE ⊢
  have HQ := HE
  clear hq HE
  go_enter Tryz.func82, Tryz.ntmps82
  go_upto_region 1 with fail
  have hS0 : Below W.heap.size W W.drew ∧ W.drew.cell? ⟨gm, 0, none⟩ = some v0 ∧ W.drew.cell? ⟨gm, 1, none⟩ = some v1 ∧ W.drew.cell? ⟨gm, 2, none⟩ = some (.slice (some ⟨b, off, none⟩) E m.fu'.c) ∧ W.drew.cell? ⟨gm, 3, none⟩ = some v3 ∧ W.drew.cell? ⟨gm, 4, none⟩ = some v4 ∧ W.drew.cell? ⟨gm, 5, none⟩ = some v5 ∧ W.drew.cell? ⟨gm, 6, none⟩ = some v6 ∧ W.drew.cell? ⟨gm, 7, none⟩ = some v7 ∧ W.drew.cell? ⟨gm, 8, none⟩ = some v8 ∧ W.drew.cell? ⟨gm, 9, none⟩ = some v9 ∧ W.drew.cell? ⟨gm, 10, none⟩ = some v10 ∧ W.drew.cell? ⟨b, off + k * 3, none⟩ = some (.int .i64 x.ty) := ⟨(Below.refl _ _).drew, n0, n1, n2, n3, n4, n5, n6, n7, n8, n9, n10, c0⟩
  clear c0 n0 n1 n2 n3 n4 n5 n6 n7 n8 n9 n10
  go_region_held3 (fun w' => Below W.heap.size W w' ∧ w'.cell? ⟨gm, 0, none⟩ = some v0 ∧ w'.cell? ⟨gm, 1, none⟩ = some v1 ∧ w'.cell? ⟨gm, 2, none⟩ = some (.slice (some ⟨b, off, none⟩) E m.fu'.c) ∧ w'.cell? ⟨gm, 3, none⟩ = some v3 ∧ w'.cell? ⟨gm, 4, none⟩ = some v4 ∧ w'.cell? ⟨gm, 5, none⟩ = some v5 ∧ w'.cell? ⟨gm, 6, none⟩ = some v6 ∧ w'.cell? ⟨gm, 7, none⟩ = some v7 ∧ w'.cell? ⟨gm, 8, none⟩ = some v8 ∧ w'.cell? ⟨gm, 9, none⟩ = some v9 ∧ w'.cell? ⟨gm, 10, none⟩ = some v10 ∧ w'.cell? ⟨b, off + k * 3, none⟩ = some (.int .i64 x.ty)) (first | assumption | exact held_keep12 (by assumption) (by assumption))
    (first
      | (go_at_call 81; refine (C.out _ (Below.refl _ _).drew).mono ?_; rintro e1 w2 ⟨rfl, hb2⟩))
  have hB2 : Below W.heap.size W w2 := Stk.undrew hb2
  have HB2 := hid hB2
  clear hB2 hb2 hS0
  go_wp2
  go_ret2
  refine ⟨?_, HB2.out⟩
  rw [HQ.out]; rfl
set_option maxRecDepth 100000 in
set_option maxHeartbeats 4000000 in
theorem sec2_m (gm gn bm : Nat) (m : Md) (k : Nat) (W : World) (h : Sx gm gn bm m W) (hf : m.few) (hfi : Fine m) (hrg : Rg m) (hk : k < secL m 2) :
    Calls Tryz.prog 83 #[.int .i64 k, .pointer (some ⟨gm, 0, none⟩)] W fun e w' => e = .returned (.tuple #[.int .i64 (secE m 2 k).1, .int .i64 (secE m 2 k).2]) ∧ Below W.heap.size W w' := by
  change k < m.gl.length at hk
  have HE : Hid (secE m 2 k = ((constP (glAt m k).l.t).2, 0)) := rfl
  have hgd : glAt m k = m.gl[k] := by unfold glAt; simp [hk]
  rw [hgd] at HE
  have hmem : m.gl[k].l ∈ m.codes := by unfold Md.codes; exact List.mem_append_right _ (List.mem_append_left _ (List.mem_map.2 ⟨_, List.getElem_mem hk, rfl⟩))
  obtain ⟨b, off, ha, hb, hcc⟩ := Mod.Rows.get h.md.gl hk
  have C := hid (constError_m m.gl[k].l.t m.gl[k].l.a m.gl[k].l.t.len m.gl[k].l.c W (h.md.ls _ hmem) (hf.fit.ls _ hmem) (by have := hf.cs _ hmem; omega) h.nt)
  obtain ⟨x, hx⟩ : ∃ x, m.gl[k] = x := ⟨_, rfl⟩
  rw [hx] at HE hcc C
  have c1 : W.cell? ⟨b, off + k * 2 + 1, none⟩ = some (.slice x.l.a x.l.t.len x.l.c) := hcc 1 (by omega) _ rfl
  have n5 : W.cell? ⟨gm, 5, none⟩ = some (.slice m.gl'.a m.gl.length m.gl'.c) := h.bx 5 _ rfl
  rw [ha] at n5
  have hki : (k : Int) < (m.gl.length : Int) := by omega
  have bl := hf.fit.gl
  clear h hf hfi hrg hk hgd hmem hcc hx
  generalize m.gl.length = E at *
  obtain ⟨q, hq⟩ : ∃ q, secE m 2 k = q := ⟨_, rfl⟩
  rw [hq] at HE ⊢
  clear hq
  go_enter Tryz.func83, Tryz.ntmps83
  go_wp2_with fail
  refine C.out.mono ?_
  rintro e1 w2 ⟨rfl, hb2⟩
  have HB2 := hid hb2
  clear C hb2 c1 n5
  go_wp2
  go_ret2
  refine ⟨?_, HB2.out⟩
  rw [HE.out]; rfl
set_option maxRecDepth 100000 in
set_option maxHeartbeats 4000000 in
theorem sec3_m (gm gn bm : Nat) (m : Md) (k : Nat) (W : World) (h : Sx gm gn bm m W) (hf : m.few) (hfi : Fine m) (hrg : Rg m) (hk : k < secL m 3) :
    Calls Tryz.prog 85 #[.int .i64 k, .pointer (some ⟨gm, 0, none⟩), .pointer (some ⟨gn, 0, none⟩)] W fun e w' => e = .returned (.tuple #[.int .i64 (secE m 3 k).1, .int .i64 (secE m 3 k).2]) ∧ Below W.heap.size W w' := by
  change k < m.ex.length at hk
  have HE : Hid (secE m 3 k = (exportEP m k, 0)) := rfl
  have C := hid (exportError_m m k bm W h.md hf.fit hfi.im hfi.fu hk h.na hrg.ei)
  obtain ⟨v0, v1, v2, v3, v4, v5, v6, v7, v8, v9, v10, hv⟩ : ∃ v0 v1 v2 v3 v4 v5 v6 v7 v8 v9 v10, m.v = #[v0, v1, v2, v3, v4, v5, v6, v7, v8, v9, v10] := ⟨_, _, _, _, _, _, _, _, _, _, _, rfl⟩
  have hbx := h.bx
  have hnm := h.nm
  rw [hv] at C hbx
  obtain ⟨n0, n1, n2, n3, n4, n5, n6, n7, n8, n9, n10⟩ := BoxAt.mod hbx
  clear h hf hfi hrg hk hbx hv
  obtain ⟨q, hq⟩ : ∃ q, secE m 3 k = q := ⟨_, rfl⟩
  rw [hq] at HE ⊢
  clear hq
  go_enter Tryz.func85, Tryz.ntmps85
  go_wp2_with fail
  refine C.out.mono ?_
  rintro e1 w2 ⟨rfl, hb2⟩
  have HB2 := hid hb2
  clear C hb2 n0 n1 n2 n3 n4 n5 n6 n7 n8 n9 n10 hnm
  go_wp2
  go_ret2
  refine ⟨?_, HB2.out⟩
  rw [HE.out]; rfl
set_option maxRecDepth 100000 in
set_option maxHeartbeats 4000000 in
theorem sec4_m (gm gn bm : Nat) (m : Md) (k : Nat) (W : World) (h : Sx gm gn bm m W) (hf : m.few) (hfi : Fine m) (hrg : Rg m) (hk : k < secL m 4) :
    Calls Tryz.prog 87 #[.int .i64 k, .pointer (some ⟨gm, 0, none⟩)] W fun e w' => e = .returned (.tuple #[.int .i64 (secE m 4 k).1, .int .i64 (secE m 4 k).2]) ∧ Below W.heap.size W w' := by
  have HE : Hid (secE m 4 k = (startEP m, 0)) := rfl
  have C := hid (startError_m m W h.md hf.fit hrg.sn)
  obtain ⟨v0, v1, v2, v3, v4, v5, v6, v7, v8, v9, v10, hv⟩ : ∃ v0 v1 v2 v3 v4 v5 v6 v7 v8 v9 v10, m.v = #[v0, v1, v2, v3, v4, v5, v6, v7, v8, v9, v10] := ⟨_, _, _, _, _, _, _, _, _, _, _, rfl⟩
  have hbx := h.bx
  rw [hv] at C hbx
  obtain ⟨n0, n1, n2, n3, n4, n5, n6, n7, n8, n9, n10⟩ := BoxAt.mod hbx
  clear h hf hfi hrg hk hbx hv
  obtain ⟨q, hq⟩ : ∃ q, secE m 4 k = q := ⟨_, rfl⟩
  rw [hq] at HE ⊢
  clear hq
  go_enter Tryz.func87, Tryz.ntmps87
  go_wp2_with fail
  refine C.out.mono ?_
  rintro e1 w2 ⟨rfl, hb2⟩
  have HB2 := hid hb2
  clear C hb2 n0 n1 n2 n3 n4 n5 n6 n7 n8 n9 n10
  go_wp2
  go_ret2
  refine ⟨?_, HB2.out⟩
  rw [HE.out]; rfl
set_option maxRecDepth 100000 in
set_option maxHeartbeats 4000000 in
theorem sec5_m (gm gn bm : Nat) (m : Md) (k : Nat) (W : World) (h : Sx gm gn bm m W) (hf : m.few) (hfi : Fine m) (hrg : Rg m) (hk : k < secL m 5) :
    Calls Tryz.prog 89 #[.int .i64 k, .pointer (some ⟨gm, 0, none⟩)] W fun e w' => e = .returned (.tuple #[.int .i64 (secE m 5 k).1, .int .i64 (secE m 5 k).2]) ∧ Below W.heap.size W w' := by
  change k < m.el.length at hk
  have HE : Hid (secE m 5 k = (elemEP m (elAt m k), 0)) := rfl
  have hgd : elAt m k = m.el[k] := by unfold elAt; simp [hk]
  rw [hgd] at HE
  have hmem := List.getElem_mem hk
  obtain ⟨b, off, ha, hb, hcc⟩ := Mod.Rows.get h.md.el hk
  have hlm : m.el[k].l ∈ m.codes := by unfold Md.codes; exact List.mem_append_right _ (List.mem_append_right _ (List.mem_append_left _ (List.mem_map.2 ⟨_, hmem, rfl⟩)))
  have C := hid (fun w' (hb' : Below W.heap.size W w') => elemError_m m m.el[k] w' hf.fit hfi.im hfi.fu ((h.md.on hb').ls _ hlm) (hf.fit.ls _ hlm) (by have := hf.cs _ hlm; omega) (h.nt.below hb') ((h.md.on hb').fs _ hmem) (hf.fit.fs _ hmem) (hrg.ef _ hmem))
  clear hlm
  obtain ⟨x, hx⟩ : ∃ x, m.el[k] = x := ⟨_, rfl⟩
  rw [hx] at HE hcc C
  have c0 : W.cell? ⟨b, off + k * 2, none⟩ = some (.slice x.l.a x.l.t.len x.l.c) := hcc 0 (by omega) _ rfl
  have c1 : W.cell? ⟨b, off + k * 2 + 1, none⟩ = some (.slice x.fa x.fs.length x.fc) := hcc 1 (by omega) _ rfl
  obtain ⟨v0, v1, v2, v3, v4, v5, v6, v7, v8, v10, hv⟩ : ∃ v0 v1 v2 v3 v4 v5 v6 v7 v8 v10, m.v = #[v0, v1, v2, v3, v4, v5, v6, v7, v8, .slice m.el'.a m.el.length m.el'.c, v10] := ⟨_, _, _, _, _, _, _, _, _, _, rfl⟩
  have hbx := h.bx
  rw [hv, ha] at C hbx
  obtain ⟨n0, n1, n2, n3, n4, n5, n6, n7, n8, n9, n10⟩ := BoxAt.mod hbx
  have hki : (k : Int) < (m.el.length : Int) := by omega
  have bl := hf.fit.el
  clear h hf hfi hrg hk hgd hmem hcc hx hbx hv
  generalize m.el.length = E at *
  obtain ⟨q, hq⟩ : ∃ q, secE m 5 k = q := ⟨_, rfl⟩
  rw [hq] at HE ⊢
  have HQ := HE
  clear hq HE
  go_enter Tryz.func89, Tryz.ntmps89
  go_upto_region 1 with fail
  have hS0 : Below W.heap.size W W.drew ∧ W.drew.cell? ⟨gm, 0, none⟩ = some v0 ∧ W.drew.cell? ⟨gm, 1, none⟩ = some v1 ∧ W.drew.cell? ⟨gm, 2, none⟩ = some v2 ∧ W.drew.cell? ⟨gm, 3, none⟩ = some v3 ∧ W.drew.cell? ⟨gm, 4, none⟩ = some v4 ∧ W.drew.cell? ⟨gm, 5, none⟩ = some v5 ∧ W.drew.cell? ⟨gm, 6, none⟩ = some v6 ∧ W.drew.cell? ⟨gm, 7, none⟩ = some v7 ∧ W.drew.cell? ⟨gm, 8, none⟩ = some v8 ∧ W.drew.cell? ⟨gm, 9, none⟩ = some (.slice (some ⟨b, off, none⟩) E m.el'.c) ∧ W.drew.cell? ⟨gm, 10, none⟩ = some v10 ∧ W.drew.cell? ⟨b, off + k * 2, none⟩ = some (.slice x.l.a x.l.t.len x.l.c) ∧ W.drew.cell? ⟨b, off + k * 2 + 1, none⟩ = some (.slice x.fa x.fs.length x.fc) := ⟨(Below.refl _ _).drew, n0, n1, n2, n3, n4, n5, n6, n7, n8, n9, n10, c0, c1⟩
  clear c0 c1 n0 n1 n2 n3 n4 n5 n6 n7 n8 n9 n10
  go_region_held3 (fun w' => Below W.heap.size W w' ∧ w'.cell? ⟨gm, 0, none⟩ = some v0 ∧ w'.cell? ⟨gm, 1, none⟩ = some v1 ∧ w'.cell? ⟨gm, 2, none⟩ = some v2 ∧ w'.cell? ⟨gm, 3, none⟩ = some v3 ∧ w'.cell? ⟨gm, 4, none⟩ = some v4 ∧ w'.cell? ⟨gm, 5, none⟩ = some v5 ∧ w'.cell? ⟨gm, 6, none⟩ = some v6 ∧ w'.cell? ⟨gm, 7, none⟩ = some v7 ∧ w'.cell? ⟨gm, 8, none⟩ = some v8 ∧ w'.cell? ⟨gm, 9, none⟩ = some (.slice (some ⟨b, off, none⟩) E m.el'.c) ∧ w'.cell? ⟨gm, 10, none⟩ = some v10 ∧ w'.cell? ⟨b, off + k * 2, none⟩ = some (.slice x.l.a x.l.t.len x.l.c) ∧ w'.cell? ⟨b, off + k * 2 + 1, none⟩ = some (.slice x.fa x.fs.length x.fc)) (first | assumption | exact held_keep13 (by assumption) (by assumption))
    (first
      | (go_at_call 90; refine (C.out _ (Below.refl _ _).drew).mono ?_; rintro e1 w2 ⟨rfl, hb2⟩))
  have hB2 : Below W.heap.size W w2 := Stk.undrew hb2
  have HB2 := hid hB2
  clear hB2 hb2 hS0
  go_wp2
  go_ret2
  refine ⟨?_, HB2.out⟩
  rw [HQ.out]; rfl
set_option maxRecDepth 100000 in
set_option maxHeartbeats 4000000 in
theorem sec6_m (gm gn bm : Nat) (m : Md) (k : Nat) (W : World) (h : Sx gm gn bm m W) (hf : m.few) (hfi : Fine m) (hrg : Rg m) (hk : k < secL m 6) :
    Calls Tryz.prog 91 #[.int .i64 k, .pointer (some ⟨gm, 0, none⟩)] W fun e w' => e = .returned (.tuple #[.int .i64 (secE m 6 k).1, .int .i64 (secE m 6 k).2]) ∧ Below W.heap.size W w' := by
  change k < m.fu.length at hk
  have HE : Hid (secE m 6 k = ((Md.bodyP m k).1, (Md.bodyP m k).2)) := rfl
  have C := hid (bodyError_m m k W h.md h.ar hf hfi hk)
  unfold BodyP at C
  obtain ⟨v0, v1, v2, v3, v4, v5, v6, v7, v8, v9, v10, hv⟩ : ∃ v0 v1 v2 v3 v4 v5 v6 v7 v8 v9 v10, m.v = #[v0, v1, v2, v3, v4, v5, v6, v7, v8, v9, v10] := ⟨_, _, _, _, _, _, _, _, _, _, _, rfl⟩
  have hbx := h.bx
  rw [hv] at C hbx
  obtain ⟨n0, n1, n2, n3, n4, n5, n6, n7, n8, n9, n10⟩ := BoxAt.mod hbx
  clear h hf hfi hrg hk hbx hv
  obtain ⟨q, hq⟩ : ∃ q, secE m 6 k = q := ⟨_, rfl⟩
  rw [hq] at HE ⊢
  clear hq
  go_enter Tryz.func91, Tryz.ntmps91
  go_wp2_with fail
  refine C.out.mono ?_
  rintro e1 w2 ⟨rfl, hb2⟩
  have HB2 := hid hb2
  clear C hb2 n0 n1 n2 n3 n4 n5 n6 n7 n8 n9 n10
  go_wp2
  go_ret2
  refine ⟨?_, HB2.out⟩
  rw [HE.out]; rfl
set_option maxRecDepth 100000 in
set_option maxHeartbeats 4000000 in
theorem sec7_m (gm gn bm : Nat) (m : Md) (k : Nat) (W : World) (h : Sx gm gn bm m W) (hf : m.few) (hfi : Fine m) (hrg : Rg m) (hk : k < secL m 7) :
    Calls Tryz.prog 92 #[.int .i64 k, .pointer (some ⟨gm, 0, none⟩)] W fun e w' => e = .returned (.tuple #[.int .i64 (secE m 7 k).1, .int .i64 (secE m 7 k).2]) ∧ Below W.heap.size W w' := by
  change k < m.da.length at hk
  have HE : Hid (secE m 7 k = (dataEP m (daAt m k).l.t, 0)) := rfl
  have hgd : daAt m k = m.da[k] := by unfold daAt; simp [hk]
  rw [hgd] at HE
  have hmem := List.getElem_mem hk
  obtain ⟨b, off, ha, hb, hcc⟩ := Mod.Rows.get h.md.da hk
  have hlm : m.da[k].l ∈ m.codes := by unfold Md.codes; exact List.mem_append_right _ (List.mem_append_right _ (List.mem_append_right _ (List.mem_map.2 ⟨_, hmem, rfl⟩)))
  have C := hid (fun w' (hb' : Below W.heap.size W w') => dataError_m m m.da[k] w' hf.fit ((h.md.on hb').ls _ hlm) (hf.fit.ls _ hlm) (by have := hf.cs _ hlm; omega) (h.nt.below hb'))
  clear hlm
  obtain ⟨x, hx⟩ : ∃ x, m.da[k] = x := ⟨_, rfl⟩
  rw [hx] at HE hcc C
  have c0 : W.cell? ⟨b, off + k * 2, none⟩ = some (.slice x.l.a x.l.t.len x.l.c) := hcc 0 (by omega) _ rfl
  have c1 : W.cell? ⟨b, off + k * 2 + 1, none⟩ = some (.slice x.ba x.bs.length x.bc) := hcc 1 (by omega) _ rfl
  obtain ⟨v0, v1, v2, v3, v4, v5, v6, v7, v8, v9, hv⟩ : ∃ v0 v1 v2 v3 v4 v5 v6 v7 v8 v9, m.v = #[v0, v1, v2, v3, v4, v5, v6, v7, v8, v9, .slice m.da'.a m.da.length m.da'.c] := ⟨_, _, _, _, _, _, _, _, _, _, rfl⟩
  have hbx := h.bx
  rw [hv, ha] at C hbx
  obtain ⟨n0, n1, n2, n3, n4, n5, n6, n7, n8, n9, n10⟩ := BoxAt.mod hbx
  have hki : (k : Int) < (m.da.length : Int) := by omega
  have bl := hf.fit.da
  clear h hf hfi hrg hk hgd hmem hcc hx hbx hv
  generalize m.da.length = E at *
  obtain ⟨q, hq⟩ : ∃ q, secE m 7 k = q := ⟨_, rfl⟩
  rw [hq] at HE ⊢
  have HQ := HE
  clear hq HE
  go_enter Tryz.func92, Tryz.ntmps92
  go_upto_region 1 with fail
  have hS0 : Below W.heap.size W W.drew ∧ W.drew.cell? ⟨gm, 0, none⟩ = some v0 ∧ W.drew.cell? ⟨gm, 1, none⟩ = some v1 ∧ W.drew.cell? ⟨gm, 2, none⟩ = some v2 ∧ W.drew.cell? ⟨gm, 3, none⟩ = some v3 ∧ W.drew.cell? ⟨gm, 4, none⟩ = some v4 ∧ W.drew.cell? ⟨gm, 5, none⟩ = some v5 ∧ W.drew.cell? ⟨gm, 6, none⟩ = some v6 ∧ W.drew.cell? ⟨gm, 7, none⟩ = some v7 ∧ W.drew.cell? ⟨gm, 8, none⟩ = some v8 ∧ W.drew.cell? ⟨gm, 9, none⟩ = some v9 ∧ W.drew.cell? ⟨gm, 10, none⟩ = some (.slice (some ⟨b, off, none⟩) E m.da'.c) ∧ W.drew.cell? ⟨b, off + k * 2, none⟩ = some (.slice x.l.a x.l.t.len x.l.c) ∧ W.drew.cell? ⟨b, off + k * 2 + 1, none⟩ = some (.slice x.ba x.bs.length x.bc) := ⟨(Below.refl _ _).drew, n0, n1, n2, n3, n4, n5, n6, n7, n8, n9, n10, c0, c1⟩
  clear c0 c1 n0 n1 n2 n3 n4 n5 n6 n7 n8 n9 n10
  go_region_held3 (fun w' => Below W.heap.size W w' ∧ w'.cell? ⟨gm, 0, none⟩ = some v0 ∧ w'.cell? ⟨gm, 1, none⟩ = some v1 ∧ w'.cell? ⟨gm, 2, none⟩ = some v2 ∧ w'.cell? ⟨gm, 3, none⟩ = some v3 ∧ w'.cell? ⟨gm, 4, none⟩ = some v4 ∧ w'.cell? ⟨gm, 5, none⟩ = some v5 ∧ w'.cell? ⟨gm, 6, none⟩ = some v6 ∧ w'.cell? ⟨gm, 7, none⟩ = some v7 ∧ w'.cell? ⟨gm, 8, none⟩ = some v8 ∧ w'.cell? ⟨gm, 9, none⟩ = some v9 ∧ w'.cell? ⟨gm, 10, none⟩ = some (.slice (some ⟨b, off, none⟩) E m.da'.c) ∧ w'.cell? ⟨b, off + k * 2, none⟩ = some (.slice x.l.a x.l.t.len x.l.c) ∧ w'.cell? ⟨b, off + k * 2 + 1, none⟩ = some (.slice x.ba x.bs.length x.bc)) (first | assumption | exact held_keep13 (by assumption) (by assumption))
    (first
      | (go_at_call 93; refine (C.out _ (Below.refl _ _).drew).mono ?_; rintro e1 w2 ⟨rfl, hb2⟩))
  have hB2 : Below W.heap.size W w2 := Stk.undrew hb2
  have HB2 := hid hB2
  clear hB2 hb2 hS0
  go_wp2
  go_ret2
  refine ⟨?_, HB2.out⟩
  rw [HQ.out]; rfl
/-- The functions of the sections. -/
def secF (j : Nat) : Nat := [80, 82, 83, 85, 87, 89, 91, 92].getD j 0
def secB (gm gn j : Nat) : Array Value := if j = 3 then #[.pointer (some ⟨gm, 0, none⟩), .pointer (some ⟨gn, 0, none⟩)] else #[.pointer (some ⟨gm, 0, none⟩)]
/-- The list of sections in memory. -/
def SecsAt (gs gm gn : Nat) (m : Md) (W : World) : Prop := ∀ j, j < 8 → W.cell? ⟨gs, j * 3, none⟩ = some (.int .i64 (secN j)) ∧ W.cell? ⟨gs, j * 3 + 1, none⟩ = some (.int .i64 (secL m j)) ∧ W.cell? ⟨gs, j * 3 + 2, none⟩ = some (.func (.func (secF j)) #[] (secB gm gn j))
theorem SecsAt.on {gs gm gn : Nat} {m : Md} {W W' : World} (h : SecsAt gs gm gn m W) (hb : Below W.heap.size W W') : SecsAt gs gm gn m W' := fun j hj => ⟨Go.Proofs.YtaklngfibnbmcaaGreatDoor.keep hb (h j hj).1, Go.Proofs.YtaklngfibnbmcaaGreatDoor.keep hb (h j hj).2.1, Go.Proofs.YtaklngfibnbmcaaGreatDoor.keep hb (h j hj).2.2⟩
theorem secs_of {gs gm gn : Nat} {m : Md} {W : World} {ty : TypeId} {s : Int} (hs : s = (secL m 4 : Int)) (h : W.heap[gs]? = some (.cells #[.int .i64 2, .int .i64 m.im.length, .func (.func 80) #[] #[.pointer (some ⟨gm, 0, none⟩)], .int .i64 3, .int .i64 m.fu.length, .func (.func 82) #[] #[.pointer (some ⟨gm, 0, none⟩)], .int .i64 6, .int .i64 m.gl.length, .func (.func 83) #[] #[.pointer (some ⟨gm, 0, none⟩)], .int .i64 7, .int .i64 m.ex.length, .func (.func 85) #[] #[.pointer (some ⟨gm, 0, none⟩), .pointer (some ⟨gn, 0, none⟩)], .int .i64 8, .int .i64 s, .func (.func 87) #[] #[.pointer (some ⟨gm, 0, none⟩)], .int .i64 9, .int .i64 m.el.length, .func (.func 89) #[] #[.pointer (some ⟨gm, 0, none⟩)], .int .i64 10, .int .i64 m.fu.length, .func (.func 91) #[] #[.pointer (some ⟨gm, 0, none⟩)], .int .i64 11, .int .i64 m.da.length, .func (.func 92) #[] #[.pointer (some ⟨gm, 0, none⟩)]] ty (0, 0))) : SecsAt gs gm gn m W := by
  subst hs
  intro j hj
  have c : ∀ i, W.cell? ⟨gs, i, none⟩ = _ := fun i => cell_of_row W gs i _ _ _ h
  match j, hj with
  | 0, _ => exact ⟨c 0, c 1, c 2⟩
  | 1, _ => exact ⟨c 3, c 4, c 5⟩
  | 2, _ => exact ⟨c 6, c 7, c 8⟩
  | 3, _ => exact ⟨c 9, c 10, c 11⟩
  | 4, _ => exact ⟨c 12, c 13, c 14⟩
  | 5, _ => exact ⟨c 15, c 16, c 17⟩
  | 6, _ => exact ⟨c 18, c 19, c 20⟩
  | 7, _ => exact ⟨c 21, c 22, c 23⟩
  | j + 8, hj => omega
def SectionsP (m : Md) (w : World) (e : Ending) (w' : World) : Prop := ∃ gs gm gn bm, e = .returned (.slice (some ⟨gs, 0, none⟩) 8 8) ∧ SecsAt gs gm gn m w' ∧ Sx gm gn bm m w' ∧ Below w.heap.size w w'
set_option maxRecDepth 100000 in
set_option maxHeartbeats 4000000 in
theorem sections_m (m : Md) (w : World) (hm : ModAt w.heap.size w m) (hf : m.few) (hT : Nams w) (hA : Num.Arit w) :
    Calls Tryz.prog 32 #[.agg m.v] w (SectionsP m w) := by
  have hmf : ∀ (fn : Go.Fn) (first cap : Array Value) (w : World), (Instr.makeFunc fn first cap).run Tryz.prog w = .ok (.func fn first cap) w := fun fn first cap w => by simp [Instr.makeFunc, go_sem]
  obtain ⟨W0, hW0⟩ : ∃ W0, W0 = w.alloc (.cells m.v 32) := ⟨_, rfl⟩
  have hb0 : Below w.heap.size w W0 := by rw [hW0]; exact thenA (Below.refl _ _) _
  have hbx : BoxAt W0 w.heap.size m.v := by rw [hW0]; exact BoxAt.made w m.v _
  have HX := hid hbx
  have HB := hid hb0
  have HM := hid (hm.on hb0)
  have HT := hid (hT.below hb0)
  have HAR := hid (hA.below hb0)
  have C := hid (firstNames_m m.ex m.ex'.a m.ex.length m.ex'.c W0 rfl hf.fit.ex (hm.on hb0).ex (fun e he => hf.fit.eS e he))
  have n6 : W0.cell? ⟨w.heap.size, 6, none⟩ = some (.slice m.ex'.a m.ex.length m.ex'.c) := hbx 6 _ rfl
  unfold Md.v at hW0 HX ⊢
  clear hm hf hT hA hb0 hbx
  go_enter Tryz.func32, Tryz.ntmps32
  go_upto_region 1 with fail
  rw [← hW0]
  clear hW0
  go_wp2_with fail
  refine C.out.mono ?_
  rintro e1 w1 ⟨bm, rfl, hn1, hb1⟩
  have HN := hid hn1
  have HX1 := hid (HX.out.keep hb1)
  have HB1 := hid (HB.out.trans (hb1.mono HB.out.size))
  have HM1 := hid (HM.out.on hb1)
  have HT1 := hid (HT.out.below hb1)
  have HA1 := hid (HAR.out.below hb1)
  clear C hn1 hb1 n6 HX HB HM HT HAR
  go_upto_region 2 with fail
  have hA : Below w1.heap.size w1 (w1.alloc (.cells #[.map (some bm)] 122)) := (Below.refl _ _).alloc (Nat.le_refl _) _
  have hg : (w1.alloc (.cells #[.map (some bm)] 122)).cell? ⟨w1.heap.size, 0, none⟩ = some (.map (some bm)) := by simp [go_sem]
  obtain ⟨w2, hw2⟩ : ∃ u, u = w1.alloc (.cells #[.map (some bm)] 122) := ⟨_, rfl⟩
  rw [← hw2] at hA hg ⊢
  obtain ⟨gn, hgn⟩ : ∃ gn, gn = w1.heap.size := ⟨_, rfl⟩
  rw [← hgn] at hg ⊢
  have hSx : Sx w.heap.size gn bm m w2 := ⟨by unfold Md.v; exact HX1.out.keep hA, hg, HN.out.below hA, HM1.out.on hA, HT1.out.below hA, HA1.out.below hA⟩
  have HSX := hid hSx
  have HB2 := hid (HB1.out.trans (hA.mono HB1.out.size))
  have hX2 := HX1.out.keep hA
  obtain ⟨n0, n1, n2, n3, n4, n5, n6, n7, n8, n9, n10⟩ := BoxAt.mod hX2
  clear hw2 hgn hA hg hSx hX2 HN HX1 HB1 HM1 HT1 HA1
  have HL : Hid (secL m 4 = if m.st then 1 else 0) := rfl
  obtain ⟨st, hst⟩ : ∃ b, m.st = b := ⟨_, rfl⟩
  rw [hst] at n7 HL
  clear hst
  cases st
  all_goals
    go_wp2
    go_ret
    refine ⟨w2.heap.size, w.heap.size, gn, bm, rfl, secs_of (by rw [HL.out]; rfl) (heap_alloc_new w2 _), HSX.out.on ((Below.refl _ _).alloc (Nat.le_refl _) _), thenA HB2.out _⟩
end Go.Proofs.YtaklngfibnbmcaaGreatDoor.Val

namespace Go.Proofs.YtaklngfibnbmcaaGreatDoor.Val
open Go.RowKit Go.Shelf Go.Proofs.YtaklngfibnbmcaaGreatDoor.Instr Go.Proofs.YtaklngfibnbmcaaGreatDoor.Mod
set_option linter.unusedVariables false

/-- What is wrong, and where. -/
structure Wr where
  e : Int
  s : Int
  i : Int
  a : Int
def Wr.v (r : Wr) : Array Value := #[.int .i64 r.e, .int .i64 r.s, .int .i64 r.i, .int .i64 r.a]
/-- Of n items from the k-th on: the first that is wrong. -/
def scanI (m : Md) (j : Nat) : Nat → Nat → Option Wr
  | _, 0 => none
  | k, n + 1 => if (secE m j k).1 = 0 then scanI m j (k + 1) n else some ⟨(secE m j k).1, secN j, k, (secE m j k).2⟩
/-- Of c sections from the j-th on. -/
def scanS (m : Md) : Nat → Nat → Option Wr
  | _, 0 => none
  | j, c + 1 => match scanI m j 0 (secL m j) with
    | some r => some r
    | none => scanS m (j + 1) c
def wrongP (m : Md) : Wr := if m.check = 0 then (scanS m 0 8).getD ⟨0, 0, 0, 0⟩ else ⟨m.check, 0, 0, 0⟩
theorem scanS_hit {m : Md} {j c : Nat} {r : Wr} (h : scanI m j 0 (secL m j) = some r) : scanS m j (c + 1) = some r := by rw [scanS, h]
theorem scanS_miss {m : Md} {j c : Nat} (h : scanI m j 0 (secL m j) = none) : scanS m j (c + 1) = scanS m (j + 1) c := by rw [scanS, h]
theorem sec_enters (k : Nat) (hk : k < 8) : ∀ args w, (callFunc (secF k) args).run Tryz.prog w = .ok (.enter (secF k) args) w := by
  match k, hk with
  | 0, _ => exact enters_of Tryz.func80 (by kernel_rfl) rfl
  | 1, _ => exact enters_of Tryz.func82 (by kernel_rfl) rfl
  | 2, _ => exact enters_of Tryz.func83 (by kernel_rfl) rfl
  | 3, _ => exact enters_of Tryz.func85 (by kernel_rfl) rfl
  | 4, _ => exact enters_of Tryz.func87 (by kernel_rfl) rfl
  | 5, _ => exact enters_of Tryz.func89 (by kernel_rfl) rfl
  | 6, _ => exact enters_of Tryz.func91 (by kernel_rfl) rfl
  | 7, _ => exact enters_of Tryz.func92 (by kernel_rfl) rfl
theorem sec_m (gm gn bm : Nat) (m : Md) (j k : Nat) (hj : j < 8) (W : World) (h : Sx gm gn bm m W) (hf : m.few) (hfi : Fine m) (hrg : Rg m) (hk : k < secL m j) :
    Calls Tryz.prog (secF j) (#[.int .i64 k] ++ secB gm gn j) W fun e w' => e = .returned (.tuple #[.int .i64 (secE m j k).1, .int .i64 (secE m j k).2]) ∧ Below W.heap.size W w' := by
  match j, hj, hk with
  | 0, _, hk => exact sec0_m gm gn bm m k W h hf hfi hrg hk
  | 1, _, hk => exact sec1_m gm gn bm m k W h hf hfi hrg hk
  | 2, _, hk => exact sec2_m gm gn bm m k W h hf hfi hrg hk
  | 3, _, hk => exact sec3_m gm gn bm m k W h hf hfi hrg hk
  | 4, _, hk => exact sec4_m gm gn bm m k W h hf hfi hrg hk
  | 5, _, hk => exact sec5_m gm gn bm m k W h hf hfi hrg hk
  | 6, _, hk => exact sec6_m gm gn bm m k W h hf hfi hrg hk
  | 7, _, hk => exact sec7_m gm gn bm m k W h hf hfi hrg hk
theorem secL_le {m : Md} (hf : m.few) (j : Nat) : secL m j ≤ 1000000 := by
  have h := hf.lens
  unfold secL
  split <;> (try split) <;> omega
/-- A box of four numbers. -/
def Bx4 (W : World) (g : Nat) (r : Wr) : Prop := W.heap[g]? = some (.cells r.v 39 (0, 0))
theorem Bx4.lt {W : World} {g : Nat} {r : Wr} (h : Bx4 W g r) : g < W.heap.size := (Array.getElem?_eq_some_iff.1 h).1
theorem Bx4.on {W W' : World} {g : Nat} {r : Wr} (h : Bx4 W g r) (hb : Below W.heap.size W W') : Bx4 W' g r := (hb.block g h.lt).trans h
theorem Bx4.c {W : World} {g : Nat} {r : Wr} (h : Bx4 W g r) : W.cell? ⟨g, 0, none⟩ = some (.int .i64 r.e) ∧ W.cell? ⟨g, 1, none⟩ = some (.int .i64 r.s) ∧ W.cell? ⟨g, 2, none⟩ = some (.int .i64 r.i) ∧ W.cell? ⟨g, 3, none⟩ = some (.int .i64 r.a) ∧
    W.frozen? ⟨g, 0, none⟩ = false ∧ W.frozen? ⟨g, 1, none⟩ = false ∧ W.frozen? ⟨g, 2, none⟩ = false ∧ W.frozen? ⟨g, 3, none⟩ = false :=
  ⟨cell_of_row W g 0 _ _ _ h, cell_of_row W g 1 _ _ _ h, cell_of_row W g 2 _ _ _ h, cell_of_row W g 3 _ _ _ h, frozen_of_row W g 0 _ _ h, frozen_of_row W g 1 _ _ h, frozen_of_row W g 2 _ _ h, frozen_of_row W g 3 _ _ h⟩
theorem Bx4.set {W : World} {g : Nat} {r : Wr} (h : Bx4 W g r) (x y z t : Int) : Bx4 ((((W.setCell ⟨g, 0, none⟩ (.int .i64 x)).setCell ⟨g, 1, none⟩ (.int .i64 y)).setCell ⟨g, 2, none⟩ (.int .i64 z)).setCell ⟨g, 3, none⟩ (.int .i64 t)) g ⟨x, y, z, t⟩ :=
  heap_setCell_same _ g 3 _ _ _ (heap_setCell_same _ g 2 _ _ _ (heap_setCell_same _ g 1 _ _ _ (heap_setCell_same W g 0 _ _ _ h)))
theorem results_w {fn : Func} {p : Tmp} (h : fn.results = #[.cell p 39]) (tmps : Array Value) (w : World) (g : Nat) {r : Wr} (hp : tmps.getD p undef = .pointer (some ⟨g, 0, none⟩)) (hb : Bx4 w g r) :
    (results fn tmps).run Tryz.prog w = .ok (.agg r.v) w := by
  have hp' : tmps[p]?.getD undef = .pointer (some ⟨g, 0, none⟩) := by simpa using hp
  simp [results, h, hp', asAddr, run_loadVar_row w g _ 39 _ _ _ hb Tryz.underlying39 rfl (by kernel_rfl)]
def CheckP (m : Md) (w : World) (e : Ending) (w' : World) : Prop := e = .returned (.agg (wrongP m).v) ∧ Below w.heap.size w w'
set_option maxRecDepth 100000 in
set_option maxHeartbeats 4000000 in
theorem Check_m (m : Md) (w : World) (hm : ModAt w.heap.size w m) (hf : m.few) (hrg : Rg m) (hT : Nams w) (hU : Utf.Tabs w) (hA : Num.Arit w) : Calls Tryz.prog 14 #[.agg m.v] w (CheckP m w) := by
  obtain ⟨W0, hW0⟩ : ∃ W0, W0 = (w.alloc (.cells m.v 32)).alloc (.cells #[.int .i64 0, .int .i64 0, .int .i64 0, .int .i64 0] 39) := ⟨_, rfl⟩
  have hb0 : Below w.heap.size w W0 := by rw [hW0]; exact thenA (thenA (Below.refl _ _) _) _
  have hbx : BoxAt W0 w.heap.size m.v := by rw [hW0]; exact (BoxAt.made w m.v _).keep (belowAlloc _ _)
  have hr : Bx4 W0 (w.heap.size + 1) ⟨0, 0, 0, 0⟩ := by rw [hW0]; have := heap_alloc_new (w.alloc (.cells m.v 32)) (.cells #[.int .i64 0, .int .i64 0, .int .i64 0, .int .i64 0] 39); rw [World.size_alloc] at this; exact this
  have HX := hid hbx
  have HB := hid hb0
  have HR := hid hr
  have HM := hid (hm.on hb0)
  have HF := hid hf
  have HRG := hid hrg
  have HT := hid (hT.below hb0)
  have HAR := hid (hA.below hb0)
  have C := hid (ModCheck_any m W0 (hT.below hb0) (hU.below hb0) (hm.on hb0) hf)
  have HFI := hid (fun h => fine_of (m := m) h)
  have HE : Hid (wrongP m = if m.check = 0 then (scanS m 0 8).getD ⟨0, 0, 0, 0⟩ else ⟨m.check, 0, 0, 0⟩) := rfl
  obtain ⟨ck, hck⟩ : ∃ c, m.check = c := ⟨_, rfl⟩
  rw [hck] at C HFI HE
  obtain ⟨v0, v1, v2, v3, v4, v5, v6, v7, v8, v9, v10, hv⟩ : ∃ v0 v1 v2 v3 v4 v5 v6 v7 v8 v9 v10, m.v = #[v0, v1, v2, v3, v4, v5, v6, v7, v8, v9, v10] := ⟨_, _, _, _, _, _, _, _, _, _, _, rfl⟩
  have CS := hid (fun w' hm' hT' hA' => sections_m m w' hm' hf hT' hA')
  rw [hv] at hW0 HX C CS ⊢
  obtain ⟨n0, n1, n2, n3, n4, n5, n6, n7, n8, n9, n10⟩ := BoxAt.mod HX.out
  clear hm hf hrg hT hU hA hb0 hbx hr hck hv
  go_enter Tryz.func14, Tryz.ntmps14
  go_upto_region 1 with fail
  rw [← hW0]
  clear hW0
  go_wp2_with fail
  refine C.out.mono ?_
  rintro e1 w1 ⟨rfl, hb1⟩
  have HX1 := hid (HX.out.keep hb1)
  have HB1 := hid (HB.out.trans (hb1.mono HB.out.size))
  have HR1 := hid (HR.out.on hb1)
  have HM1 := hid (HM.out.on hb1)
  have HT1 := hid (HT.out.below hb1)
  have HA1 := hid (HAR.out.below hb1)
  clear C hb1 n0 n1 n2 n3 n4 n5 n6 n7 n8 n9 n10 HX HB HR HM HT HAR
  by_cases hc : ck = 0
  · subst hc
    have HW := hid (show wrongP m = (scanS m 0 8).getD ⟨0, 0, 0, 0⟩ by rw [HE.out, if_pos rfl])
    have HFN := hid (HFI.out rfl)
    obtain ⟨n0, n1, n2, n3, n4, n5, n6, n7, n8, n9, n10⟩ := BoxAt.mod HX1.out
    have C2 := hid (CS.out w1 HM1.out HT1.out HA1.out)
    clear HE HFI CS
    go_wp2_with fail
    refine C2.out.mono ?_
    rintro e2 w2 ⟨gs, gm, gn, bm, rfl, hs2, hx2, hb2⟩
    have HB2 := hid (HB1.out.trans (hb2.mono HB1.out.size))
    have HR2 := hid (HR1.out.on hb2)
    have HS2 := hid hs2
    have HX2 := hid hx2
    clear C2 hs2 hx2 hb2 n0 n1 n2 n3 n4 n5 n6 n7 n8 n9 n10 HX1 HB1 HR1 HM1 HT1 HA1
    go_wp2
    go_loopw [18] (fun vi wr => ∃ j : Nat, vi = .int .i64 j ∧ j ≤ 8 ∧ Hid (scanS m 0 8 = scanS m j (8 - j)) ∧ Hid (SecsAt gs gm gn m wr) ∧ Hid (Sx gm gn bm m wr) ∧ Hid (Bx4 wr (w.heap.size + 1) ⟨0, 0, 0, 0⟩) ∧ Hid (Below w.heap.size w wr)) (fun vi _ => 8 - (intOf vi).toNat)
    case atStart => exact ⟨0, rfl, Nat.zero_le _, rfl, HS2, HX2, HR2, HB2⟩
    case round =>
      clear HB2 HR2 HS2 HX2
      obtain ⟨j, rfl, hj, HQ, HS, HX, HR, HB⟩ := hrel
      by_cases hlt : j < 8
      · have hji : (j : Int) < 8 := by omega
        obtain ⟨s0, s1, s2⟩ := HS.out j hlt
        have HLE := hid (secL_le HF.out j)
        have HL8 := hid hlt
        have eg := sec_enters j hlt
        have HCC := hid (fun k hk W hx => sec_m gm gn bm m j k hlt W hx HF.out HFN.out HRG.out hk)
        obtain ⟨L, hL⟩ : ∃ L, secL m j = L := ⟨_, rfl⟩
        obtain ⟨N, hN⟩ : ∃ N, secN j = N := ⟨_, rfl⟩
        obtain ⟨G, hG⟩ : ∃ G, secF j = G := ⟨_, rfl⟩
        obtain ⟨cb, hcb⟩ : ∃ L, secB gm gn j = L := ⟨_, rfl⟩
        rw [hL] at s1 HLE HCC
        rw [hN] at s0
        rw [hG] at s2 eg HCC
        rw [hcb] at s2 HCC
        have HLL := hid hL
        have HNN := hid hN
        clear hL hN hG hcb hlt
        go_upto_region 7 with fail
        have hA : Below wr.heap.size wr (wr.alloc (.cells #[.int .i64 N, .int .i64 L, .func (.func G) #[] cb] 83)) := (Below.refl _ _).alloc (Nat.le_refl _) _
        have b0 : (wr.alloc (.cells #[.int .i64 N, .int .i64 L, .func (.func G) #[] cb] 83)).cell? ⟨wr.heap.size, 0, none⟩ = some (.int .i64 N) := by simp [go_sem]
        have b1 : (wr.alloc (.cells #[.int .i64 N, .int .i64 L, .func (.func G) #[] cb] 83)).cell? ⟨wr.heap.size, 1, none⟩ = some (.int .i64 L) := by simp [go_sem]
        have b2 : (wr.alloc (.cells #[.int .i64 N, .int .i64 L, .func (.func G) #[] cb] 83)).cell? ⟨wr.heap.size, 2, none⟩ = some (.func (.func G) #[] cb) := by simp [go_sem]
        obtain ⟨u1, hu1⟩ : ∃ u, u = wr.alloc (.cells #[.int .i64 N, .int .i64 L, .func (.func G) #[] cb] 83) := ⟨_, rfl⟩
        rw [← hu1] at hA b0 b1 b2 ⊢
        obtain ⟨gx, hgx⟩ : ∃ gx, gx = wr.heap.size := ⟨_, rfl⟩
        rw [← hgx] at b0 b1 b2 ⊢
        replace HS := hid (HS.out.on hA)
        replace HX := hid (HX.out.on hA)
        replace HR := hid (HR.out.on hA)
        replace HB := hid (HB.out.trans (hA.mono HB.out.size))
        have K0 := hid b0
        have K2 := hid b2
        clear hu1 hgx hA b0 b2 s0 s1 s2
        go_wp2
        clear b1
        go_loopw [24] (fun vi wr' => ∃ k : Nat, vi = .int .i64 k ∧ k ≤ L ∧ Hid (scanI m j 0 L = scanI m j k (L - k)) ∧ Hid (SecsAt gs gm gn m wr') ∧ Hid (Sx gm gn bm m wr') ∧ Hid (Bx4 wr' (w.heap.size + 1) ⟨0, 0, 0, 0⟩) ∧ Hid (Below w.heap.size w wr') ∧ Hid (wr'.cell? ⟨gx, 0, none⟩ = some (.int .i64 N)) ∧ Hid (wr'.cell? ⟨gx, 2, none⟩ = some (.func (.func G) #[] cb))) (fun vi _ => L - (intOf vi).toNat)
        case atStart => exact ⟨0, rfl, Nat.zero_le _, rfl, HS, HX, HR, HB, K0, K2⟩
        case round =>
          clear HS HX HR HB K0 K2
          obtain ⟨k, rfl, hk, HI, HS, HX, HR, HB, K0, K2⟩ := hrel
          by_cases hlk : k < L
          · have hki : (k : Int) < (L : Int) := by omega
            have hLb : L ≤ 1000000 := HLE.out
            have C3 := hid (HCC.out k hlk wr HX.out)
            obtain ⟨q, hq⟩ : ∃ q, secE m j k = q := ⟨_, rfl⟩
            rw [hq] at C3
            have HSQ := hid hq
            obtain ⟨q1, q2⟩ := q
            simp only at C3
            have b0 := K0.out
            have b2 := K2.out
            have HLK := hid hlk
            clear hq hlk
            by_cases hz : q1 = 0
            · subst hz
              go_wp2_with (go_at_fn G; refine C3.out.mono ?_; rintro e3 u3 ⟨rfl, hb3⟩; clear b0 b2)
              have HB3 := hid (HB.out.trans (hb3.mono HB.out.size))
              have HS3 := hid (HS.out.on hb3)
              have HX3 := hid (HX.out.on hb3)
              have HR3 := hid (HR.out.on hb3)
              have K03 := hid (Go.Proofs.YtaklngfibnbmcaaGreatDoor.keep hb3 K0.out)
              have K23 := hid (Go.Proofs.YtaklngfibnbmcaaGreatDoor.keep hb3 K2.out)
              go_roundw
              case rel =>
                refine ⟨k + 1, by go_num, by have := HLK.out; omega, hid ?_, HS3, HX3, HR3, HB3, K03, K23⟩
                rw [HI.out]
                have : L - k = (L - (k + 1)) + 1 := by have := HLK.out; omega
                rw [this, scanI, HSQ.out, if_pos rfl]
              case measure => simp [intOf]; have := HLK.out; omega
            · have hzb : (q1 == 0) = false := by simpa using hz
              have HV := hid (show wrongP m = ⟨q1, N, k, q2⟩ by
                have h1 : scanI m j 0 (secL m j) = some ⟨q1, N, k, q2⟩ := by
                  rw [HLL.out, HI.out]
                  have : L - k = (L - (k + 1)) + 1 := by have := HLK.out; omega
                  rw [this, scanI, HSQ.out, if_neg hz, HNN.out]
                have h2 : 8 - j = (8 - (j + 1)) + 1 := by have := HL8.out; omega
                rw [HW.out, HQ.out, h2, scanS_hit h1]; rfl)
              go_wp2_with (go_at_fn G; refine C3.out.mono ?_; rintro e3 u3 ⟨rfl, hb3⟩; have b03 := Go.Proofs.YtaklngfibnbmcaaGreatDoor.keep hb3 K0.out; obtain ⟨c0, c1, c2, c3, f0, f1, f2, f3⟩ := (HR.out.on hb3).c)
              have HB3 := hid (HB.out.trans (hb3.mono HB.out.size))
              have HR3 := hid (HR.out.on hb3)
              exact bodyPost_ret (results_w Tryz.results14 _ _ (w.heap.size + 1) rfl (HR3.out.set q1 N k q2)) rfl ⟨by rw [HV.out], (((HB3.out.setCell (by simp) _).setCell (by simp) _).setCell (by simp) _).setCell (by simp) _⟩
          · obtain rfl : L = k := by omega
            have hn : scanI m j 0 (secL m j) = none := by
              rw [HLL.out, HI.out, Nat.sub_self]; rfl
            have h2 : 8 - j = (8 - (j + 1)) + 1 := by have := HL8.out; omega
            have HQ2 := hid (show scanS m 0 8 = scanS m (j + 1) (8 - (j + 1)) by rw [HQ.out, h2, scanS_miss hn])
            clear hn h2
            go_wp2
            go_roundw
            case rel => exact ⟨j + 1, by go_num, by have := HL8.out; omega, HQ2, HS, HX, HR, HB⟩
            case measure => simp [intOf]; have := HL8.out; omega
      · obtain rfl : j = 8 := by omega
        have HV := hid (show wrongP m = ⟨0, 0, 0, 0⟩ by rw [HW.out, HQ.out]; rfl)
        obtain ⟨c0, c1, c2, c3, f0, f1, f2, f3⟩ := HR.out.c
        go_wp2
        exact bodyPost_ret (results_w Tryz.results14 _ _ (w.heap.size + 1) rfl (HR.out.set 0 0 0 0)) rfl ⟨by rw [HV.out], (((HB.out.setCell (by simp) _).setCell (by simp) _).setCell (by simp) _).setCell (by simp) _⟩
  · have HV := hid (show wrongP m = ⟨ck, 0, 0, 0⟩ by rw [HE.out, if_neg hc])
    have hcb : (ck == 0) = false := by simpa using hc
    obtain ⟨c0, c1, c2, c3, f0, f1, f2, f3⟩ := HR1.out.c
    clear HE HFI CS
    go_wp2
    exact bodyPost_ret (results_w Tryz.results14 _ _ (w.heap.size + 1) rfl (HR1.out.set ck 0 0 0)) rfl ⟨by rw [HV.out], (((HB1.out.setCell (by simp) _).setCell (by simp) _).setCell (by simp) _).setCell (by simp) _⟩
def BodyQ (m : Md) (n : Int) (w : World) (e : Ending) (w' : World) : Prop := e = .returned (.tuple #[.int .i64 (Md.body m n).1, .int .i64 (Md.body m n).2]) ∧ Below w.heap.size w w'
set_option maxRecDepth 100000 in
set_option maxHeartbeats 2000000 in
theorem Body_m (m : Md) (n : Int) (w : World) (hm : ModAt w.heap.size w m) (hf : m.few) (hT : Nams w) (hU : Utf.Tabs w) (hA : Num.Arit w) : Calls Tryz.prog 12 #[.agg m.v, .int .i64 n] w (BodyQ m n w) := by
  obtain ⟨W0, hW0⟩ : ∃ W0, W0 = w.alloc (.cells m.v 32) := ⟨_, rfl⟩
  have hb0 : Below w.heap.size w W0 := by rw [hW0]; exact thenA (Below.refl _ _) _
  have hbx : BoxAt W0 w.heap.size m.v := by rw [hW0]; exact BoxAt.made w m.v _
  have HX := hid hbx
  have HB := hid hb0
  have HM := hid (hm.on hb0)
  have HF := hid hf
  have HAR := hid (hA.below hb0)
  have C := hid (ModCheck_any m W0 (hT.below hb0) (hU.below hb0) (hm.on hb0) hf)
  have HFI := hid (fun h => fine_of (m := m) h)
  have HE : Hid (Md.body m n = if m.check ≠ 0 then (m.check, 0) else if n < 0 ∨ (m.fu.length : Int) ≤ n then (6, 0) else Md.bodyP m n.toNat) := rfl
  have CB := hid (fun k w' hm' hA' hfi hk => bodyError_m m k w' hm' hA' hf hfi hk)
  obtain ⟨ck, hck⟩ : ∃ c, m.check = c := ⟨_, rfl⟩
  rw [hck] at C HFI HE
  obtain ⟨v0, v1, v3, v4, v5, v6, v7, v8, v9, v10, hv⟩ : ∃ v0 v1 v3 v4 v5 v6 v7 v8 v9 v10, m.v = #[v0, v1, .slice m.fu'.a m.fu.length m.fu'.c, v3, v4, v5, v6, v7, v8, v9, v10] := ⟨_, _, _, _, _, _, _, _, _, _, rfl⟩
  have bfu := hf.fit.fu
  rw [hv] at hW0 HX C CB ⊢
  obtain ⟨n0, n1, n2, n3, n4, n5, n6, n7, n8, n9, n10⟩ := BoxAt.mod HX.out
  clear hm hf hT hU hA hb0 hbx hck hv
  go_enter Tryz.func12, Tryz.ntmps12
  go_upto_region 1 with fail
  rw [← hW0]
  clear hW0
  go_wp2_with fail
  refine C.out.mono ?_
  rintro e1 w1 ⟨rfl, hb1⟩
  have HX1 := hid (HX.out.keep hb1)
  have HB1 := hid (HB.out.trans (hb1.mono HB.out.size))
  have HM1 := hid (HM.out.on hb1)
  have HA1 := hid (HAR.out.below hb1)
  clear C hb1 n0 n1 n2 n3 n4 n5 n6 n7 n8 n9 n10 HX HB HM HAR
  by_cases hc : ck = 0
  · subst hc
    have HFN := hid (HFI.out rfl)
    obtain ⟨n0, n1, n2, n3, n4, n5, n6, n7, n8, n9, n10⟩ := BoxAt.mod HX1.out
    by_cases h1 : n < 0
    · have HV := hid (show Md.body m n = (6, 0) by rw [HE.out, if_neg (by simp), if_pos (.inl h1)])
      clear HE HFI CB
      go_wp2
      go_ret2
      exact ⟨by rw [HV.out]; rfl, HB1.out⟩
    by_cases h2 : (m.fu.length : Int) ≤ n
    · have HV := hid (show Md.body m n = (6, 0) by rw [HE.out, if_neg (by simp), if_pos (.inr h2)])
      clear HE HFI CB
      go_wp2
      go_ret2
      exact ⟨by rw [HV.out]; rfl, HB1.out⟩
    · obtain ⟨k, rfl⟩ : ∃ k : Nat, n = k := ⟨n.toNat, by omega⟩
      have HV := hid (show Md.body m k = Md.bodyP m k by rw [HE.out, if_neg (by simp), if_neg (by omega)]; simp)
      have C2 := hid (CB.out k w1 HM1.out HA1.out HFN.out (by omega))
      unfold BodyP at C2
      obtain ⟨q, hq⟩ : ∃ q, Md.bodyP m k = q := ⟨_, rfl⟩
      rw [hq] at C2 HV
      clear HE HFI CB hq
      go_wp2_with fail
      refine C2.out.mono ?_
      rintro e2 w2 ⟨rfl, hb2⟩
      have HB2 := hid (HB1.out.trans (hb2.mono HB1.out.size))
      clear C2 hb2 n0 n1 n2 n3 n4 n5 n6 n7 n8 n9 n10
      go_wp2
      go_ret2
      exact ⟨by rw [HV.out]; rfl, HB2.out⟩
  · have HV := hid (show Md.body m n = (ck, 0) by rw [HE.out, if_pos hc])
    have hcb : (ck == 0) = false := by simpa using hc
    clear HE HFI CB
    go_wp2
    go_ret2
    exact ⟨by rw [HV.out]; rfl, HB1.out⟩
end Go.Proofs.YtaklngfibnbmcaaGreatDoor.Val

namespace Go.Proofs.YtaklngfibnbmcaaGreatDoor.Val
open Go.RowKit Go.Proofs.YtaklngfibnbmcaaGreatDoor.Instr Go.Proofs.YtaklngfibnbmcaaGreatDoor.Mod
set_option linter.unusedVariables false

/-- Nothing is wrong. -/
def Valid (m : Md) : Prop := m.check = 0 ∧ ∀ j, j < 8 → ∀ k, k < secL m j → (secE m j k).1 = 0
theorem scanI_spec (m : Md) (j : Nat) : ∀ (n k : Nat), (scanI m j k n = none ∧ ∀ i, k ≤ i → i < k + n → (secE m j i).1 = 0) ∨ (∃ r, scanI m j k n = some r ∧ r.e ≠ 0 ∧ ∃ i, k ≤ i ∧ i < k + n ∧ (secE m j i).1 ≠ 0)
  | 0, k => .inl ⟨rfl, fun i h1 h2 => by omega⟩
  | n + 1, k => by
    rw [scanI]
    by_cases h : (secE m j k).1 = 0
    · rw [if_pos h]
      rcases scanI_spec m j n (k + 1) with ⟨a, b⟩ | ⟨r, a, b, i, c, d, e⟩
      · refine .inl ⟨a, fun i h1 h2 => ?_⟩
        by_cases hik : i = k
        · rw [hik]; exact h
        · exact b i (by omega) (by omega)
      · exact .inr ⟨r, a, b, i, by omega, by omega, e⟩
    · rw [if_neg h]
      exact .inr ⟨_, rfl, h, k, by omega, by omega, h⟩
theorem scanS_spec (m : Md) : ∀ (c j : Nat), (scanS m j c = none ∧ ∀ i, j ≤ i → i < j + c → ∀ k, k < secL m i → (secE m i k).1 = 0) ∨ (∃ r, scanS m j c = some r ∧ r.e ≠ 0 ∧ ∃ i k, j ≤ i ∧ i < j + c ∧ k < secL m i ∧ (secE m i k).1 ≠ 0)
  | 0, j => .inl ⟨rfl, fun i h1 h2 => by omega⟩
  | c + 1, j => by
    rcases scanI_spec m j (secL m j) 0 with ⟨a, b⟩ | ⟨r, a, b, i, c1, d, e⟩
    · rw [scanS_miss a]
      rcases scanS_spec m c (j + 1) with ⟨a2, b2⟩ | ⟨r, a2, b2, i, k, c2, d2, e2, f2⟩
      · refine .inl ⟨a2, fun i h1 h2 k hk => ?_⟩
        by_cases hij : i = j
        · subst hij; exact b k (by omega) (by omega)
        · exact b2 i (by omega) (by omega) k hk
      · exact .inr ⟨r, a2, b2, i, k, by omega, by omega, e2, f2⟩
    · rw [scanS_hit a]
      exact .inr ⟨r, rfl, b, j, i, by omega, by omega, by omega, e⟩
theorem wrong_cases (m : Md) : (wrongP m = ⟨0, 0, 0, 0⟩ ∧ Valid m) ∨ ((wrongP m).e ≠ 0 ∧ ¬ Valid m) := by
  unfold wrongP
  by_cases h : m.check = 0
  · rw [if_pos h]
    rcases scanS_spec m 8 0 with ⟨a, b⟩ | ⟨r, a, b, i, k, c, d, e, f⟩
    · rw [a]; exact .inl ⟨rfl, h, fun j hj k hk => b j (by omega) (by omega) k hk⟩
    · rw [a]; exact .inr ⟨b, fun hv => f (hv.2 i (by omega) k e)⟩
  · rw [if_neg h]; exact .inr ⟨h, fun hv => h hv.1⟩
theorem valid_wrong {m : Md} (h : Valid m) : wrongP m = ⟨0, 0, 0, 0⟩ := by
  rcases wrong_cases m with a | a
  · exact a.1
  · exact absurd h a.2

/-- An error stays. -/
theorem failS_er {e : Int} {s : St} (h : s.er ≠ 0) : failS e s = s := if_neg h
theorem pushS_er {e : Int} {s : St} (h : s.er ≠ 0) : pushS e s = s := if_neg h
theorem popS_er {e : Int} {s : St} (h : s.er ≠ 0) : popS e s = s := if_neg h
theorem deadS_er {s : St} (h : s.er ≠ 0) : deadS s = s := if_neg h
theorem enterS_er {o e : Int} {s : St} (h : s.er ≠ 0) : enterS o e s = s := if_neg h
theorem leaveS_er {e : Int} {s : St} (h : s.er ≠ 0) : leaveS e s = s := if_neg h
theorem labelS_er {n : Int} {s : St} (h : s.er ≠ 0) : labelS n s = (0, s) := if_neg h
theorem tagsS_er (k : Int) : ∀ (l : List Int) (b : Bool) (s : St), s.er ≠ 0 → (tagsS k l b s).2 = s
  | [], b, s, h => rfl
  | t :: r, b, s, h => by rw [tagsS, labelS_er h]; exact tagsS_er k r _ s h
theorem tableS_er {l : List Int} {n : Int} {s : St} (h : s.er ≠ 0) : tableS l n s = s := by
  unfold tableS
  rw [labelS_er h]
  simp only [tagsS_er _ _ _ _ h, failS_er h, ite_self]
theorem brS_er {n : Int} {s : St} (h : s.er ≠ 0) : brS n s = s := by unfold brS; rw [labelS_er h]; simp only [popS_er h, deadS_er h]
theorem brIfS_er {n : Int} {s : St} (h : s.er ≠ 0) : brIfS n s = s := by unfold brIfS; rw [labelS_er h]; simp only [popS_er h, pushS_er h]
theorem callS_er {t : Int × Int} {s : St} (h : s.er ≠ 0) : callS t s = s := by unfold callS; rw [popS_er h, pushS_er h]
theorem listS_er {m : Md} {lo re : Int} {t : Il} {s : St} (h : s.er ≠ 0) : listS m lo re t s = s := by unfold listS; rw [runS_er _ _ _ _ _ h, leaveS_er h]
theorem opS_er {m : Md} {re : Int} {x : Ix} {L E : St → St} {s : St} (hL : ∀ s, s.er ≠ 0 → L s = s) (hE : ∀ s, s.er ≠ 0 → E s = s) (h : s.er ≠ 0) : opS m re x L E s = s := by
  have hb : s.back s = s := rfl
  unfold opS
  split; · exact deadS_er h
  split; · rw [enterS_er h]; exact hL s h
  split; · unfold eitherS; rw [popS_er h, enterS_er h, hL s h, hb, enterS_er h]; exact hE s h
  split; · rw [tableS_er h, popS_er h]; exact brS_er h
  split; · exact brS_er h
  split; · exact brIfS_er h
  split; · rw [popS_er h]; exact deadS_er h
  split; · rw [popS_er h]; exact callS_er h
  split; · exact callS_er h
  rw [popS_er h]; exact pushS_er h

/-- One module has what the other one has, as far as instructions name it. -/
structure Ext (m n : Md) : Prop where
  ty : n.ty = m.ty
  tb : n.tb = m.tb
  me : n.me = m.me
  gl : n.gl = m.gl
  tp : ∀ k, (m.typeOf k).2 = true → n.typeOf k = m.typeOf k
theorem callee_ext {m n : Md} (h : Ext m n) {x : Ix} (hc : (calleeP m x).2 = true) : calleeP n x = calleeP m x := by
  unfold calleeP at *
  by_cases c : x.op = 16
  · simp only [if_pos c] at hc ⊢; exact h.tp _ hc
  · simp only [if_neg c, h.tb, h.ty]
theorem lacks_ext {m n : Md} (h : Ext m n) {lo : Int} {x : Ix} (h0 : lacksP m lo x = 0) : lacksP n lo x = 0 ∧ (x.op = 16 ∨ x.op = 17 → calleeP n x = calleeP m x) := by
  unfold lacksP at *
  by_cases hc : x.op = 16 ∨ x.op = 17
  · rw [if_pos hc] at h0 ⊢
    have h1 : (calleeP m x).2 = true := by
      by_cases hh : (calleeP m x).2 = true
      · exact hh
      · rw [if_neg hh] at h0; omega
    have h2 := callee_ext h h1
    rw [h2, if_pos h1]
    exact ⟨rfl, fun _ => rfl⟩
  · rw [if_neg hc] at h0 ⊢
    refine ⟨?_, fun hh => absurd hh hc⟩
    rw [h.gl, h.me]; exact h0
theorem op_ext {m n : Md} {re : Int} {x : Ix} {L E L' E' : St → St} {s : St} (hc : x.op = 16 ∨ x.op = 17 → calleeP n x = calleeP m x)
    (hL : ∀ s, (L s).er = 0 → L' s = L s) (hE : ∀ s, (E s).er = 0 → E' s = E s) (sE : ∀ s, s.er ≠ 0 → E s = s) (h0 : (opS m re x L E s).er = 0) : opS n re x L' E' s = opS m re x L E s := by
  unfold opS at *
  by_cases c0 : x.op = 0
  · simp only [if_pos c0]
  simp only [if_neg c0] at h0 ⊢
  by_cases c1 : x.op = 2 ∨ x.op = 3
  · simp only [if_pos c1] at h0 ⊢; exact hL _ h0
  simp only [if_neg c1] at h0 ⊢
  by_cases c2 : x.op = 4
  · simp only [if_pos c2] at h0 ⊢
    unfold eitherS at h0 ⊢
    have h1 : (L (enterS 4 x.res (popS 1 s))).er = 0 := by
      by_cases hz : (L (enterS 4 x.res (popS 1 s))).er = 0
      · exact hz
      · exfalso
        have hb : ((L (enterS 4 x.res (popS 1 s))).back (popS 1 s)).er ≠ 0 := hz
        rw [enterS_er hb, sE _ hb] at h0
        exact hb h0
    rw [hL _ h1]
    exact hE _ h0
  simp only [if_neg c2] at h0 ⊢
  by_cases h17 : x.op = 17
  · rw [hc (.inr h17)]
  · by_cases h16 : x.op = 16
    · rw [hc (.inl h16)]
    · simp only [if_neg h17, if_neg h16]
theorem runS_ext {m n : Md} (h : Ext m n) (lo re : Int) : ∀ (t : Il) (s : St), (runS m lo re t s).er = 0 → runS n lo re t s = runS m lo re t s
  | .nil, s, _ => rfl
  | .cons x l e r, s, h0 => by
    rw [runS_cons] at h0 ⊢
    rw [runS_cons]
    by_cases hs : s.er = 0
    · rw [if_pos hs] at h0 ⊢
      rw [if_pos hs]
      have lst : ∀ (t : Il), (∀ s, (runS m lo re t s).er = 0 → runS n lo re t s = runS m lo re t s) → ∀ s, (listS m lo re t s).er = 0 → listS n lo re t s = listS m lo re t s := by
        intro t ih s hz
        unfold listS at hz ⊢
        by_cases hq : (runS m lo re t s).er = 0
        · rw [ih s hq]
        · rw [leaveS_er hq] at hz; exact absurd hz hq
      have h1 : (insS m lo re x (listS m lo re l) (listS m lo re e) s.next).er = 0 := by
        by_cases hq : (insS m lo re x (listS m lo re l) (listS m lo re e) s.next).er = 0
        · exact hq
        · rw [runS_er _ _ _ _ _ hq] at h0; exact absurd h0 hq
      have h2 : lacksP m lo x = 0 := by
        by_cases hq : lacksP m lo x = 0
        · exact hq
        · exfalso
          have hf : (failS (lacksP m lo x) s.next).er ≠ 0 := by
            unfold failS
            rw [if_pos (show s.next.er = 0 from hs)]; exact hq
          unfold insS at h1
          rw [opS_er (fun s h => listS_er h) (fun s h => listS_er h) hf] at h1
          exact hf h1
      obtain ⟨h3, h4⟩ := lacks_ext h h2
      have h5 : insS n lo re x (listS n lo re l) (listS n lo re e) s.next = insS m lo re x (listS m lo re l) (listS m lo re e) s.next := by
        unfold insS at h1 ⊢
        rw [h2] at h1 ⊢
        rw [h3]
        exact op_ext h4 (lst l (runS_ext h lo re l)) (lst e (runS_ext h lo re e)) (fun s h => listS_er h) h1
      rw [h5]
      exact runS_ext h lo re r _ h0
    · rw [if_neg hs, if_neg hs]
theorem bodyP_ext {m n : Md} (h : Ext m n) (k : Nat) (hi : n.im = m.im) (hf : n.fu.getD k ⟨0, 0, ⟨none, 0, .nil⟩⟩ = m.fu.getD k ⟨0, 0, ⟨none, 0, .nil⟩⟩) (h0 : (Md.bodyP m k).1 = 0) : Md.bodyP n k = Md.bodyP m k := by
  unfold Md.bodyP at h0 ⊢
  by_cases ht : (m.typeOf (m.im.length + k)).2 = false
  · rw [if_pos ht] at h0; simp at h0
  · have ht2 : (m.typeOf (m.im.length + k)).2 = true := by simpa using ht
    rw [if_neg ht] at h0 ⊢
    rw [hi, h.tp _ ht2, if_neg ht, hf]
    dsimp only at h0 ⊢
    have h1 : listS n ((m.typeOf (m.im.length + k)).1.1 + (m.fu.getD k ⟨0, 0, ⟨none, 0, .nil⟩⟩).lo) (m.typeOf (m.im.length + k)).1.2 (m.fu.getD k ⟨0, 0, ⟨none, 0, .nil⟩⟩).l.t (startS (m.typeOf (m.im.length + k)).1.2) =
        listS m ((m.typeOf (m.im.length + k)).1.1 + (m.fu.getD k ⟨0, 0, ⟨none, 0, .nil⟩⟩).lo) (m.typeOf (m.im.length + k)).1.2 (m.fu.getD k ⟨0, 0, ⟨none, 0, .nil⟩⟩).l.t (startS (m.typeOf (m.im.length + k)).1.2) := by
      unfold listS at h0 ⊢
      have hq : (runS m ((m.typeOf (m.im.length + k)).1.1 + (m.fu.getD k ⟨0, 0, ⟨none, 0, .nil⟩⟩).lo) (m.typeOf (m.im.length + k)).1.2 (m.fu.getD k ⟨0, 0, ⟨none, 0, .nil⟩⟩).l.t (startS (m.typeOf (m.im.length + k)).1.2)).er = 0 := by
        by_cases hq : (runS m ((m.typeOf (m.im.length + k)).1.1 + (m.fu.getD k ⟨0, 0, ⟨none, 0, .nil⟩⟩).lo) (m.typeOf (m.im.length + k)).1.2 (m.fu.getD k ⟨0, 0, ⟨none, 0, .nil⟩⟩).l.t (startS (m.typeOf (m.im.length + k)).1.2)).er = 0
        · exact hq
        · rw [leaveS_er hq] at h0; exact h0
      rw [runS_ext h _ _ _ _ hq]
    rw [h1]
end Go.Proofs.YtaklngfibnbmcaaGreatDoor.Val

namespace Go.Proofs.YtaklngfibnbmcaaGreatDoor.Val
open Go.RowKit Go.Shelf Go.Proofs.YtaklngfibnbmcaaGreatDoor.Instr Go.Proofs.YtaklngfibnbmcaaGreatDoor.Mod
set_option linter.unusedVariables false

theorem eqWrong (a b c d x y z t : Int) (w : World) : (Op.equalIn 10000 39 (.agg #[.int .i64 a, .int .i64 b, .int .i64 c, .int .i64 d]) (.agg #[.int .i64 x, .int .i64 y, .int .i64 z, .int .i64 t])).run Tryz.prog w = .ok (a == x && b == y && c == z && d == t) w := by
  have u3 := Tryz.underlying3
  have a3 := Tryz.isAgg3
  have z3 := Tryz.sizeOf3
  have u4 := Tryz.underlying35
  have a4 := Tryz.isAgg35
  have z4 := Tryz.sizeOf35
  have hS : Tryz.prog.underlying 39 = some (.struct (Tryz.prog.fieldsOf 39)) := by kernel_rfl
  have hp : Tryz.prog.stoodInHeld 39 = false := by kernel_rfl
  rw [show (10000 : Nat) = 9999 + 1 from rfl, run_equalIn_agg w 9999 39 _ _ hS hp]
  simp only [Program.fieldsOf, Tryz.underlying39]
  go_simp
  by_cases h1 : a = x <;> by_cases h2 : b = y <;> by_cases h3 : c = z <;> by_cases h4 : d = t <;> simp [h1, h2, h3, h4]
theorem guardWrong (op : BinOp) (x y : Operand) (xs ys : Array Value) (w : World) : (eqGuard op 39 x y (.agg xs) (.agg ys)).run Tryz.prog w = .ok () w :=
  run_eqGuard_agg w op _ x y xs ys (by kernel_rfl)
/-- Rows in a block of their own. -/
theorem rows_box {W : World} {b sz : Nat} {rs : List (List Value)} (hb : b < W.heap.size) (hl : ∀ r ∈ rs, r.length = sz) (h : BoxAt W b (rs.flatten.toArray)) : Mod.Rows W.heap.size W (some ⟨b, 0, none⟩) sz rs :=
  .inr ⟨b, 0, rfl, hb, fun i hi j hj v hv => by
    have hf := Stk.flat_get rs hl i j hi hj
    rw [hv] at hf
    have := h (i * sz + j) v (by simpa using hf)
    simpa using this⟩
/-- Instructions, one behind the other, each with its lists. -/
def mkIl : List (Ix × Il × Il) → Il
  | [] => .nil
  | x :: r => .cons x.1 x.2.1 x.2.2 (mkIl r)
theorem mkIl_len : ∀ l : List (Ix × Il × Il), (mkIl l).len = l.length
  | [] => rfl
  | x :: r => by simp [mkIl, Il.len, mkIl_len r]
/-- What is asked of an instruction in a literal. -/
structure LitOk (n₀ : Nat) (W : World) (x : Ix × Il × Il) : Prop where
  ok : x.1.ok
  tags : TagsAt n₀ W x.1.ta x.1.tags
  l : x.2.1.len = x.1.ln ∧ (x.2.1 = .nil ∨ ∃ b' o', x.1.la = some ⟨b', o', none⟩ ∧ Items n₀ W b' o' x.2.1)
  e : x.2.2.len = x.1.en ∧ (x.2.2 = .nil ∨ ∃ b' o', x.1.ea = some ⟨b', o', none⟩ ∧ Items n₀ W b' o' x.2.2)
theorem items_of {n₀ : Nat} {W : World} {g : Nat} (hg : g < n₀) : ∀ (l : List (Ix × Il × Il)) (off : Nat), (∀ i (hi : i < l.length), ∀ j v, (l[i].1.vals)[j]? = some v → W.cell? ⟨g, off + i * 8 + j, none⟩ = some v) → (∀ x ∈ l, LitOk n₀ W x) → Items n₀ W g off (mkIl l)
  | [], _, _, _ => trivial
  | x :: r, off, h, hx => by
    have c : ∀ j v, (x.1.vals)[j]? = some v → W.cell? ⟨g, off + j, none⟩ = some v := fun j v hv => by have := h 0 (by simp) j v hv; simpa using this
    have hx0 := hx x (by simp)
    refine ⟨hg, hx0.ok, ⟨c 0 _ rfl, c 1 _ rfl, c 2 _ rfl, c 3 _ rfl, c 4 _ rfl, c 5 _ rfl, c 6 _ rfl, c 7 _ rfl⟩, hx0.tags, hx0.l, hx0.e, items_of hg r (off + 8) (fun i hi j v hv => ?_) (fun y hy => hx y (by simp [hy]))⟩
    have := h (i + 1) (by simp; omega) j v hv
    rw [show off + (i + 1) * 8 + j = off + 8 + i * 8 + j by omega] at this
    exact this
theorem list_box {W : World} {g : Nat} {l : List (Ix × Il × Il)} (hg : g < W.heap.size) (h : BoxAt W g ((l.map fun x => x.1.vals.toList).flatten.toArray)) (hx : ∀ x ∈ l, LitOk W.heap.size W x) : ListAt W.heap.size W (some ⟨g, 0, none⟩) l.length (mkIl l) := by
  refine ⟨mkIl_len l, .inr ⟨g, 0, rfl, items_of hg l 0 (fun i hi j v hv => ?_) hx⟩⟩
  have hlen : ∀ r ∈ l.map (fun x => x.1.vals.toList), r.length = 8 := by
    intro r hr
    obtain ⟨x, _, rfl⟩ := List.mem_map.1 hr
    rfl
  have hj : j < 8 := by
    rcases Nat.lt_or_ge j 8 with h | h
    · exact h
    · rw [Array.getElem?_eq_none (by show 8 ≤ j; exact h)] at hv; cases hv
  have hf := Stk.flat_get (l.map fun x => x.1.vals.toList) hlen i j (by simpa using hi) hj
  have hgd : (l.map fun x => x.1.vals.toList).getD i [] = l[i].1.vals.toList := by simp [hi]
  rw [hgd] at hf
  have := h (i * 8 + j) v (by rw [List.getElem?_toArray, hf]; simpa using hv)
  simpa using this
/-- A function of one word to one, with these instructions. -/
def ofM (g : Nat) (l : Lst) : Md where
  ty := [(1, 1)]
  im := []
  fu := [⟨0, 0, l⟩]
  tb := []
  me := []
  gl := []
  ex := []
  st := false
  sn := 0
  el := []
  da := []
  ty' := ⟨some ⟨g, 0, none⟩, 1⟩
  im' := ⟨none, 0⟩
  fu' := ⟨some ⟨g + 1, 0, none⟩, 1⟩
  tb' := ⟨none, 0⟩
  me' := ⟨none, 0⟩
  gl' := ⟨none, 0⟩
  ex' := ⟨none, 0⟩
  el' := ⟨none, 0⟩
  da' := ⟨none, 0⟩
theorem of_few (g : Nat) (l : Lst) (hn : l.t.len ≤ 140737488351232) (hc : l.t.count ≤ 1000000) : (ofM g l).few := by
  have hcs : ∀ x ∈ (ofM g l).codes, x = l := by simp [ofM, Md.codes]
  refine ⟨⟨by simp [ofM], by simp [ofM], by simp [ofM], by simp [ofM], by simp [ofM], by simp [ofM], by simp [ofM], by simp [ofM], by simp [ofM], fun x hx => by rw [hcs x hx]; exact hn, by simp [ofM], by simp [ofM], by simp [ofM], by simp [ofM]⟩, fun x hx => by rw [hcs x hx]; exact hc, by simp [ofM]⟩
theorem of_at {g : Nat} {l : Lst} {W : World} (h0 : BoxAt W g #[.int .i64 1, .int .i64 1]) (h1 : BoxAt W (g + 1) #[.int .i64 0, .int .i64 0, l.val]) (hL : ListAt W.heap.size W l.a l.t.len l.t) : ModAt W.heap.size W (ofM g l) := by
  have hcs : ∀ x ∈ (ofM g l).codes, x = l := by simp [ofM, Md.codes]
  have l0 := World.block_lt_of_cell? W _ (h0 0 _ rfl)
  have l1 := World.block_lt_of_cell? W _ (h1 0 _ rfl)
  exact ⟨rows_box l0 (by simp [ofM, tyV]) h0, .inl rfl, rows_box l1 (by simp [ofM, Mod.Fn.v]) h1, .inl rfl, .inl rfl, .inl rfl, .inl rfl, .inl rfl, .inl rfl, fun x hx => by rw [hcs x hx]; exact hL, by simp [ofM], by simp [ofM]⟩
theorem chain3 (w : World) (A0 A1 A2 : Array Value) (t0 t1 t2 : TypeId) : ∃ W, (((w.alloc (.cells A0 t0)).alloc (.cells A1 t1)).alloc (.cells A2 t2)) = W ∧ (BoxAt W (w.heap.size) A0 ∧ BoxAt W (w.heap.size + 1) A1 ∧ BoxAt W (w.heap.size + 1 + 1) A2) ∧ Below w.heap.size w W := by
  refine ⟨_, rfl, ⟨?_, ?_, ?_⟩, thenA (thenA (thenA (Below.refl _ _) _) _) _⟩ <;> (intro j x h; simp [go_sem, h])
theorem chain8 (w : World) (A0 A1 A2 A3 A4 A5 A6 A7 : Array Value) (t0 t1 t2 t3 t4 t5 t6 t7 : TypeId) : ∃ W, ((((((((w.alloc (.cells A0 t0)).alloc (.cells A1 t1)).alloc (.cells A2 t2)).alloc (.cells A3 t3)).alloc (.cells A4 t4)).alloc (.cells A5 t5)).alloc (.cells A6 t6)).alloc (.cells A7 t7)) = W ∧ (BoxAt W (w.heap.size) A0 ∧ BoxAt W (w.heap.size + 1) A1 ∧ BoxAt W (w.heap.size + 1 + 1) A2 ∧ BoxAt W (w.heap.size + 1 + 1 + 1) A3 ∧ BoxAt W (w.heap.size + 1 + 1 + 1 + 1) A4 ∧ BoxAt W (w.heap.size + 1 + 1 + 1 + 1 + 1) A5 ∧ BoxAt W (w.heap.size + 1 + 1 + 1 + 1 + 1 + 1) A6 ∧ BoxAt W (w.heap.size + 1 + 1 + 1 + 1 + 1 + 1 + 1) A7) ∧ Below w.heap.size w W := by
  refine ⟨_, rfl, ⟨?_, ?_, ?_, ?_, ?_, ?_, ?_, ?_⟩, thenA (thenA (thenA (thenA (thenA (thenA (thenA (thenA (Below.refl _ _) _) _) _) _) _) _) _) _⟩ <;> (intro j x h; simp [go_sem, h])
def OfP (g : Nat) (l : Lst) (w : World) (e : Ending) (w' : World) : Prop := e = .returned (.tuple #[.int .i64 (Md.body (ofM g l) 0).1, .int .i64 (Md.body (ofM g l) 0).2]) ∧ Below w.heap.size w w'
set_option maxRecDepth 100000 in
set_option maxHeartbeats 2000000 in
theorem of_m (l : Lst) (w : World) (hL : ListAt w.heap.size w l.a l.t.len l.t) (hn : l.t.len ≤ 140737488351232) (hc : l.t.count ≤ 1000000) (hT : Nams w) (hU : Utf.Tabs w) (hA : Num.Arit w) :
    Calls Tryz.prog 25 #[.slice l.a l.t.len l.c] w (OfP w.heap.size l w) := by
  have HFW := hid (of_few w.heap.size l hn hc)
  have HL := hid hL
  have HT := hid hT
  have HU := hid hU
  have HA := hid hA
  clear hL hn hc hT hU hA
  go_enter Tryz.func25, Tryz.ntmps25
  go_upto_region 2 with fail
  obtain ⟨W1, hW1, ⟨b0, b1, b2⟩, hB⟩ := chain3 w #[.int .i64 1, .int .i64 1] #[.int .i64 0, .int .i64 0, .slice l.a l.t.len l.c] #[.slice (some ⟨w.heap.size, 0, none⟩) 1 1, .slice none 0 0, .slice (some ⟨w.heap.size + 1, 0, none⟩) 1 1, .slice none 0 0, .slice none 0 0, .slice none 0 0, .slice none 0 0, .bool false, .int .u32 0, .slice none 0 0, .slice none 0 0] 47 51 32
  rw [hW1]
  have hm : ModAt W1.heap.size W1 (ofM w.heap.size l) := of_at b0 b1 (HL.out.on hB)
  have CB := hid (Body_m (ofM w.heap.size l) 0 W1 hm HFW.out (HT.out.below hB) (HU.out.below hB) (HA.out.below hB))
  rw [show (ofM w.heap.size l).v = #[.slice (some ⟨w.heap.size, 0, none⟩) 1 1, .slice none 0 0, .slice (some ⟨w.heap.size + 1, 0, none⟩) 1 1, .slice none 0 0, .slice none 0 0, .slice none 0 0, .slice none 0 0, .bool false, .int .u32 0, .slice none 0 0, .slice none 0 0] from rfl] at CB
  unfold BodyQ at CB
  obtain ⟨q, hq⟩ : ∃ q, Md.body (ofM w.heap.size l) 0 = q := ⟨_, rfl⟩
  rw [hq] at CB
  have HQ := hid hq
  obtain ⟨n0, n1, n2, n3, n4, n5, n6, n7, n8, n9, n10⟩ := BoxAt.mod b2
  have HB := hid hB
  clear hm hq b0 b1 b2 hB hW1
  go_wp2_with fail
  refine CB.out.mono ?_
  rintro e2 w2 ⟨rfl, hb2⟩
  have HB2 := hid (HB.out.trans (hb2.mono HB.out.size))
  clear CB hb2 n0 n1 n2 n3 n4 n5 n6 n7 n8 n9 n10
  go_wp2
  go_ret2
  exact ⟨by rw [HQ.out]; rfl, HB2.out⟩
def getI (n : Int) : Ix := ⟨32, 0, n, 0, 0, [], none, 0, none, 0, 0, none, 0, 0⟩
theorem get_m (n : Int) (w : World) : Calls Tryz.prog 26 #[.int .u32 n] w fun e w' => e = .returned (.agg (getI n).vals) ∧ Below w.heap.size w w' := by
  go_enter Tryz.func26, Tryz.ntmps26
  go_wp2
  refine bodyPost_ret (v := .agg (getI n).vals) (by simp [results, Tryz.results26, go_sem, getI, Ix.vals]) rfl ⟨rfl, thenA (Below.refl _ _) _⟩
def constI : Ix := ⟨65, 0, 0, 0, 0, [], none, 0, none, 0, 0, none, 0, 0⟩
def richL (g : Nat) : Lst := ⟨some ⟨g + 1, 0, none⟩, 1, mkIl [(constI, .nil, .nil)]⟩
def sHost : ByteArray := ⟨#[104, 111, 115, 116]⟩
def sF : ByteArray := ⟨#[102]⟩
/-- The module with something of each kind; its box is block g. -/
def richM (g : Nat) : Md where
  ty := [(1, 1), (0, 0)]
  im := [⟨sHost, sF, 0⟩]
  fu := [⟨1, 0, ⟨none, 0, .nil⟩⟩]
  tb := [⟨1, 0, false⟩]
  me := [⟨1, 0, false⟩]
  gl := [⟨true, richL g⟩, ⟨false, richL g⟩]
  ex := []
  st := false
  sn := 0
  el := []
  da := []
  ty' := ⟨some ⟨g + 1 + 1, 0, none⟩, 2⟩
  im' := ⟨some ⟨g + 1 + 1 + 1, 0, none⟩, 1⟩
  fu' := ⟨some ⟨g + 1 + 1 + 1 + 1, 0, none⟩, 1⟩
  tb' := ⟨some ⟨g + 1 + 1 + 1 + 1 + 1, 0, none⟩, 1⟩
  me' := ⟨some ⟨g + 1 + 1 + 1 + 1 + 1 + 1, 0, none⟩, 1⟩
  gl' := ⟨some ⟨g + 1 + 1 + 1 + 1 + 1 + 1 + 1, 0, none⟩, 2⟩
  ex' := ⟨none, 0⟩
  el' := ⟨none, 0⟩
  da' := ⟨none, 0⟩
theorem rich_codes (g : Nat) : ∀ l ∈ (richM g).codes, l = ⟨none, 0, .nil⟩ ∨ l = richL g := by
  intro l hl
  simp [richM, Md.codes] at hl
  exact hl
theorem rich_few (g : Nat) : (richM g).few := by
  refine ⟨⟨by simp [richM], by simp [richM], by simp [richM], by simp [richM], by simp [richM], by simp [richM], by simp [richM], by simp [richM], by simp [richM], fun l hl => ?_, by simp [richM], by simp [richM], fun i hi => ?_, by simp [richM]⟩, fun l hl => ?_, by simp [richM]⟩
  · rcases rich_codes g l hl with rfl | rfl <;> simp [richL, mkIl, Il.len]
  · simp only [richM, List.mem_singleton] at hi; subst hi; decide
  · rcases rich_codes g l hl with rfl | rfl <;> simp [richL, mkIl, Il.count]
theorem rich_rg (g : Nat) : Rg (richM g) := ⟨by simp [richM], by simp [richM], by simp [richM]⟩
theorem constI_ok : constI.ok := by constructor <;> simp [constI]
theorem rich_wrong (g : Nat) : wrongP (richM g) = ⟨0, 0, 0, 0⟩ := by kernel_rfl
theorem rich_at {g : Nat} {W : World} (b1 : BoxAt W (g + 1) constI.vals) (b2 : BoxAt W (g + 1 + 1) #[.int .i64 1, .int .i64 1, .int .i64 0, .int .i64 0]) (b3 : BoxAt W (g + 1 + 1 + 1) #[.string sHost, .string sF, .int .i64 0]) (b4 : BoxAt W (g + 1 + 1 + 1 + 1) #[.int .i64 1, .int .i64 0, .slice none 0 0])
    (b5 : BoxAt W (g + 1 + 1 + 1 + 1 + 1) #[.int .u32 1, .int .u32 0, .bool false]) (b6 : BoxAt W (g + 1 + 1 + 1 + 1 + 1 + 1) #[.int .u32 1, .int .u32 0, .bool false]) (b7 : BoxAt W (g + 1 + 1 + 1 + 1 + 1 + 1 + 1) #[.bool true, .slice (some ⟨g + 1, 0, none⟩) 1 1, .bool false, .slice (some ⟨g + 1, 0, none⟩) 1 1]) :
    ModAt W.heap.size W (richM g) := by
  have l : ∀ {b v}, BoxAt W b v → v[0]?.isSome → b < W.heap.size := fun {b v} h h0 => by
    obtain ⟨x, hx⟩ := Option.isSome_iff_exists.1 h0
    exact World.block_lt_of_cell? W ⟨b, 0, none⟩ (h 0 x hx)
  refine ⟨rows_box (l b2 rfl) (by simp [richM, tyV]) b2, rows_box (l b3 rfl) (by simp [richM, Imp.v]) b3, rows_box (l b4 rfl) (by simp [richM, Mod.Fn.v]) b4, rows_box (l b5 rfl) (by simp [richM, Li.v]) b5, rows_box (l b6 rfl) (by simp [richM, Li.v]) b6, rows_box (l b7 rfl) (by simp [richM, Gl.v]) b7, .inl rfl, .inl rfl, .inl rfl, fun x hx => ?_, by simp [richM], by simp [richM]⟩
  rcases rich_codes g x hx with rfl | rfl
  · exact ⟨rfl, .inl rfl⟩
  · exact list_box (l := [(constI, .nil, .nil)]) (l b1 rfl) b1 (fun x hx => by
      obtain rfl := List.mem_singleton.1 hx
      exact ⟨constI_ok, .inl rfl, ⟨rfl, .inl rfl⟩, ⟨rfl, .inl rfl⟩⟩)
def RichP (g : Nat) (w : World) (e : Ending) (w' : World) : Prop := e = .returned (.agg (richM g).v) ∧ ModAt w'.heap.size w' (richM g) ∧ Below w.heap.size w w'
set_option maxRecDepth 100000 in
set_option maxHeartbeats 2000000 in
theorem rich_m (w : World) : Calls Tryz.prog 19 #[] w (RichP w.heap.size w) := by
  go_enter Tryz.func19, Tryz.ntmps19
  go_wp2
  obtain ⟨W, hW, ⟨b0, b1, b2, b3, b4, b5, b6, b7⟩, hB⟩ := chain8 w #[.slice (some ⟨w.heap.size + 1 + 1, 0, none⟩) 2 2, .slice (some ⟨w.heap.size + 1 + 1 + 1, 0, none⟩) 1 1, .slice (some ⟨w.heap.size + 1 + 1 + 1 + 1, 0, none⟩) 1 1, .slice (some ⟨w.heap.size + 1 + 1 + 1 + 1 + 1, 0, none⟩) 1 1, .slice (some ⟨w.heap.size + 1 + 1 + 1 + 1 + 1 + 1, 0, none⟩) 1 1, .slice (some ⟨w.heap.size + 1 + 1 + 1 + 1 + 1 + 1 + 1, 0, none⟩) 2 2, .slice none 0 0, .bool false, .int .u32 0, .slice none 0 0, .slice none 0 0] #[.int .i64 65, .int .i64 0, .int .u32 0, .int .u32 0, .int .i32 0, .slice none 0 0, .slice none 0 0, .slice none 0 0] #[.int .i64 1, .int .i64 1, .int .i64 0, .int .i64 0] #[.string ⟨#[104, 111, 115, 116]⟩, .string ⟨#[102]⟩, .int .i64 0] #[.int .i64 1, .int .i64 0, .slice none 0 0] #[.int .u32 1, .int .u32 0, .bool false] #[.int .u32 1, .int .u32 0, .bool false] #[.bool true, .slice (some ⟨w.heap.size + 1, 0, none⟩) 1 1, .bool false, .slice (some ⟨w.heap.size + 1, 0, none⟩) 1 1] 32 61 47 75 51 86 86 68
  rw [hW]
  have hat : ModAt W.heap.size W (richM w.heap.size) := rich_at b1 b2 b3 b4 b5 b6 b7
  have HAT := hid hat
  have HB := hid hB
  obtain ⟨n0, n1, n2, n3, n4, n5, n6, n7, n8, n9, n10⟩ := BoxAt.mod b0
  clear hat hB b0 b1 b2 b3 b4 b5 b6 b7 hW
  refine bodyPost_ret (v := .agg (richM w.heap.size).v) (by simp [results, Tryz.results19, go_sem, richM, Md.v, n0, n1, n2, n3, n4, n5, n6, n7, n8, n9, n10]) rfl ⟨rfl, HAT.out, HB.out⟩
end Go.Proofs.YtaklngfibnbmcaaGreatDoor.Val

namespace Go.Proofs.YtaklngfibnbmcaaGreatDoor.Val
open Go.RowKit Go.Shelf Go.Proofs.YtaklngfibnbmcaaGreatDoor.Instr Go.Proofs.YtaklngfibnbmcaaGreatDoor.Mod
set_option linter.unusedVariables false

/-- The tables. -/
structure Tb (w : World) : Prop where
  nt : Nams w
  ut : Utf.Tabs w
  ar : Num.Arit w
theorem Tb.on {w w' : World} (h : Tb w) (hb : Below w.heap.size w w') : Tb w' := ⟨h.nt.below hb, h.ut.below hb, h.ar.below hb⟩
theorem of_list (xs : List (Ix × Il × Il)) (b n c : Nat) (w : World) (r : Int × Int) (hT : Tb w) (h : BoxAt w b ((xs.map fun x => x.1.vals.toList).flatten.toArray)) (hb : b < w.heap.size) (hx : ∀ x ∈ xs, LitOk w.heap.size w x) (hc : (mkIl xs).count ≤ 1000000) (hn : xs.length = n) (hn2 : n ≤ 1000) (hr : ∀ g, Md.body (ofM g ⟨some ⟨b, 0, none⟩, c, mkIl xs⟩) 0 = r) :
    Calls Tryz.prog 25 #[.slice (some ⟨b, 0, none⟩) n c] w fun e w' => e = .returned (.tuple #[.int .i64 r.1, .int .i64 r.2]) ∧ Below w.heap.size w w' := by
  have hl : (mkIl xs).len = n := (mkIl_len xs).trans hn
  have hL := list_box hb h hx
  have := of_m ⟨some ⟨b, 0, none⟩, c, mkIl xs⟩ w (by show ListAt _ _ _ (mkIl xs).len _; rw [hl, ← hn]; exact hL) (by show (mkIl xs).len ≤ _; omega) hc hT.nt hT.ut hT.ar
  simp only [hl] at this
  refine this.mono fun e w' h => ?_
  unfold OfP at h
  rw [hr] at h
  exact h
theorem of_none (w : World) (hT : Tb w) : Calls Tryz.prog 25 #[.slice none 0 0] w fun e w' => e = .returned (.tuple #[.int .i64 200, .int .i64 0]) ∧ Below w.heap.size w w' := by
  refine (of_m ⟨none, 0, .nil⟩ w ⟨rfl, .inl rfl⟩ (by decide) (by decide) hT.nt hT.ut hT.ar).mono fun e w' h => ?_
  unfold OfP at h
  rw [show ∀ g, Md.body (ofM g ⟨none, 0, .nil⟩) 0 = (200, 0) from fun g => by kernel_rfl] at h
  exact h
theorem check_rich (g : Nat) (w : World) (hm : ModAt w.heap.size w (richM g)) (hT : Tb w) : Calls Tryz.prog 14 #[.agg (richM g).v] w fun e w' => e = .returned (.agg #[.int .i64 0, .int .i64 0, .int .i64 0, .int .i64 0]) ∧ Below w.heap.size w w' := by
  refine (Check_m (richM g) w hm (rich_few g) (rich_rg g) hT.nt hT.ut hT.ar).mono fun e w' h => ?_
  unfold CheckP at h
  rw [rich_wrong] at h
  exact h
theorem get_ok (n₀ : Nat) (W : World) (n : Int) (hn : 0 ≤ n ∧ n < 4294967296) : LitOk n₀ W (getI n, .nil, .nil) := ⟨by constructor <;> simp [getI] <;> omega, .inl rfl, ⟨rfl, .inl rfl⟩, ⟨rfl, .inl rfl⟩⟩
theorem get0_body (b c g : Nat) : Md.body (ofM g ⟨some ⟨b, 0, none⟩, c, mkIl [(getI 0, .nil, .nil)]⟩) 0 = (0, 0) := by kernel_rfl
theorem get1_body (b c g : Nat) : Md.body (ofM g ⟨some ⟨b, 0, none⟩, c, mkIl [(getI 1, .nil, .nil)]⟩) 0 = (6, 1) := by kernel_rfl
set_option maxRecDepth 100000 in
set_option maxHeartbeats 2000000 in
theorem awake_m (w : World) (hT : Tb w) : Calls Tryz.prog 17 #[] w fun e w' => e = .returned (.bool true) ∧ Below w.heap.size w w' := by
  have HT := hid hT
  have q1 := eqWrong
  have q2 := guardWrong
  clear hT
  go_enter Tryz.func17, Tryz.ntmps17
  go_wp2_with fail
  refine (get_m 0 _).mono ?_
  rintro e w1 ⟨rfl, hb1⟩
  have HB1 := hid hb1
  clear hb1
  have C1 := hid (of_list [(getI 0, .nil, .nil)] w1.heap.size 1 1 (w1.alloc (.cells (getI 0).vals 61)) (0, 0) ((HT.out.on HB1.out).on (belowAlloc _ _)) (BoxAt.made w1 (getI 0).vals _) (by simp) (fun x hx => by obtain rfl := List.mem_singleton.1 hx; exact get_ok _ _ 0 (by omega)) (by decide) rfl (by omega) (fun g => get0_body _ _ g))
  unfold getI Ix.vals at C1
  go_wp2_with fail
  refine C1.out.mono ?_
  rintro e w2 ⟨rfl, hb2⟩
  have HB2 := hid (thenB HB1.out (thenB (belowAlloc w1 _) hb2))
  clear C1 hb2 HB1
  go_wp2_with fail
  refine (get_m 1 _).mono ?_
  rintro e w3 ⟨rfl, hb3⟩
  have HB3 := hid (thenB HB2.out hb3)
  clear hb3 HB2
  have C2 := hid (of_list [(getI 1, .nil, .nil)] w3.heap.size 1 1 (w3.alloc (.cells (getI 1).vals 61)) (6, 1) ((HT.out.on HB3.out).on (belowAlloc _ _)) (BoxAt.made w3 (getI 1).vals _) (by simp) (fun x hx => by obtain rfl := List.mem_singleton.1 hx; exact get_ok _ _ 1 (by omega)) (by decide) rfl (by omega) (fun g => get1_body _ _ g))
  unfold getI Ix.vals at C2
  go_wp2_with fail
  refine C2.out.mono ?_
  rintro e w4 ⟨rfl, hb4⟩
  have HB4 := hid (thenB HB3.out (thenB (belowAlloc w3 _) hb4))
  clear C2 hb4 HB3
  have C3 := hid (of_none w4 (HT.out.on HB4.out))
  go_wp2_with fail
  refine C3.out.mono ?_
  rintro e w5 ⟨rfl, hb5⟩
  have HB5 := hid (thenB HB4.out hb5)
  clear C3 hb5 HB4
  go_wp2_with fail
  refine (rich_m _).mono ?_
  rintro e w6 ⟨rfl, hm6, hb6⟩
  have HB6 := hid (thenB HB5.out hb6)
  have C4 := hid (check_rich _ w6 hm6 (HT.out.on HB6.out))
  clear hm6 hb6 HB5
  go_wp2_with fail
  refine C4.out.mono ?_
  rintro e w7 ⟨rfl, hb7⟩
  have HB7 := hid (thenB HB6.out hb7)
  clear C4 hb7 HB6
  go_wp2
  go_ret
  exact ⟨rfl, HB7.out⟩
end Go.Proofs.YtaklngfibnbmcaaGreatDoor.Val
