import Derived.Test.YtckdnhafookcgaaGreatDoorPa09
import Derived.Test.YtckdnhafookcgaaGreatDoorPa08
import Derived.Test.YtckdnhafookcgaaGreatDoorPa07
import Derived.Test.YtckdnhafookcgaaGreatDoorPa04
import Derived.Test.YtckdnhafookcgaaGreatDoorPa01
import Derived.Maps.OwnIn
import Derived.Maps.Views
import Derived.Deep.RegionHeld3
import Derived.Maps.OwnOps
import Derived.Laws.CopyOwn
import Derived.LaidEqlPtr
import Derived.ChangeKeysEq
import Derived.Deep.RegionLaw
namespace Go.Proofs.YtckdnhafookcgaaGreatDoor.Instr
end Go.Proofs.YtckdnhafookcgaaGreatDoor.Instr
namespace Go.Proofs.YtckdnhafookcgaaGreatDoor.Mod
end Go.Proofs.YtckdnhafookcgaaGreatDoor.Mod
namespace Go.Proofs.YtckdnhafookcgaaGreatDoor.Stk
end Go.Proofs.YtckdnhafookcgaaGreatDoor.Stk
namespace Go.Proofs.YtckdnhafookcgaaGreatDoor.Num
end Go.Proofs.YtckdnhafookcgaaGreatDoor.Num
namespace Go.Proofs.YtckdnhafookcgaaGreatDoor.Val
open Go.RowKit Go.Proofs.YtckdnhafookcgaaGreatDoor.Instr Go.Proofs.YtckdnhafookcgaaGreatDoor.Mod
open Go.Proofs.YtckdnhafookcgaaGreatDoor.Stk (Fr R pushR popR deadR enterR leaveR labelR newR StAt MadeP OwnF valid lastF)
set_option linter.unusedVariables false

/-- What is known of a module that may be. -/
structure Fine (m : Md) : Prop where
  tys : Tys m
  im : m.im.length ≤ 16384
  fu : m.fu.length ≤ 16384
  lo : ∀ f ∈ m.fu, 0 ≤ f.lo ∧ f.lo ≤ 50000
  ty : ∀ f ∈ m.fu, 0 ≤ f.ty
  imt : ∀ i ∈ m.im, 0 ≤ i.ty
  cs : ∀ l ∈ m.codes, checkP l.t = 0
  kinds : ∀ e ∈ m.ex, 0 ≤ e.k ∧ e.k ≤ 3
theorem fine_of {m : Md} (h : m.check = 0) : Fine m := by
  unfold Md.check at h
  split at h; · omega
  split at h; · omega
  split at h; · omega
  split at h; · omega
  split at h; · omega
  split at h; · omega
  rename_i h1 h2 h3 h4 h5 h6
  have hc : codeP m.codes = 0 := by have := codeP_cases m.codes; omega
  unfold Md.wrong at h6
  simp only [Bool.or_eq_true, not_or, Bool.not_eq_true] at h6
  obtain ⟨⟨⟨⟨⟨⟨⟨-, w1⟩, w2⟩, w3⟩, w4⟩, -⟩, -⟩, -⟩ := h6
  unfold Md.crowded at h1
  simp only [Bool.or_eq_true, decide_eq_true_eq, not_or] at h1
  obtain ⟨⟨⟨⟨⟨⟨⟨⟨⟨c1, c2⟩, c3⟩, -⟩, -⟩, -⟩, -⟩, -⟩, -⟩, -⟩ := h1
  refine ⟨fun t ht => ?_, by omega, by omega, fun f hf => ?_, fun f hf => ?_, fun f hf => ?_, (codeP_zero _).1 hc, fun e he => ?_⟩
  · have := List.any_eq_false.1 w1 t ht
    simp only [wrongT, Bool.not_eq_true', Bool.not_eq_false, Kind.okType, Bool.and_eq_true, decide_eq_true_eq] at this
    omega
  · have := List.any_eq_false.1 w3 f hf
    simp only [wrongF, wrongN, Bool.or_eq_true, decide_eq_true_eq, not_or] at this
    omega
  · have := List.any_eq_false.1 w3 f hf
    simp only [wrongF, wrongN, Bool.or_eq_true, decide_eq_true_eq, not_or] at this
    omega
  · have := List.any_eq_false.1 w2 f hf
    simp only [wrongI, wrongN, Bool.or_eq_true, decide_eq_true_eq, not_or] at this
    omega
  · have := List.any_eq_false.1 w4 e he
    simp only [wrongE, Bool.or_eq_true, decide_eq_true_eq, not_or] at this
    omega
theorem fr_nil (g : Nat) (W : World) : FrAt g W none 0 0 [] := ⟨⟨.inl rfl, rfl, Nat.le_refl _, Nat.zero_le _⟩, fun b off h => by cases h⟩
def BodyP (m : Md) (n : Nat) (w : World) (e : Ending) (w' : World) : Prop := e = .returned (.tuple #[.int .i64 (Md.bodyP m n).1, .int .i64 (Md.bodyP m n).2]) ∧ Below w.heap.size w w'
set_option maxRecDepth 100000 in
set_option maxHeartbeats 4000000 in
theorem bodyError_m (m : Md) (n : Nat) (w : World) (hm : ModAt w.heap.size w m) (hT : Num.Arit w) (hf : m.few) (hfi : Fine m) (hn : n < m.fu.length) :
    Calls Tryz.prog 76 #[.agg m.v, .int .i64 n] w (BodyP m n w) := by
  have hg : 1 < w.heap.size := World.block_lt_of_cell? w ⟨1, 0, none⟩ (hT 0 (by omega))
  have HMO := hid (Mo.mk hm hT hg)
  obtain ⟨W0, hW0⟩ : ∃ W0, W0 = w.alloc (.cells m.v 32) := ⟨_, rfl⟩
  have hb0 : Below w.heap.size w W0 := by rw [hW0]; exact thenA (Below.refl _ _) _
  have hbx : BoxAt W0 w.heap.size m.v := by rw [hW0]; exact BoxAt.made w m.v _
  have HB := hid hb0
  have HX := hid hbx
  have C := hid (TypeOf_any m (m.im.length + n) W0 (hm.on hb0) hf.fit (by have := hfi.im; have := hfi.fu; omega))
  have hty := hfi.tys.typeOf (m.im.length + n)
  have hgd : m.fu.getD n ⟨0, 0, ⟨none, 0, .nil⟩⟩ = m.fu[n] := by simp [hn]
  have HV : Hid (Md.bodyP m n = if (m.typeOf (m.im.length + n)).2 = false then (6, 0) else ((listS m ((m.typeOf (m.im.length + n)).1.1 + m.fu[n].lo) (m.typeOf (m.im.length + n)).1.2 m.fu[n].l.t (startS (m.typeOf (m.im.length + n)).1.2)).er, (listS m ((m.typeOf (m.im.length + n)).1.1 + m.fu[n].lo) (m.typeOf (m.im.length + n)).1.2 m.fu[n].l.t (startS (m.typeOf (m.im.length + n)).1.2)).at_)) := by
    show _ = _; unfold Md.bodyP; rw [hgd]
  obtain ⟨q, hq⟩ : ∃ q, m.typeOf (m.im.length + n) = q := ⟨_, rfl⟩
  rw [hq] at C HV hty
  obtain ⟨⟨t1, t2⟩, tb⟩ := q
  simp only at C HV hty
  have him := hfi.im
  have hfu := hfi.fu
  have w1 : IntKind.i64.wrap ((m.im.length : Int) + (n : Int)) = (m.im.length : Int) + (n : Int) := by rw [IntKind.wrap_i64]; omega
  have w2 : IntKind.u32.wrap ((m.im.length : Int) + (n : Int)) = (m.im.length : Int) + (n : Int) := by rw [IntKind.wrap_u32]; omega
  have e1 : ((m.im.length + n : Nat) : Int) = (m.im.length : Int) + (n : Int) := by omega
  rw [e1] at C
  have m1 : W0.cell? ⟨w.heap.size, 1, none⟩ = some (.slice m.im'.a m.im.length m.im'.c) := hbx 1 _ rfl
  have M2 : Hid (W0.cell? ⟨w.heap.size, 2, none⟩ = some (.slice m.fu'.a m.fu.length m.fu'.c)) := hid (hbx 2 _ rfl)
  obtain ⟨b, off, ha, hb, hcc⟩ := Mod.Rows.get hm.fu hn
  have HFM := hid (List.getElem_mem hn)
  have HCO := hid (show m.fu[n].l ∈ m.codes by unfold Md.codes; exact List.mem_append_left _ (List.mem_map.2 ⟨_, List.getElem_mem hn, rfl⟩))
  obtain ⟨f, hff⟩ : ∃ f, m.fu[n] = f := ⟨_, rfl⟩
  rw [hff] at hcc HV HFM HCO
  have HFR := hid (show ∀ w', Below w.heap.size w w' → w'.cell? ⟨b, off + n * 3 + 1, none⟩ = some (.int .i64 f.lo) ∧ w'.cell? ⟨b, off + n * 3 + 2, none⟩ = some (.slice f.l.a f.l.t.len f.l.c) from fun w' hw => ⟨(hw.cell (p := ⟨b, off + n * 3 + 1, none⟩) hb).trans (hcc 1 (by omega) _ rfl), (hw.cell (p := ⟨b, off + n * 3 + 2, none⟩) hb).trans (hcc 2 (by omega) _ rfl)⟩)
  rw [ha] at M2
  have hni : (n : Int) < (m.fu.length : Int) := by omega
  have HF := hid hf
  have HFI := hid hfi
  obtain ⟨v0, v3, v4, v5, v6, v7, v8, v9, v10, hv⟩ : ∃ v0 v3 v4 v5 v6 v7 v8 v9 v10, m.v = #[v0, .slice m.im'.a m.im.length m.im'.c, .slice m.fu'.a m.fu.length m.fu'.c, v3, v4, v5, v6, v7, v8, v9, v10] := ⟨_, _, _, _, _, _, _, _, _, rfl⟩
  have HVV := hid hv
  unfold BodyP
  rw [hv, ha] at hW0 C HX ⊢
  clear hm hT hg hb0 hbx hf hfi hq hgd hff hcc hb e1 hv
  generalize m.im.length = I at *
  generalize m.fu.length = Fn at *
  go_enter Tryz.func76, Tryz.ntmps76
  go_upto_region 1 with fail
  rw [← hW0]
  clear hW0
  have n0 := HX.out 0 _ rfl
  have n1 := HX.out 1 _ rfl
  have n2 := HX.out 2 _ rfl
  have n3 := HX.out 3 _ rfl
  have n4 := HX.out 4 _ rfl
  have n5 := HX.out 5 _ rfl
  have n6 := HX.out 6 _ rfl
  have n7 := HX.out 7 _ rfl
  have n8 := HX.out 8 _ rfl
  have n9 := HX.out 9 _ rfl
  have n10 := HX.out 10 _ rfl
  go_wp2_with fail
  refine C.out.mono ?_
  rintro e1 u1 ⟨rfl, hb1⟩
  clear C n0 n1 n2 n3 n4 n5 n6 n7 n8 n9 n10 m1 w1 w2
  have hX1 := HX.out.keep hb1
  have HX1 := hid hX1
  have HB1 := hid (HB.out.trans (hb1.mono HB.out.size))
  have HM2 := hid (Go.Proofs.YtckdnhafookcgaaGreatDoor.keep hb1 M2.out)
  clear hb1 hX1 M2
  cases tb with
  | false =>
    have HE := hid (show Md.bodyP m n = (6, 0) by rw [HV.out, if_pos rfl])
    clear HV
    go_wp2
    go_ret2
    exact ⟨by rw [HE.out]; rfl, thenA HB1.out _⟩
  | true =>
    obtain ⟨r0, r1, r2, r3⟩ := hty
    go_upto_region 2 with fail
    obtain ⟨u2, hu2⟩ : ∃ u, u = u1.alloc (.cells #[.int .i64 t1, .int .i64 t2] 92) := ⟨_, rfl⟩
    have hA2 : Below u1.heap.size u1 u2 := by rw [hu2]; exact (Below.refl _ _).alloc (Nat.le_refl _) _
    have HT2 : Hid (Bx2 u2 u1.heap.size t1 t2) := by rw [hu2]; exact Bx2.made u1 t1 t2
    rw [← hu2]
    have HM2' := hid (Go.Proofs.YtckdnhafookcgaaGreatDoor.keep hA2 HM2.out)
    have HX2 := hid (HX1.out.keep hA2)
    have HB2 := hid (HB1.out.trans (hA2.mono HB1.out.size))
    obtain ⟨gt, hgt⟩ : ∃ gt, gt = u1.heap.size := ⟨_, rfl⟩
    rw [← hgt] at HT2 ⊢
    clear hu2 hA2 HX1 HM2 HB1 hgt
    go_upto_region 4 with fail
    have n2 := HM2'.out
    obtain ⟨f1, f2⟩ := HFR.out u2 HB2.out
    go_upto_region 5 with fail
    obtain ⟨u3, hu3⟩ : ∃ u, u = u2.alloc (.cells #[.int .i64 f.lo, .slice f.l.a f.l.t.len f.l.c] 99) := ⟨_, rfl⟩
    have hA3 : Below u2.heap.size u2 u3 := by rw [hu3]; exact (Below.refl _ _).alloc (Nat.le_refl _) _
    have z0 : u3.cell? ⟨u2.heap.size, 0, none⟩ = some (.int .i64 f.lo) := by rw [hu3]; go_simp
    have Z1 : Hid (u3.cell? ⟨u2.heap.size, 1, none⟩ = some (.slice f.l.a f.l.t.len f.l.c)) := by rw [hu3]; exact hid (by go_simp)
    rw [← hu3]
    have HX3 := hid (HX2.out.keep hA3)
    have HT3 := hid (HT2.out.below hA3)
    have HB3 := hid (HB2.out.trans (hA3.mono HB2.out.size))
    have HNC := hid (show u2.heap.size < u3.heap.size by rw [hu3]; simp)
    obtain ⟨gc, hgc⟩ : ∃ gc, gc = u2.heap.size := ⟨_, rfl⟩
    rw [← hgc] at z0 Z1 HNC ⊢
    clear hu3 hA3 HX2 HT2 HB2 hgc n2 f1 f2 HM2'
    have n0 := HX3.out 0 _ rfl
    have n1 := HX3.out 1 _ rfl
    have n2 := HX3.out 2 _ rfl
    have n3 := HX3.out 3 _ rfl
    have n4 := HX3.out 4 _ rfl
    have n5 := HX3.out 5 _ rfl
    have n6 := HX3.out 6 _ rfl
    have n7 := HX3.out 7 _ rfl
    have n8 := HX3.out 8 _ rfl
    have n9 := HX3.out 9 _ rfl
    have n10 := HX3.out 10 _ rfl
    have p0 := HT3.out.c0
    have p1 := HT3.out.c1
    have hlo := HFI.out.lo f HFM.out
    have w3 : IntKind.i64.wrap (t1 + f.lo) = t1 + f.lo := by rw [IntKind.wrap_i64]; omega
    go_upto_region 6 with fail
    obtain ⟨u4, hu4⟩ : ∃ u, u = u3.alloc (.cells #[v0, .slice m.im'.a I m.im'.c, .slice (some ⟨b, off, none⟩) Fn m.fu'.c, v3, v4, v5, v6, v7, v8, v9, v10, .int .i64 (t1 + f.lo), .int .i64 t2, .int .i64 0, .slice none 0 0, .int .i64 0, .int .i64 0, .int .i64 0] 216) := ⟨_, rfl⟩
    have hA4 : Below u3.heap.size u3 u4 := by rw [hu4]; exact (Below.refl _ _).alloc (Nat.le_refl _) _
    have hbk : Bk u4 u3.heap.size m.v (t1 + f.lo) t2 0 (.slice none 0 0) 0 0 0 := by
      rw [hu4, HVV.out, ha]; exact heap_alloc_new u3 _
    rw [← hu4]
    have HB4 := hid (HB3.out.trans (hA4.mono HB3.out.size))
    have HT4 := hid (HT3.out.below hA4)
    have HZ4 := hid (Go.Proofs.YtckdnhafookcgaaGreatDoor.keep hA4 Z1.out)
    have HNG := hid (Nat.ne_of_lt HNC.out)
    have HNT := hid (show gt ≠ u3.heap.size from Nat.ne_of_lt HT3.out.lt)
    have HCK := hid (show Ck u3.heap.size w.heap.size m (t1 + f.lo) t2 ⟨0, [], 0, 0, 0⟩ u4 from ⟨⟨none, 0, 0, hbk, fr_nil _ _⟩, HMO.out.below HB4.out, HB3.out.size⟩)
    have HG := hid (show w.heap.size ≤ u3.heap.size from HB3.out.size)
    obtain ⟨g, hgg⟩ : ∃ g, g = u3.heap.size := ⟨_, rfl⟩
    rw [← hgg] at hbk HNG HNT HCK HG ⊢
    have HBK := hid hbk
    clear hu4 hA4 hbk hgg n0 n1 n2 n3 n4 n5 n6 n7 n8 n9 n10 p0 p1 z0 w3 HX3 HT3 HB3 Z1 HNC
    have p1 := HT4.out.c1
    have CN := hid (Stk.new_any t2 u4)
    go_wp2_with fail
    refine CN.out.mono ?_
    intro e2 u5 hm2
    have hnl : (newR t2).l.length ≤ 1000000 := by unfold newR; split <;> simp [Stk.bad]
    obtain ⟨a2, n2, c2, rfl, hf2, hb2⟩ := madeP_st (g := g) hm2 hnl HCK.out.lt
    have hk5 := HBK.out.below hb2
    have f13 := hk5.f 13
    have f14 := hk5.f 14
    have f17 := hk5.f 17
    have d13 := hk5.c13
    have d14 := hk5.c14
    have d17 := hk5.c17
    have HP := hid (HCK.out.put hb2 hf2)
    clear hm2 hnl hf2 hb2 hk5 CN p1
    go_upto_region 7 with fail
    obtain ⟨u6, hu6⟩ : ∃ u, u = ((u5.setCell ⟨g, 13, none⟩ (.int .i64 (newR t2).h)).setCell ⟨g, 14, none⟩ (.slice a2 n2 c2)).setCell ⟨g, 17, none⟩ (.int .i64 (newR t2).e) := ⟨_, rfl⟩
    rw [← hu6] at HP ⊢
    clear hu6 f13 f14 f17 d13 d14 d17
    have HZ6 := hid (HP.out.2.cell (p := ⟨gc, 1, none⟩) HNG.out HZ4.out)
    have hcz := (codeP_zero m.codes).2 HFI.out.cs
    have hcs := HF.out.cs f.l HCO.out
    have hll := HF.out.fit.ls f.l HCO.out
    have CL := hid (list_m g w.heap.size m (t1 + f.lo) t2 HF.out.fit ⟨by omega, by omega⟩ HFI.out.tys (by omega) f.l.t.count f.l.t (Nat.le_refl _) f.l.a f.l.t.len f.l.c hll (startS t2) u6 HP.out.1 ((HMO.out.md.ls f.l HCO.out).below (HB4.out.trans (HP.out.2.below HB4.out.size HG.out))) (Int.le_refl _) (by show (0 : Int) + _ ≤ _; omega))
    obtain ⟨S, hS⟩ : ∃ S, listS m (t1 + f.lo) t2 f.l.t (startS t2) = S := ⟨_, rfl⟩
    rw [hS] at CL HV
    have z1 := HZ6.out
    clear hcz hcs hll hS
    go_wp2_with fail
    refine CL.out.mono ?_
    rintro e3 u7 ⟨rfl, hc7, hs7⟩
    obtain ⟨a7, n7, c7, hk7, -⟩ := hc7.blk
    have b17 := hk7.c17
    have b16 := hk7.c16
    have HB7 := hid (HB4.out.trans ((HP.out.2.trans hs7).below HB4.out.size HG.out))
    have HE := hid (show Md.bodyP m n = (S.er, S.at_) by rw [HV.out, if_neg (by simp)])
    clear CL hc7 hs7 hk7 z1 HV
    go_wp2
    go_quiet (fail)
    go_wp2
    go_ret2
    exact ⟨by rw [HE.out]; rfl, drewM HB7.out _⟩
end Go.Proofs.YtckdnhafookcgaaGreatDoor.Val

namespace Go.Proofs.YtckdnhafookcgaaGreatDoor.Val
open Go.RowKit Go.Proofs.YtckdnhafookcgaaGreatDoor.Instr Go.Proofs.YtckdnhafookcgaaGreatDoor.Mod
set_option linter.unusedVariables false

/-- The word that a single instruction, a constant, leaves. -/
def constP : Il → Int × Int
  | .cons x l e .nil => if x.op = 65 ∧ checkP (.cons x l e .nil) = 0 then (IntKind.u32.wrap x.n, 0) else (0, 210)
  | _ => (0, 210)
theorem constP_len {t : Il} (h : t.len ≠ 1) : constP t = (0, 210) := by
  cases t with
  | nil => rfl
  | cons x l e r =>
    cases r with
    | nil => simp [Il.len] at h
    | cons x' l' e' r' => rfl
set_option maxHeartbeats 1000000 in
theorem const_m (t : Il) (a : Option Addr) (n c : Nat) (w : World) (hL : ListAt w.heap.size w a n t) (hn : n ≤ 140737488351232) (hct : t.count ≤ 4611686018427387900) (hT : Nams w) :
    Calls Tryz.prog 98 #[.slice a n c] w fun e w' => e = .returned (.tuple #[.int .u32 (constP t).1, .int .i64 (constP t).2]) ∧ Below w.heap.size w w' := by
  have CC := hid (Check_any a n c t w hT hL hct hn)
  by_cases h1 : t.len = 1
  · cases t with
    | nil => simp [Il.len] at h1
    | cons x l e r =>
      cases r with
      | cons x' l' e' r' => simp [Il.len] at h1
      | nil =>
        obtain ⟨hl1, hl2⟩ := hL
        have hn1 : n = 1 := by rw [← hl1]; rfl
        subst hn1
        rcases hl2 with h | ⟨b, off, rfl, hb, hx, ⟨c0, c1, c2, c3, c4, c5, c6, c7⟩, -⟩
        · cases h
        have HE : Hid (constP (.cons x l e .nil) = if x.op = 65 ∧ checkP (.cons x l e .nil) = 0 then (IntKind.u32.wrap x.n, 0) else (0, 210)) := rfl
        obtain ⟨q, hq⟩ : ∃ q, checkP (.cons x l e .nil) = q := ⟨_, rfl⟩
        rw [hq] at CC HE
        obtain ⟨op, hop⟩ : ∃ o, x.op = o := ⟨_, rfl⟩
        rw [hop] at c0 HE
        have hnn := hx.n
        clear h1 hl1 hq hx hb c1 c2 c3 c5 c6 c7 hct hT hn
        by_cases h2 : op = 65
        · subst h2
          by_cases h3 : q = 0
          · subst h3
            have HV := hid (show constP (.cons x l e .nil) = (IntKind.u32.wrap x.n, 0) by rw [HE.out, if_pos ⟨rfl, rfl⟩])
            obtain ⟨xn, hxn⟩ : ∃ z, x.n = z := ⟨_, rfl⟩
            rw [hxn] at c4 HV
            clear HE hxn hop hnn
            go_enter Tryz.func98, Tryz.ntmps98
            go_wp2_with fail
            refine CC.out.mono ?_
            rintro e1 w1 ⟨rfl, hb1⟩
            have k0 := Go.Proofs.YtckdnhafookcgaaGreatDoor.keep hb1 c0
            have k4 := Go.Proofs.YtckdnhafookcgaaGreatDoor.keep hb1 c4
            have HB := hid hb1
            clear CC hb1 c0 c4
            go_wp2
            go_ret2
            refine ⟨?_, HB.out⟩
            rw [HV.out]; rfl
          · have HV := hid (show constP (.cons x l e .nil) = (0, 210) by rw [HE.out, if_neg (fun h => h3 h.2)])
            have h3b : (q == 0) = false := by simpa using h3
            clear HE hop hnn c4
            go_enter Tryz.func98, Tryz.ntmps98
            go_wp2_with fail
            refine CC.out.mono ?_
            rintro e1 w1 ⟨rfl, hb1⟩
            have HB := hid hb1
            clear CC hb1 c0
            go_wp2
            go_ret2
            refine ⟨?_, HB.out⟩
            rw [HV.out]; rfl
        · have HV := hid (show constP (.cons x l e .nil) = (0, 210) by rw [HE.out, if_neg (fun h => h2 h.1)])
          have h2b : (op == 65) = false := by simpa using h2
          clear HE hop hnn c4 CC
          go_enter Tryz.func98, Tryz.ntmps98
          go_wp2
          go_ret2
          refine ⟨?_, Below.refl _ _⟩
          rw [HV.out]; rfl
  · have HV := hid (constP_len h1)
    have hn1 : (n : Int) ≠ 1 := by have := hL.1; omega
    have hnb : ((n : Int) == 1) = false := by simpa using hn1
    clear CC hL h1 hct hT
    go_enter Tryz.func98, Tryz.ntmps98
    go_wp2
    go_ret2
    refine ⟨?_, Below.refl _ _⟩
    rw [HV.out]; rfl
theorem constError_m (t : Il) (a : Option Addr) (n c : Nat) (w : World) (hL : ListAt w.heap.size w a n t) (hn : n ≤ 140737488351232) (hct : t.count ≤ 4611686018427387900) (hT : Nams w) :
    Calls Tryz.prog 141 #[.slice a n c] w fun e w' => e = .returned (.int .i64 (constP t).2) ∧ Below w.heap.size w w' := by
  have C := hid (const_m t a n c w hL hn hct hT)
  obtain ⟨q, hq⟩ : ∃ q, constP t = q := ⟨_, rfl⟩
  rw [hq] at C ⊢
  clear hL hq
  go_enter Tryz.func141, Tryz.ntmps141
  go_wp2_with fail
  refine C.out.mono ?_
  rintro e1 w1 ⟨rfl, hb1⟩
  have HB := hid hb1
  clear C hb1
  go_wp2
  go_ret
  exact ⟨rfl, HB.out⟩
theorem belowAlloc (w : World) (o : Obj) : Below w.heap.size w (w.alloc o) := (Below.refl _ _).alloc (Nat.le_refl _) o
def typeEP (m : Md) (n : Int) : Int := if (m.ty.length : Int) ≤ n then 6 else 0
theorem typeError_m (m : Md) (n : Int) (hf : m.fits) (w : World) :
    Calls Tryz.prog 138 #[.agg m.v, .int .i64 n] w fun e w' => e = .returned (.int .i64 (typeEP m n)) ∧ Below w.heap.size w w' := by
  have HB := hid (belowAlloc w (.cells m.v 32))
  have c0 : (w.alloc (.cells m.v 32)).cell? ⟨w.heap.size, 0, none⟩ = some (.slice m.ty'.a m.ty.length m.ty'.c) := BoxAt.made w m.v _ 0 _ rfl
  have HE : Hid (typeEP m n = if (m.ty.length : Int) ≤ n then 6 else 0) := rfl
  unfold Md.v at c0 HB ⊢
  by_cases h1 : (m.ty.length : Int) ≤ n
  · have HV := hid (show typeEP m n = 6 by rw [HE.out, if_pos h1])
    clear HE
    go_enter Tryz.func138, Tryz.ntmps138
    go_wp2
    go_ret
    exact ⟨ret_int HV.out.symm, HB.out⟩
  · have HV := hid (show typeEP m n = 0 by rw [HE.out, if_neg h1])
    clear HE
    go_enter Tryz.func138, Tryz.ntmps138
    go_wp2
    go_ret
    exact ⟨ret_int HV.out.symm, HB.out⟩
def countP (m : Md) (k : Int) : Int := if k = 0 then (m.im.length : Int) + m.fu.length else if k = 1 then m.tb.length else if k = 2 then m.me.length else if k = 3 then m.gl.length else 0
theorem countP_range (m : Md) (hf : m.fits) (h1 : m.im.length ≤ 16384) (h2 : m.fu.length ≤ 16384) (k : Int) : 0 ≤ countP m k ∧ countP m k ≤ 140737488351232 := by
  have := hf.tb
  have := hf.me
  have := hf.gl
  unfold countP
  (repeat' split) <;> omega
theorem count_m (m : Md) (k : Int) (hf : m.fits) (h1 : m.im.length ≤ 16384) (h2 : m.fu.length ≤ 16384) (w : World) :
    Calls Tryz.prog 192 #[.agg m.v, .int .i64 k] w fun e w' => e = .returned (.int .i64 (countP m k)) ∧ Below w.heap.size w w' := by
  have HB := hid (belowAlloc w (.cells m.v 32))
  have c1 : (w.alloc (.cells m.v 32)).cell? ⟨w.heap.size, 1, none⟩ = some (.slice m.im'.a m.im.length m.im'.c) := BoxAt.made w m.v _ 1 _ rfl
  have c2 : (w.alloc (.cells m.v 32)).cell? ⟨w.heap.size, 2, none⟩ = some (.slice m.fu'.a m.fu.length m.fu'.c) := BoxAt.made w m.v _ 2 _ rfl
  have c3 : (w.alloc (.cells m.v 32)).cell? ⟨w.heap.size, 3, none⟩ = some (.slice m.tb'.a m.tb.length m.tb'.c) := BoxAt.made w m.v _ 3 _ rfl
  have c4 : (w.alloc (.cells m.v 32)).cell? ⟨w.heap.size, 4, none⟩ = some (.slice m.me'.a m.me.length m.me'.c) := BoxAt.made w m.v _ 4 _ rfl
  have c5 : (w.alloc (.cells m.v 32)).cell? ⟨w.heap.size, 5, none⟩ = some (.slice m.gl'.a m.gl.length m.gl'.c) := BoxAt.made w m.v _ 5 _ rfl
  have HE : Hid (countP m k = if k = 0 then (m.im.length : Int) + m.fu.length else if k = 1 then m.tb.length else if k = 2 then m.me.length else if k = 3 then m.gl.length else 0) := rfl
  have hw : IntKind.i64.wrap ((m.im.length : Int) + m.fu.length) = (m.im.length : Int) + m.fu.length := by rw [IntKind.wrap_i64]; omega
  unfold Md.v at c1 c2 c3 c4 c5 HB ⊢
  by_cases g0 : k = 0
  · have HV := hid (show countP m k = (m.im.length : Int) + m.fu.length by rw [HE.out, if_pos g0])
    subst g0
    clear HE
    go_enter Tryz.func192, Tryz.ntmps192
    go_wp2
    go_ret
    exact ⟨ret_int HV.out.symm, HB.out⟩
  by_cases g1 : k = 1
  · have HV := hid (show countP m k = m.tb.length by rw [HE.out, if_neg g0, if_pos g1])
    subst g1
    clear HE
    go_enter Tryz.func192, Tryz.ntmps192
    go_wp2
    go_ret
    exact ⟨ret_int HV.out.symm, HB.out⟩
  by_cases g2 : k = 2
  · have HV := hid (show countP m k = m.me.length by rw [HE.out, if_neg g0, if_neg g1, if_pos g2])
    subst g2
    clear HE
    go_enter Tryz.func192, Tryz.ntmps192
    go_wp2
    go_ret
    exact ⟨ret_int HV.out.symm, HB.out⟩
  by_cases g3 : k = 3
  · have HV := hid (show countP m k = m.gl.length by rw [HE.out, if_neg g0, if_neg g1, if_neg g2, if_pos g3])
    subst g3
    clear HE
    go_enter Tryz.func192, Tryz.ntmps192
    go_wp2
    go_ret
    exact ⟨ret_int HV.out.symm, HB.out⟩
  · have HV := hid (show countP m k = 0 by rw [HE.out, if_neg g0, if_neg g1, if_neg g2, if_neg g3])
    have b0 : (k == 0) = false := by simpa using g0
    have b1 : (k == 1) = false := by simpa using g1
    have b2 : (k == 2) = false := by simpa using g2
    have b3 : (k == 3) = false := by simpa using g3
    clear HE
    go_enter Tryz.func192, Tryz.ntmps192
    go_wp2
    go_ret
    exact ⟨ret_int HV.out.symm, HB.out⟩
end Go.Proofs.YtckdnhafookcgaaGreatDoor.Val

namespace Go.Proofs.YtckdnhafookcgaaGreatDoor.Val
open Go.RowKit Go.Shelf Go.Proofs.YtckdnhafookcgaaGreatDoor.Instr Go.Proofs.YtckdnhafookcgaaGreatDoor.Mod
open Go.Maps (Keyed string_keyed)
set_option linter.unusedVariables false
attribute [local go_sem] Oper.semAt_some

/-- All places, from the last on. -/
def downF (n : Nat) : List (Fin n) := (List.finRange n).reverse
theorem downF_length (n : Nat) : (downF n).length = n := by simp [downF]
theorem downF_at {n k : Nat} (hk : k < n) : (downF n)[k]'(by rw [downF_length]; exact hk) = ⟨n - 1 - k, by omega⟩ := by
  unfold downF
  rw [List.getElem_reverse]
  simp
def encB (exs : List Ex) (x : Fin exs.length) : Array Value := #[.int .i64 (x.val : Int), .agg #[.string (exs[x.val]'x.isLt).na, .int .i64 (exs[x.val]'x.isLt).k, .int .u32 (exs[x.val]'x.isLt).i]]
theorem take_down {n k : Nat} (hk : k < n) : (downF n).take (k + 1) = (downF n).take k ++ [⟨n - 1 - k, by omega⟩] := by
  rw [List.take_succ_eq_append_getElem (by rw [downF_length]; exact hk), downF_at hk]
theorem back_in (n : Nat) (a : Option Addr) (len c : Nat) (w : World) :
    CallsIn Fence.wide n Tryz.prog 190 #[.slice a len c] w fun e w' => e = .returned (.func (.func 214) #[] #[.pointer (some ⟨w.heap.size, 0, none⟩)]) ∧ w' = w.alloc (.cells #[.slice a len c] 27) := by
  refine callsIn_of_wp Tryz.func190 rfl trivial ?_ rfl
  simp only [Tryz.ntmps190, List.size_toArray, List.length_cons, List.length_nil, Nat.reduceAdd, Nat.reduceSub, Array.replicate_succ, Array.replicate_zero, List.push_toArray, List.append_toArray, List.nil_append, List.cons_append]
  gi_wp2
  go_ret
  exact ⟨rfl, rfl⟩
set_option maxHeartbeats 4000000 in
set_option maxRecDepth 100000 in
theorem back_stops (n n₀ B : Nat) (exs : List Ex) (a : Option Addr) (len c : Nat) (w : World) (hn : n₀ ≤ w.heap.size) (hB : B < w.heap.size) (hlen : exs.length = len) (hmax : len ≤ 140737488351232) (hx : w.cell? ⟨B, 0, none⟩ = some (.slice a len c)) (hr : Mod.Rows n₀ w a 3 (exs.map Ex.v)) :
    SeqStopsK Fence.wide n Tryz.prog 214 #[.pointer (some ⟨B, 0, none⟩)] (encB exs) (KeptB n₀ B) (fun ys => ys = downF exs.length) (fun pre => pre <+: downF exs.length) exs.length w := fun l J Jx W hW hJ _ hY h0 => by
  have HX := hid ((hW.cell (p := ⟨B, 0, none⟩) hB).trans hx)
  have HR := hid (hr.below (hW.mono hn))
  have HLE := hid hlen
  have HJ := hid (fun s W h o => hJ s W _ none h (World.grownBy_alloc W o none) (fun r e => by cases e))
  have HY := hid hY
  have H0 := hid h0
  have x0 := HX.out
  have hw : IntKind.i64.wrap ((len : Int) - 1) = (len : Int) - 1 := by rw [IntKind.wrap_i64]; omega
  clear hW hJ hY h0 hn hB hlen hx hr
  refine callsIn_of_wp Tryz.func214 rfl trivial ?_ rfl
  simp only [Tryz.ntmps214, List.size_toArray, List.length_cons, List.length_nil, Nat.reduceAdd, Nat.reduceSub, Array.replicate_succ, Array.replicate_zero, List.push_toArray, List.append_toArray, List.nil_append, List.cons_append]
  gi_wp2
  clear x0 hw
  gi_loopw [3] (fun i wr => ∃ k : Nat, i = .int .i64 ((len : Int) - 1 - (k : Int)) ∧ k ≤ len ∧ Hid (J ((downF exs.length).take k) wr) ∧ Hid (KeptB n₀ B W wr)) (fun i _ => (intOf i + 1).toNat)
  case atStart => exact ⟨0, by simp, Nat.zero_le _, by simpa using H0, KeptB.refl _ _ _⟩
  case round =>
    obtain ⟨k, rfl, hk, HJk, HK⟩ := hrel
    by_cases hlt : k < len
    · have hkl : k < exs.length := by rw [HLE.out]; exact hlt
      obtain ⟨j, hj⟩ : ∃ j : Nat, j = len - 1 - k := ⟨_, rfl⟩
      have hjl : j < exs.length := by rw [HLE.out]; omega
      have hji : (len : Int) - 1 - (k : Int) = (j : Int) := by omega
      have hjlt : (j : Int) < (len : Int) := by omega
      obtain ⟨b, off, rfl, hb, hc⟩ := Mod.Rows.get HR.out hjl
      have HS := hid (take_down hkl)
      have hfin : (⟨exs.length - 1 - k, by omega⟩ : Fin exs.length) = ⟨j, hjl⟩ := by
        apply Fin.ext; show exs.length - 1 - k = j; rw [HLE.out]; exact hj.symm
      rw [hfin] at HS
      have HP := hid (show (downF exs.length).take (k + 1) <+: downF exs.length from List.take_prefix _ _)
      have x0 := HK.out.cells 0 _ HX.out
      obtain ⟨y, hy⟩ : ∃ y, exs[j] = y := ⟨_, rfl⟩
      rw [hy] at hc
      have cc : ∀ q, q < 3 → ∀ v, y.v[q]? = some v → wr.cell? ⟨b, off + j * 3 + q, none⟩ = some v := fun q hq v hv => (HK.out.below.cell (p := ⟨b, off + j * 3 + q, none⟩) hb).trans (hc q hq v hv)
      have c0 : wr.cell? ⟨b, off + j * 3, none⟩ = some (.string y.na) := cc 0 (by omega) _ rfl
      have c1 : wr.cell? ⟨b, off + j * 3 + 1, none⟩ = some (.int .i64 y.k) := cc 1 (by omega) _ rfl
      have c2 : wr.cell? ⟨b, off + j * 3 + 2, none⟩ = some (.int .u32 y.i) := cc 2 (by omega) _ rfl
      obtain ⟨fn, tmps, assign, body, hyy, hR⟩ := HY.out ((downF exs.length).take k) ⟨j, hjl⟩ wr HJk.out (by rw [List.length_take, downF_length]; omega)
      simp only [encB, hy] at hyy hR
      have HRR := hid hR
      have hw2 : IntKind.i64.wrap ((j : Int) - 1) = (j : Int) - 1 := by rw [IntKind.wrap_i64]; omega
      have hge : (0 : Int) ≤ (j : Int) := by omega
      have HJE := hid hj
      rw [hji]
      clear hfin hc cc hb hR hy hj hji
      gi_wp2_with fail
      refine ⟨fun h => (by cases h), ?_⟩
      refine HRR.out.mono ?_
      clear HRR hyy
      rintro e W2 (⟨rfl, hJ2, hk2⟩ | ⟨rfl, hx2⟩)
      · have HK2 := hid (HK.out.trans hk2)
        have HJ2 := hid hJ2
        clear hJ2 hk2
        gi_wp2
        go_roundw
        case rel => exact ⟨k + 1, congrArg (Value.int .i64) (by have := HJE.out; omega), by omega, by rw [HS.out]; exact HJ2.out, HK2⟩
        case measure => simp [intOf] <;> omega
      · have HX2 := hid hx2
        clear hx2
        gi_wp2
        refine bodyPost_ret (results_none rfl _ _ _) rfl ?_
        exact ⟨⟨_, rfl⟩, .inr ⟨_, HP.out, by rw [HS.out]; exact HX2.out⟩⟩
    · obtain rfl : k = len := by omega
      have HJ0 : Hid (J (downF exs.length) wr) := by
        have := HJk.out
        rw [List.take_of_length_le (by rw [downF_length, HLE.out]; exact Nat.le_refl _)] at this
        exact this
      have hneg : ¬ (0 : Int) ≤ (k : Int) - 1 - (k : Int) := by omega
      gi_wp2
      go_end0
      exact ⟨⟨_, rfl⟩, .inl HJ0.out⟩
/-- The names that have come, each with its place. -/
def putN (exs : List Ex) (pre : List (Fin exs.length)) : DataW Unit := pre.foldl (fun D x => D.put (.string (exs[x.val]'x.isLt).na.data.toList) (.lit (.int .i64 (x.val : Int)))) (.map [])
theorem putN_snoc (exs : List Ex) (pre : List (Fin exs.length)) (x : Fin exs.length) : putN exs (pre ++ [x]) = (putN exs pre).put (.string (exs[x.val]'x.isLt).na.data.toList) (.lit (.int .i64 (x.val : Int))) := by simp [putN]
/-- The map of names, wherever it lies. -/
def NamesAt (W : World) (b : Nat) (exs : List Ex) : Prop := W.ownsMap Tryz.prog 9 (plainElem (H := Unit) Tryz.prog 3) b exs.length (putN exs (downF exs.length))
theorem NamesAt.below {W W' : World} {b : Nat} {exs : List Ex} (h : NamesAt W b exs) (hb : Below W.heap.size W W') : NamesAt W' b exs := by
  have hl := World.ownsMap.lt h
  obtain ⟨es, ck, hh, r⟩ := h
  exact ⟨es, ck, (hb.block b hl).trans hh, r⟩
set_option maxRecDepth 100000 in
set_option maxHeartbeats 4000000 in
theorem firstNames_m (exs : List Ex) (a : Option Addr) (len c : Nat) (w : World) (hlen : exs.length = len) (hmax : len ≤ 140737488351232) (hr : Mod.Rows w.heap.size w a 3 (exs.map Ex.v)) (hns : ∀ e ∈ exs, e.na.size ≤ 140737488351232) :
    Calls Tryz.prog 136 #[.slice a len c] w fun e w' => ∃ b, e = .returned (.map (some b)) ∧ NamesAt w' b exs ∧ Below w.heap.size w w' := by
  have hmm := @run_makeMap Tryz.prog
  have HNS := hid hns
  have HLE := hid hlen
  refine (callsIn_wide (n := 3)).1 ?_
  refine callsIn_of_wp_marks Tryz.func136 rfl trivial ?_ rfl
  simp only [Tryz.ntmps136, List.size_toArray, List.length_cons, List.length_nil, Nat.reduceAdd, Nat.reduceSub, Array.replicate_succ, Array.replicate_zero, List.push_toArray, List.append_toArray, List.nil_append, List.cons_append]
  gi_wp2_with (refine ⟨trivial, ?_⟩; refine (back_in _ _ _ _ _).mono ?_; rintro e w' ⟨rfl, rfl⟩)
  have hm0 := World.ownsMap_made w Tryz.prog 9 (plainElem (H := Unit) Tryz.prog 3)
  have cS := cell_new (w.alloc (.map #[] 0)) (.map (some w.heap.size)) 203
  have cN := cell_new ((w.alloc (.map #[] 0)).alloc (.cells #[.map (some w.heap.size)] 203)) (.slice a len c) 27
  simp only [World.size_alloc] at cS cN
  have hB0 : Below w.heap.size w (((w.alloc (.map #[] 0)).alloc (.cells #[.map (some w.heap.size)] 203)).alloc (.cells #[.slice a len c] 27)) := thenA (thenA (thenA (Below.refl _ _) _) _) _
  have hsz : (((w.alloc (.map #[] 0)).alloc (.cells #[.map (some w.heap.size)] 203)).alloc (.cells #[.slice a len c] 27)).heap.size = w.heap.size + 3 := by simp
  have hmW := (hm0.alloc (.cells #[.map (some w.heap.size)] 203)).alloc (.cells #[.slice a len c] 27)
  have cS2 := cell_alloc' (.cells #[.slice a len c] 27) cS.1
  have cNc := cN.1
  clear hm0 cS cN
  obtain ⟨W0, hW0⟩ : ∃ W0, ((w.alloc (.map #[] 0)).alloc (.cells #[.map (some w.heap.size)] 203)).alloc (.cells #[.slice a len c] 27) = W0 := ⟨_, rfl⟩
  rw [hW0] at hB0 hsz hmW cS2 cNc ⊢
  clear hW0
  refine wpIn_rangeFunc_ownH rfl (by omega) (gf := 214) (lb := #[.pointer (some ⟨w.heap.size + 1 + 1, 0, none⟩)]) rfl trivial (enters_of Tryz.func214 (by kernel_rfl) rfl)
    (back_stops _ w.heap.size (w.heap.size + 1 + 1) exs a len c W0 (by omega) (by omega) hlen hmax cNc (hr.below hB0)) (fun h k => h.trans k) (keptB_b (by omega)) (Below.refl _ _) (fun _ => rfl)
    (fun pre W => (W.cell? ⟨w.heap.size + 1, 0, none⟩ = some (.map (some w.heap.size)) ∧ W.ownsMap Tryz.prog 9 (plainElem (H := Unit) Tryz.prog 3) w.heap.size pre.length (putN exs pre) ∧ w.heap.size + 3 ≤ W.heap.size) ∧ Below w.heap.size w W)
    (fun _ _ _ => False)
    (OwnFrom.and (fun s A B row hs hg hr => ⟨cell_kept hs.1 hg (fun r e => (hr r e).2), hs.2.1.kept hg (fun e => by have := (hr _ e.symm).1; omega), Nat.le_trans hs.2.2 hg.size⟩) (ownFrom_below (Nat.le_refl _) (by omega)))
    (fun _ _ _ _ _ hs _ _ => hs)
    ⟨⟨cS2, hmW, by omega⟩, hB0⟩
    (fun x a' W => ∃ Bx, w.heap.size + 3 ≤ Bx ∧ W.cell? ⟨Bx, 0, none⟩ = some (.string (exs[x.val]'x.isLt).na) ∧ a' = { tmps := #[.slice a len c, undef, .map none, .pointer (some ⟨w.heap.size + 1, 0, none⟩), .int .i64 (x.val : Int), .pointer (some ⟨Bx, 0, none⟩), .map (some w.heap.size), .slice a len c, .func (.func 214) #[] #[.pointer (some ⟨w.heap.size + 1 + 1, 0, none⟩)], .int .i64 (x.val : Int), .agg #[.string (exs[x.val]'x.isLt).na, .int .i64 (exs[x.val]'x.isLt).k, .int .u32 (exs[x.val]'x.isLt).i], undef, undef, undef, undef, undef], defers := [] })
    (fun x a' _ X Y row hs hg hr => by obtain ⟨Bx, h1, h2, h3⟩ := hs; exact ⟨Bx, h1, cell_kept h2 hg (fun r e => (hr r e).2), h3⟩)
    ?assign ?body ?done ?stop
  case assign =>
    rintro l pre x W K ⟨⟨hc1, hown, hz⟩, hB1⟩ hK
    simp only [encB] at hK ⊢
    gi_wp2
    have hA : Below W.heap.size W (W.alloc (.cells #[.string (exs[x.val]'x.isLt).na, .int .i64 (exs[x.val]'x.isLt).k, .int .u32 (exs[x.val]'x.isLt).i] 111)) := (Below.refl _ _).alloc (Nat.le_refl _) _
    exact hK _ _ ((KeepsOthers.alloc _ _).from _) ((KeptB.refl _ _ W).alloc (by omega) _) ⟨⟨Go.Proofs.YtckdnhafookcgaaGreatDoor.keep hA hc1, hown.alloc _, by simp; omega⟩, thenA hB1 _⟩ ⟨W.heap.size, hz, by simp [go_sem], rfl⟩
  case body =>
    rintro l pre x a' W hl' ⟨r, hr⟩ ⟨⟨hc1, hown, hz⟩, hB1⟩ ⟨Bx, hBx, bX, rfl⟩ hlt
    have hsn : (exs[x.val]'x.isLt).na.size ≤ maxLen := by have := HNS.out (exs[x.val]'x.isLt) (List.getElem_mem x.isLt); unfold maxLen; omega
    have hxl := x.isLt
    have hle := HLE.out
    have hpl : pre.length < maxLen := by unfold maxLen; omega
    have hwf : (Lit.int .i64 (x.val : Int)).wf = true := WalkArith.wf_i64 (by omega)
    have HSN := hid (putN_snoc exs pre x)
    have HB1 := hid hB1
    have HZ := hid hz
    clear hl' hlt
    gi_wp2_with (gi_at_mapUpdate; refine wpListIn_mapUpdate_own _ rfl _ _ _ 203 rfl 9 3 (string_keyed Tryz.underlying9) Tryz.underlying203 _ w.heap.size pre.length _ rfl hown hpl _ _ _ rfl rfl (WideMaps.keyOf_string_mk Tryz.underlying9 hsn) _ [] (plainElem_int Tryz.underlying3 hwf) ?_; intro w1 hown1 hgrow1)
    obtain ⟨es, ck, hh, _⟩ := hown
    exact ⟨KeepsFrom.of_grownBy hgrow1 (fun j e => by cases e; omega), ⟨(Below.refl _ W).grown hgrow1 HB1.out.size (fun k e => by cases e; exact Nat.le_refl _), fun o v hv => cell_kept hv hgrow1 (fun r e => by cases e; exact ⟨_, hh, rfl⟩)⟩,
      ⟨cell_kept hc1 hgrow1 (fun r e => by cases e; exact ⟨_, hh, rfl⟩), by rw [HSN.out, List.length_append]; exact hown1, Nat.le_trans HZ.out hgrow1.size⟩, HB1.out.grown hgrow1 HB1.out.size (fun k e => by cases e; exact Nat.le_refl _)⟩
  case done =>
    rintro D ys W hD rfl ⟨⟨hc1, hown, hz⟩, hB⟩ hK
    gi_wp2
    refine ⟨by simp, .inl ⟨_, _, rfl, run_takeDeferred hK, ?_⟩⟩
    refine ⟨_, results_tmp rfl _ _ _, ?_⟩
    refine ⟨w.heap.size, rfl, ?_, hB.trans (belowK_b (w := w) (Nat.le_refl _) W D _ _ (by omega) hK rfl rfl)⟩
    have := hown.kept (grownBy_putObj' W D (.deferred none)) (fun e => by cases e; omega)
    rw [downF_length] at this
    exact this
  case stop =>
    rintro D c pre W _ _ h _
    exact h.elim
end Go.Proofs.YtckdnhafookcgaaGreatDoor.Val

namespace Go.Proofs.YtckdnhafookcgaaGreatDoor.Val
open Go.RowKit Go.Shelf Go.Proofs.YtckdnhafookcgaaGreatDoor.Instr Go.Proofs.YtckdnhafookcgaaGreatDoor.Mod
open Go.Maps (Keyed string_keyed)
set_option linter.unusedVariables false

theorem key_ne {s t : ByteArray} (h : s ≠ t) : (Lit.string s.data.toList) ≠ (Lit.string t.data.toList) := by
  intro e
  apply h
  have e1 : s.data.toList = t.data.toList := by injection e
  have e2 : s.data = t.data := Array.toList_inj.1 e1
  cases s; cases t; simp only at e2; subst e2; rfl
theorem putN_map (exs : List Ex) (pre : List (Fin exs.length)) : ∃ es, putN exs pre = .map es := by
  unfold putN
  suffices ∀ (l : List (Fin exs.length)) (D : DataW Unit), (∃ es, D = .map es) → ∃ es, l.foldl (fun D x => D.put (.string (exs[x.val]'x.isLt).na.data.toList) (.lit (.int .i64 (x.val : Int)))) D = .map es from this pre _ ⟨_, rfl⟩
  intro l
  induction l with
  | nil => exact fun D h => h
  | cons x l ih =>
    intro D h
    rw [List.foldl_cons]
    obtain ⟨es, rfl⟩ := h
    exact ih _ ⟨_, rfl⟩
/-- What the map tells of a name that is there: its first place. -/
theorem putN_first (exs : List Ex) (z : DataW Unit) : ∀ (j : Nat), j ≤ exs.length → ∀ (k : Nat) (hk : k < exs.length), exs.length - j ≤ k →
    ∃ f, ∃ hf : f < exs.length, exs.length - j ≤ f ∧ f ≤ k ∧ exs[f].na = exs[k].na ∧ (∀ i (hi : i < exs.length), exs.length - j ≤ i → i < f → exs[i].na ≠ exs[k].na) ∧ (putN exs ((downF exs.length).take j)).atKey (.string exs[k].na.data.toList) z = .lit (.int .i64 (f : Int))
  | 0, _, k, hk, h => by omega
  | j + 1, hj, k, hk, h => by
    have hjl : j < exs.length := by omega
    rw [take_down hjl, putN_snoc]
    simp only
    by_cases he : (exs[exs.length - 1 - j]'(by omega)).na = exs[k].na
    · refine ⟨exs.length - 1 - j, by omega, by omega, by omega, he, fun i hi h1 h2 => by omega, ?_⟩
      rw [he]
      exact Maps.atKey_put_same (putN_map _ _) (show WideAt.IsKeyLit (.string _) from trivial) _ _
    · have hk' : exs.length - j ≤ k := by
        rcases Nat.lt_or_ge k (exs.length - j) with h1 | h1
        · have hkk : k = exs.length - 1 - j := by omega
          subst hkk
          exact absurd rfl he
        · exact h1
      obtain ⟨f, hf, f1, f2, f3, f4, f5⟩ := putN_first exs z j (by omega) k hk hk'
      refine ⟨f, hf, by omega, f2, f3, fun i hi h1 h2 => ?_, ?_⟩
      · rcases Nat.lt_or_ge i (exs.length - j) with h3 | h3
        · have hii : i = exs.length - 1 - j := by omega
          subst hii
          exact he
        · exact f4 i hi h3 h2
      · rw [Maps.atKey_put_other (key_ne (Ne.symm he)), f5]
def exAt (m : Md) (k : Nat) : Ex := m.ex.getD k ⟨⟨#[]⟩, 0, 0⟩
def exportEP (m : Md) (k : Nat) : Int := if (exAt m k).i < countP m (exAt m k).k then (if (m.ex.take k).any (fun e => decide (e.na = (exAt m k).na)) then 7 else 0) else 6
/-- A box with a module: its cells, all at once. -/
theorem BoxAt.mod {W : World} {g : Nat} {v0 v1 v2 v3 v4 v5 v6 v7 v8 v9 v10 : Value} (h : BoxAt W g #[v0, v1, v2, v3, v4, v5, v6, v7, v8, v9, v10]) :
    W.cell? ⟨g, 0, none⟩ = some v0 ∧ W.cell? ⟨g, 1, none⟩ = some v1 ∧ W.cell? ⟨g, 2, none⟩ = some v2 ∧ W.cell? ⟨g, 3, none⟩ = some v3 ∧ W.cell? ⟨g, 4, none⟩ = some v4 ∧ W.cell? ⟨g, 5, none⟩ = some v5 ∧ W.cell? ⟨g, 6, none⟩ = some v6 ∧ W.cell? ⟨g, 7, none⟩ = some v7 ∧
      W.cell? ⟨g, 8, none⟩ = some v8 ∧ W.cell? ⟨g, 9, none⟩ = some v9 ∧ W.cell? ⟨g, 10, none⟩ = some v10 := ⟨h 0 _ rfl, h 1 _ rfl, h 2 _ rfl, h 3 _ rfl, h 4 _ rfl, h 5 _ rfl, h 6 _ rfl, h 7 _ rfl, h 8 _ rfl, h 9 _ rfl, h 10 _ rfl⟩
theorem zeroInt (w : World) : (zeroValue 3).run Tryz.prog w = .ok (.int .i64 0) w := by kernel_rfl
theorem held_keep13 {w w1 w2 : World} {p0 p1 p2 p3 p4 p5 p6 p7 p8 p9 p10 p11 p12 : Addr} {v0 v1 v2 v3 v4 v5 v6 v7 v8 v9 v10 v11 v12 : Value} (h : Below w.heap.size w w1 ∧ w1.cell? p0 = some v0 ∧ w1.cell? p1 = some v1 ∧ w1.cell? p2 = some v2 ∧ w1.cell? p3 = some v3 ∧ w1.cell? p4 = some v4 ∧ w1.cell? p5 = some v5 ∧ w1.cell? p6 = some v6 ∧ w1.cell? p7 = some v7 ∧ w1.cell? p8 = some v8 ∧ w1.cell? p9 = some v9 ∧ w1.cell? p10 = some v10 ∧ w1.cell? p11 = some v11 ∧ w1.cell? p12 = some v12) (hb : Below w1.heap.size w1 w2) :
    Below w.heap.size w w2 ∧ w2.cell? p0 = some v0 ∧ w2.cell? p1 = some v1 ∧ w2.cell? p2 = some v2 ∧ w2.cell? p3 = some v3 ∧ w2.cell? p4 = some v4 ∧ w2.cell? p5 = some v5 ∧ w2.cell? p6 = some v6 ∧ w2.cell? p7 = some v7 ∧ w2.cell? p8 = some v8 ∧ w2.cell? p9 = some v9 ∧ w2.cell? p10 = some v10 ∧ w2.cell? p11 = some v11 ∧ w2.cell? p12 = some v12 :=
  ⟨thenB h.1 hb, Go.Proofs.YtckdnhafookcgaaGreatDoor.keep hb h.2.1, Go.Proofs.YtckdnhafookcgaaGreatDoor.keep hb h.2.2.1, Go.Proofs.YtckdnhafookcgaaGreatDoor.keep hb h.2.2.2.1, Go.Proofs.YtckdnhafookcgaaGreatDoor.keep hb h.2.2.2.2.1, Go.Proofs.YtckdnhafookcgaaGreatDoor.keep hb h.2.2.2.2.2.1, Go.Proofs.YtckdnhafookcgaaGreatDoor.keep hb h.2.2.2.2.2.2.1, Go.Proofs.YtckdnhafookcgaaGreatDoor.keep hb h.2.2.2.2.2.2.2.1, Go.Proofs.YtckdnhafookcgaaGreatDoor.keep hb h.2.2.2.2.2.2.2.2.1, Go.Proofs.YtckdnhafookcgaaGreatDoor.keep hb h.2.2.2.2.2.2.2.2.2.1, Go.Proofs.YtckdnhafookcgaaGreatDoor.keep hb h.2.2.2.2.2.2.2.2.2.2.1, Go.Proofs.YtckdnhafookcgaaGreatDoor.keep hb h.2.2.2.2.2.2.2.2.2.2.2.1, Go.Proofs.YtckdnhafookcgaaGreatDoor.keep hb h.2.2.2.2.2.2.2.2.2.2.2.2.1, Go.Proofs.YtckdnhafookcgaaGreatDoor.keep hb h.2.2.2.2.2.2.2.2.2.2.2.2.2⟩
set_option maxRecDepth 100000 in
set_option maxHeartbeats 4000000 in
theorem exportError_m (m : Md) (k bm : Nat) (w : World) (hm : ModAt w.heap.size w m) (hf : m.fits) (h1 : m.im.length ≤ 16384) (h2 : m.fu.length ≤ 16384) (hk : k < m.ex.length) (hN : NamesAt w bm m.ex) (hei : ∀ e ∈ m.ex, 0 ≤ e.i ∧ e.i < 4294967296) :
    Calls Tryz.prog 143 #[.agg m.v, .int .i64 k, .map (some bm)] w fun e w' => e = .returned (.int .i64 (exportEP m k)) ∧ Below w.heap.size w w' := by
  have hgd : exAt m k = m.ex[k] := by unfold exAt; simp [hk]
  have HE : Hid (exportEP m k = if (exAt m k).i < countP m (exAt m k).k then (if (m.ex.take k).any (fun e => decide (e.na = (exAt m k).na)) then 7 else 0) else 6) := rfl
  rw [hgd] at HE
  have hmem := List.getElem_mem hk
  have hsz := hf.eS _ hmem
  have hei0 := hei _ hmem
  obtain ⟨f, hfl, -, f2, f3, f4, f5⟩ := putN_first m.ex (.lit (.int .i64 0)) m.ex.length (Nat.le_refl _) k hk (by omega)
  rw [show (downF m.ex.length).take m.ex.length = downF m.ex.length from List.take_of_length_le (by rw [downF_length]; exact Nat.le_refl _)] at f5
  have hany : (m.ex.take k).any (fun e => decide (e.na = m.ex[k].na)) = decide (f < k) := by
    by_cases hfk : f < k
    · rw [decide_eq_true hfk]
      refine List.any_eq_true.2 ⟨m.ex[f], ?_, by simpa using f3⟩
      exact List.mem_take_iff_getElem.2 ⟨f, by omega, rfl⟩
    · rw [decide_eq_false hfk]
      refine List.any_eq_false.2 fun e he => ?_
      obtain ⟨i, hi, rfl⟩ := List.mem_take_iff_getElem.1 he
      have := f4 i (by omega) (by omega) (by omega)
      simpa using this
  rw [hany] at HE
  obtain ⟨b, off, ha, hb, hcc⟩ := Mod.Rows.get hm.ex hk
  obtain ⟨x, hx⟩ : ∃ x, m.ex[k] = x := ⟨_, rfl⟩
  rw [hx] at HE hcc hsz hei0 f5
  have hkey : keyOf Tryz.prog 9 (.string x.na) = some (.string x.na.data.toList) := WideMaps.keyOf_string_mk Tryz.underlying9 (by unfold maxLen; omega)
  obtain ⟨W0, hW0⟩ : ∃ W0, W0 = w.alloc (.cells m.v 32) := ⟨_, rfl⟩
  have hb0 : Below w.heap.size w W0 := by rw [hW0]; exact thenA (Below.refl _ _) _
  have HX : Hid (BoxAt W0 w.heap.size m.v) := by rw [hW0]; exact BoxAt.made w m.v _
  have c0 : W0.cell? ⟨b, off + k * 3, none⟩ = some (.string x.na) := (hb0.cell (p := ⟨b, off + k * 3, none⟩) hb).trans (hcc 0 (by omega) _ rfl)
  have c1 : W0.cell? ⟨b, off + k * 3 + 1, none⟩ = some (.int .i64 x.k) := (hb0.cell (p := ⟨b, off + k * 3 + 1, none⟩) hb).trans (hcc 1 (by omega) _ rfl)
  have c2 : W0.cell? ⟨b, off + k * 3 + 2, none⟩ = some (.int .u32 x.i) := (hb0.cell (p := ⟨b, off + k * 3 + 2, none⟩) hb).trans (hcc 2 (by omega) _ rfl)
  have CC := hid (fun w' => count_m m x.k hf h1 h2 w')
  have hcr := countP_range m hf h1 h2 x.k
  have m6 : W0.cell? ⟨w.heap.size, 6, none⟩ = some (.slice m.ex'.a m.ex.length m.ex'.c) := HX.out 6 _ rfl
  rw [ha] at m6
  obtain ⟨cn, hcn⟩ : ∃ c, countP m x.k = c := ⟨_, rfl⟩
  rw [hcn] at CC HE hcr
  have CH := hid (fun w' => has_any cn x.i hcr hei0 w')
  have HB := hid hb0
  unfold NamesAt at hN
  obtain ⟨D, hD⟩ : ∃ D, putN m.ex (downF m.ex.length) = D := ⟨_, rfl⟩
  rw [hD] at hN f5
  have HN := hid hN
  have hki : (k : Int) < (m.ex.length : Int) := by omega
  obtain ⟨v0, v1, v2, v3, v4, v5, v7, v8, v9, v10, hv⟩ : ∃ v0 v1 v2 v3 v4 v5 v7 v8 v9 v10, m.v = #[v0, v1, v2, v3, v4, v5, .slice m.ex'.a m.ex.length m.ex'.c, v7, v8, v9, v10] := ⟨_, _, _, _, _, _, _, _, _, _, rfl⟩
  rw [hv, ha] at hW0 CC HX ⊢
  have HF5 := hid f5
  have HK := hid hkey
  have bex := hf.ex
  clear hm hf h1 h2 hN hei hgd hmem hsz f4 f3 hany hcc hx hkey hb0 hb hv hcn hcr f5 hD
  generalize m.ex.length = E at *
  go_enter Tryz.func143, Tryz.ntmps143
  go_upto_region 1 with fail
  rw [← hW0]
  clear hW0
  go_upto_region 2 with fail
  have hA : Below W0.heap.size W0 (W0.alloc (.cells #[.string x.na, .int .i64 x.k, .int .u32 x.i] 111)) := (Below.refl _ _).alloc (Nat.le_refl _) _
  have x0 : (W0.alloc (.cells #[.string x.na, .int .i64 x.k, .int .u32 x.i] 111)).cell? ⟨W0.heap.size, 0, none⟩ = some (.string x.na) := by simp [go_sem]
  have x1 : (W0.alloc (.cells #[.string x.na, .int .i64 x.k, .int .u32 x.i] 111)).cell? ⟨W0.heap.size, 1, none⟩ = some (.int .i64 x.k) := by simp [go_sem]
  have x2 : (W0.alloc (.cells #[.string x.na, .int .i64 x.k, .int .u32 x.i] 111)).cell? ⟨W0.heap.size, 2, none⟩ = some (.int .u32 x.i) := by simp [go_sem]
  have hX1 := HX.out.keep hA
  obtain ⟨n0, n1, n2, n3, n4, n5, n6, n7, n8, n9, n10⟩ := BoxAt.mod hX1
  have HB1 := hid (HB.out.trans (hA.mono HB.out.size))
  clear m6 c0 c1 c2 hX1 HX
  obtain ⟨W1, hW1⟩ : ∃ u, u = W0.alloc (.cells #[.string x.na, .int .i64 x.k, .int .u32 x.i] 111) := ⟨_, rfl⟩
  rw [← hW1] at x0 x1 x2 n0 n1 n2 n3 n4 n5 n6 n7 n8 n9 n10 HB1 ⊢
  obtain ⟨gx, hgx⟩ : ∃ gx, gx = W0.heap.size := ⟨_, rfl⟩
  rw [← hgx] at x0 x1 x2 ⊢
  have X0 := hid x0
  have hS0 : Below W1.heap.size W1 W1.drew ∧ W1.drew.cell? ⟨w.heap.size, 0, none⟩ = some v0 ∧ W1.drew.cell? ⟨w.heap.size, 1, none⟩ = some v1 ∧ W1.drew.cell? ⟨w.heap.size, 2, none⟩ = some v2 ∧ W1.drew.cell? ⟨w.heap.size, 3, none⟩ = some v3 ∧ W1.drew.cell? ⟨w.heap.size, 4, none⟩ = some v4 ∧ W1.drew.cell? ⟨w.heap.size, 5, none⟩ = some v5 ∧ W1.drew.cell? ⟨w.heap.size, 6, none⟩ = some (.slice (some ⟨b, off, none⟩) E m.ex'.c) ∧ W1.drew.cell? ⟨w.heap.size, 7, none⟩ = some v7 ∧ W1.drew.cell? ⟨w.heap.size, 8, none⟩ = some v8 ∧ W1.drew.cell? ⟨w.heap.size, 9, none⟩ = some v9 ∧ W1.drew.cell? ⟨w.heap.size, 10, none⟩ = some v10 ∧ W1.drew.cell? ⟨gx, 1, none⟩ = some (.int .i64 x.k) ∧ W1.drew.cell? ⟨gx, 2, none⟩ = some (.int .u32 x.i) := ⟨(Below.refl _ _).drew, n0, n1, n2, n3, n4, n5, n6, n7, n8, n9, n10, x1, x2⟩
  clear hW1 hgx hA HB x0 x1 x2 n0 n1 n2 n3 n4 n5 n6 n7 n8 n9 n10
  go_region_held3 (fun w' => Below W1.heap.size W1 w' ∧ w'.cell? ⟨w.heap.size, 0, none⟩ = some v0 ∧ w'.cell? ⟨w.heap.size, 1, none⟩ = some v1 ∧ w'.cell? ⟨w.heap.size, 2, none⟩ = some v2 ∧ w'.cell? ⟨w.heap.size, 3, none⟩ = some v3 ∧ w'.cell? ⟨w.heap.size, 4, none⟩ = some v4 ∧ w'.cell? ⟨w.heap.size, 5, none⟩ = some v5 ∧ w'.cell? ⟨w.heap.size, 6, none⟩ = some (.slice (some ⟨b, off, none⟩) E m.ex'.c) ∧ w'.cell? ⟨w.heap.size, 7, none⟩ = some v7 ∧ w'.cell? ⟨w.heap.size, 8, none⟩ = some v8 ∧ w'.cell? ⟨w.heap.size, 9, none⟩ = some v9 ∧ w'.cell? ⟨w.heap.size, 10, none⟩ = some v10 ∧ w'.cell? ⟨gx, 1, none⟩ = some (.int .i64 x.k) ∧ w'.cell? ⟨gx, 2, none⟩ = some (.int .u32 x.i)) (first | assumption | exact held_keep13 (by assumption) (by assumption))
    (first
      | (go_at_call 192; refine (CC.out _).mono ?_; rintro e1 w2 ⟨rfl, hb2⟩)
      | (go_at_call 191; refine (CH.out _).mono ?_; rintro e2 w3 ⟨rfl, rfl⟩))
  have hB2 : Below W1.heap.size W1 w2 := Stk.undrew hb2
  have q0 := Go.Proofs.YtckdnhafookcgaaGreatDoor.keep hB2 X0.out
  have HB2 := hid (HB1.out.trans (hB2.mono HB1.out.size))
  clear hB2 hb2 hS0
  have hN2 : w2.ownsMap Tryz.prog 9 (plainElem (H := Unit) Tryz.prog 3) bm E D := by
    have hl := World.ownsMap.lt HN.out
    obtain ⟨es, ck, hh, r⟩ := HN.out
    exact ⟨es, ck, (HB2.out.block bm hl).trans hh, r⟩
  by_cases hlt : x.i < cn
  · have hd : decide (x.i < cn) = true := by simpa using hlt
    rw [hd]
    go_wp2_with (at_lookup; refine wpList_lookup_own_int _ rfl _ _ 203 rfl 9 3 .i64 (string_keyed Tryz.underlying9) Tryz.underlying203 Tryz.underlying3 (zeroInt _) bm E _ rfl hN2 _ _ rfl HK.out ?_; intro c hat hwc)
    all_goals
      have hcf : c = (f : Int) := by
        have := HF5.out.symm.trans hat
        injection this with h
        injection h with _ h
        exact h.symm
      subst hcf
      have HV7 := hid (show (f : Int) < (k : Int) → exportEP m k = 7 from fun h => by rw [HE.out, if_pos hlt, decide_eq_true (show f < k by omega)]; rfl)
      have HV0 := hid (show ¬ (f : Int) < (k : Int) → exportEP m k = 0 from fun h => by rw [HE.out, if_pos hlt, decide_eq_false (show ¬ f < k by omega)]; rfl)
      clear hat hwc
      go_wp2
      go_ret
      first
        | exact ⟨ret_int (HV7.out (by assumption)).symm, HB2.out⟩
        | exact ⟨ret_int (HV0.out (by assumption)).symm, HB2.out⟩
  · have hd : decide (x.i < cn) = false := by simpa using hlt
    have HV := hid (show exportEP m k = 6 by rw [HE.out, if_neg hlt])
    rw [hd]
    go_wp2
    go_ret
    exact ⟨ret_int HV.out.symm, HB2.out⟩
def startEP (m : Md) : Int := if (m.typeOf m.sn.toNat).2 = false then 6 else if (m.typeOf m.sn.toNat).1.1 = 0 ∧ (m.typeOf m.sn.toNat).1.2 = 0 then 0 else 213
set_option maxRecDepth 100000 in
set_option maxHeartbeats 2000000 in
theorem startError_m (m : Md) (w : World) (hm : ModAt w.heap.size w m) (hf : m.fits) (hsn : 0 ≤ m.sn ∧ m.sn < 4294967296) :
    Calls Tryz.prog 145 #[.agg m.v] w fun e w' => e = .returned (.int .i64 (startEP m)) ∧ Below w.heap.size w w' := by
  obtain ⟨W0, hW0⟩ : ∃ W0, W0 = w.alloc (.cells m.v 32) := ⟨_, rfl⟩
  have hb0 : Below w.heap.size w W0 := by rw [hW0]; exact thenA (Below.refl _ _) _
  have HX : Hid (BoxAt W0 w.heap.size m.v) := by rw [hW0]; exact BoxAt.made w m.v _
  have HB := hid hb0
  have C := hid (TypeOf_any m m.sn.toNat W0 (hm.on hb0) hf (by omega))
  have HE : Hid (startEP m = if (m.typeOf m.sn.toNat).2 = false then 6 else if (m.typeOf m.sn.toNat).1.1 = 0 ∧ (m.typeOf m.sn.toNat).1.2 = 0 then 0 else 213) := rfl
  rw [Int.toNat_of_nonneg hsn.1] at C
  obtain ⟨q, hq⟩ : ∃ q, m.typeOf m.sn.toNat = q := ⟨_, rfl⟩
  rw [hq] at C HE
  obtain ⟨⟨t1, t2⟩, tb⟩ := q
  simp only at C HE
  have q1 := Kind.eqType
  have q2 := Kind.guardType
  obtain ⟨v0, v1, v2, v3, v4, v5, v6, v7, v9, v10, hv⟩ : ∃ v0 v1 v2 v3 v4 v5 v6 v7 v9 v10, m.v = #[v0, v1, v2, v3, v4, v5, v6, v7, .int .u32 m.sn, v9, v10] := ⟨_, _, _, _, _, _, _, _, _, _, rfl⟩
  rw [hv] at hW0 C HX ⊢
  obtain ⟨n0, n1, n2, n3, n4, n5, n6, n7, n8, n9, n10⟩ := BoxAt.mod HX.out
  clear hm hf hsn hb0 hq hv HX
  go_enter Tryz.func145, Tryz.ntmps145
  go_upto_region 1 with fail
  rw [← hW0]
  clear hW0
  go_wp2_with fail
  refine C.out.mono ?_
  rintro e1 w1 ⟨rfl, hb1⟩
  have HB1 := hid (HB.out.trans (hb1.mono HB.out.size))
  clear C hb1 HB n0 n1 n2 n3 n4 n5 n6 n7 n8 n9 n10
  cases tb with
  | false =>
    have HV := hid (show startEP m = 6 by rw [HE.out, if_pos rfl])
    clear HE
    go_wp2
    go_ret
    exact ⟨ret_int HV.out.symm, thenA HB1.out _⟩
  | true =>
    by_cases h0 : t1 = 0
    · subst h0
      by_cases h1 : t2 = 0
      · subst h1
        have HV := hid (show startEP m = 0 by rw [HE.out, if_neg (by simp), if_pos ⟨rfl, rfl⟩])
        clear HE
        go_wp2
        go_ret
        exact ⟨ret_int HV.out.symm, thenA HB1.out _⟩
      · have HV := hid (show startEP m = 213 by rw [HE.out, if_neg (by simp), if_neg (fun h => h1 h.2)])
        have h1b : (t2 == 0) = false := by simpa using h1
        clear HE
        go_wp2
        go_ret
        exact ⟨ret_int HV.out.symm, thenA HB1.out _⟩
    · have HV := hid (show startEP m = 213 by rw [HE.out, if_neg (by simp), if_neg (fun h => h0 h.1)])
      have h0b : (t1 == 0) = false := by simpa using h0
      clear HE
      go_wp2
      go_ret
      exact ⟨ret_int HV.out.symm, thenA HB1.out _⟩
def dataEP (m : Md) (l : Il) : Int := if m.me.length = 0 then 6 else (constP l).2
set_option maxHeartbeats 1000000 in
theorem dataError_m (m : Md) (d : Da) (w : World) (hf : m.fits) (hL : ListAt w.heap.size w d.l.a d.l.t.len d.l.t) (hn : d.l.t.len ≤ 140737488351232) (hct : d.l.t.count ≤ 4611686018427387900) (hT : Nams w) :
    Calls Tryz.prog 150 #[.agg m.v, .agg #[.slice d.l.a d.l.t.len d.l.c, .slice d.ba d.bs.length d.bc]] w fun e w' => e = .returned (.int .i64 (dataEP m d.l.t)) ∧ Below w.heap.size w w' := by
  obtain ⟨W0, hW0⟩ : ∃ W0, W0 = (w.alloc (.cells m.v 32)).alloc (.cells #[.slice d.l.a d.l.t.len d.l.c, .slice d.ba d.bs.length d.bc] 88) := ⟨_, rfl⟩
  have hb0 : Below w.heap.size w W0 := by rw [hW0]; exact thenA (thenA (Below.refl _ _) _) _
  have hx : BoxAt W0 w.heap.size m.v := by rw [hW0]; exact (BoxAt.made w m.v _).keep (belowAlloc _ _)
  have d0 : W0.cell? ⟨w.heap.size + 1, 0, none⟩ = some (.slice d.l.a d.l.t.len d.l.c) := by rw [hW0]; simp [go_sem]
  have m4 : W0.cell? ⟨w.heap.size, 4, none⟩ = some (.slice m.me'.a m.me.length m.me'.c) := hx 4 _ rfl
  have HB := hid hb0
  have C := hid (constError_m d.l.t d.l.a d.l.t.len d.l.c W0 (hL.on hb0) hn hct (hT.below hb0))
  have HE : Hid (dataEP m d.l.t = if m.me.length = 0 then 6 else (constP d.l.t).2) := rfl
  obtain ⟨q, hq⟩ : ∃ q, (constP d.l.t).2 = q := ⟨_, rfl⟩
  rw [hq] at C HE
  have bme := hf.me
  unfold Md.v at hW0 ⊢
  clear hf hL hn hct hT hb0 hx hq
  by_cases h0 : m.me.length = 0
  · have HV := hid (show dataEP m d.l.t = 6 by rw [HE.out, if_pos h0])
    rw [h0] at m4 hW0 ⊢
    clear HE C h0
    go_enter Tryz.func150, Tryz.ntmps150
    go_upto_region 1 with fail
    rw [← hW0]
    clear hW0
    go_wp2
    go_ret
    exact ⟨ret_int HV.out.symm, HB.out⟩
  · have HV := hid (show dataEP m d.l.t = q by rw [HE.out, if_neg h0])
    have h0b : (((m.me.length : Nat) : Int) == 0) = false := by simpa using h0
    have h0i : ¬ ((m.me.length : Nat) : Int) = 0 := by omega
    clear HE h0
    go_enter Tryz.func150, Tryz.ntmps150
    go_upto_region 1 with fail
    rw [← hW0]
    clear hW0
    go_wp2_with fail
    refine C.out.mono ?_
    rintro e1 w1 ⟨rfl, hb1⟩
    have HB1 := hid (HB.out.trans (hb1.mono HB.out.size))
    clear C hb1 HB
    go_wp2
    go_ret
    exact ⟨ret_int HV.out.symm, HB1.out⟩
set_option maxHeartbeats 1000000 in
theorem idx_u32 (l : List Int) (a : Option Addr) (n c : Nat) (w : World) (hn : l.length = n) (hr : TagsAt w.heap.size w a l) (hlen : n ≤ 140737488351232) (g : Nat) (lb : Array Value)
    (eg : ∀ args w, (callFunc g args).run Tryz.prog w = .ok (.enter g args) w) (p : Int → Bool)
    (hp : ∀ W x, x ∈ l → Below w.heap.size w W → Calls Tryz.prog g (#[.int .u32 x] ++ lb) W fun e w' => e = .returned (.bool (p x)) ∧ Below W.heap.size W w') :
    Calls Tryz.prog 215 #[.slice a n c, .func (.func g) #[] lb] w fun e w' => e = .returned (.int .i64 (idxP p l)) ∧ Below w.heap.size w w' := by
  have HR := hid hr
  have HP := hid hp
  have HN := hid hn
  clear hr hp hn
  go_enter Tryz.func215, Tryz.ntmps215
  go_wp2
  go_loopw [5, 8] (fun _ vi wr => ∃ k : Nat, vi = .int .i64 k ∧ k ≤ n ∧ Hid (Below w.heap.size w wr) ∧ Hid (∀ j (hj : j < l.length), j < k → p l[j] = false)) (fun _ vi _ => n - (intOf vi).toNat)
  case atStart => exact ⟨0, rfl, Nat.zero_le _, Below.refl _ _, fun j _ h => absurd h (Nat.not_lt_zero _)⟩
  case round =>
    obtain ⟨k, rfl, hk, HB, HA⟩ := hrel
    by_cases hlt : k < n
    · have hkl : k < l.length := by rw [HN.out]; exact hlt
      have hcell : ∃ b off, a = some ⟨b, off, none⟩ ∧ wr.cell? ⟨b, off + k, none⟩ = some (.int .u32 l[k]) := by
        rcases HR.out with h0 | ⟨b, off, ha, hb, hc⟩
        · rw [h0] at hkl; simp at hkl
        · refine ⟨b, off, ha, ?_⟩
          have := (HB.out.cell (p := ⟨b, off + k, none⟩) hb).trans (hc k hkl)
          rw [show l.getD k 0 = l[k] by simp [hkl]] at this
          exact this
      obtain ⟨b, off, rfl, c0⟩ := hcell
      have hx : l[k] ∈ l := List.getElem_mem hkl
      have C := hid (HP.out wr l[k] hx HB.out)
      obtain ⟨x, hxe⟩ : ∃ x, l[k] = x := ⟨_, rfl⟩
      rw [hxe] at c0 C
      have HX := hid hxe
      have hki : (k : Int) < (n : Int) := by omega
      obtain ⟨q, hq⟩ : ∃ q, p x = q := ⟨_, rfl⟩
      rw [hq] at C
      have HQ := hid hq
      clear hq hxe hx HR HP
      cases q with
      | true =>
        go_wp2_with (go_at_fn g; refine C.out.mono ?_; rintro e w' ⟨rfl, hb'⟩)
        go_ret
        exact ⟨ret_int (idxP_hit hkl (by rw [HX.out]; exact HQ.out) HA.out).symm, HB.out.trans (hb'.mono HB.out.size)⟩
      | false =>
        go_wp2_with (go_at_fn g; refine C.out.mono ?_; rintro e w' ⟨rfl, hb'⟩)
        go_roundw
        case rel =>
          refine ⟨k + 1, by go_num, by omega, HB.out.trans (hb'.mono HB.out.size), hid fun j hj hjk => ?_⟩
          by_cases e : j = k
          · subst e; rw [HX.out]; exact HQ.out
          · exact HA.out j hj (by omega)
        case measure => simp [intOf]; omega
    · obtain rfl : k = n := by omega
      go_wp2
      go_ret
      exact ⟨ret_int (idxP_miss (fun j hj => HA.out j hj (by rw [← HN.out]; exact hj))).symm, HB.out⟩
set_option maxHeartbeats 400000 in
theorem any_u32 (l : List Int) (a : Option Addr) (n c : Nat) (w : World) (hn : l.length = n) (hr : TagsAt w.heap.size w a l) (hlen : n ≤ 140737488351232) (g : Nat) (lb : Array Value)
    (eg : ∀ args w, (callFunc g args).run Tryz.prog w = .ok (.enter g args) w) (p : Int → Bool)
    (hp : ∀ W x, x ∈ l → Below w.heap.size w W → Calls Tryz.prog g (#[.int .u32 x] ++ lb) W fun e w' => e = .returned (.bool (p x)) ∧ Below W.heap.size W w') :
    Calls Tryz.prog 193 #[.slice a n c, .func (.func g) #[] lb] w fun e w' => e = .returned (.bool (l.any p)) ∧ Below w.heap.size w w' := by
  have C := hid (idx_u32 l a n c w hn hr hlen g lb eg p hp)
  rw [← idxP_any]
  have hb := idxP_bounds p l
  obtain ⟨i, hi⟩ : ∃ i, idxP p l = i := ⟨_, rfl⟩
  rw [hi] at C hb ⊢
  have HB := hid hb
  clear hi hb hn hr hp
  go_enter Tryz.func193, Tryz.ntmps193
  go_wp2_with fail
  refine C.out.mono ?_
  rintro e w1 ⟨rfl, hb1⟩
  go_wp2
  go_ret
  exact ⟨rfl, hb1⟩
theorem elem1_m (g : Nat) (x cn : Int) (hx : 0 ≤ x ∧ x < 4294967296) (hcn : 0 ≤ cn ∧ cn ≤ 140737488351232) (w : World) (hc : w.cell? ⟨g, 0, none⟩ = some (.int .i64 cn)) :
    Calls Tryz.prog 194 #[.int .u32 x, .pointer (some ⟨g, 0, none⟩)] w fun e w' => e = .returned (.bool (!decide (x < cn))) ∧ Below w.heap.size w w' := by
  have C := hid (has_any cn x hcn hx w)
  clear hx hcn
  go_enter Tryz.func194, Tryz.ntmps194
  go_wp2_with fail
  refine C.out.mono ?_
  rintro e1 w1 ⟨rfl, rfl⟩
  clear C
  go_wp2
  go_ret
  exact ⟨rfl, Below.refl _ _⟩
def elemEP (m : Md) (e : El) : Int := if m.tb.length = 0 then 6 else if (constP e.l.t).2 ≠ 0 then (constP e.l.t).2 else if e.fs.any (fun x => !decide (x < countP m 0)) then 6 else 0
set_option maxRecDepth 100000 in
set_option maxHeartbeats 2000000 in
theorem elemError_m (m : Md) (x : El) (w : World) (hf : m.fits) (h1 : m.im.length ≤ 16384) (h2 : m.fu.length ≤ 16384) (hL : ListAt w.heap.size w x.l.a x.l.t.len x.l.t) (hn : x.l.t.len ≤ 140737488351232) (hct : x.l.t.count ≤ 4611686018427387900) (hT : Nams w)
    (hfs : TagsAt w.heap.size w x.fa x.fs) (hfl : x.fs.length ≤ 140737488351232) (hfr : ∀ z ∈ x.fs, 0 ≤ z ∧ z < 4294967296) :
    Calls Tryz.prog 147 #[.agg m.v, .agg #[.slice x.l.a x.l.t.len x.l.c, .slice x.fa x.fs.length x.fc]] w fun e w' => e = .returned (.int .i64 (elemEP m x)) ∧ Below w.heap.size w w' := by
  obtain ⟨W0, hW0⟩ : ∃ W0, W0 = (w.alloc (.cells m.v 32)).alloc (.cells #[.slice x.l.a x.l.t.len x.l.c, .slice x.fa x.fs.length x.fc] 109) := ⟨_, rfl⟩
  have hb0 : Below w.heap.size w W0 := by rw [hW0]; exact thenA (thenA (Below.refl _ _) _) _
  have hx : BoxAt W0 w.heap.size m.v := by rw [hW0]; exact (BoxAt.made w m.v _).keep (belowAlloc _ _)
  have d0 : W0.cell? ⟨w.heap.size + 1, 0, none⟩ = some (.slice x.l.a x.l.t.len x.l.c) := by rw [hW0]; simp [go_sem]
  have D1 : Hid (W0.cell? ⟨w.heap.size + 1, 1, none⟩ = some (.slice x.fa x.fs.length x.fc)) := by rw [hW0]; exact hid (by simp [go_sem])
  have m3 : W0.cell? ⟨w.heap.size, 3, none⟩ = some (.slice m.tb'.a m.tb.length m.tb'.c) := hx 3 _ rfl
  have HB := hid hb0
  have HX := hid hx
  have C := hid (constError_m x.l.t x.l.a x.l.t.len x.l.c W0 (hL.on hb0) hn hct (hT.below hb0))
  have HE : Hid (elemEP m x = if m.tb.length = 0 then 6 else if (constP x.l.t).2 ≠ 0 then (constP x.l.t).2 else if x.fs.any (fun z => !decide (z < countP m 0)) then 6 else 0) := rfl
  obtain ⟨q, hq⟩ : ∃ q, (constP x.l.t).2 = q := ⟨_, rfl⟩
  rw [hq] at C HE
  have btb := hf.tb
  have CC := hid (fun w' => count_m m 0 hf h1 h2 w')
  have hcr := countP_range m hf h1 h2 0
  have HFS := hid hfs
  have HFR := hid hfr
  obtain ⟨cn, hcn⟩ : ∃ c, countP m 0 = c := ⟨_, rfl⟩
  rw [hcn] at CC HE hcr
  have HCR := hid hcr
  obtain ⟨v0, v1, v2, v4, v5, v6, v7, v8, v9, v10, hv⟩ : ∃ v0 v1 v2 v4 v5 v6 v7 v8 v9 v10, m.v = #[v0, v1, v2, .slice m.tb'.a m.tb.length m.tb'.c, v4, v5, v6, v7, v8, v9, v10] := ⟨_, _, _, _, _, _, _, _, _, _, rfl⟩
  rw [hv] at hW0 HX CC ⊢
  clear hf h1 h2 hL hn hct hT hb0 hx hq hfs hfr hcr hcn hv
  by_cases h0 : m.tb.length = 0
  · have HV := hid (show elemEP m x = 6 by rw [HE.out, if_pos h0])
    rw [h0] at m3 hW0 HX CC ⊢
    clear HE C CC HX D1 h0
    go_enter Tryz.func147, Tryz.ntmps147
    go_upto_region 1 with fail
    rw [← hW0]
    clear hW0
    go_wp2
    go_ret
    exact ⟨ret_int HV.out.symm, HB.out⟩
  have h0b : (((m.tb.length : Nat) : Int) == 0) = false := by simpa using h0
  have h0i : ¬ ((m.tb.length : Nat) : Int) = 0 := by omega
  by_cases h3 : q = 0
  · subst h3
    have HV := hid (show elemEP m x = if x.fs.any (fun z => !decide (z < cn)) then 6 else 0 by rw [HE.out, if_neg h0, if_neg (by simp)])
    clear HE h0
    go_enter Tryz.func147, Tryz.ntmps147
    go_upto_region 1 with fail
    rw [← hW0]
    clear hW0
    go_wp2_with fail
    refine C.out.mono ?_
    rintro e1 w1 ⟨rfl, hb1⟩
    have HB1 := hid (HB.out.trans (hb1.mono HB.out.size))
    have hX1 := HX.out.keep hb1
    have D1' := hid (Go.Proofs.YtckdnhafookcgaaGreatDoor.keep hb1 D1.out)
    obtain ⟨n0, n1, n2, n3, n4, n5, n6, n7, n8, n9, n10⟩ := BoxAt.mod hX1
    clear C hb1 HB d0 m3 hX1 HX D1
    go_wp2_with fail
    refine (CC.out _).mono ?_
    rintro e2 w2 ⟨rfl, hb2⟩
    have HB2 := hid (HB1.out.trans (hb2.mono HB1.out.size))
    have D2 := hid (Go.Proofs.YtckdnhafookcgaaGreatDoor.keep hb2 D1'.out)
    clear CC hb2 HB1 D1' n0 n1 n2 n3 n4 n5 n6 n7 n8 n9 n10
    go_upto_region 7 with fail
    have hA : Below w2.heap.size w2 (w2.alloc (.cells #[.int .i64 cn] 3)) := (Below.refl _ _).alloc (Nat.le_refl _) _
    have hcc : (w2.alloc (.cells #[.int .i64 cn] 3)).cell? ⟨w2.heap.size, 0, none⟩ = some (.int .i64 cn) := by simp [go_sem]
    have d1 := Go.Proofs.YtckdnhafookcgaaGreatDoor.keep hA D2.out
    have HB3 := hid (HB2.out.trans (hA.mono HB2.out.size))
    obtain ⟨w3, hw3⟩ : ∃ u, u = w2.alloc (.cells #[.int .i64 cn] 3) := ⟨_, rfl⟩
    rw [← hw3] at hcc d1 HB3 ⊢
    obtain ⟨gc, hgc⟩ : ∃ gc, gc = w2.heap.size := ⟨_, rfl⟩
    rw [← hgc] at hcc ⊢
    have HCC := hid hcc
    clear hw3 hgc hA hcc HB2 D2
    have hmf : ∀ (fn : Fn) (first cap : Array Value) (w : World), (Instr.makeFunc fn first cap).run Tryz.prog w = .ok (.func fn first cap) w := fun fn first cap w => by simp [Instr.makeFunc, go_sem]
    have CA := hid (any_u32 x.fs x.fa x.fs.length x.fc w3 rfl ((HFS.out.below HB3.out).more HB3.out.size) hfl 194 #[.pointer (some ⟨gc, 0, none⟩)] (enters_of Tryz.func194 (by kernel_rfl) rfl) (fun z => !decide (z < cn))
      (fun W z hz hb => elem1_m gc z cn (HFR.out z hz) HCR.out W (Go.Proofs.YtckdnhafookcgaaGreatDoor.keep hb HCC.out)))
    obtain ⟨r, hr⟩ : ∃ r, x.fs.any (fun z => !decide (z < cn)) = r := ⟨_, rfl⟩
    rw [hr] at CA HV
    clear hr
    go_wp2_with fail
    refine CA.out.mono ?_
    rintro e4 w4 ⟨rfl, hb4⟩
    have HB4 := hid (HB3.out.trans (hb4.mono HB3.out.size))
    clear CA hb4 HB3 d1 hmf
    cases r
    all_goals
      go_wp2
      go_ret
      exact ⟨ret_int (by rw [HV.out]; rfl), HB4.out⟩
  · have HV := hid (show elemEP m x = q by rw [HE.out, if_neg h0, if_pos h3])
    have h3b : (q == 0) = false := by simpa using h3
    clear HE h0 CC HX D1
    go_enter Tryz.func147, Tryz.ntmps147
    go_upto_region 1 with fail
    rw [← hW0]
    clear hW0
    go_wp2_with fail
    refine C.out.mono ?_
    rintro e1 w1 ⟨rfl, hb1⟩
    have HB1 := hid (HB.out.trans (hb1.mono HB.out.size))
    clear C hb1 HB
    go_wp2
    go_ret
    exact ⟨ret_int HV.out.symm, HB1.out⟩
end Go.Proofs.YtckdnhafookcgaaGreatDoor.Val

namespace Go.Proofs.YtckdnhafookcgaaGreatDoor.Mem
open Go.RowKit
open Go.Maps (Keyed int_keyed IsMap)
set_option linter.unusedVariables false

/-- A pointer to a page, as the datum of a number. -/
def ptrElem (v : Value) : Option (DataW Unit × List MemPlace) :=
  match v with
  | .pointer none => some (.nil, [])
  | .pointer (some ⟨g, 0, none⟩) => some (.lit (.int .i64 g), [])
  | _ => none
theorem ptrElem_inv {v : Value} {d : DataW Unit} {ps : List MemPlace} (h : ptrElem v = some (d, ps)) : (v = .pointer none ∧ d = .nil) ∨ ∃ g : Nat, v = .pointer (some ⟨g, 0, none⟩) ∧ d = .lit (.int .i64 g) := by
  unfold ptrElem at h
  split at h
  · cases h; exact .inl ⟨rfl, rfl⟩
  · cases h; exact .inr ⟨_, rfl, rfl⟩
  · cases h
theorem keyed : Keyed Tryz.prog 136 := int_keyed Tryz.underlying136
/-- Is it a block of a memory's own? -/
def isOwn : Obj → Bool
  | .map _ _ => true
  | .cells _ t _ => t == 146 || t == 187
  | _ => false
/-- All stands but what is a memory's own. -/
structure Keep (W W' : World) : Prop where
  os : W'.os = W.os
  tape : W'.tape = W.tape
  output : W'.output = W.output
  size : W.heap.size ≤ W'.heap.size
  block : ∀ (j : Nat) (o : Obj), W.heap[j]? = some o → isOwn o = false → W'.heap[j]? = some o
theorem Keep.refl (W : World) : Keep W W := ⟨rfl, rfl, rfl, Nat.le_refl _, fun _ _ h _ => h⟩
theorem Keep.trans {a b c : World} (h : Keep a b) (g : Keep b c) : Keep a c :=
  ⟨g.os.trans h.os, g.tape.trans h.tape, g.output.trans h.output, Nat.le_trans h.size g.size, fun j o hj ho => g.block j o (h.block j o hj ho) ho⟩
theorem Keep.of_below {W W' : World} (h : Below W.heap.size W W') : Keep W W' :=
  ⟨h.os, h.tape, h.output, h.size, fun j o hj _ => (h.block j (Array.getElem?_eq_some_iff.1 hj).1).trans hj⟩
theorem Keep.of_save {W W' : World} {g : Nat} {o : Obj} (h : Save g W W') (hg : W.heap[g]? = some o) (ho : isOwn o = true) : Keep W W' :=
  ⟨h.os, h.tape, h.output, h.size, fun j o' hj ho' => (h.block j (Array.getElem?_eq_some_iff.1 hj).1 (fun e => by
    subst e; rw [hg] at hj; cases hj; rw [ho] at ho'; cases ho')).trans hj⟩
theorem Keep.cells {W W' : World} (h : Keep W W') {g : Nat} {C : Array Value} {t : TypeId} {m : Nat × Nat} (hg : W.heap[g]? = some (.cells C t m)) (ht : (t == 146 || t == 187) = false) : W'.heap[g]? = some (.cells C t m) :=
  h.block g _ hg ht
/-- A page: its bytes. -/
def PageAt (W : World) (g : Nat) (f : Nat → Int) (k : Nat) : Prop := ∃ L : List Int, W.heap[g]? = some (.cells (L.map (Value.int .u8)).toArray 187 (0, 0)) ∧ L.length = 65536 ∧ ∀ i, i < 65536 → L.getD i 0 = f (k * 65536 + i)
/-- A memory. -/
structure MemAt (B : Nat) (W : World) (p mb K : Nat) (D : DataW Unit) (m : Mm) : Prop where
  box : W.heap[p]? = some (.cells #[.pointer (some ⟨p, 0, none⟩), .int .u32 m.n, .int .u32 m.most, .map (some mb)] 146 (0, 0))
  bp : B ≤ p
  bm : B ≤ mb
  map : W.ownsMap Tryz.prog 136 ptrElem mb K D
  isMap : IsMap D
  ok : m.ok
  at_ : ∀ k : Nat, (D.atKey (.int .u64 k) .nil = .nil ∧ ∀ i, i < 65536 → m.f (k * 65536 + i) = 0) ∨ ∃ g : Nat, B ≤ g ∧ D.atKey (.int .u64 k) .nil = .lit (.int .i64 g) ∧ PageAt W g m.f k
  apart : ∀ k k' g : Nat, D.atKey (.int .u64 k) .nil = .lit (.int .i64 g) → D.atKey (.int .u64 k') .nil = .lit (.int .i64 g) → k = k'
theorem MemAt.mblock {B : Nat} {W : World} {p mb K : Nat} {D : DataW Unit} {m : Mm} (h : MemAt B W p mb K D m) : ∃ es ck, W.heap[mb]? = some (.map es ck) := by
  obtain ⟨es, ck, hh, _⟩ := h.map
  exact ⟨es, ck, hh⟩
theorem MemAt.below {B : Nat} {W W' : World} {p mb K : Nat} {D : DataW Unit} {m : Mm} (h : MemAt B W p mb K D m) (hb : Below W.heap.size W W') : MemAt B W' p mb K D m := by
  refine ⟨(hb.block p (Array.getElem?_eq_some_iff.1 h.box).1).trans h.box, h.bp, h.bm, ?_, h.isMap, h.ok, fun k => ?_, h.apart⟩
  · have hl := World.ownsMap.lt h.map
    obtain ⟨es, ck, hh, r⟩ := h.map
    exact ⟨es, ck, (hb.block mb hl).trans hh, r⟩
  · rcases h.at_ k with h1 | ⟨g, hg, h1, L, h2, h3⟩
    · exact .inl h1
    · exact .inr ⟨g, hg, h1, L, (hb.block g (Array.getElem?_eq_some_iff.1 h2).1).trans h2, h3⟩
/-- A block that is none of the memory's own is written. -/
theorem MemAt.save {B : Nat} {W W' : World} {p mb K g : Nat} {D : DataW Unit} {m : Mm} (h : MemAt B W p mb K D m) {o : Obj} (hs : Save g W W') (hg : W.heap[g]? = some o) (ho : isOwn o = false) : MemAt B W' p mb K D m := by
  have ne : ∀ (j : Nat) (o' : Obj), W.heap[j]? = some o' → isOwn o' = true → W'.heap[j]? = some o' := fun j o' hj ho' => (hs.block j (Array.getElem?_eq_some_iff.1 hj).1 (fun e => by subst e; rw [hg] at hj; cases hj; rw [ho] at ho'; cases ho')).trans hj
  refine ⟨ne _ _ h.box rfl, h.bp, h.bm, ?_, h.isMap, h.ok, fun k => ?_, h.apart⟩
  · obtain ⟨es, ck, hh, r⟩ := h.map
    exact ⟨es, ck, ne _ _ hh rfl, r⟩
  · rcases h.at_ k with h1 | ⟨q, hq, h1, L, h2, h3⟩
    · exact .inl h1
    · exact .inr ⟨q, hq, h1, L, ne _ _ h2 rfl, h3⟩
/-- A page more, of noughts. -/
theorem MemAt.fresh {B : Nat} {W W' : World} {p mb K k g : Nat} {D : DataW Unit} {m : Mm} (h : MemAt B W p mb K D m) (h0 : D.atKey (.int .u64 k) .nil = .nil) (hgB : B ≤ g)
    (hgn : ∀ k' g' : Nat, D.atKey (.int .u64 k') .nil = .lit (.int .i64 g') → g' ≠ g)
    (hp : PageAt W g (fun _ => 0) k) (hmap : W'.ownsMap Tryz.prog 136 ptrElem mb (K + 1) (D.put (.int .u64 k) (.lit (.int .i64 g)))) (hs : Save mb W W') (hk : WideAt.IsKeyLit (.int .u64 k)) :
    MemAt B W' p mb (K + 1) (D.put (.int .u64 k) (.lit (.int .i64 g))) m := by
  obtain ⟨es, ck, hmb⟩ := h.mblock
  have ne : ∀ (j : Nat) (C : Array Value) (t : TypeId) (q : Nat × Nat), W.heap[j]? = some (.cells C t q) → W'.heap[j]? = some (.cells C t q) := fun j C t q hj => (hs.block j (Array.getElem?_eq_some_iff.1 hj).1 (fun e => by
    subst e; rw [hmb] at hj; cases hj)).trans hj
  have hz : ∀ i, i < 65536 → m.f (k * 65536 + i) = 0 := by
    rcases h.at_ k with ⟨_, h1⟩ | ⟨g', _, h1, _⟩
    · exact h1
    · rw [h0] at h1; cases h1
  have oth : ∀ k' : Nat, k' ≠ k → (D.put (.int .u64 k) (.lit (.int .i64 g))).atKey (.int .u64 k') .nil = D.atKey (.int .u64 k') .nil := fun k' hk' => Maps.atKey_put_other (fun e => hk' (by cases e; rfl)) _ _
  have same : (D.put (.int .u64 k) (.lit (.int .i64 g))).atKey (.int .u64 k) .nil = .lit (.int .i64 g) := Maps.atKey_put_same h.isMap hk _ _
  refine ⟨ne _ _ _ _ h.box, h.bp, h.bm, hmap, h.isMap.put _ _, h.ok, fun k' => ?_, fun a b q ha hb => ?_⟩
  · by_cases e : k' = k
    · subst e
      obtain ⟨L, h1, h2, h3⟩ := hp
      exact .inr ⟨g, hgB, same, L, ne _ _ _ _ h1, h2, fun i hi => (h3 i hi).trans (hz i hi).symm⟩
    · rw [oth k' e]
      rcases h.at_ k' with h1 | ⟨q, hq, h1, L, h2, h3⟩
      · exact .inl h1
      · exact .inr ⟨q, hq, h1, L, ne _ _ _ _ h2, h3⟩
  · by_cases ea : a = k
    · by_cases eb : b = k
      · rw [ea, eb]
      · subst ea
        rw [same] at ha; rw [oth b eb] at hb; cases ha
        exact absurd rfl (hgn _ _ hb)
    · by_cases eb : b = k
      · subst eb
        rw [same] at hb; rw [oth a ea] at ha; cases hb
        exact absurd rfl (hgn _ _ ha)
      · rw [oth a ea] at ha; rw [oth b eb] at hb
        exact h.apart a b q ha hb
/-- A page is written. -/
theorem MemAt.written {B : Nat} {W W' : World} {p mb K k g : Nat} {D : DataW Unit} {m : Mm} {f' : Nat → Int} (h : MemAt B W p mb K D m) (hg : D.atKey (.int .u64 k) .nil = .lit (.int .i64 g)) (hs : Save g W W') (hp : PageAt W' g f' k)
    (hf : ∀ a, a < k * 65536 ∨ (k + 1) * 65536 ≤ a → f' a = m.f a) (hb : ∀ a, 0 ≤ f' a ∧ f' a < 256) : MemAt B W' p mb K D { m with f := f' } := by
  have hpg : PageAt W g m.f k := by
    rcases h.at_ k with ⟨h1, _⟩ | ⟨g', _, h1, h2⟩
    · rw [hg] at h1; cases h1
    · rw [hg] at h1
      have : g = g' := by simp at h1; omega
      rw [this]; exact h2
  obtain ⟨L0, hL0, _⟩ := hpg
  have ne : ∀ (j : Nat) (o' : Obj), W.heap[j]? = some o' → j ≠ g → W'.heap[j]? = some o' := fun j o' hj hne => (hs.block j (Array.getElem?_eq_some_iff.1 hj).1 hne).trans hj
  refine ⟨ne _ _ h.box (fun e => ?_), h.bp, h.bm, ?_, h.isMap, ⟨h.ok.n, h.ok.most, hb⟩, fun k' => ?_, h.apart⟩
  · have := h.box
    rw [e, hL0] at this
    simp at this
  · obtain ⟨es, ck, hh, r⟩ := h.map
    exact ⟨es, ck, ne _ _ hh (fun e => by rw [e, hL0] at hh; cases hh), r⟩
  · by_cases e : k' = k
    · subst e
      rcases h.at_ k' with ⟨h1, _⟩ | ⟨g', hB, h1, _⟩
      · rw [hg] at h1; cases h1
      · rw [hg] at h1
        have e2 : g = g' := by simp at h1; omega
        subst e2
        exact .inr ⟨g, hB, hg, hp⟩
    · rcases h.at_ k' with ⟨h1, h2⟩ | ⟨q, hq, h1, L, h2, h3, h4⟩
      · exact .inl ⟨h1, fun i hi => (hf _ (by omega)).trans (h2 i hi)⟩
      · refine .inr ⟨q, hq, h1, L, ne _ _ h2 (fun e2 => ?_), h3, fun i hi => (h4 i hi).trans (hf _ (by omega)).symm⟩
        subst e2
        exact e (h.apart _ _ _ h1 hg)
end Go.Proofs.YtckdnhafookcgaaGreatDoor.Mem

namespace Go.Proofs.YtckdnhafookcgaaGreatDoor.Mem
open Go.RowKit Go.Proofs.YtckdnhafookcgaaGreatDoor.Instr Go.Proofs.YtckdnhafookcgaaGreatDoor.Num
set_option linter.unusedVariables false

theorem ptrInfo : ∃ j, Tryz.prog.info? 146 = some j := info_of_underlying Tryz.underlying146
theorem eq_same (a : Addr) (w : World) : (binOp .eql 53 (.pointer (some a)) (.pointer (some a))).run Tryz.prog w = .ok (.bool true) w := by
  obtain ⟨j, hj⟩ := ptrInfo
  exact run_eql_ptr_same w a Tryz.underlying53 hj
set_option maxRecDepth 100000 in
theorem made_yes (p : Nat) (w : World) (c : w.cell? ⟨p, 0, none⟩ = some (.pointer (some ⟨p, 0, none⟩))) :
    Calls Tryz.prog 67 #[.pointer (some ⟨p, 0, none⟩)] w fun e w' => e = .returned (.bool true) ∧ w = w' := by
  have q1 := eq_same
  go_enter Tryz.func67, Tryz.ntmps67
  go_wp2
  go_ret
  exact ⟨rfl, rfl⟩
theorem has_any (p : Nat) (n s k : Int) (w : World) (c : w.cell? ⟨p, 1, none⟩ = some (.int .u32 n)) (hn : 0 ≤ n ∧ n ≤ 65536) (hs : 0 ≤ s ∧ s ≤ 8589934590) (hk : 0 ≤ k ∧ k ≤ 140737488351232) :
    Calls Tryz.prog 68 #[.pointer (some ⟨p, 0, none⟩), .int .u64 s, .int .u64 k] w fun e w' => e = .returned (.bool (decide (s + k ≤ n * 65536))) ∧ w = w' := by
  obtain ⟨n0, n1⟩ := hn
  obtain ⟨s0, s1⟩ := hs
  obtain ⟨k0, k1⟩ := hk
  go_enter Tryz.func68, Tryz.ntmps68
  go_wp2
  go_ret
  exact ⟨by simp, rfl⟩
end Go.Proofs.YtckdnhafookcgaaGreatDoor.Mem

namespace Go.Proofs.YtckdnhafookcgaaGreatDoor.Mem
open Go.RowKit
open Go.Maps (Keyed int_keyed IsMap)
set_option linter.unusedVariables false

theorem save_setRow (w : World) (g : Nat) (cs : Array Value) : Save g w (w.setRow g cs) :=
  ⟨rfl, rfl, rfl, by simp [World.setRow], fun j _ hj => setRow_other w g j cs (by omega)⟩
theorem infoB1 : (Tryz.prog.info? 5).map (·.size) = some 1 := by kernel_rfl
section
variable {ops : Array Oper} {rest : List Oper} {o : Oper} {act : Act} {w : World}
/-- The row behind a copy. -/
def over (R xs : List Int) (off : Nat) : List Int := R.take off ++ xs ++ R.drop (off + xs.length)
theorem over_length {R xs : List Int} {off : Nat} (h : off + xs.length ≤ R.length) : (over R xs off).length = R.length := by
  simp [over]; omega
theorem over_getD {R xs : List Int} {off : Nat} (h : off + xs.length ≤ R.length) (i : Nat) : (over R xs off).getD i 0 = if off ≤ i ∧ i < off + xs.length then xs.getD (i - off) 0 else R.getD i 0 := by
  have hl : (R.take off).length = off := by simp; omega
  unfold over
  simp only [List.getD_eq_getElem?_getD]
  by_cases h1 : i < off
  · rw [if_neg (by omega), List.append_assoc, List.getElem?_append_left (by omega), List.getElem?_take_of_lt h1]
  · by_cases h2 : i < off + xs.length
    · rw [if_pos (by omega), List.append_assoc, List.getElem?_append_right (by omega), hl, List.getElem?_append_left (by omega)]
    · rw [if_neg (by omega), List.getElem?_append_right (by simp; omega), List.length_append, hl, List.getElem?_drop]
      congr 2
      omega
theorem copy_run (dT : TypeId) (hu : Tryz.prog.underlying dT = some (.slice 5)) {g off dl dc sl sc q o2 M : Nat} {R xs : List Int} {T : TypeId} (t : TypeId) (hh : w.heap[g]? = some (.cells (R.map (Value.int .u8)).toArray T (0, 0))) (hM : xs.length = M)
    (hmin : M = Nat.min sl dl) (hfit : off + M ≤ R.length) (hsrc : ∀ j, j < M → w.cell? ⟨q, o2 + j, none⟩ = some (.int .u8 (xs.getD j 0))) :
    ∃ w', (Builtin.copy_ #[dT, dT] t #[.slice (some ⟨g, off, none⟩) dl dc, .slice (some ⟨q, o2, none⟩) sl sc]).run Tryz.prog w = .ok (.int .i64 M) w' ∧ w'.heap[g]? = some (.cells ((over R xs off).map (Value.int .u8)).toArray T (0, 0)) ∧ Save g w w' ∧ w'.heap.size = w.heap.size := by
  have hl : (xs.map (Value.int .u8)).length = M := by simp [hM]
  have hr := run_copy_row (P := Tryz.prog) w dT dT t 5 g off dl dc ⟨q, o2, none⟩ sl sc (R.map (Value.int .u8)).toArray T (xs.map (Value.int .u8)) hu infoB1 hh (by rw [hl]; exact hmin) (fun j v hj => by
    have hjl : j < xs.length := by
      rcases Nat.lt_or_ge j xs.length with h | h
      · exact h
      · simp [List.getElem?_eq_none (show (xs.map (Value.int .u8)).length ≤ j by simpa using h)] at hj
    have hplain : (⟨q, o2, none⟩ : Addr).add j = ⟨q, o2 + j, none⟩ := by unfold Addr.add; split <;> simp_all
    rw [hplain, hsrc j (by omega)]
    simp [List.getElem?_eq_getElem hjl] at hj
    subst hj
    simp [List.getD, List.getElem?_eq_getElem hjl]) (by simp; omega) (fun v hv => by
    obtain ⟨z, _, rfl⟩ := List.mem_map.1 hv
    rfl)
  refine ⟨_, hr.trans (by rw [hl]; rfl), ?_, save_setRow _ _ _, by simp [World.setRow]⟩
  rw [setRow_heap w g _ _ T _ hh]
  simp [over, List.map_take, List.map_drop, hM]
theorem copy_wp {K : Act → World → Prop} {Q : Exit → Act → World → Prop} (dT : TypeId) (hu : Tryz.prog.underlying dT = some (.slice 5)) (d s : Operand) (ho : o.op = .call { callee := .builtin .copy, args := #[d, s], argTypes := #[dT, dT] })
    {g off dl dc sl sc q o2 M : Nat} {R xs : List Int} {T : TypeId} (hd : act.eval d = .slice (some ⟨g, off, none⟩) dl dc) (hs : act.eval s = .slice (some ⟨q, o2, none⟩) sl sc) (hh : w.heap[g]? = some (.cells (R.map (Value.int .u8)).toArray T (0, 0))) (hM : xs.length = M)
    (hmin : M = Nat.min sl dl) (hfit : off + M ≤ R.length) (hsrc : ∀ j, j < M → w.cell? ⟨q, o2 + j, none⟩ = some (.int .u8 (xs.getD j 0)))
    (h : ∀ w', Hid (w'.heap[g]? = some (.cells ((over R xs off).map (Value.int .u8)).toArray T (0, 0))) → Save g w w' → w'.heap.size = w.heap.size → K (act.put o.dst (.int .i64 M)) w') : Oper.wp Tryz.prog o act w K Q := by
  obtain ⟨w', hrun, h1, h2, h3⟩ := copy_run (w := w) dT hu o.type hh hM hmin hfit hsrc
  unfold Oper.wp
  simp [execOp, ho, resolve, invoke, builtin, hd, hs, Result.andThen]
  rw [hrun]
  exact h w' h1 h2 h3
theorem copy_list {Q : Exit → Act → World → Prop} (hgd : o.guard = none) (d s : Operand) (ho : o.op = .call { callee := .builtin .copy, args := #[d, s], argTypes := #[73, 73] })
    {g off dl dc sl sc q o2 M : Nat} {R xs : List Int} {T : TypeId} (hd : act.eval d = .slice (some ⟨g, off, none⟩) dl dc) (hs : act.eval s = .slice (some ⟨q, o2, none⟩) sl sc) (hh : w.heap[g]? = some (.cells (R.map (Value.int .u8)).toArray T (0, 0))) (hM : xs.length = M)
    (hmin : M = Nat.min sl dl) (hfit : off + M ≤ R.length) (hsrc : ∀ j, j < M → w.cell? ⟨q, o2 + j, none⟩ = some (.int .u8 (xs.getD j 0)))
    (h : ∀ w', Hid (w'.heap[g]? = some (.cells ((over R xs off).map (Value.int .u8)).toArray T (0, 0))) → Save g w w' → w'.heap.size = w.heap.size → wpList Tryz.prog ops Q rest (act.put o.dst (.int .i64 M)) w') : wpList Tryz.prog ops Q (o :: rest) act w :=
  wpList_plain hgd fun K hK => copy_wp 73 Tryz.underlying73 d s ho hd hs hh hM hmin hfit hsrc fun w' h1 h2 h3 => hK _ _ (h w' h1 h2 h3)
theorem copy_step {K : Act → World → Prop} {Q : Exit → Act → World → Prop} {E : Prop} (hgd : o.guard = none) (d s : Operand) (ho : o.op = .call { callee := .builtin .copy, args := #[d, s], argTypes := #[73, 73] })
    {g off dl dc sl sc q o2 M : Nat} {R xs : List Int} {T : TypeId} (hd : act.eval d = .slice (some ⟨g, off, none⟩) dl dc) (hs : act.eval s = .slice (some ⟨q, o2, none⟩) sl sc) (hh : w.heap[g]? = some (.cells (R.map (Value.int .u8)).toArray T (0, 0))) (hM : xs.length = M)
    (hmin : M = Nat.min sl dl) (hfit : off + M ≤ R.length) (hsrc : ∀ j, j < M → w.cell? ⟨q, o2 + j, none⟩ = some (.int .u8 (xs.getD j 0)))
    (h : ∀ w', Hid (w'.heap[g]? = some (.cells ((over R xs off).map (Value.int .u8)).toArray T (0, 0))) → Save g w w' → w'.heap.size = w.heap.size → K (act.put o.dst (.int .i64 M)) w') :
    if Region.wanted o (yielded ops act.tmps) = true then Oper.wp Tryz.prog o act w K Q else E := by
  have hw : Region.wanted o (yielded ops act.tmps) = true := by simp [Region.wanted, hgd]
  rw [if_pos hw]
  exact copy_wp 73 Tryz.underlying73 d s ho hd hs hh hM hmin hfit hsrc h
end
/-- A page's bytes from one on, as a slice. -/
theorem slice_page (g q : Nat) (hq : q < 65536) (w : World) : (Instr.sliceAt 187 (.pointer (some ⟨g, 0, none⟩)) (some (.int .u64 (q : Int))) none none).run Tryz.prog w = .ok (.slice (some ⟨g, q, none⟩) (65536 - q) (65536 - q)) w := by
  have hl : Tryz.prog.arrayLen 187 = 65536 := by simp [Program.arrayLen, Tryz.underlying187]
  have he : Tryz.prog.elem 187 = 5 := by simp [Program.elem, Tryz.underlying187]
  have hu : Tryz.prog.underlying 187 = some (.array (Tryz.prog.arrayLen 187) (Tryz.prog.elem 187)) := by rw [hl, he]; exact Tryz.underlying187
  rw [run_sliceAt_array_l w 187 ⟨g, 0, none⟩ hu .u64 (q : Int) (by omega) (by rw [hl]; omega), hl, he]
  have hne : ¬ (65536 : Nat) = q := by omega
  have hadd : (⟨g, 0, none⟩ : Addr).add q = ⟨g, q, none⟩ := by unfold Addr.add; split <;> simp_all
  simp [slicedAt, hne, hadd, Tryz.sizeOf5]
theorem MemAt.cells {B : Nat} {W : World} {p mb K : Nat} {D : DataW Unit} {m : Mm} (h : MemAt B W p mb K D m) : W.cell? ⟨p, 0, none⟩ = some (.pointer (some ⟨p, 0, none⟩)) ∧ W.cell? ⟨p, 1, none⟩ = some (.int .u32 m.n) ∧ W.cell? ⟨p, 2, none⟩ = some (.int .u32 m.most) ∧ W.cell? ⟨p, 3, none⟩ = some (.map (some mb)) := by
  have := h.box
  refine ⟨?_, ?_, ?_, ?_⟩ <;> simp [World.cell?, this]
theorem MemAt.page_lt {B : Nat} {W : World} {p mb K : Nat} {D : DataW Unit} {m : Mm} (h : MemAt B W p mb K D m) (k g : Nat) (hg : D.atKey (.int .u64 k) .nil = .lit (.int .i64 g)) : g < W.heap.size := by
  rcases h.at_ k with ⟨h1, _⟩ | ⟨g', _, h1, L, h2, _⟩
  · rw [hg] at h1; cases h1
  · rw [hg] at h1
    have : g = g' := by simp at h1; omega
    rw [this]
    exact (Array.getElem?_eq_some_iff.1 h2).1
theorem wf64 {k : Nat} (h : k < 18446744073709551616) : (Lit.int .u64 (k : Int)).wf = true := by
  have e : IntKind.u64.min = 0 := rfl
  have e2 : IntKind.u64.max = 18446744073709551615 := rfl
  simp [Lit.wf, e, e2]
  omega
/-- A look-up in the map of pages: none, and all noughts; or a page. -/
theorem MemAt.look {B : Nat} {W : World} {p mb K : Nat} {D : DataW Unit} {m : Mm} (h : MemAt B W p mb K D m) (k : Nat) (hk : k < 18446744073709551616) :
    ((Instr.lookup 144 (.map (some mb)) (.int .u64 k) false).run Tryz.prog W = .ok (.pointer none) W ∧ D.atKey (.int .u64 k) .nil = .nil ∧ ∀ i, i < 65536 → m.f (k * 65536 + i) = 0) ∨
    ∃ g, B ≤ g ∧ (Instr.lookup 144 (.map (some mb)) (.int .u64 k) false).run Tryz.prog W = .ok (.pointer (some ⟨g, 0, none⟩)) W ∧ D.atKey (.int .u64 k) .nil = .lit (.int .i64 g) ∧ PageAt W g m.f k := by
  obtain ⟨v, ps, hrun, hv⟩ := h.map.lookup keyed Tryz.underlying144 (z := .pointer none) (by simp [Tryz.zeroValue185]) (zd := .nil) (zp := []) rfl (key := .int .u64 k) (Maps.keyOf_int_mk Tryz.underlying136 (wf64 hk))
  rcases h.at_ k with ⟨h1, h2⟩ | ⟨g, hB, h1, h2⟩
  · rw [h1] at hv
    rcases ptrElem_inv hv with ⟨rfl, _⟩ | ⟨g, _, h3⟩
    · exact .inl ⟨hrun, h1, h2⟩
    · cases h3
  · rw [h1] at hv
    rcases ptrElem_inv hv with ⟨_, h3⟩ | ⟨g', rfl, h3⟩
    · cases h3
    · have : g = g' := by simp at h3; omega
      subst this
      exact .inr ⟨g, hB, hrun, h1, h2⟩
end Go.Proofs.YtckdnhafookcgaaGreatDoor.Mem

namespace Go.Proofs.YtckdnhafookcgaaGreatDoor.Mem
open Go.RowKit
set_option linter.unusedVariables false

def d0 : List Value := [.int .u8 0, .int .u8 0, .int .u8 0, .int .u8 0, .int .u8 0, .int .u8 0, .int .u8 0, .int .u8 0, .int .u8 0, .int .u8 0, .int .u8 0, .int .u8 0, .int .u8 0, .int .u8 0, .int .u8 0, .int .u8 0, .int .u8 0, .int .u8 0, .int .u8 0, .int .u8 0, .int .u8 0, .int .u8 0, .int .u8 0, .int .u8 0, .int .u8 0, .int .u8 0, .int .u8 0, .int .u8 0, .int .u8 0, .int .u8 0, .int .u8 0, .int .u8 0, .int .u8 0, .int .u8 0, .int .u8 0, .int .u8 0, .int .u8 0, .int .u8 0, .int .u8 0, .int .u8 0, .int .u8 0, .int .u8 0, .int .u8 0, .int .u8 0, .int .u8 0, .int .u8 0, .int .u8 0, .int .u8 0, .int .u8 0, .int .u8 0, .int .u8 0, .int .u8 0, .int .u8 0, .int .u8 0, .int .u8 0, .int .u8 0, .int .u8 0, .int .u8 0, .int .u8 0, .int .u8 0, .int .u8 0, .int .u8 0, .int .u8 0, .int .u8 0]
def d1 : List Value := List.append d0 d0
def d2 : List Value := List.append d1 d1
def d3 : List Value := List.append d2 d2
def d4 : List Value := List.append d3 d3
def d5 : List Value := List.append d4 d4
def d6 : List Value := List.append d5 d5
def d7 : List Value := List.append d6 d6
def d8 : List Value := List.append d7 d7
def d9 : List Value := List.append d8 d8
def d10 : List Value := List.append d9 d9
theorem e0 : d0 = List.replicate 64 (Value.int .u8 0) := rfl
theorem dbl {n : Nat} {L : List Value} (h : L = List.replicate n (Value.int .u8 0)) : List.append L L = List.replicate (n + n) (Value.int .u8 0) := by
  show L ++ L = _
  rw [h, List.replicate_append_replicate]
theorem e1 : d1 = List.replicate 128 (Value.int .u8 0) := dbl e0
theorem e2 : d2 = List.replicate 256 (Value.int .u8 0) := dbl e1
theorem e3 : d3 = List.replicate 512 (Value.int .u8 0) := dbl e2
theorem e4 : d4 = List.replicate 1024 (Value.int .u8 0) := dbl e3
theorem e5 : d5 = List.replicate 2048 (Value.int .u8 0) := dbl e4
theorem e6 : d6 = List.replicate 4096 (Value.int .u8 0) := dbl e5
theorem e7 : d7 = List.replicate 8192 (Value.int .u8 0) := dbl e6
theorem e8 : d8 = List.replicate 16384 (Value.int .u8 0) := dbl e7
theorem e9 : d9 = List.replicate 32768 (Value.int .u8 0) := dbl e8
theorem e10 : d10 = List.replicate 65536 (Value.int .u8 0) := dbl e9
theorem zero93 : Tryz.t187.zero = some (.agg d10.toArray) := by kernel_rfl
/-- The zero value of a page. -/
theorem zeroPage : ∃ Z : Array Value, (∀ w : World, (zeroValue 187).run Tryz.prog w = .ok (.agg Z) w) ∧ Z.size = 65536 ∧ ¬ Z = #[] ∧ Z = ((List.replicate 65536 (0 : Int)).map (Value.int .u8)).toArray := by
  have hd : d10.toArray = ((List.replicate 65536 (0 : Int)).map (Value.int .u8)).toArray := by rw [e10, List.map_replicate]
  refine ⟨d10.toArray, fun w => ?_, ?_, ?_, hd⟩
  · have h := zero93
    generalize d10.toArray = Z at h
    unfold zeroValue
    simp [Tryz.typeInfo187, h]
  · rw [e10, List.size_toArray, List.length_replicate]
  · intro h
    have := congrArg Array.size h
    rw [e10, List.size_toArray, List.length_replicate] at this
    simp at this
theorem zeros_getD (i : Nat) : (List.replicate 65536 (0 : Int)).getD i 0 = 0 := by
  rw [List.getD_eq_getElem?_getD, List.getElem?_replicate]
  split <;> rfl
end Go.Proofs.YtckdnhafookcgaaGreatDoor.Mem

namespace Go.Proofs.YtckdnhafookcgaaGreatDoor.Mod
open Go.RowKit Go.Proofs.YtckdnhafookcgaaGreatDoor.Instr

/-- What a cell of a row holds. -/
inductive Kd where
  | i64 | u32 | bool | str | lst | tags | room
def CellO (lo hi : Nat) (w : World) : Kd → Value → Prop
  | .i64, v => ∃ x, v = .int .i64 x
  | .u32, v => ∃ x, v = .int .u32 x
  | .bool, v => ∃ x, v = .bool x
  | .str, v => ∃ x, v = .string x
  | .lst, v => ∃ a n c t, v = .slice a n c ∧ ListO lo hi w a n t ∧ n ≤ 140737488351232
  | .tags, v => ∃ a n c zs, v = .slice a n c ∧ zs.length = n ∧ TagsO lo hi w a zs ∧ (∀ z ∈ zs, 0 ≤ z ∧ z < 4294967296) ∧ n ≤ 140737488351232
  | .room, v => ∃ a n c, v = .slice a n c ∧ RoomO lo hi w a n c
/-- This many rows of such cells. -/
def RowO (lo hi : Nat) (w : World) (ks : List Kd) (a : Option Addr) (n : Nat) : Prop :=
  n = 0 ∨ ∃ b off, a = some ⟨b, off, none⟩ ∧ Blk lo hi w b ∧ ∀ i, i < n → ∀ j k, ks[j]? = some k → ∃ v, w.cell? ⟨b, off + i * ks.length + j, none⟩ = some v ∧ CellO lo hi w k v
/-- A module in blocks of its own. -/
structure ModO (lo hi : Nat) (w : World) (m : Md) : Prop where
  ty : RowO lo hi w [.i64, .i64] m.ty'.a m.ty.length
  im : RowO lo hi w [.str, .str, .i64] m.im'.a m.im.length
  fu : RowO lo hi w [.i64, .i64, .lst] m.fu'.a m.fu.length
  gl : RowO lo hi w [.bool, .lst] m.gl'.a m.gl.length
  ex : RowO lo hi w [.str, .i64, .u32] m.ex'.a m.ex.length
  el : RowO lo hi w [.lst, .tags] m.el'.a m.el.length
  da : RowO lo hi w [.lst, .room] m.da'.a m.da.length
end Go.Proofs.YtckdnhafookcgaaGreatDoor.Mod
