import Derived.Test.YtckdnhafookcgaaGreatDoorPr17
import Derived.Test.YtckdnhafookcgaaGreatDoorPr14
import Derived.Test.YtckdnhafookcgaaGreatDoorPr08
import Derived.Test.YtckdnhafookcgaaGreatDoorPr05
import Derived.Test.YtckdnhafookcgaaGreatDoorPr04
import Derived.ChangeKeysEq
import Derived.Laws.StructEq
import Derived.MapKept
import Derived.RegionTactic
import Derived.LaidEqlPtr
namespace Go.Proofs.YtckdnhafookcgaaGreatDoor.Instr
end Go.Proofs.YtckdnhafookcgaaGreatDoor.Instr
namespace Go.Proofs.YtckdnhafookcgaaGreatDoor.Mod
end Go.Proofs.YtckdnhafookcgaaGreatDoor.Mod
namespace Go.Proofs.YtckdnhafookcgaaGreatDoor.Val
end Go.Proofs.YtckdnhafookcgaaGreatDoor.Val
namespace Go.Proofs.YtckdnhafookcgaaGreatDoor.Mem
end Go.Proofs.YtckdnhafookcgaaGreatDoor.Mem
namespace Go.Proofs.YtckdnhafookcgaaGreatDoor.Kind
end Go.Proofs.YtckdnhafookcgaaGreatDoor.Kind
namespace Go.Proofs.YtckdnhafookcgaaGreatDoor.Pl
open Go.RowKit Go.Shelf Go.Proofs.YtckdnhafookcgaaGreatDoor.Instr Go.Proofs.YtckdnhafookcgaaGreatDoor.Mod Go.Proofs.YtckdnhafookcgaaGreatDoor.Val
set_option linter.unusedVariables false

theorem infoPtr : (Tryz.prog.info? 132).map (fun i => (i.zero, i.size, i.bytes)) = some (some (.pointer none), 1, 8) := by kernel_rfl
/-- make([]*uint32, n). -/
theorem make_ptrs (lo hi : Nat) (w : World) (n : Nat) (hl : n ≤ 4294967295) :
    ∃ w', (∀ x : Int, x = n → (Instr.makeSlice 61 (.int .u32 x) (.int .u32 x)).run Tryz.prog w = .ok (.slice (some ⟨w.heap.size, 0, none⟩) n n) w') ∧ TabAt lo hi w' w.heap.size (List.replicate n none) ∧ Below w.heap.size w w' := by
  obtain ⟨i0, hi0, hz0, hz1, hz2⟩ := info_parts infoPtr
  obtain ⟨w', h1, h2, h3⟩ := run_make_full w w.heap.size 61 132 i0 (.pointer none) 1 Tryz.underlying61 hi0 hz0 hz1 .u32 .u32 n (by rw [hz2]; omega) (by unfold maxLen; omega) (Nat.le_refl _)
  refine ⟨w', fun x hx => by rw [hx]; exact h1, ?_, (Below.refl _ _).grown h3 (Nat.le_refl _) (fun k h => by cases h)⟩
  have hcells : (Value.pointer none).cells = #[Value.pointer none] := rfl
  rw [hcells, toList_madeCells_one] at h2
  rcases h2.2 with ⟨h', _⟩ | ⟨g', cap, cur, hv, hb, hh, hnc, _, hcs, ht⟩
  · cases h'
  · simp only [Value.slice.injEq, Option.some.injEq, Addr.mk.injEq, and_true, true_and] at hv
    obtain ⟨rfl, rfl⟩ := hv
    rw [List.take_of_length_le (by simp; omega)] at ht
    refine ⟨cur, hh, by simp; omega, fun i hi' => ⟨.pointer none, ?_, ?_⟩⟩
    · simp at hi'
      rw [← Array.getElem?_toList, ht]
      simp [hi']
    · simp at hi'
      simp [hi', PtrO]
theorem layF_snoc : ∀ (zs : List Int) (tb : List (Option Int)) (s : Nat) (z : Int), layF tb s (zs ++ [z]) = (layF tb s zs).set (s + zs.length) (some z)
  | [], tb, s, z => by simp [layF]
  | y :: r, tb, s, z => by
    simp only [List.cons_append, layF, layF_snoc r, List.length_cons]
    congr 1; omega
theorem layF_step {zs : List Int} {k : Nat} (hk : k < zs.length) (tb : List (Option Int)) (s : Nat) : layF tb s (zs.take (k + 1)) = (layF tb s (zs.take k)).set (s + k) (some (zs.getD k 0)) := by
  have e : zs.take (k + 1) = zs.take k ++ [zs[k]] := by rw [List.take_succ_eq_append_getElem hk]
  rw [e, layF_snoc]
  have hl : (zs.take k).length = k := by simp; omega
  rw [hl]; simp [hk]
/-- A table that is being filled, in block T; all else stands. -/
structure TabW (lo hi : Nat) (W1 : World) (T : Nat) (tb : List (Option Int)) (w : World) : Prop where
  tab : TabAt lo hi w T tb
  sv : Save T W1 w
theorem TabW.below {lo hi T : Nat} {W1 w w' : World} {tb : List (Option Int)} (h : TabW lo hi W1 T tb w) (hT : hi ≤ w.heap.size) (hb : Below w.heap.size w w') : TabW lo hi W1 T tb w' :=
  ⟨h.tab.below (hb.mono hT) (hb.block T h.tab.lt), h.sv.trans (Save.of_below hb)⟩
theorem TabW.set {lo hi T i : Nat} {W1 w : World} {tb : List (Option Int)} (h : TabW lo hi W1 T tb w) (hT : hi ≤ T) {v : Value} {z : Int} (hi' : i < tb.length) (hv : PtrO lo hi w v (some z)) : TabW lo hi W1 T (tb.set i (some z)) (w.setCell ⟨T, i, none⟩ v) := by
  have hb : Below hi w (w.setCell ⟨T, i, none⟩ v) := (Below.refl hi w).setCell hT _
  refine ⟨?_, h.sv.setCell (.inl rfl) _⟩
  obtain ⟨cs, h1, h2, h3⟩ := h.tab
  refine ⟨cs.setIfInBounds i v, heap_setCell_same w T i cs _ v h1, by simp [h2], fun j hj => ?_⟩
  rw [List.length_set] at hj
  by_cases e : i = j
  · subst e
    refine ⟨v, by simp [h2, hi'], ?_⟩
    have : (tb.set i (some z)).getD i none = some z := by simp [hi']
    rw [this]; exact hv.below hb
  · obtain ⟨u, h4, h5⟩ := h3 j hj
    refine ⟨u, by simp [e, h4], ?_⟩
    have : (tb.set i (some z)).getD j none = tb.getD j none := by simp [e]
    rw [this]; exact h5.below hb
theorem TabW.cell {lo hi T i : Nat} {W1 w : World} {tb : List (Option Int)} (h : TabW lo hi W1 T tb w) (hi' : i < tb.length) : (∃ v, w.cell? ⟨T, i, none⟩ = some v) ∧ w.frozen? ⟨T, i, none⟩ = false := by
  obtain ⟨cs, h1, h2, h3⟩ := h.tab
  obtain ⟨v, h4, _⟩ := h3 i hi'
  exact ⟨⟨v, by simp [World.cell?, h1, h4]⟩, frozen_of_row w T i cs _ h1⟩
def TabQ (lo hi : Nat) (m : Md) (w : World) (e : Ending) (w' : World) : Prop :=
  ((tabP m = none ∧ e = .returned (.tuple #[.slice none 0 0, .int .i64 220])) ∨ ∃ t tv, tabP m = some t ∧ e = .returned (.tuple #[tv, .int .i64 0]) ∧ TabIs lo hi w' tv t) ∧ Below w.heap.size w w'
/-- A pointer to one of an element's numbers. -/
theorem ptr_tag {lo hi b off k : Nat} {w : World} {fs : List Int} (h : TagsO lo hi w (some ⟨b, off, none⟩) fs) (hk : k < fs.length) : PtrO lo hi w (.pointer (some ⟨b, off + k, none⟩)) (some (fs.getD k 0)) := by
  rcases h with h | ⟨b', off', ha, hb, hc⟩
  · rw [h] at hk; simp at hk
  · cases ha
    exact ⟨b, off + k, rfl, hb, hc k hk⟩
theorem tags_addr {lo hi : Nat} {w : World} {a : Option Addr} {fs : List Int} (h : TagsO lo hi w a fs) (hk : fs ≠ []) : ∃ b off, a = some ⟨b, off, none⟩ := by
  rcases h with h | ⟨b', off', ha, hb, hc⟩
  · exact absurd h hk
  · exact ⟨b', off', ha⟩
theorem TagsO.belowHi {lo hi : Nat} {w w' : World} {a : Option Addr} {fs : List Int} (h : TagsO lo hi w a fs) (hb : Below hi w w') : TagsO lo hi w' a fs := h.frame (Same2.of_below hb (Nat.le_refl _))
theorem constP_range (t : Il) : 0 ≤ (constP t).1 ∧ (constP t).1 < 4294967296 := by
  unfold constP
  split
  · split
    · simp only [IntKind.wrap_u32]; omega
    · simp
  · simp
theorem tab0_at (l : List Li) (h : 0 < l.length) : (match l with | [] => ([] : List (Option Int)) | x :: _ => List.replicate x.n.toNat none) = List.replicate (l[0]).n.toNat none := by
  cases l with
  | nil => simp at h
  | cons x r => rfl
set_option maxRecDepth 100000 in
set_option maxHeartbeats 4000000 in
theorem tableOf_any (lo hi : Nat) (m : Md) (w : World) (hm : ModAt w.heap.size w m) (hf : m.few) (hT : Nams w) (hhi : hi ≤ w.heap.size) (ho : ∀ e ∈ m.el, TagsO lo hi w e.fa e.fs) (hr : ∀ t ∈ m.tb, 0 ≤ t.n ∧ t.n < 4294967296) :
    Calls Tryz.prog 45 #[.agg m.v] w (TabQ lo hi m w) := by
  have hb0 := (Below.refl w.heap.size w).alloc (Nat.le_refl _) (.cells m.v 32)
  have HM := hid hm
  have HTT := hid hT
  have HB := hid hb0
  have HX := hid (BoxAt.made w m.v 32)
  have HO := hid ho
  have HHI := hid hhi
  have hl := hf.lens.2.2.2.1
  have hle := hf.lens.2.2.2.2.2.2.2.1
  have HC := hid (fun (g : El) (hg : g ∈ m.el) => (⟨hf.cs g.l (codes_El hg), hf.fit.ls g.l (codes_El hg)⟩ : g.l.t.count ≤ 1000000 ∧ g.l.t.len ≤ 140737488351232))
  have HCL := hid (fun (g : El) (hg : g ∈ m.el) => hf.fit.fs g hg)
  have HP : Hid (tabP m = if m.tb.length = 0 then some [] else elemsP m.el (tab0 m)) := hid rfl
  have HRT := hid hm.tb
  have HRE := hid hm.el
  have HRR := hid hr
  unfold TabQ
  obtain ⟨n, hn⟩ : ∃ n, m.tb.length = n := ⟨_, rfl⟩
  obtain ⟨ne, hne⟩ : ∃ ne, m.el.length = ne := ⟨_, rfl⟩
  have HN := hid hn
  have HNE := hid hne
  unfold Md.v at HX HB ⊢
  rw [hn] at hl HX HB ⊢
  rw [hne] at hle HX HB ⊢
  clear hm hf hT hb0 hhi ho hr hn hne
  generalize m.tb'.a = a at HRT HB HX ⊢
  generalize m.el'.a = ae at HRE HB HX ⊢
  obtain ⟨W0, hW0⟩ : ∃ W0, W0 = w.alloc (.cells #[.slice m.ty'.a m.ty.length m.ty'.c, .slice m.im'.a m.im.length m.im'.c, .slice m.fu'.a m.fu.length m.fu'.c, .slice a n m.tb'.c, .slice m.me'.a m.me.length m.me'.c, .slice m.gl'.a m.gl.length m.gl'.c, .slice m.ex'.a m.ex.length m.ex'.c, .bool m.st, .int .u32 m.sn, .slice ae ne m.el'.c, .slice m.da'.a m.da.length m.da'.c] 32) := ⟨_, rfl⟩
  rw [← hW0] at HX HB
  have HW0 := hid hW0
  clear hW0
  have x3 := HX.out 3 _ rfl
  by_cases h0 : n = 0
  · have hnb : ((n : Int) == 0) = true := by simp [h0]
    have HQ := hid (show tabP m = some [] by rw [HP.out, if_pos (by rw [HN.out]; exact h0)])
    clear h0
    go_enter Tryz.func45, Tryz.ntmps45
    go_upto_region 1 with fail
    rw [← HW0.out]
    clear HW0
    go_wp2
    go_ret2
    exact ⟨.inr ⟨[], _, HQ.out, rfl, .inl ⟨rfl, rfl⟩⟩, HB.out⟩
  · have hnb : ((n : Int) == 0) = false := by simpa using h0
    have h0n : 0 < m.tb.length := by rw [HN.out]; omega
    obtain ⟨b3, off3, rfl, hb3, hc3⟩ := Rows.get HRT.out h0n
    have hrr := HRR.out _ (List.getElem_mem h0n)
    have htab : tab0 m = List.replicate (m.tb[0]).n.toNat none := tab0_at m.tb h0n
    have hpt : tabP m = elemsP m.el (tab0 m) := by rw [HP.out, if_neg (by omega)]
    obtain ⟨x, hxe⟩ : ∃ x, m.tb[0] = x := ⟨_, rfl⟩
    rw [hxe] at hc3 hrr htab
    obtain ⟨N, hN⟩ : ∃ N : Nat, x.n = (N : Int) := ⟨x.n.toNat, by omega⟩
    have hNb : N ≤ 4294967295 := by omega
    have hNt : x.n.toNat = N := by omega
    rw [hNt] at htab
    have hbw := HB.out
    have c0 : W0.cell? ⟨b3, off3, none⟩ = some (.int .u32 (N : Int)) := by
      have := (hbw.cell (p := ⟨b3, off3 + 0 * 3 + 0, none⟩) hb3).trans (hc3 0 (by omega) (.int .u32 x.n) rfl)
      rw [hN] at this
      simpa using this
    obtain ⟨W1, hmk, hh1, hb1⟩ := make_ptrs lo hi W0 N hNb
    have hmk1 := hmk N rfl
    have HPT := hid (show tabP m = elemsP m.el (List.replicate N none) by rw [hpt, htab])
    have HBB := hid hb1
    have HR0 := hid (show TabW lo hi W1 W0.heap.size (List.replicate N none) W1 from ⟨hh1, Save.refl _ _⟩)
    have x9 := (HX.out.keep hb1) 9 _ rfl
    have hnpos : (0 : Int) < (n : Int) := by omega
    have HWG := hid (show w.heap.size ≤ W0.heap.size from HB.out.size)
    clear hmk h0 h0n hc3 hb3 hrr htab hpt hxe hN hNt hbw hb1 hh1
    go_enter Tryz.func45, Tryz.ntmps45
    go_upto_region 1 with fail
    rw [← HW0.out]
    clear HW0
    go_wp2
    clear x3 hnb c0 hmk1 x9 hnpos
    go_loopw [23] (fun vi wr => ∃ (k : Nat) (tb : List (Option Int)), vi = .int .i64 k ∧ k ≤ ne ∧ Hid (tabP m = elemsP (m.el.drop k) tb) ∧ Hid (tb.length = N) ∧ Hid (TabW lo hi W1 W0.heap.size tb wr)) (fun vi _ => ne - (intOf vi).toNat)
    case atStart => exact ⟨0, _, rfl, Nat.zero_le _, HPT, by simp [Hid], HR0⟩
    case round =>
      obtain ⟨k, tb, rfl, hk, HPK, HTL, HRW⟩ := hrel
      by_cases hlt : k < ne
      · have hkl : k < m.el.length := by rw [HNE.out]; exact hlt
        obtain ⟨b, off, rfl, hb, hc⟩ := Rows.get HRE.out hkl
        have hmem := List.getElem_mem hkl
        have hdrop : m.el.drop k = m.el[k] :: m.el.drop (k + 1) := List.drop_eq_getElem_cons hkl
        obtain ⟨x, hxe⟩ : ∃ x, m.el[k] = x := ⟨_, rfl⟩
        rw [hxe] at hc hmem hdrop
        have hbw : Below w.heap.size w wr := HB.out.trans ((HBB.out.mono HB.out.size).trans (HRW.out.sv.below (by have := HBB.out.size; have := HWG.out; omega) HWG.out))
        have cc : ∀ j, j < 2 → ∀ v, x.v[j]? = some v → wr.cell? ⟨b, off + k * 2 + j, none⟩ = some v := fun j hj v hv => (hbw.cell (p := ⟨b, off + k * 2 + j, none⟩) hb).trans (hc j hj v hv)
        have c0 : wr.cell? ⟨b, off + k * 2, none⟩ = some (.slice x.l.a x.l.t.len x.l.c) := cc 0 (by omega) _ rfl
        have c1 : wr.cell? ⟨b, off + k * 2 + 1, none⟩ = some (.slice x.fa x.fs.length x.fc) := cc 1 (by omega) _ rfl
        have hki : (k : Int) < (ne : Int) := by omega
        have hbw2 : Below w.heap.size w (wr.alloc (.cells #[.slice x.l.a x.l.t.len x.l.c, .slice x.fa x.fs.length x.fc] 109)) := hbw.alloc hbw.size _
        have CC := hid (const_m x.l.t x.l.a x.l.t.len x.l.c (wr.alloc (.cells #[.slice x.l.a x.l.t.len x.l.c, .slice x.fa x.fs.length x.fc] 109)) (((HM.out.ls x.l (codes_El hmem)).below hbw2).more hbw2.size) (HC.out x hmem).2 (by have := (HC.out x hmem).1; omega) (HTT.out.below hbw2))
        have hhw : hi ≤ wr.heap.size := by have := HHI.out; have := hbw.size; omega
        have HRA := hid (HRW.out.below hhw (belowAlloc wr (.cells #[.slice x.l.a x.l.t.len x.l.c, .slice x.fa x.fs.length x.fc] 109)))
        have HBX := hid (BoxAt.made wr #[.slice x.l.a x.l.t.len x.l.c, .slice x.fa x.fs.length x.fc] 109)
        have hfl := HCL.out x hmem
        have HOX := hid (HO.out x hmem)
        have hrng := constP_range x.l.t
        have hst : tabP m = if (constP x.l.t).1.toNat + x.fs.length ≤ tb.length then elemsP (m.el.drop (k + 1)) (layF tb (constP x.l.t).1.toNat x.fs) else none := by rw [HPK.out, hdrop]; rfl
        obtain ⟨⟨A, er⟩, hq⟩ : ∃ q, constP x.l.t = q := ⟨_, rfl⟩
        rw [hq] at CC hrng hst
        simp only at CC hrng hst
        obtain ⟨s, rfl⟩ : ∃ s : Nat, A = (s : Int) := ⟨A.toNat, by omega⟩
        rw [Int.toNat_natCast, HTL.out] at hst
        have hsb : s < 4294967296 := by omega
        have HST := hid hst
        have HGB0 := hid (show W0.heap.size < wr.heap.size from Nat.lt_of_lt_of_le HR0.out.tab.lt HRW.out.sv.size)
        have HHW := hid hhw
        have HBW2 := hid hbw2
        obtain ⟨L, hL⟩ : ∃ L, x.fs.length = L := ⟨_, rfl⟩
        have HL := hid hL
        rw [hL] at CC HRA HBX hfl HST HBW2 c1
        clear hxe hc cc hb hmem hdrop hbw hbw2 hq hhw hrng hst hL HRW HPK
        go_wp2_with fail
        refine CC.out.mono ?_
        rintro e wc ⟨rfl, hbc⟩
        have HRC := hid (HRA.out.below (by have := HHW.out; simp; omega) hbc)
        have e1 := (HBX.out.keep hbc) 1 _ rfl
        have HBC := hid (thenB HBW2.out hbc)
        have w1 : IntKind.u64.wrap (s : Int) = (s : Int) := by rw [IntKind.wrap_u64]; omega
        have w2 : IntKind.u64.wrap (L : Int) = (L : Int) := by rw [IntKind.wrap_u64]; omega
        have w3 : IntKind.u64.wrap ((s : Int) + (L : Int)) = (s : Int) + (L : Int) := by rw [IntKind.wrap_u64]; omega
        have w4 : IntKind.u64.wrap (N : Int) = (N : Int) := by rw [IntKind.wrap_u64]; omega
        clear CC hbc c0 c1
        by_cases hin : s + L ≤ N
        · have hng : ¬ ((N : Int) < (s : Int) + (L : Int)) := by omega
          have HST2 := hid (show tabP m = elemsP (m.el.drop (k + 1)) (layF tb s x.fs) by rw [HST.out, if_pos hin])
          have HIN := hid hin
          obtain ⟨gB, hgB⟩ : ∃ gB, wr.heap.size = gB := ⟨_, rfl⟩
          rw [hgB] at e1
          have HR2 := hid (show TabW lo hi W1 W0.heap.size (layF tb s (x.fs.take 0)) wc from HRC.out)
          have HE1 := hid e1
          have HGB := hid (show W0.heap.size < gB by rw [← hgB]; exact HGB0.out)
          clear hin HST HRC
          rw [hgB]
          clear hgB
          go_wp2
          clear e1 w1 w2 w3 w4 hng
          go_loopw [47] (fun vi wx => ∃ j : Nat, vi = .int .i64 j ∧ j ≤ L ∧ Hid (TabW lo hi W1 W0.heap.size (layF tb s (x.fs.take j)) wx) ∧ Hid (wx.cell? ⟨gB, 1, none⟩ = some (.slice x.fa L x.fc))) (fun vi _ => L - (intOf vi).toNat)
          case atStart => exact ⟨0, rfl, Nat.zero_le _, HR2, HE1⟩
          case round =>
            clear HR2 HE1
            obtain ⟨j, rfl, hj, HRX, HEX⟩ := hrel
            by_cases hjl : j < L
            · have hjf : j < x.fs.length := by rw [HL.out]; exact hjl
              obtain ⟨fb, foff, hfa⟩ := tags_addr HOX.out (by intro h; rw [h] at hjf; simp at hjf)
              have HOY := hid (TagsO.belowHi HOX.out (show Below hi w wr from (((HB.out.trans ((HBB.out.mono HB.out.size).trans (HRX.out.sv.below (by have := HBB.out.size; have := HWG.out; omega) HWG.out))).mono HHI.out))))
              rw [hfa] at HEX HOY
              have hpt := ptr_tag HOY.out hjf
              have hsj : s + j < (layF tb s (x.fs.take j)).length := by rw [layF_length, HTL.out]; have := HIN.out; omega
              obtain ⟨⟨v0, g0⟩, g1⟩ := HRX.out.cell hsj
              have HRN := hid (show TabW lo hi W1 W0.heap.size (layF tb s (x.fs.take (j + 1))) (wr.setCell ⟨W0.heap.size, s + j, none⟩ (.pointer (some ⟨fb, foff + j, none⟩))) by
                rw [layF_step hjf]
                exact HRX.out.set (by have := HHI.out; have := HWG.out; omega) hsj hpt)
              have HEN := hid (show (wr.setCell ⟨W0.heap.size, s + j, none⟩ (.pointer (some ⟨fb, foff + j, none⟩))).cell? ⟨gB, 1, none⟩ = some (.slice x.fa L x.fc) by
                rw [hfa]
                exact (Save.setCell (p := ⟨W0.heap.size, s + j, none⟩) (Save.refl W0.heap.size wr) (.inl rfl) _).cell (p := ⟨gB, 1, none⟩) (by have := HGB.out; simp; omega) HEX.out)
              have e1 := HEX.out
              have hji : (j : Int) < (L : Int) := by omega
              obtain ⟨Q, hQ⟩ : ∃ Q : Nat, Q = s + j := ⟨_, rfl⟩
              rw [← hQ] at g0 g1 HRN HEN
              have hqi : (s : Int) + (j : Int) = (Q : Int) := by omega
              have hqn : (Q : Int) < (N : Int) := by have := HIN.out; omega
              have w1 : IntKind.i64.wrap (s : Int) = (s : Int) := by rw [IntKind.wrap_i64]; omega
              clear hpt hsj hfa hQ HRX HEX HOY
              go_wp2
              go_roundw
              case rel => exact ⟨j + 1, by go_num, by omega, HRN, HEN⟩
              case measure => simp [intOf]; omega
            · obtain rfl : j = L := by omega
              have HRN := hid (show TabW lo hi W1 W0.heap.size (layF tb s x.fs) wr by have := HRX.out; rw [← HL.out, List.take_length] at this; exact this)
              have HTN := hid (show (layF tb s x.fs).length = N by rw [layF_length]; exact HTL.out)
              go_wp2
              go_roundw
              case rel => exact ⟨k + 1, _, by go_num, by omega, HST2, HTN, HRN⟩
              case measure => simp [intOf]; omega
        · have hgt : (N : Int) < (s : Int) + (L : Int) := by omega
          have HQ := hid (show tabP m = none by rw [HST.out, if_neg hin])
          clear hin
          go_wp2
          go_ret2
          exact ⟨.inl ⟨HQ.out, rfl⟩, HBC.out⟩
      · obtain rfl : k = ne := by omega
        have HQ := hid (show tabP m = some tb by rw [HPK.out, ← HNE.out, List.drop_length]; rfl)
        have HF := hid (HB.out.trans ((HBB.out.mono HB.out.size).trans (HRW.out.sv.below (by have := HBB.out.size; have := HWG.out; omega) HWG.out)))
        have HE := hid (show TabIs lo hi wr (.slice (some ⟨W0.heap.size, 0, none⟩) N N) tb from .inr ⟨W0.heap.size, by rw [HTL.out], by have := HHI.out; have := HWG.out; omega, HRW.out.tab⟩)
        go_wp2
        go_ret2
        exact ⟨.inr ⟨tb, _, HQ.out, rfl, HE.out⟩, HF.out⟩
end Go.Proofs.YtckdnhafookcgaaGreatDoor.Pl

namespace Go.Proofs.YtckdnhafookcgaaGreatDoor.Pl
open Go.RowKit Go.Shelf Go.Proofs.YtckdnhafookcgaaGreatDoor.Instr Go.Proofs.YtckdnhafookcgaaGreatDoor.Mod Go.Proofs.YtckdnhafookcgaaGreatDoor.Val
open Go.Proofs.YtckdnhafookcgaaGreatDoor.Mem (MemIs MemAt Wrote Keep isOwn Mm NewTo New_true New_false Write_anyC)
open Go.Proofs.YtckdnhafookcgaaGreatDoor.Kind (okLim codeLim)
set_option linter.unusedVariables false

theorem MemIs_base {B B' : Nat} {W : World} {p K : Nat} {m : Mm} (h : MemIs B W p K m) (hb : B' ≤ B) : MemIs B' W p K m := by
  obtain ⟨mb, D, K', hK, h⟩ := h
  refine ⟨mb, D, K', hK, h.box, Nat.le_trans hb h.bp, Nat.le_trans hb h.bm, h.map, h.isMap, h.ok, fun k => ?_, h.apart⟩
  rcases h.at_ k with h1 | ⟨g, hg, h1, h2⟩
  · exact .inl h1
  · exact .inr ⟨g, Nat.le_trans hb hg, h1, h2⟩
/-- Limits as they should be. -/
structure LimOk (l : Li) : Prop where
  n : 0 ≤ l.n ∧ l.n < 4294967296
  x : 0 ≤ l.x ∧ l.x < 4294967296
  ok : okLim l.n l.x l.c 65536 = true
theorem New_ok (l : Li) (W : World) (h : LimOk l) : Calls Tryz.prog 99 #[.agg #[.int .u32 l.n, .int .u32 l.x, .bool l.c]] W (NewTo W l.n.toNat (if l.c then l.x.toNat else 65536)) := by
  obtain ⟨n, x, c⟩ := l
  obtain ⟨⟨h1, h2⟩, ⟨h3, h4⟩, h5⟩ := h
  simp only at *
  obtain ⟨N, rfl⟩ : ∃ N : Nat, n = (N : Int) := ⟨n.toNat, by omega⟩
  obtain ⟨X, rfl⟩ : ∃ X : Nat, x = (X : Int) := ⟨x.toNat, by omega⟩
  have hc : codeLim N X c 65536 = 0 := by unfold codeLim; rw [if_pos h5]
  cases c
  · exact New_false N X W hc
  · exact New_true N X W hc
theorem write_cases (m : Mm) (s : Nat) (zs : List Int) : (m.write s zs).2 = 0 ∨ (m.write s zs).2 = 220 := by
  unfold Mm.write; split
  · exact .inl rfl
  · exact .inr rfl
def MemoQ (hi : Nat) (m : Md) (w : World) (e : Ending) (w' : World) : Prop :=
  ((memP m = none ∧ e = .returned (.tuple #[.pointer none, .int .i64 220])) ∨ ∃ o mv, memP m = some o ∧ e = .returned (.tuple #[mv, .int .i64 0]) ∧ MemVal hi 1048576 w' mv o) ∧ Below w.heap.size w w'
def memL : List Li → List Da → Option (Option Mm)
  | [], _ => some none
  | l :: _, x => (datasP x (mem0 l)).map some
theorem memP_eq (m : Md) : memP m = memL m.me m.da := by
  unfold memP
  generalize m.me = l
  cases l <;> rfl
theorem memL_cons (l : List Li) (x : List Da) (h : 0 < l.length) : memL l x = (datasP x (mem0 (l[0]))).map some := by
  cases l with
  | nil => simp at h
  | cons y r => rfl
theorem memP_cons {m : Md} (h : 0 < m.me.length) : memP m = (datasP m.da (mem0 (m.me[0]))).map some := (memP_eq m).trans (memL_cons m.me m.da h)
theorem memP_nil {m : Md} (h : m.me.length = 0) : memP m = some none := by
  unfold memP
  cases hm : m.me with
  | nil => rfl
  | cons l r => rw [hm] at h; simp at h
set_option maxRecDepth 100000 in
set_option maxHeartbeats 4000000 in
theorem memoryOf_any (hi : Nat) (m : Md) (w : World) (hm : ModAt w.heap.size w m) (hf : m.few) (hT : Nams w) (hhi : hi ≤ w.heap.size) (hL : ∀ l ∈ m.me, LimOk l) (hby : ∀ d ∈ m.da, ∀ z ∈ d.bs, 0 ≤ z ∧ z < 256) (hda : ∀ d ∈ m.da, d.bs.length ≤ d.bc ∧ d.bc ≤ 9223372036854775807) (hh : sumB m.da ≤ 1048576) :
    Calls Tryz.prog 46 #[.agg m.v] w (MemoQ hi m w) := by
  have hb0 := (Below.refl w.heap.size w).alloc (Nat.le_refl _) (.cells m.v 32)
  have HM := hid hm
  have HTT := hid hT
  have HB := hid hb0
  have HX := hid (BoxAt.made w m.v 32)
  have HHI := hid hhi
  have hl := hf.lens.2.2.2.2.1
  have hle := hf.lens.2.2.2.2.2.2.2.2
  have HC := hid (fun (g : Da) (hg : g ∈ m.da) => (⟨hf.cs g.l (codes_Da hg), hf.fit.ls g.l (codes_Da hg)⟩ : g.l.t.count ≤ 1000000 ∧ g.l.t.len ≤ 140737488351232))
  have HBY := hid hby
  have HDA := hid hda
  have HH := hid hh
  have HRM := hid hm.me
  have HRD := hid hm.da
  have HLL := hid hL
  have HMN := hid (fun h => memP_nil (m := m) h)
  have HMC := hid (fun h => memP_cons (m := m) h)
  unfold MemoQ
  obtain ⟨n, hn⟩ : ∃ n, m.me.length = n := ⟨_, rfl⟩
  obtain ⟨ne, hne⟩ : ∃ ne, m.da.length = ne := ⟨_, rfl⟩
  have HN := hid hn
  have HNE := hid hne
  unfold Md.v at HX HB ⊢
  rw [hn] at hl HX HB ⊢
  rw [hne] at hle HX HB ⊢
  clear hm hf hT hb0 hhi hby hda hh hL hn hne
  generalize m.me'.a = a at HRM HB HX ⊢
  generalize m.da'.a = ae at HRD HB HX ⊢
  obtain ⟨W0, hW0⟩ : ∃ W0, W0 = w.alloc (.cells #[.slice m.ty'.a m.ty.length m.ty'.c, .slice m.im'.a m.im.length m.im'.c, .slice m.fu'.a m.fu.length m.fu'.c, .slice m.tb'.a m.tb.length m.tb'.c, .slice a n m.me'.c, .slice m.gl'.a m.gl.length m.gl'.c, .slice m.ex'.a m.ex.length m.ex'.c, .bool m.st, .int .u32 m.sn, .slice m.el'.a m.el.length m.el'.c, .slice ae ne m.da'.c] 32) := ⟨_, rfl⟩
  rw [← hW0] at HX HB
  have HW0 := hid hW0
  clear hW0
  have x4 := HX.out 4 _ rfl
  by_cases h0 : n = 0
  · have hnb : ((n : Int) == 0) = true := by simp [h0]
    have HQ := hid (HMN.out (by rw [HN.out]; exact h0))
    clear h0
    go_enter Tryz.func46, Tryz.ntmps46
    go_upto_region 1 with fail
    rw [← HW0.out]
    clear HW0
    go_wp2
    go_ret2
    exact ⟨.inr ⟨none, _, HQ.out, rfl, rfl⟩, HB.out⟩
  · have hnb : ((n : Int) == 0) = false := by simpa using h0
    have h0n : 0 < m.me.length := by rw [HN.out]; omega
    obtain ⟨b3, off3, rfl, hb3, hc3⟩ := Rows.get HRM.out h0n
    have hll := HLL.out _ (List.getElem_mem h0n)
    have hmp := HMC.out h0n
    obtain ⟨l, hxe⟩ : ∃ l, m.me[0] = l := ⟨_, rfl⟩
    rw [hxe] at hc3 hll hmp
    have hbw := HB.out
    have cc : ∀ j, j < 3 → ∀ v, l.v[j]? = some v → W0.cell? ⟨b3, off3 + j, none⟩ = some v := fun j hj v hv => by
      have := (hbw.cell (p := ⟨b3, off3 + 0 * 3 + j, none⟩) hb3).trans (hc3 j hj v hv)
      simpa using this
    have c0 : W0.cell? ⟨b3, off3, none⟩ = some (.int .u32 l.n) := cc 0 (by omega) _ rfl
    have c1 : W0.cell? ⟨b3, off3 + 1, none⟩ = some (.int .u32 l.x) := cc 1 (by omega) _ rfl
    have c2 : W0.cell? ⟨b3, off3 + 2, none⟩ = some (.bool l.c) := cc 2 (by omega) _ rfl
    have CN := hid (New_ok l W0 hll)
    have HMP := hid hmp
    have hnpos : (0 : Int) < (n : Int) := by omega
    have HWG := hid (show w.heap.size ≤ W0.heap.size from HB.out.size)
    obtain ⟨M0, hM0⟩ : ∃ M0, (⟨l.n.toNat, if l.c then l.x.toNat else 65536, fun _ => 0⟩ : Mm) = M0 := ⟨_, rfl⟩
    have HM0 := hid (show mem0 l = M0 from hM0)
    unfold NewTo at CN
    rw [hM0] at CN
    clear h0 h0n hc3 hb3 hll hmp hxe hbw cc hM0
    go_enter Tryz.func46, Tryz.ntmps46
    go_upto_region 1 with fail
    rw [← HW0.out]
    clear HW0
    go_wp2_with fail
    refine CN.out.mono ?_
    rintro e wa ⟨p, rfl, hmi, hba⟩
    have HBB := hid hba
    have HR0 := hid hmi
    have HPT := hid (show memP m = (datasP (m.da.drop 0) M0).map some by rw [HMP.out, HM0.out]; rfl)
    have x10 := (HX.out.keep hba) 10 _ rfl
    clear CN hmi hba x4 hnb c0 c1 c2 hnpos
    go_wp2
    clear x10
    go_loopw [26] (fun vi wr => ∃ (k : Nat) (mm : Mm), vi = .int .i64 k ∧ k ≤ ne ∧ Hid (memP m = (datasP (m.da.drop k) mm).map some) ∧ Hid (MemIs W0.heap.size wr p (sumB (m.da.take k)) mm) ∧ Hid (Below W0.heap.size W0 wr)) (fun vi _ => ne - (intOf vi).toNat)
    case atStart => exact ⟨0, _, rfl, Nat.zero_le _, HPT, HR0, HBB⟩
    case round =>
      obtain ⟨k, mm, rfl, hk, HPK, HMI, HBW⟩ := hrel
      by_cases hlt : k < ne
      · have hkl : k < m.da.length := by rw [HNE.out]; exact hlt
        obtain ⟨b, off, rfl, hb, hc⟩ := Rows.get HRD.out hkl
        have hmem := List.getElem_mem hkl
        have hdrop : m.da.drop k = m.da[k] :: m.da.drop (k + 1) := List.drop_eq_getElem_cons hkl
        have hsum : sumB (m.da.take (k + 1)) = sumB (m.da.take k) + m.da[k].bs.length := sumB_step hkl
        have hsum2 := sumB_take m.da (k + 1)
        obtain ⟨x, hxe⟩ : ∃ x, m.da[k] = x := ⟨_, rfl⟩
        rw [hxe] at hc hmem hdrop hsum
        have hbw : Below w.heap.size w wr := HB.out.trans (HBW.out.mono HB.out.size)
        have cc : ∀ j, j < 2 → ∀ v, x.v[j]? = some v → wr.cell? ⟨b, off + k * 2 + j, none⟩ = some v := fun j hj v hv => (hbw.cell (p := ⟨b, off + k * 2 + j, none⟩) hb).trans (hc j hj v hv)
        have c0 : wr.cell? ⟨b, off + k * 2, none⟩ = some (.slice x.l.a x.l.t.len x.l.c) := cc 0 (by omega) _ rfl
        have c1 : wr.cell? ⟨b, off + k * 2 + 1, none⟩ = some (.slice x.ba x.bs.length x.bc) := cc 1 (by omega) _ rfl
        have hki : (k : Int) < (ne : Int) := by omega
        have hbw2 : Below w.heap.size w (wr.alloc (.cells #[.slice x.l.a x.l.t.len x.l.c, .slice x.ba x.bs.length x.bc] 88)) := hbw.alloc hbw.size _
        have CC := hid (const_m x.l.t x.l.a x.l.t.len x.l.c (wr.alloc (.cells #[.slice x.l.a x.l.t.len x.l.c, .slice x.ba x.bs.length x.bc] 88)) (((HM.out.ls x.l (codes_Da hmem)).below hbw2).more hbw2.size) (HC.out x hmem).2 (by have := (HC.out x hmem).1; omega) (HTT.out.below hbw2))
        have HBX := hid (BoxAt.made wr #[.slice x.l.a x.l.t.len x.l.c, .slice x.ba x.bs.length x.bc] 88)
        have HMA := hid (HMI.out.below (belowAlloc wr (.cells #[.slice x.l.a x.l.t.len x.l.c, .slice x.ba x.bs.length x.bc] 88)))
        have HB0 := hid (HBW.out.alloc HBW.out.size (.cells #[.slice x.l.a x.l.t.len x.l.c, .slice x.ba x.bs.length x.bc] 88))
        have HBS := hid (HM.out.bs x hmem)
        have HBR := hid (HBY.out x hmem)
        have HBC := hid (HDA.out x hmem)
        have hrng := constP_range x.l.t
        have hst : memP m = (if (mm.write (constP x.l.t).1.toNat x.bs).2 = 0 then datasP (m.da.drop (k + 1)) (mm.write (constP x.l.t).1.toNat x.bs).1 else none).map some := by rw [HPK.out, hdrop]; rfl
        obtain ⟨⟨A, er⟩, hq⟩ : ∃ q, constP x.l.t = q := ⟨_, rfl⟩
        rw [hq] at CC hrng hst
        simp only at CC hrng hst
        obtain ⟨s, rfl⟩ : ∃ s : Nat, A = (s : Int) := ⟨A.toNat, by omega⟩
        rw [Int.toNat_natCast] at hst
        have hsb : s ≤ 4294967295 := by omega
        have HST := hid hst
        have HBW2 := hid hbw2
        have HSUM := hid hsum
        have HSUM2 := hid (show sumB (m.da.take (k + 1)) ≤ 1048576 by have := HH.out; omega)
        have HSB := hid hsb
        clear hxe hc cc hb hmem hdrop hbw hbw2 hq hrng hst hsum hsum2 hsb HPK HMI HBW
        go_wp2_with fail
        refine CC.out.mono ?_
        rintro e wc ⟨rfl, hbc⟩
        have e1 := (HBX.out.keep hbc) 1 _ rfl
        have hb2 := HBW2.out
        have hbwc : Below w.heap.size w wc := thenB hb2 hbc
        have CW := hid (Write_anyC (HMA.out.below hbc) (B := W0.heap.size) (by have h1 := HB0.out.size; have h2 := hbc.size; exact Nat.le_trans h1 h2) (match x.ba with | some q => q.block | none => 0) (match x.ba with | some q => q.off | none => 0) x.ba x.bs.length x.bc s x.bs rfl HBR.out HBC.out.1 HBC.out.2 HSB.out (fun hpos => by
          rcases HBS.out with h | ⟨b', o', ha, hlb, hcs⟩
          · rw [h] at hpos; simp at hpos
          · rw [ha]
            have hcell := fun i hi => (hbwc.cell (p := ⟨b', o' + i, none⟩) hlb).trans (hcs i hi)
            have hlt2 := World.block_lt_of_cell? wc _ (hcell 0 hpos)
            exact ⟨rfl, hcell, wc.heap[b'], Array.getElem?_eq_getElem hlt2, .inr (by have := HWG.out; simp; omega)⟩) (by have := HSUM.out; have := HSUM2.out; omega))
        have HBF := hid (HB0.out.trans (hbc.mono HB0.out.size))
        clear CC hbc c0 c1 hb2 hbwc HBS HBR HBC
        have hwc := write_cases mm s x.bs
        obtain ⟨⟨m2, ew⟩, hwq⟩ : ∃ q, mm.write s x.bs = q := ⟨_, rfl⟩
        rw [hwq] at CW HST hwc
        simp only at CW HST hwc
        clear hwq
        go_wp2_with fail
        refine CW.out.mono ?_
        rintro e wd ⟨rfl, hwr⟩
        have HMD := hid (show MemIs W0.heap.size wd p (sumB (m.da.take (k + 1))) m2 by rw [HSUM.out]; exact hwr.1)
        have HBD := hid (HBF.out.trans hwr.2.2)
        clear CW hwr e1
        rcases hwc with rfl | rfl
        · have HP2 := hid (show memP m = (datasP (m.da.drop (k + 1)) m2).map some by rw [HST.out, if_pos rfl])
          go_wp2
          go_roundw
          case rel => exact ⟨k + 1, _, by go_num, by omega, HP2, HMD, HBD⟩
          case measure => simp [intOf]; omega
        · have HQ := hid (show memP m = none by rw [HST.out, if_neg (by decide)]; rfl)
          have HF := hid (HB.out.trans (HBD.out.mono HB.out.size))
          go_wp2
          go_ret2
          exact ⟨.inl ⟨HQ.out, rfl⟩, HF.out⟩
      · obtain rfl : k = ne := by omega
        have HQ := hid (show memP m = some (some mm) by rw [HPK.out, ← HNE.out, List.drop_length]; rfl)
        have HF := hid (HB.out.trans (HBW.out.mono HB.out.size))
        have HE := hid (show MemVal hi 1048576 wr (.pointer (some ⟨p, 0, none⟩)) (some mm) from ⟨p, rfl, (MemIs_base HMI.out (by have := HHI.out; have := HWG.out; omega)).mono (by rw [← HNE.out, List.take_length]; exact HH.out)⟩)
        go_wp2
        go_ret2
        exact ⟨.inr ⟨_, _, HQ.out, rfl, HE.out⟩, HF.out⟩
end Go.Proofs.YtckdnhafookcgaaGreatDoor.Pl

namespace Go.Proofs.YtckdnhafookcgaaGreatDoor.Pl
open Go.RowKit Go.Shelf Go.Proofs.YtckdnhafookcgaaGreatDoor.Instr Go.Proofs.YtckdnhafookcgaaGreatDoor.Mod Go.Proofs.YtckdnhafookcgaaGreatDoor.Val
set_option linter.unusedVariables false

theorem plainStr : Tryz.prog.plainKey 9 = true := by kernel_rfl
theorem eq_str (d : Nat) (a b : ByteArray) (w : World) : (Op.equalIn (d + 1) 9 (.string a) (.string b)).run Tryz.prog w = .ok (a == b) w := by
  simp [Op.equalIn, run_underlying Tryz.underlying9]
theorem part_two (x y : Value) (w : World) : (part 9 #[x, y] 0).run Tryz.prog w = .ok x w ∧ (part 9 #[x, y] 1).run Tryz.prog w = .ok y w :=
  ⟨run_part_plain (w := w) plainStr (by rfl), run_part_plain (w := w) plainStr (by rfl)⟩
theorem eq_names (a b c d : ByteArray) (w : World) : (Op.equalIn 10000 157 (.agg #[.string a, .string b]) (.agg #[.string c, .string d])).run Tryz.prog w = .ok (a == c && b == d) w := by
  obtain ⟨i, hi⟩ := info_of_underlying Tryz.underlying9
  rw [show (10000 : Nat) = 9998 + 1 + 1 from rfl, run_equalIn_array w (9998 + 1) _ _ Tryz.underlying157 hi]
  have hc : Tryz.prog.cellsOf 9 = 1 := by kernel_rfl
  rw [hc]
  have p1 := part_two (.string a) (.string b) w
  have p2 := part_two (.string c) (.string d) w
  simp only [List.range_succ, List.range_zero, List.nil_append, List.cons_append, Op.eqItems, Sem.run_bind, Nat.zero_mul, Nat.one_mul, p1.1, p2.1, Result.andThen_ok]
  have q1 := eq_str 9998 a c w
  have q2 := eq_str 9998 b d w
  cases h1 : a == c <;> cases h2 : b == d <;> rw [h1] at q1 <;> rw [h2] at q2 <;> simp [p1.2, p2.2, q1, q2]
theorem key_str (em : Bool) (d : Nat) (s : ByteArray) (w : World) : (Instr.checkKey em (d + 1) 9 (.string s)).run Tryz.prog w = .ok () w := by
  simp [Instr.checkKey, run_underlying Tryz.underlying9]
theorem key_two (em : Bool) (d : Nat) (a b : ByteArray) (w : World) : (Instr.checkKey em (d + 1 + 1) 157 (.agg #[.string a, .string b])).run Tryz.prog w = .ok () w := by
  obtain ⟨i, hi⟩ := info_of_underlying Tryz.underlying9
  have hs := run_sizeOf (P := Tryz.prog) w hi
  rw [show Tryz.prog.cellsOf 9 = 1 by kernel_rfl] at hs
  have p1 := part_two (.string a) (.string b) w
  have c1 := fun s => key_str em d s w
  rw [Instr.checkKey]
  simp [run_underlying Tryz.underlying157, Std.Legacy.Range.forIn_eq_forIn_range', Std.Legacy.Range.size, List.range', hs, p1.1, p1.2, c1]
theorem guard_names (em : Bool) (a b : ByteArray) (w : World) : (Instr.checkKey em 10000 157 (.agg #[.string a, .string b])).run Tryz.prog w = .ok () w := key_two em 9998 a b w
def kG : Value := .agg #[.string ⟨#[104, 111, 115, 116]⟩, .string ⟨#[103, 101, 116, 99]⟩]
def kP : Value := .agg #[.string ⟨#[104, 111, 115, 116]⟩, .string ⟨#[112, 117, 116, 99]⟩]
def vG : Value := .agg #[.int .i64 1, .int .i64 0, .int .i64 1]
def vP : Value := .agg #[.int .i64 2, .int .i64 1, .int .i64 0]
/-- The map of the host's functions. -/
def HostAt (w : World) (g : Nat) : Prop := ∃ b1 b2 ck, w.heap[g]? = some (.map #[⟨kG, vG, b1⟩, ⟨kP, vP, b2⟩] ck) ∨ w.heap[g]? = some (.map #[⟨kP, vP, b1⟩, ⟨kG, vG, b2⟩] ck)
theorem HostAt.below {w w' : World} {g : Nat} (h : HostAt w g) (hb : Below w.heap.size w w') : HostAt w' g := by
  obtain ⟨b1, b2, ck, h⟩ := h
  rcases h with h | h
  · exact ⟨b1, b2, ck, .inl ((hb.block g (Array.getElem?_eq_some_iff.1 h).1).trans h)⟩
  · exact ⟨b1, b2, ck, .inr ((hb.block g (Array.getElem?_eq_some_iff.1 h).1).trans h)⟩
theorem find_names (x : Value) (es : List MapEntry) (w : World) : (Instr.findKey 157 x es).run Tryz.prog w = (Instr.findAsking 157 x es).run Tryz.prog w := by
  have u := run_underlying (P := Tryz.prog) Tryz.underlying157
  cases es with
  | nil => simp [Instr.findKey, u, Instr.findNow, Instr.findAsking]
  | cons e es => simp [Instr.findKey, u, Instr.findNow, Instr.sameNow]
theorem eqG (a b : ByteArray) (w : World) : (Op.equal 157 (.agg #[.string a, .string b]) kG).run Tryz.prog w = .ok (a == ⟨#[104, 111, 115, 116]⟩ && b == ⟨#[103, 101, 116, 99]⟩) w := eq_names a b _ _ w
theorem eqP (a b : ByteArray) (w : World) : (Op.equal 157 (.agg #[.string a, .string b]) kP).run Tryz.prog w = .ok (a == ⟨#[104, 111, 115, 116]⟩ && b == ⟨#[112, 117, 116, 99]⟩) w := eq_names a b _ _ w
/-- What is looked up. -/
def lookV (a b : ByteArray) : Value × Bool :=
  if a = strHost ∧ b = strGet then (vG, true) else if a = strHost ∧ b = strPut then (vP, true) else (.agg #[.int .i64 0, .int .i64 0, .int .i64 0], false)
theorem zeroHost (w : World) : (zeroValue 155).run Tryz.prog w = .ok (.agg #[.int .i64 0, .int .i64 0, .int .i64 0]) w := by rw [Tryz.zeroValue155]
theorem beq_dec (a s : ByteArray) : (a == s) = decide (a = s) := by
  cases h : a == s
  · exact (decide_eq_false (fun e => by rw [(MapKept.bytes_beq a s).2 e] at h; cases h)).symm
  · exact (decide_eq_true ((MapKept.bytes_beq a s).1 h)).symm
theorem getPut : strGet ≠ strPut := by decide
theorem look_any {w : World} {g : Nat} (h : HostAt w g) (a b : ByteArray) : (Instr.lookup 152 (.map (some g)) (.agg #[.string a, .string b]) true).run Tryz.prog w = .ok (.tuple #[(lookV a b).1, .bool (lookV a b).2]) w := by
  have u := run_underlying (P := Tryz.prog) Tryz.underlying152
  have f1 := fun es => find_names (.agg #[.string a, .string b]) es w
  have g1 := fun em => guard_names em a b w
  have e1 := eqG a b w
  have e2 := eqP a b w
  have z := zeroHost w
  obtain ⟨b1, b2, ck, h⟩ := h
  have hG : (a == (⟨#[104, 111, 115, 116]⟩ : ByteArray) && b == ⟨#[103, 101, 116, 99]⟩) = decide (a = strHost ∧ b = strGet) := by
    rw [Bool.decide_and, ← beq_dec, ← beq_dec]; rfl
  have hP : (a == (⟨#[104, 111, 115, 116]⟩ : ByteArray) && b == ⟨#[112, 117, 116, 99]⟩) = decide (a = strHost ∧ b = strPut) := by
    rw [Bool.decide_and, ← beq_dec, ← beq_dec]; rfl
  rw [hG] at e1
  rw [hP] at e2
  unfold lookV
  rcases h with h | h
  all_goals
    have go := MapKept.run_getObj_map (P := Tryz.prog) h
    by_cases c1 : a = strHost ∧ b = strGet
    · have c2 : ¬ (a = strHost ∧ b = strPut) := fun c => getPut (c1.2.symm.trans c.2)
      rw [if_pos c1]
      rw [decide_eq_true c1] at e1
      rw [decide_eq_false c2] at e2
      simp [Instr.lookup, u, go, g1, f1, Instr.findAsking, e1, e2]
    · rw [if_neg c1]
      rw [decide_eq_false c1] at e1
      by_cases c2 : a = strHost ∧ b = strPut
      · rw [if_pos c2]
        rw [decide_eq_true c2] at e2
        simp [Instr.lookup, u, go, g1, f1, Instr.findAsking, e1, e2]
      · rw [if_neg c2]
        rw [decide_eq_false c2] at e2
        simp [Instr.lookup, u, go, g1, f1, Instr.findAsking, e1, e2, z]
theorem set_new (W : World) (o o' : Obj) : { W.alloc o with heap := (W.alloc o).heap.setIfInBounds W.heap.size o' } = W.alloc o' := by
  have e : (W.heap.push o).setIfInBounds W.heap.size o' = W.heap.push o' := by
    apply Array.ext'
    rw [Array.toList_setIfInBounds, Array.toList_push, Array.toList_push, List.set_append_right _ _ (by simp)]
    simp
  show ({ (W.alloc o) with heap := (W.heap.push o).setIfInBounds W.heap.size o' } : World) = W.alloc o'
  rw [e]; rfl
/-- An entry more. -/
theorem put_names (W : World) (a b : ByteArray) (v : Value) (es : Array MapEntry) (ck : Nat) (hf : (Instr.findAsking 157 (.agg #[.string a, .string b]) es.toList).run Tryz.prog (W.alloc (.map es ck)) = .ok none (W.alloc (.map es ck))) :
    (Instr.mapUpdate 152 (.map (some W.heap.size)) (.agg #[.string a, .string b]) v).run Tryz.prog (W.alloc (.map es ck)) = .ok () (W.alloc (.map (es.push ⟨.agg #[.string a, .string b], v, ck⟩) (ck + 1))) := by
  have u := run_underlying (P := Tryz.prog) Tryz.underlying152
  have hb : (W.alloc (.map es ck)).heap[W.heap.size]? = some (.map es ck) := (MapKept.heap_alloc W _).1
  have f1 := find_names (.agg #[.string a, .string b]) es.toList (W.alloc (.map es ck))
  have g1 := guard_names false a b (W.alloc (.map es ck))
  simp [Instr.mapUpdate, u, MapKept.run_getObj_map hb, g1, f1, hf, MapKept.run_setObj_map _ hb, Result.andThen]
  exact set_new W _ _
theorem put_drew (W : World) (a b : ByteArray) (v : Value) (es : Array MapEntry) (ck : Nat) (hf : ∀ W' : World, (Instr.findAsking 157 (.agg #[.string a, .string b]) es.toList).run Tryz.prog W' = .ok none W') :
    (Instr.mapUpdate 152 (.map (some W.heap.size)) (.agg #[.string a, .string b]) v).run Tryz.prog (W.alloc (.map es ck)).drew = .ok () (W.alloc (.map (es.push ⟨.agg #[.string a, .string b], v, ck⟩) (ck + 1))).drew := put_names W.drew a b v es ck (hf _)
set_option maxRecDepth 100000 in
theorem hostFunctions_any (w : World) : Calls Tryz.prog 84 #[] w fun e w' => e = .returned (.map (some w.heap.size)) ∧ HostAt w' w.heap.size ∧ Below w.heap.size w w' := by
  have hmm := @run_makeMap Tryz.prog
  have e1 := eqG ⟨#[104, 111, 115, 116]⟩ ⟨#[112, 117, 116, 99]⟩
  have e2 := eqP ⟨#[104, 111, 115, 116]⟩ ⟨#[103, 101, 116, 99]⟩
  have hA := put_drew w ⟨#[104, 111, 115, 116]⟩ ⟨#[103, 101, 116, 99]⟩ vG #[] 0 (by simp [Instr.findAsking])
  have hB := put_drew w ⟨#[104, 111, 115, 116]⟩ ⟨#[112, 117, 116, 99]⟩ vP #[] 0 (by simp [Instr.findAsking])
  have hAB := put_drew w ⟨#[104, 111, 115, 116]⟩ ⟨#[112, 117, 116, 99]⟩ vP #[⟨kG, vG, 0⟩] 1 (by simp [Instr.findAsking, e1]; decide)
  have hBA := put_drew w ⟨#[104, 111, 115, 116]⟩ ⟨#[103, 101, 116, 99]⟩ vG #[⟨kP, vP, 0⟩] 1 (by simp [Instr.findAsking, e2]; decide)
  have hAH := hid (show HostAt (w.alloc (.map #[⟨kG, vG, 0⟩, ⟨kP, vP, 1⟩] 2)).drew w.heap.size from ⟨0, 1, 2, .inl (MapKept.heap_alloc w.drew _).1⟩)
  have hBH := hid (show HostAt (w.alloc (.map #[⟨kP, vP, 0⟩, ⟨kG, vG, 1⟩] 2)).drew w.heap.size from ⟨0, 1, 2, .inr (MapKept.heap_alloc w.drew _).1⟩)
  simp only [List.push_toArray, List.nil_append, List.cons_append, vG, vP, kG, kP] at hA hB hAB hBA hAH hBH
  clear e1 e2
  go_enter Tryz.func84, Tryz.ntmps84
  go_upto_region 1 with fail
  go_region
  all_goals go_wp2
  all_goals go_ret
  all_goals first | exact ⟨rfl, hAH.out, (thenA (Below.refl _ _) _).drew⟩ | exact ⟨rfl, hBH.out, (thenA (Below.refl _ _) _).drew⟩
end Go.Proofs.YtckdnhafookcgaaGreatDoor.Pl

namespace Go.Proofs.YtckdnhafookcgaaGreatDoor.Pl
open Go.RowKit Go.Shelf Go.Proofs.YtckdnhafookcgaaGreatDoor.Instr Go.Proofs.YtckdnhafookcgaaGreatDoor.Mod Go.Proofs.YtckdnhafookcgaaGreatDoor.Val
open Go.Proofs.YtckdnhafookcgaaGreatDoor.Kind (eqType guardType)
set_option linter.unusedVariables false

theorem HostAt.save {w w' : World} {g k : Nat} (h : HostAt w g) (hs : Save k w w') (hk : g ≠ k) : HostAt w' g := by
  obtain ⟨b1, b2, ck, h⟩ := h
  rcases h with h | h
  · exact ⟨b1, b2, ck, .inl ((hs.block g (Array.getElem?_eq_some_iff.1 h).1 hk).trans h)⟩
  · exact ⟨b1, b2, ck, .inr ((hs.block g (Array.getElem?_eq_some_iff.1 h).1 hk).trans h)⟩
theorem HostAt.lt {w : World} {g : Nat} (h : HostAt w g) : g < w.heap.size := by
  obtain ⟨b1, b2, ck, h⟩ := h
  rcases h with h | h <;> exact (Array.getElem?_eq_some_iff.1 h).1
theorem hostsL_len (m : Md) : (hostsL m).length = m.im.length := by simp [hostsL]
theorem hostsL_at {m : Md} {k : Nat} (hk : k < m.im.length) : (hostsL m).getD k 0 = hostI m k := by simp [hostsL, hk]
theorem lookV_cases (mo na : ByteArray) : ∃ num p r is, lookV mo na = (.agg #[.int .i64 num, .int .i64 p, .int .i64 r], is) ∧ ((is = false ∧ ∀ t, hostP mo na t = 0) ∨ (is = true ∧ num ≠ 0 ∧ ∀ t, hostP mo na t = if t = (p, r) then num else 0)) := by
  unfold lookV hostP
  by_cases h1 : mo = strHost ∧ na = strGet
  · exact ⟨1, 0, 1, true, by rw [if_pos h1]; rfl, .inr ⟨rfl, by decide, fun t => by rw [if_pos h1]⟩⟩
  · by_cases h2 : mo = strHost ∧ na = strPut
    · exact ⟨2, 1, 0, true, by rw [if_neg h1, if_pos h2]; rfl, .inr ⟨rfl, by decide, fun t => by rw [if_neg h1, if_pos h2]⟩⟩
    · exact ⟨0, 0, 0, false, by rw [if_neg h1, if_neg h2], .inl ⟨rfl, fun t => by rw [if_neg h1, if_neg h2]⟩⟩
theorem box_sv {W W' : World} {k b : Nat} {v : Array Value} (h : BoxAt W b v) (hs : Save k W W') (hk : b ≠ k) : BoxAt W' b v := fun j x hj => hs.cell hk (h j x hj)
def HostsQ (m : Md) (w : World) (e : Ending) (w' : World) : Prop :=
  ((hostsOk m = true ∧ ∃ H, e = .returned (.tuple #[.slice (some ⟨H, 0, none⟩) m.im.length m.im.length, .bool true]) ∧ w.heap.size ≤ H ∧ Words .i64 3 w' H (hostsL m)) ∨ (hostsOk m = false ∧ e = .returned (.tuple #[.slice none 0 0, .bool false]))) ∧ Below w.heap.size w w'
set_option maxRecDepth 100000 in
set_option maxHeartbeats 4000000 in
theorem hostsOf_any (m : Md) (w : World) (hm : ModAt w.heap.size w m) (hf : m.few) :
    Calls Tryz.prog 43 #[.agg m.v] w (HostsQ m w) := by
  have hb0 := (Below.refl w.heap.size w).alloc (Nat.le_refl _) (.cells m.v 32)
  have HM := hid hm
  have HR := hid hm.im
  have HB := hid hb0
  have HX := hid (BoxAt.made w m.v 32)
  have hl := hf.lens.2.1
  have HFF := hid hf.fit
  have HOY := hid (fun h => hostsOk_yes (m := m) h)
  have HON := hid (fun k hk h => hostsOk_no (m := m) (k := k) hk h)
  have HLA := hid (fun k hk => hostsL_at (m := m) (k := k) hk)
  have HLN := hid (hostsL_len m)
  have CT := hid (fun (k : Nat) (W : World) hW hk => TypeOf_any m k W hW hf.fit hk)
  obtain ⟨n, hn⟩ : ∃ n, m.im.length = n := ⟨_, rfl⟩
  have HN := hid hn
  unfold HostsQ
  unfold Md.v at HX HB CT ⊢
  rw [hn] at hl HX HB HLN CT ⊢
  clear hm hf hb0 hn
  generalize m.im'.a = a at HR HB HX CT ⊢
  have q1 := eqType
  have q2 := guardType
  obtain ⟨W0, hW0⟩ : ∃ W0, W0 = w.alloc (.cells #[.slice m.ty'.a m.ty.length m.ty'.c, .slice a n m.im'.c, .slice m.fu'.a m.fu.length m.fu'.c, .slice m.tb'.a m.tb.length m.tb'.c, .slice m.me'.a m.me.length m.me'.c, .slice m.gl'.a m.gl.length m.gl'.c, .slice m.ex'.a m.ex.length m.ex'.c, .bool m.st, .int .u32 m.sn, .slice m.el'.a m.el.length m.el'.c, .slice m.da'.a m.da.length m.da'.c] 32) := ⟨_, rfl⟩
  rw [← hW0] at HX HB
  have HW0 := hid hW0
  clear hW0
  go_enter Tryz.func43, Tryz.ntmps43
  go_upto_region 1 with fail
  rw [← HW0.out]
  clear HW0
  go_wp2_with fail
  refine (hostFunctions_any W0).mono ?_
  rintro e wa ⟨rfl, hha, hba⟩
  obtain ⟨gm, hgm⟩ : ∃ gm, W0.heap.size = gm := ⟨_, rfl⟩
  rw [hgm] at hha ⊢
  obtain ⟨W1, hmk, hh1, hb1⟩ := make_zeros infoInt Tryz.underlying60 wa n (by omega) (by omega)
  have hmk1 := hmk n rfl
  have hb01 := hid (thenB HB.out (hba.trans (hb1.mono hba.size)))
  have HX1 := hid ((HX.out.keep hba).keep hb1)
  have x1 := (HX.out.keep hba) 1 _ rfl
  have y1 := ((HX.out.keep hba).keep hb1) 1 _ rfl
  have hgs := (Array.getElem?_eq_some_iff.1 hh1).1
  have HGS := hid hgs
  have HMP := hid (hha.below hb1)
  have HGM := hid (show gm ≠ wa.heap.size by have := hha.lt; omega)
  have HWG := hid (show w.heap.size < wa.heap.size by have := hha.lt; have := HB.out.size; have := World.block_lt_of_cell? W0 _ (HX.out 0 _ rfl); simp only at this; omega)
  obtain ⟨G, hG⟩ : ∃ G, wa.heap.size = G := ⟨_, rfl⟩
  rw [hG] at hmk1 hh1 HGS HGM HWG
  have HR0 := hid (show RowW .i64 3 (hostsL m) n W1 G 0 W1 from ⟨by rw [midRow_start]; exact hh1, Save.refl _ _⟩)
  clear hmk hh1 hb1 hba hha hgm hG HX HB hgs
  go_wp2
  clear hmk1 x1 y1
  go_loopw [20] (fun vi wr => ∃ k : Nat, vi = .int .i64 k ∧ k ≤ n ∧ Hid (RowW .i64 3 (hostsL m) n W1 G k wr) ∧ Hid (∀ j, j < k → hostI m j ≠ 0)) (fun vi _ => n - (intOf vi).toNat)
  case atStart => exact ⟨0, rfl, Nat.zero_le _, HR0, fun j hj => absurd hj (Nat.not_lt_zero _)⟩
  case round =>
    obtain ⟨k, rfl, hk, HRW, HJ⟩ := hrel
    by_cases hlt : k < n
    · have hkl : k < m.im.length := by rw [HN.out]; exact hlt
      obtain ⟨b, off, rfl, hb, hc⟩ := Rows.get HR.out hkl
      have hat : imAt m k = m.im[k] := by simp [imAt, hkl]
      obtain ⟨x, hxe⟩ : ∃ x, m.im[k] = x := ⟨_, rfl⟩
      rw [hxe] at hc hat
      have hbw : Below w.heap.size w wr := hb01.out.trans (HRW.out.sv.below (by have := hb01.out.size; omega) (Nat.le_of_lt HWG.out))
      have cc : ∀ j, j < 3 → ∀ v, x.v[j]? = some v → wr.cell? ⟨b, off + k * 3 + j, none⟩ = some v := fun j hj v hv => (hbw.cell (p := ⟨b, off + k * 3 + j, none⟩) hb).trans (hc j hj v hv)
      have c0 : wr.cell? ⟨b, off + k * 3, none⟩ = some (.string x.mo) := cc 0 (by omega) _ rfl
      have c1 : wr.cell? ⟨b, off + k * 3 + 1, none⟩ = some (.string x.na) := cc 1 (by omega) _ rfl
      have c2 : wr.cell? ⟨b, off + k * 3 + 2, none⟩ = some (.int .i64 x.ty) := cc 2 (by omega) _ rfl
      have hki : (k : Int) < (n : Int) := by omega
      have hku : IntKind.u32.wrap (k : Int) = (k : Int) := by rw [IntKind.wrap_u32]; omega
      obtain ⟨num, p, r, is, hlv, hcase⟩ := lookV_cases x.mo x.na
      have HCS := hid hcase
      have hl1 := look_any ((HMP.out.save HRW.out.sv HGM.out).below (belowAlloc wr (.cells #[.string x.mo, .string x.na, .int .i64 x.ty] 90))) x.mo x.na
      rw [hlv] at hl1
      simp only at hl1
      obtain ⟨n0, n1, n2, n3, n4, n5, n6, n7, n8, n9, n10⟩ := BoxAt.mod (((box_sv HX1.out HRW.out.sv (by have := HWG.out; omega)).keep (belowAlloc wr (.cells #[.string x.mo, .string x.na, .int .i64 x.ty] 90))).keep (belowAlloc _ (.cells #[.int .i64 num, .int .i64 p, .int .i64 r] 155)))
      have hbw2 : Below w.heap.size w ((wr.alloc (.cells #[.string x.mo, .string x.na, .int .i64 x.ty] 90)).alloc (.cells #[.int .i64 num, .int .i64 p, .int .i64 r] 155)) := thenA (thenA hbw _) _
      have CC := hid (CT.out k ((wr.alloc (.cells #[.string x.mo, .string x.na, .int .i64 x.ty] 90)).alloc (.cells #[.int .i64 num, .int .i64 p, .int .i64 r] 155)) ((HM.out.below hbw2).more hbw2.size) (by omega))
      have hbx := BoxAt.made (wr.alloc (.cells #[.string x.mo, .string x.na, .int .i64 x.ty] 90)) #[.int .i64 num, .int .i64 p, .int .i64 r] 155
      rw [World.size_alloc] at hbx
      have HBX := hid hbx
      have HRA := hid ((HRW.out.below (belowAlloc wr (.cells #[.string x.mo, .string x.na, .int .i64 x.ty] 90))).below (belowAlloc _ (.cells #[.int .i64 num, .int .i64 p, .int .i64 r] 155)))
      have HBW2 := hid hbw2
      have hhi : hostI m k = hostP x.mo x.na (m.typeOf k).1 := by unfold hostI; rw [hat]
      have hlv2 := HLA.out k hkl
      obtain ⟨⟨⟨tp, tr⟩, ti⟩, hq⟩ : ∃ q, m.typeOf k = q := ⟨_, rfl⟩
      rw [hq] at CC hhi
      simp only at CC hhi
      have HHI := hid hhi
      have HLV := hid hlv2
      clear hxe hc cc hb hat hbw hbw2 hq hlv hcase hbx hhi hlv2 HRW
      go_wp2_with fail
      refine CC.out.mono ?_
      rintro e wt ⟨rfl, hbt⟩
      have HRC := hid ((HRA.out.below hbt).below (belowAlloc wt (.cells #[.int .i64 tp, .int .i64 tr] 92)))
      obtain ⟨⟨v0, g0⟩, g1⟩ := HRC.out.cell HLN.out hlt
      have e0 := ((HBX.out.keep hbt).keep (belowAlloc wt (.cells #[.int .i64 tp, .int .i64 tr] 92))) 0 _ rfl
      have e1 := ((HBX.out.keep hbt).keep (belowAlloc wt (.cells #[.int .i64 tp, .int .i64 tr] 92))) 1 _ rfl
      have e2 := ((HBX.out.keep hbt).keep (belowAlloc wt (.cells #[.int .i64 tp, .int .i64 tr] 92))) 2 _ rfl
      have HBT := hid (thenB HBW2.out hbt)
      clear CC hl1 hbt c0 c1 c2 n0 n1 n2 n3 n4 n5 n6 n7 n8 n9 n10
      rcases HCS.out with ⟨rfl, hz⟩ | ⟨rfl, hnz, hz⟩
      · have HNO := hid (HON.out k hkl (by rw [HHI.out]; exact hz _))
        have HBF := hid (thenA HBT.out (.cells #[.int .i64 tp, .int .i64 tr] 92))
        clear hz
        go_wp2
        go_ret2
        exact ⟨.inr ⟨HNO.out, rfl⟩, HBF.out⟩
      · by_cases ht : (tp, tr) = (p, r)
        · have hv : hostI m k = num := by rw [HHI.out, hz, if_pos ht]
          simp only [Prod.mk.injEq] at ht
          obtain ⟨rfl, rfl⟩ := ht
          have HRN := hid (HRC.out.set HLN.out hlt (v := num) (by rw [HLV.out, hv]))
          have HJ2 := hid (show ∀ j, j < k + 1 → hostI m j ≠ 0 from fun j hj => by
            rcases Nat.lt_or_ge j k with h | h
            · exact HJ.out j h
            · obtain rfl : j = k := by omega
              rw [hv]; exact hnz)
          clear hz hnz hv
          go_wp2
          go_roundw
          case rel => exact ⟨k + 1, by go_num, by omega, HRN, HJ2⟩
          case measure => simp [intOf]; omega
        · have hv : hostI m k = 0 := by rw [HHI.out, hz, if_neg ht]
          have HNO := hid (HON.out k hkl hv)
          have hne : (tp == p && tr == r) = false := by
            cases h : (tp == p && tr == r)
            · rfl
            · simp only [Bool.and_eq_true, beq_iff_eq] at h
              exact absurd (by rw [h.1, h.2]) ht
          have HBF := hid (thenA HBT.out (.cells #[.int .i64 tp, .int .i64 tr] 92))
          clear hz hnz hv ht
          go_wp2
          go_ret2
          exact ⟨.inr ⟨HNO.out, rfl⟩, HBF.out⟩
    · obtain rfl : k = n := by omega
      have HOK := hid (HOY.out (fun j hj => HJ.out j (by rw [HN.out] at hj; exact hj)))
      have HE := hid (show Words .i64 3 wr G (hostsL m) by have := HRW.out.row; rw [midRow_full HLN.out] at this; exact this)
      have HF := hid (hb01.out.trans (HRW.out.sv.below (by have := hb01.out.size; omega) (Nat.le_of_lt HWG.out)))
      go_wp2
      go_ret2
      exact ⟨.inl ⟨HOK.out, G, rfl, Nat.le_of_lt HWG.out, HE.out⟩, HF.out⟩
end Go.Proofs.YtckdnhafookcgaaGreatDoor.Pl

namespace Go.Proofs.YtckdnhafookcgaaGreatDoor.Pl
open Go.RowKit Go.Shelf Go.Proofs.YtckdnhafookcgaaGreatDoor.Instr Go.Proofs.YtckdnhafookcgaaGreatDoor.Mod Go.Proofs.YtckdnhafookcgaaGreatDoor.Val
open Go.Proofs.YtckdnhafookcgaaGreatDoor.Mem (MemIs MemAt Wrote Keep isOwn Mm)
open Go.Proofs.YtckdnhafookcgaaGreatDoor.Kind (okLim codeLim)
set_option linter.unusedVariables false

/-! What is told speaks of what the module holds alone. -/
theorem layed_bare : ∀ (l r : List El) (tb : List (Option Int)), l.map El.bare = r.map El.bare → elemsP l tb = elemsP r tb
  | [], r, tb, h => by cases r with
    | nil => rfl
    | cons x r => simp at h
  | e :: l, r, tb, h => by
    cases r with
    | nil => simp at h
    | cons x r =>
      simp only [List.map_cons, List.cons.injEq] at h
      obtain ⟨h1, h2⟩ := h
      have hc : constP e.l.t = constP x.l.t := by
        have : e.l.t.bare = x.l.t.bare := congrArg (fun q => q.l.t) h1
        rw [← constP_bare, this, constP_bare]
      have hf : e.fs = x.fs := congrArg (fun q => q.fs) h1
      unfold elemsP
      rw [hc, hf, layed_bare l r _ h2]
theorem datas_bare : ∀ (l r : List Da) (mm : Mm), l.map Da.bare = r.map Da.bare → datasP l mm = datasP r mm
  | [], r, tb, h => by cases r with
    | nil => rfl
    | cons x r => simp at h
  | e :: l, r, tb, h => by
    cases r with
    | nil => simp at h
    | cons x r =>
      simp only [List.map_cons, List.cons.injEq] at h
      obtain ⟨h1, h2⟩ := h
      have hc : constP e.l.t = constP x.l.t := by
        have : e.l.t.bare = x.l.t.bare := congrArg (fun q => q.l.t) h1
        rw [← constP_bare, this, constP_bare]
      have hf : e.bs = x.bs := congrArg (fun q => q.bs) h1
      unfold datasP
      rw [hc, hf, datas_bare l r _ h2]
theorem globs_bare {a b : Md} (h : b.bare = a.bare) : globs b = globs a := by
  have S := (same_iff.1 h).gl
  unfold globs
  have e : ∀ l : List Gl, l.map (fun g => (constP g.l.t).1) = (l.map Gl.bare).map (fun g => (constP g.l.t).1) := fun l => by
    rw [List.map_map]
    refine List.map_congr_left fun g _ => ?_
    show (constP g.l.t).1 = (constP g.l.t.bare).1
    rw [constP_bare]
  exact (e b.gl).trans ((congrArg _ S).trans (e a.gl).symm)
theorem tabP_bare {a b : Md} (h : b.bare = a.bare) : tabP b = tabP a := by
  have S := same_iff.1 h
  unfold tabP
  rw [S.tb, show tab0 b = tab0 a by unfold tab0; rw [S.tb]]
  split
  · rfl
  · exact layed_bare _ _ _ S.el
theorem memP_bare {a b : Md} (h : b.bare = a.bare) : memP b = memP a := by
  have S := same_iff.1 h
  rw [memP_eq, memP_eq, S.me]
  cases a.me with
  | nil => rfl
  | cons l r => simp only [memL, datas_bare _ _ _ S.da]
theorem few_bare {a b : Md} (h : b.bare = a.bare) (f : a.few) : b.few := by
  have S := same_iff.1 h
  have hl := f.lens
  have l3 := map_lenS S.fu
  have l6 := map_lenS S.gl
  have l8 := map_lenS S.el
  have l9 := map_lenS S.da
  refine ⟨fits_coreS h f.fit, fun l hl => ?_, by rw [S.ty, S.im, S.tb, S.me, S.ex]; omega⟩
  obtain ⟨r, hr, e⟩ := codes_coreS h hl
  have := f.cs r hr
  rw [← cbare_count, e, cbare_count] at this
  exact this
/-- What a valid module has. -/
structure Sound (m : Md) : Prop where
  tb : ∀ t ∈ m.tb, 0 ≤ t.n ∧ t.n < 4294967296
  me : ∀ t ∈ m.me, LimOk t
  hv : sumB m.da ≤ 1048576
theorem wrong_zero {m : Md} (h : (wrongP m).e = 0) : m.check = 0 := by
  unfold wrongP at h
  by_cases hc : m.check = 0
  · exact hc
  · rw [if_neg hc] at h
    exact absurd h hc
theorem sound_of {m : Md} (h : m.check = 0) (hr : ∀ l ∈ m.tb ++ m.me, 0 ≤ l.n) : Sound m := by
  unfold Md.check at h
  split at h; · omega
  split at h; · omega
  split at h; · omega
  split at h; · omega
  split at h; · omega
  split at h
  · omega
  rename_i h1 h2 h3 h4 h5 h6
  have hw : m.wrong = false := by simpa using h6
  unfold Md.wrong at hw
  simp only [Bool.or_eq_false_iff] at hw
  refine ⟨fun t ht => ?_, fun t ht => ?_, ?_⟩
  · have hb : beyond 1048576 t = false := by
      have := hw.1.1.2
      rw [List.any_eq_false] at this
      simpa using this t ht
    have h0 := hr t (List.mem_append_left _ ht)
    unfold beyond okLim at hb
    simp at hb
    omega
  · have hb : beyond 65536 t = false := by
      have := hw.1.2
      rw [List.any_eq_false] at this
      simpa using this t ht
    have h0 := hr t (List.mem_append_right _ ht)
    unfold beyond at hb
    have hok : okLim t.n t.x t.c 65536 = true := by simpa using hb
    refine ⟨?_, ?_, hok⟩
    · unfold okLim at hok
      simp at hok
      omega
    · unfold okLim at hok
      cases hc : t.c <;> rw [hc] at hok <;> simp at hok <;> omega
  · have : m.heavy = false := by simpa using h4
    unfold Md.heavy at this
    simpa using this
theorem sumB_map : ∀ l : List Da, sumB (l.map Da.bare) = sumB l
  | [] => rfl
  | d :: r => by simp only [List.map_cons, sumB, sumB_map r]; rfl
theorem sumB_bare {a b : Md} (h : b.bare = a.bare) : sumB b.da = sumB a.da := by rw [← sumB_map, (same_iff.1 h).da, sumB_map]
theorem CellO.mono {lo hi lo' : Nat} {w : World} (g : lo' ≤ lo) {k : Kd} {v : Value} (h : CellO lo hi w k v) : CellO lo' hi w k v := by
  cases k with
  | i64 => exact h
  | u32 => exact h
  | bool => exact h
  | str => exact h
  | lst => obtain ⟨a, n, c, t, h1, h2, h3⟩ := h; exact ⟨a, n, c, t, h1, h2.mono g (Nat.le_refl _), h3⟩
  | tags => obtain ⟨a, n, c, zs, h1, h2, h3, h4, h5⟩ := h; exact ⟨a, n, c, zs, h1, h2, h3.mono g (Nat.le_refl _), h4, h5⟩
  | room => obtain ⟨a, n, c, h1, h2⟩ := h; exact ⟨a, n, c, h1, h2.mono g (Nat.le_refl _)⟩
theorem RowO.mono {lo hi lo' n : Nat} {w : World} (g : lo' ≤ lo) {ks : List Kd} {a : Option Addr} (h : RowO lo hi w ks a n) : RowO lo' hi w ks a n := by
  rcases h with h | ⟨b, off, h1, h2, h3⟩
  · exact .inl h
  · exact .inr ⟨b, off, h1, h2.mono g (Nat.le_refl _), fun i hi j k hk => by obtain ⟨v, h4, h5⟩ := h3 i hi j k hk; exact ⟨v, h4, CellO.mono g h5⟩⟩
theorem ModO.mono {lo hi lo' : Nat} {w : World} {m : Md} (g : lo' ≤ lo) (h : ModO lo hi w m) : ModO lo' hi w m :=
  ⟨RowO.mono g h.ty, RowO.mono g h.im, RowO.mono g h.fu, RowO.mono g h.gl, RowO.mono g h.ex, RowO.mono g h.el, RowO.mono g h.da⟩
theorem TabIs.below {lo hi : Nat} {w w' : World} {v : Value} {tb : List (Option Int)} (h : TabIs lo hi w v tb) (hh : hi ≤ w.heap.size) (hb : Below w.heap.size w w') : TabIs lo hi w' v tb := by
  rcases h with h1 | ⟨T, h1, h2, h3⟩
  · exact .inl h1
  · exact .inr ⟨T, h1, h2, h3.below (hb.mono hh) (hb.block _ h3.lt)⟩
theorem fieldErr (a b c d : Int) (w : World) : (Instr.field 80 (.agg #[.int .i64 a, .int .i64 b, .int .i64 c, .int .i64 d]) 0).run Tryz.prog w = .ok (.int .i64 a) w := by
  have u4 := run_underlying (P := Tryz.prog) Tryz.underlying38
  unfold Instr.field
  simp [run_underlying Tryz.underlying80, part, isAgg, asAgg, u4]
theorem held_out11 {w w1 : World} {p0 p1 p2 p3 p4 p5 p6 p7 p8 p9 p10 : Addr} {v0 v1 v2 v3 v4 v5 v6 v7 v8 v9 v10 : Value} (h : Below w.heap.size w w1 ∧ w1.cell? p0 = some v0 ∧ w1.cell? p1 = some v1 ∧ w1.cell? p2 = some v2 ∧ w1.cell? p3 = some v3 ∧ w1.cell? p4 = some v4 ∧ w1.cell? p5 = some v5 ∧ w1.cell? p6 = some v6 ∧ w1.cell? p7 = some v7 ∧ w1.cell? p8 = some v8 ∧ w1.cell? p9 = some v9 ∧ w1.cell? p10 = some v10) : Below w.heap.size w w1 := h.1
theorem held_keep11 {w w1 w2 : World} {p0 p1 p2 p3 p4 p5 p6 p7 p8 p9 p10 : Addr} {v0 v1 v2 v3 v4 v5 v6 v7 v8 v9 v10 : Value} (h : Below w.heap.size w w1 ∧ w1.cell? p0 = some v0 ∧ w1.cell? p1 = some v1 ∧ w1.cell? p2 = some v2 ∧ w1.cell? p3 = some v3 ∧ w1.cell? p4 = some v4 ∧ w1.cell? p5 = some v5 ∧ w1.cell? p6 = some v6 ∧ w1.cell? p7 = some v7 ∧ w1.cell? p8 = some v8 ∧ w1.cell? p9 = some v9 ∧ w1.cell? p10 = some v10) (hb : Below w1.heap.size w1 w2) :
    Below w.heap.size w w2 ∧ w2.cell? p0 = some v0 ∧ w2.cell? p1 = some v1 ∧ w2.cell? p2 = some v2 ∧ w2.cell? p3 = some v3 ∧ w2.cell? p4 = some v4 ∧ w2.cell? p5 = some v5 ∧ w2.cell? p6 = some v6 ∧ w2.cell? p7 = some v7 ∧ w2.cell? p8 = some v8 ∧ w2.cell? p9 = some v9 ∧ w2.cell? p10 = some v10 :=
  ⟨thenB h.1 hb, Go.Proofs.YtckdnhafookcgaaGreatDoor.keep hb h.2.1, Go.Proofs.YtckdnhafookcgaaGreatDoor.keep hb h.2.2.1, Go.Proofs.YtckdnhafookcgaaGreatDoor.keep hb h.2.2.2.1, Go.Proofs.YtckdnhafookcgaaGreatDoor.keep hb h.2.2.2.2.1, Go.Proofs.YtckdnhafookcgaaGreatDoor.keep hb h.2.2.2.2.2.1, Go.Proofs.YtckdnhafookcgaaGreatDoor.keep hb h.2.2.2.2.2.2.1, Go.Proofs.YtckdnhafookcgaaGreatDoor.keep hb h.2.2.2.2.2.2.2.1, Go.Proofs.YtckdnhafookcgaaGreatDoor.keep hb h.2.2.2.2.2.2.2.2.1, Go.Proofs.YtckdnhafookcgaaGreatDoor.keep hb h.2.2.2.2.2.2.2.2.2.1, Go.Proofs.YtckdnhafookcgaaGreatDoor.keep hb h.2.2.2.2.2.2.2.2.2.2.1, Go.Proofs.YtckdnhafookcgaaGreatDoor.keep hb h.2.2.2.2.2.2.2.2.2.2.2⟩
theorem TabIs.slice {lo hi : Nat} {w : World} {v : Value} {tb : List (Option Int)} (h : TabIs lo hi w v tb) : ∃ a n c, v = .slice a n c := by
  rcases h with ⟨h, _⟩ | ⟨T, h, _⟩
  · exact ⟨_, _, _, h⟩
  · exact ⟨_, _, _, h⟩
theorem MemVal.ptr {hi K : Nat} {w : World} {v : Value} : ∀ {o : Option Mm}, MemVal hi K w v o → ∃ q, v = .pointer q
  | none, h => ⟨_, h⟩
  | some x, ⟨p, h1, h2⟩ => ⟨_, h1⟩
theorem pl_end {lo hi H gb K n ng : Nat} {w : World} {d : Md} {tv mv : Value} {x : Pc} (hn : x.hs.length = n) (hng : x.gs.length = ng) (lh : lo ≤ hi) (hp : hi ≤ w.heap.size) (hH : lo ≤ H) (Hh : H < hi) (hg : hi ≤ gb) (at_ : ModAt hi w d) (own : ModO lo hi w d) (fit : d.fits)
    (hs : Words .i64 3 w H x.hs) (gs : Words .u32 28 w gb x.gs) (tb : TabIs lo hi w tv x.tb) (me : MemVal hi K w mv x.me) (ls : x.hs.length ≤ 1000000 ∧ x.gs.length ≤ 1000000 ∧ x.tb.length ≤ 4294967295) (gl : x.gs.length = d.gl.length) :
    PlAt lo hi (w.alloc (.cells #[.pointer (some ⟨w.heap.size, 0, none⟩), .slice d.ty'.a d.ty.length d.ty'.c, .slice d.im'.a d.im.length d.im'.c, .slice d.fu'.a d.fu.length d.fu'.c, .slice d.tb'.a d.tb.length d.tb'.c, .slice d.me'.a d.me.length d.me'.c, .slice d.gl'.a d.gl.length d.gl'.c, .slice d.ex'.a d.ex.length d.ex'.c, .bool d.st, .int .u32 d.sn, .slice d.el'.a d.el.length d.el'.c, .slice d.da'.a d.da.length d.da'.c, .slice (some ⟨H, 0, none⟩) n n, .slice (some ⟨gb, 0, none⟩) ng ng, tv, mv] 63)) w.heap.size H gb K d tv mv x ∧ Below w.heap.size w (w.alloc (.cells #[.pointer (some ⟨w.heap.size, 0, none⟩), .slice d.ty'.a d.ty.length d.ty'.c, .slice d.im'.a d.im.length d.im'.c, .slice d.fu'.a d.fu.length d.fu'.c, .slice d.tb'.a d.tb.length d.tb'.c, .slice d.me'.a d.me.length d.me'.c, .slice d.gl'.a d.gl.length d.gl'.c, .slice d.ex'.a d.ex.length d.ex'.c, .bool d.st, .int .u32 d.sn, .slice d.el'.a d.el.length d.el'.c, .slice d.da'.a d.da.length d.da'.c, .slice (some ⟨H, 0, none⟩) n n, .slice (some ⟨gb, 0, none⟩) ng ng, tv, mv] 63)) := by
  have hb : Below w.heap.size w (w.alloc (.cells #[.pointer (some ⟨w.heap.size, 0, none⟩), .slice d.ty'.a d.ty.length d.ty'.c, .slice d.im'.a d.im.length d.im'.c, .slice d.fu'.a d.fu.length d.fu'.c, .slice d.tb'.a d.tb.length d.tb'.c, .slice d.me'.a d.me.length d.me'.c, .slice d.gl'.a d.gl.length d.gl'.c, .slice d.ex'.a d.ex.length d.ex'.c, .bool d.st, .int .u32 d.sn, .slice d.el'.a d.el.length d.el'.c, .slice d.da'.a d.da.length d.da'.c, .slice (some ⟨H, 0, none⟩) n n, .slice (some ⟨gb, 0, none⟩) ng ng, tv, mv] 63)) := thenA (Below.refl _ _) _
  have h0 := (MapKept.heap_alloc w (.cells #[.pointer (some ⟨w.heap.size, 0, none⟩), .slice d.ty'.a d.ty.length d.ty'.c, .slice d.im'.a d.im.length d.im'.c, .slice d.fu'.a d.fu.length d.fu'.c, .slice d.tb'.a d.tb.length d.tb'.c, .slice d.me'.a d.me.length d.me'.c, .slice d.gl'.a d.gl.length d.gl'.c, .slice d.ex'.a d.ex.length d.ex'.c, .bool d.st, .int .u32 d.sn, .slice d.el'.a d.el.length d.el'.c, .slice d.da'.a d.da.length d.da'.c, .slice (some ⟨H, 0, none⟩) n n, .slice (some ⟨gb, 0, none⟩) ng ng, tv, mv] 63)).1
  have hhi : Below hi w (w.alloc (.cells #[.pointer (some ⟨w.heap.size, 0, none⟩), .slice d.ty'.a d.ty.length d.ty'.c, .slice d.im'.a d.im.length d.im'.c, .slice d.fu'.a d.fu.length d.fu'.c, .slice d.tb'.a d.tb.length d.tb'.c, .slice d.me'.a d.me.length d.me'.c, .slice d.gl'.a d.gl.length d.gl'.c, .slice d.ex'.a d.ex.length d.ex'.c, .bool d.st, .int .u32 d.sn, .slice d.el'.a d.el.length d.el'.c, .slice d.da'.a d.da.length d.da'.c, .slice (some ⟨H, 0, none⟩) n n, .slice (some ⟨gb, 0, none⟩) ng ng, tv, mv] 63)) := hb.mono hp
  subst hn hng
  exact ⟨⟨h0, lh, hp, hH, Hh, hg, at_.below hhi, own.frameC (SameC.of_below hhi (Nat.le_refl _)), fit, hs.block (hb.block _ hs.lt), gs.block (hb.block _ gs.lt), tb.below hp hb, me.below hb, ls, gl⟩, hb⟩
theorem tabP_length {m : Md} {t : List (Option Int)} (h : tabP m = some t) (hr : ∀ l ∈ m.tb, 0 ≤ l.n ∧ l.n < 4294967296) : t.length ≤ 4294967295 := by
  unfold tabP at h
  split at h
  · cases h; simp
  · rename_i h0
    rw [elemsP_length _ _ _ h]
    have h0n : 0 < m.tb.length := by omega
    rw [show tab0 m = List.replicate (m.tb[0]).n.toNat none from tab0_at m.tb h0n]
    have := hr _ (List.getElem_mem h0n)
    simp; omega
theorem globs_len (m : Md) : (globs m).length = m.gl.length := by simp [globs]
/-- What New asks of a module. -/
structure NewIn (w : World) (m : Md) : Prop where
  at_ : ModAt w.heap.size w m
  few : m.few
  rng : m.ranged
  sm : m.small 5000
def NewQ (m : Md) (w : World) (e : Ending) (w' : World) : Prop :=
  ((∃ er, er ≠ 0 ∧ newP m = (er, ⟨[], [], [], none⟩) ∧ e = .returned (.tuple #[.pointer none, .int .i64 er])) ∨
   ∃ x hi p H gb d tv mv, newP m = (0, x) ∧ e = .returned (.tuple #[.pointer (some ⟨p, 0, none⟩), .int .i64 0]) ∧ d.bare = m.bare ∧ PlAt w.heap.size hi w' p H gb 1048576 d tv mv x) ∧ Below w.heap.size w w'
theorem newP_wrong {m : Md} (h : (wrongP m).e ≠ 0) : newP m = (2, ⟨[], [], [], none⟩) := by unfold newP; rw [if_pos h]
theorem newP_host {m : Md} (h : (wrongP m).e = 0) (h2 : hostsOk m = false) : newP m = (230, ⟨[], [], [], none⟩) := by unfold newP; rw [if_neg (by omega), if_pos h2]
theorem newP_tab {m : Md} (h : (wrongP m).e = 0) (h2 : hostsOk m = true) (h3 : tabP m = none) : newP m = (220, ⟨[], [], [], none⟩) := by unfold newP; rw [if_neg (by omega), if_neg (by rw [h2]; decide), h3]
theorem newP_mem {m : Md} (h : (wrongP m).e = 0) (h2 : hostsOk m = true) {t : List (Option Int)} (h3 : tabP m = some t) (h4 : memP m = none) : newP m = (220, ⟨[], [], [], none⟩) := by unfold newP; rw [if_neg (by omega), if_neg (by rw [h2]; decide), h3, h4]
theorem newP_ok {m : Md} (h : (wrongP m).e = 0) (h2 : hostsOk m = true) {t : List (Option Int)} (h3 : tabP m = some t) {o : Option Mm} (h4 : memP m = some o) : newP m = (0, ⟨hostsL m, globs m, t, o⟩) := by unfold newP; rw [if_neg (by omega), if_neg (by rw [h2]; decide), h3, h4]
set_option maxRecDepth 100000 in
set_option maxHeartbeats 8000000 in
theorem New_any (m : Md) (w : World) (hi : NewIn w m) (hT : Tb w) : Calls Tryz.prog 14 #[.agg m.v] w (NewQ m w) := by
  have hb0 := (Below.refl w.heap.size w).alloc (Nat.le_refl _) (.cells m.v 32)
  have HI := hid hi
  have HT := hid hT
  have HB := hid hb0
  have HX := hid (BoxAt.made w m.v 32)
  have C1 := hid (fun W (hm : ModAt W.heap.size W m) (hT : Tb W) => Check_m m W hm hi.few ⟨hi.rng.ei, hi.rng.ef, hi.rng.sn⟩ hT.nt hT.ut hT.ar)
  have C2 := hid (fun W (hm : ModAt W.heap.size W m) => hostsOf_any m W hm hi.few)
  have C3 := hid (fun W (hm : ModAt W.heap.size W m) => (show Calls Tryz.prog 44 #[.agg m.v] W fun e w' => ∃ d : Md, e = .returned (.agg #[.slice d.ty'.a d.ty.length d.ty'.c, .slice d.im'.a d.im.length d.im'.c, .slice d.fu'.a d.fu.length d.fu'.c, .slice d.tb'.a d.tb.length d.tb'.c, .slice d.me'.a d.me.length d.me'.c, .slice d.gl'.a d.gl.length d.gl'.c, .slice d.ex'.a d.ex.length d.ex'.c, .bool d.st, .int .u32 d.sn, .slice d.el'.a d.el.length d.el'.c, .slice d.da'.a d.da.length d.da'.c]) ∧ OwnM W.heap.size w' m d ∧ Below W.heap.size W w' from Copy_own m W (inp_core rfl hi.sm hi.few.fit hm)))
  unfold CheckP at C1
  unfold HostsQ at C2
  unfold NewQ
  obtain ⟨n, hn⟩ : ∃ n, m.im.length = n := ⟨_, rfl⟩
  have HN := hid hn
  unfold Md.v at HX HB C1 C2 C3 ⊢
  rw [hn] at HX HB C1 C2 C3 ⊢
  clear hi hT hb0 hn
  obtain ⟨W0, hW0⟩ : ∃ W0, W0 = w.alloc (.cells #[.slice m.ty'.a m.ty.length m.ty'.c, .slice m.im'.a n m.im'.c, .slice m.fu'.a m.fu.length m.fu'.c, .slice m.tb'.a m.tb.length m.tb'.c, .slice m.me'.a m.me.length m.me'.c, .slice m.gl'.a m.gl.length m.gl'.c, .slice m.ex'.a m.ex.length m.ex'.c, .bool m.st, .int .u32 m.sn, .slice m.el'.a m.el.length m.el'.c, .slice m.da'.a m.da.length m.da'.c] 32) := ⟨_, rfl⟩
  rw [← hW0] at HX HB
  have HW0 := hid hW0
  clear hW0
  go_enter Tryz.func14, Tryz.ntmps14
  go_upto_region 1 with fail
  rw [← HW0.out]
  clear HW0
  obtain ⟨n0, n1, n2, n3, n4, n5, n6, n7, n8, n9, n10⟩ := BoxAt.mod HX.out
  have CC1 := hid (C1.out W0 ((HI.out.at_.below HB.out).more HB.out.size) (HT.out.on HB.out))
  obtain ⟨⟨we, wsec, wi, wa⟩, hwr⟩ : ∃ q, wrongP m = q := ⟨_, rfl⟩
  rw [hwr] at CC1
  have HWR := hid (show (wrongP m).e = we by rw [hwr])
  simp only [Wr.v] at CC1
  clear C1 hwr
  have qf := fieldErr
  go_wp2_with fail
  refine CC1.out.mono ?_
  rintro e w1 ⟨rfl, hb1⟩
  have HX1 := hid (HX.out.keep hb1)
  have HB1 := hid (thenB HB.out hb1)
  clear CC1 hb1 n0 n1 n2 n3 n4 n5 n6 n7 n8 n9 n10 HX HB
  by_cases hwe : we = 0
  · subst hwe
    obtain ⟨n0, n1, n2, n3, n4, n5, n6, n7, n8, n9, n10⟩ := BoxAt.mod HX1.out
    have CC2 := hid (C2.out w1 ((HI.out.at_.below HB1.out).more HB1.out.size))
    clear C2
    go_wp2_with fail
    refine CC2.out.mono ?_
    rintro e w2 ⟨hq, hb2⟩
    have HX2 := hid (HX1.out.keep hb2)
    have HB2 := hid (thenB HB1.out hb2)
    have HS12 := hid hb2.size
    clear CC2 hb2 n0 n1 n2 n3 n4 n5 n6 n7 n8 n9 n10 HX1
    rcases hq with ⟨hok, H, rfl, hH, hhs⟩ | ⟨hno, rfl⟩
    · have HOK := hid hok
      have HH := hid (show w.heap.size ≤ H from by have := HB1.out.size; omega)
      have HHS := hid hhs
      have HHL := hid (show (hostsL m).length = n by rw [hostsL_len, HN.out])
      clear hok hH hhs
      obtain ⟨n0, n1, n2, n3, n4, n5, n6, n7, n8, n9, n10⟩ := BoxAt.mod HX2.out
      have CC3 := hid (C3.out w2 ((HI.out.at_.below HB2.out).more HB2.out.size))
      clear C3
      go_wp2_with fail
      refine CC3.out.mono ?_
      rintro e w3 ⟨d, rfl, hd, hb3⟩
      have hbr := hd.bare
      have hfx := hd.facts HI.out.few.fit HI.out.rng.ef
      have SND := hid (sound_of (wrong_zero HWR.out) HI.out.rng.n0)
      have HDM := hid hfx.1
      have HDO := hid (ModO.mono (by have := HB2.out.size; omega) hfx.2.1 : ModO w.heap.size w3.heap.size w3 d)
      have HDF := hid hfx.2.2
      have HFW := hid (few_bare hbr HI.out.few)
      have HTG := hid (fun e (he : e ∈ d.el) => TagsO.mono (by have := HB2.out.size; omega) (Nat.le_refl _) (hd.cps.el.own e he).2)
      have HDC := hid (fun x (hx : x ∈ d.da) => (⟨(hd.cps.da.own x hx).2.1.1, (hd.cps.da.own x hx).2.1.2.1⟩ : x.bs.length ≤ x.bc ∧ x.bc ≤ 9223372036854775807))
      have HDB := hid (db_core hbr HI.out.rng.db)
      have HBR := hid hbr
      have HB3 := hid (thenB HB2.out hb3)
      have HS3 := hid hb3.size
      have HHS3 := hid (HHS.out.block (hb3.block H HHS.out.lt))
      have HHL3 := hid (show H < w3.heap.size from Nat.lt_of_lt_of_le HHS.out.lt hb3.size)
      obtain ⟨hi, hhi⟩ : ∃ hi, w3.heap.size = hi := ⟨_, rfl⟩
      have HHI := hid hhi
      have HX3 := hid (BoxAt.made w3 d.v 32)
      have HB4 := hid (belowAlloc w3 (.cells d.v 32))
      have CT := hid (fun W (hm : ModAt W.heap.size W d) hT hh ho => tableOf_any w.heap.size hi d W hm HFW.out hT hh ho (by rw [(same_iff.1 hbr).tb]; exact SND.out.tb))
      have CM := hid (fun W (hm : ModAt W.heap.size W d) hT hh => memoryOf_any hi d W hm HFW.out hT hh (by rw [(same_iff.1 hbr).me]; exact SND.out.me) HDB.out HDC.out (by rw [sumB_bare hbr]; exact SND.out.hv))
      have CG := hid (fun W (hm : ModAt W.heap.size W d) hT => globalsOf_any d W hm HFW.out hT)
      unfold TabQ at CT
      unfold MemoQ at CM
      unfold WordsQ at CG
      rw [tabP_bare hbr] at CT
      rw [memP_bare hbr] at CM
      rw [globs_bare hbr] at CG
      unfold Md.v at CT CM CG HX3 HB4
      rw [hhi] at HX3
      clear hbr hfx hd hb3 n0 n1 n2 n3 n4 n5 n6 n7 n8 n9 n10 CC3 HX2 HHS
      obtain ⟨W4, hW4⟩ : ∃ W4, W4 = w3.alloc (.cells #[.slice d.ty'.a d.ty.length d.ty'.c, .slice d.im'.a d.im.length d.im'.c, .slice d.fu'.a d.fu.length d.fu'.c, .slice d.tb'.a d.tb.length d.tb'.c, .slice d.me'.a d.me.length d.me'.c, .slice d.gl'.a d.gl.length d.gl'.c, .slice d.ex'.a d.ex.length d.ex'.c, .bool d.st, .int .u32 d.sn, .slice d.el'.a d.el.length d.el'.c, .slice d.da'.a d.da.length d.da'.c] 32) := ⟨_, rfl⟩
      rw [← hW4] at HX3 HB4
      have HW4 := hid hW4
      clear hW4 hhi
      go_upto_region 7 with fail
      rw [← HW4.out, HHI.out]
      clear HW4
      have HH4 := hid (show hi < W4.heap.size from World.block_lt_of_cell? W4 _ (HX3.out 0 _ rfl))
      obtain ⟨n0, n1, n2, n3, n4, n5, n6, n7, n8, n9, n10⟩ := BoxAt.mod HX3.out
      have hd4 : ModAt W4.heap.size W4 d := (HDM.out.below HB4.out).more HB4.out.size
      have CCT := hid (CT.out W4 hd4 (HT.out.on (thenB HB3.out HB4.out)).nt (Nat.le_of_lt HH4.out) (fun e he => TagsO.belowHi (by have := HTG.out e he; rw [HHI.out] at this; exact this) (by have := HB4.out; rw [HHI.out] at this; exact this)))
      clear hd4 CT
      go_wp2_with fail
      refine CCT.out.mono ?_
      rintro e w5 ⟨hq, hb5⟩
      have HX5 := hid (HX3.out.keep hb5)
      have HB5 := hid (thenB (thenB HB3.out HB4.out) hb5)
      have HB45 := hid (thenB HB4.out hb5)
      have HS5 := hid hb5.size
      clear CCT hb5 n0 n1 n2 n3 n4 n5 n6 n7 n8 n9 n10 HX3
      rcases hq with ⟨htn, rfl⟩ | ⟨tb, tv, htb, rfl, htis⟩
      · have HQ := hid (newP_tab HWR.out HOK.out htn)
        clear htn
        go_wp2
        go_ret2
        exact ⟨.inl ⟨220, by decide, HQ.out, rfl⟩, HB5.out⟩
      have HTB := hid htb
      have HTI := hid htis
      clear htb htis
      obtain ⟨n0, n1, n2, n3, n4, n5, n6, n7, n8, n9, n10⟩ := BoxAt.mod HX5.out
      have HD5 := hid ((HDM.out.below HB45.out).more HB45.out.size : ModAt w5.heap.size w5 d)
      have CCM := hid (CM.out w5 HD5.out (HT.out.on HB5.out).nt (by have := HH4.out; have := HS5.out; omega))
      clear CM
      go_wp2_with fail
      refine CCM.out.mono ?_
      rintro e w6 ⟨hq, hb6⟩
      have HX6 := hid (HX5.out.keep hb6)
      have HB6 := hid (thenB HB5.out hb6)
      have HB46 := hid (thenB HB45.out hb6)
      have HS6 := hid hb6.size
      have HTI6 := hid (HTI.out.below (by have := HH4.out; have := HS5.out; omega) hb6)
      clear CCM hb6 n0 n1 n2 n3 n4 n5 n6 n7 n8 n9 n10 HX5 HTI HD5
      rcases hq with ⟨hmn, rfl⟩ | ⟨o, mv, hmo, rfl, hmv⟩
      · have HQ := hid (newP_mem HWR.out HOK.out HTB.out hmn)
        clear hmn
        go_wp2
        go_ret2
        exact ⟨.inl ⟨220, by decide, HQ.out, rfl⟩, HB6.out⟩
      obtain ⟨ta, tn, tc, rfl⟩ := HTI6.out.slice
      obtain ⟨mp, rfl⟩ := hmv.ptr
      have HMO := hid hmo
      have HMV := hid hmv
      clear hmo hmv
      obtain ⟨n0, n1, n2, n3, n4, n5, n6, n7, n8, n9, n10⟩ := BoxAt.mod HX6.out
      have HD6 := hid ((HDM.out.below HB46.out).more HB46.out.size : ModAt w6.heap.size w6 d)
      have CCG := hid (fun (W : World) (h : Below w6.heap.size w6 W) => CG.out W (HD6.out.on h) ((HT.out.on HB6.out).on h).nt)
      clear CG
      have hS0 : Below w6.heap.size w6 w6.drew ∧ w6.drew.cell? ⟨hi, 0, none⟩ = some (.slice d.ty'.a d.ty.length d.ty'.c) ∧ w6.drew.cell? ⟨hi, 1, none⟩ = some (.slice d.im'.a d.im.length d.im'.c) ∧ w6.drew.cell? ⟨hi, 2, none⟩ = some (.slice d.fu'.a d.fu.length d.fu'.c) ∧ w6.drew.cell? ⟨hi, 3, none⟩ = some (.slice d.tb'.a d.tb.length d.tb'.c) ∧ w6.drew.cell? ⟨hi, 4, none⟩ = some (.slice d.me'.a d.me.length d.me'.c) ∧ w6.drew.cell? ⟨hi, 5, none⟩ = some (.slice d.gl'.a d.gl.length d.gl'.c) ∧ w6.drew.cell? ⟨hi, 6, none⟩ = some (.slice d.ex'.a d.ex.length d.ex'.c) ∧ w6.drew.cell? ⟨hi, 7, none⟩ = some (.bool d.st) ∧ w6.drew.cell? ⟨hi, 8, none⟩ = some (.int .u32 d.sn) ∧ w6.drew.cell? ⟨hi, 9, none⟩ = some (.slice d.el'.a d.el.length d.el'.c) ∧ w6.drew.cell? ⟨hi, 10, none⟩ = some (.slice d.da'.a d.da.length d.da'.c) := ⟨(Below.refl _ _).drew, n0, n1, n2, n3, n4, n5, n6, n7, n8, n9, n10⟩
      clear HX6
      go_upto_region 13 with fail
      (go_region_held3 (fun w' => Below w6.heap.size w6 w' ∧ w'.cell? ⟨hi, 0, none⟩ = some (.slice d.ty'.a d.ty.length d.ty'.c) ∧ w'.cell? ⟨hi, 1, none⟩ = some (.slice d.im'.a d.im.length d.im'.c) ∧ w'.cell? ⟨hi, 2, none⟩ = some (.slice d.fu'.a d.fu.length d.fu'.c) ∧ w'.cell? ⟨hi, 3, none⟩ = some (.slice d.tb'.a d.tb.length d.tb'.c) ∧ w'.cell? ⟨hi, 4, none⟩ = some (.slice d.me'.a d.me.length d.me'.c) ∧ w'.cell? ⟨hi, 5, none⟩ = some (.slice d.gl'.a d.gl.length d.gl'.c) ∧ w'.cell? ⟨hi, 6, none⟩ = some (.slice d.ex'.a d.ex.length d.ex'.c) ∧ w'.cell? ⟨hi, 7, none⟩ = some (.bool d.st) ∧ w'.cell? ⟨hi, 8, none⟩ = some (.int .u32 d.sn) ∧ w'.cell? ⟨hi, 9, none⟩ = some (.slice d.el'.a d.el.length d.el'.c) ∧ w'.cell? ⟨hi, 10, none⟩ = some (.slice d.da'.a d.da.length d.da'.c))
          (first | assumption | exact held_keep11 (by assumption) (by assumption) | exact held_keep11 (by assumption) (belowAlloc _ _))
          (first | (go_at_call 47; (with_reducible refine (CCG.out _ (held_out11 (by assumption))).mono ?_); rintro e7 w7 ⟨gb, rfl, hgb, hgw, hb7⟩)))
      have HB7 := hid (show Below w6.heap.size w6 w7 from ⟨hb7.os, hb7.tape, hb7.output, hb7.size, hb7.block⟩)
      have hB37 : Below hi w3 w7 := by have := thenB HB46.out HB7.out; rw [HHI.out] at this; exact this
      have hPE := pl_end (lo := w.heap.size) (hi := hi) (H := H) (gb := gb) (K := 1048576) (n := n) (ng := (globs m).length) (w := w7) (d := d) (tv := .slice ta tn tc) (mv := .pointer mp) (x := ⟨hostsL m, globs m, tb, o⟩) HHL.out rfl (by have h1 := HB3.out.size; have h2 := HHI.out; omega) (by have h1 := hB37.size; have h2 := HHI.out; omega) HH.out (by have h1 := HHL3.out; have h2 := HHI.out; omega) (by have h1 := HH4.out; have h2 := HS5.out; have h3 := HS6.out; have h4 : w6.heap.size ≤ gb := hgb; omega) (by have := HDM.out; rw [HHI.out] at this; exact this.below hB37) (by have := HDO.out; rw [HHI.out] at this; exact this.frameC (SameC.of_below hB37 (Nat.le_refl _))) HDF.out (HHS3.out.block (hB37.block H (by have h1 := HHL3.out; have h2 := HHI.out; omega))) hgw (HTI6.out.below (by have h1 := HH4.out; have h2 := HS5.out; have h3 := HS6.out; omega) HB7.out) (HMV.out.below HB7.out) ⟨by show (hostsL m).length ≤ _; rw [HHL.out, ← HN.out]; exact HI.out.few.lens.2.1, by show (globs m).length ≤ _; rw [globs_len]; exact HI.out.few.lens.2.2.2.2.2.1, tabP_length HTB.out SND.out.tb⟩ (by show (globs m).length = _; rw [globs_len]; exact (map_lenS (same_iff.1 HBR.out).gl).symm)
      have HPE := hid hPE
      have HBW := hid (thenB (thenB HB6.out HB7.out) hPE.2)
      have HQ := hid (newP_ok HWR.out HOK.out HTB.out HMO.out)
      clear hPE hB37 hgb hgw hb7
      go_wp2
      go_ret2
      exact ⟨.inr ⟨_, hi, w7.heap.size, H, gb, d, _, _, HQ.out, rfl, HBR.out, HPE.out.1⟩, HBW.out⟩
    · have HQ := hid (newP_host HWR.out hno)
      clear hno
      go_wp2
      go_ret2
      exact ⟨.inl ⟨230, by decide, HQ.out, rfl⟩, HB2.out⟩
  · have hwb : (we == 0) = false := by simpa using hwe
    have HQ := hid (newP_wrong (m := m) (by rw [HWR.out]; exact hwe))
    clear hwe
    go_wp2
    go_ret2
    exact ⟨.inl ⟨2, by decide, HQ.out, rfl⟩, HB1.out⟩
end Go.Proofs.YtckdnhafookcgaaGreatDoor.Pl

namespace Go.Proofs.YtckdnhafookcgaaGreatDoor.Pl
open Go.RowKit Go.Shelf Go.Proofs.YtckdnhafookcgaaGreatDoor.Instr Go.Proofs.YtckdnhafookcgaaGreatDoor.Mod Go.Proofs.YtckdnhafookcgaaGreatDoor.Val
open Go.Proofs.YtckdnhafookcgaaGreatDoor.Mem (MemIs MemAt Wrote Keep isOwn Mm)
set_option linter.unusedVariables false

theorem eqp_same (a : Addr) (w : World) : (binOp .eql 37 (.pointer (some a)) (.pointer (some a))).run Tryz.prog w = .ok (.bool true) w := by
  obtain ⟨j, hj⟩ := info_of_underlying Tryz.underlying63
  exact run_eql_ptr_same w a Tryz.underlying37 hj
theorem made_yes (p : Nat) (w : World) (c : w.cell? ⟨p, 0, none⟩ = some (.pointer (some ⟨p, 0, none⟩))) :
    Calls Tryz.prog 58 #[.pointer (some ⟨p, 0, none⟩)] w fun e w' => e = .returned (.bool true) ∧ w = w' := by
  have q1 := eqp_same
  go_enter Tryz.func58, Tryz.ntmps58
  go_wp2
  go_ret
  exact ⟨rfl, rfl⟩
theorem has_ptr (a : Option Addr) (n c k : Nat) (w : World) (hn : n ≤ 4294967295) (hk : k ≤ 4294967295) :
    Calls Tryz.prog 64 #[.slice a n c, .int .u32 k] w fun e w' => e = .returned (.bool (decide (k < n))) ∧ w = w' := by
  have h1 : IntKind.u64.wrap (k : Int) = (k : Int) := by rw [IntKind.wrap_u64]; omega
  have h2 : IntKind.u64.wrap (n : Int) = (n : Int) := by rw [IntKind.wrap_u64]; omega
  go_enter Tryz.func64, Tryz.ntmps64
  go_wp2
  go_ret
  exact ⟨by simp, rfl⟩
/-! What nobody made. -/
/-! What New returned. -/
section
variable {lo hi p H gb K : Nat} {w : World} {d : Md} {tv mv : Value} {x : Pc}
theorem PlAt.c (h : PlAt lo hi w p H gb K d tv mv x) : w.cell? ⟨p, 0, none⟩ = some (.pointer (some ⟨p, 0, none⟩)) ∧ w.cell? ⟨p, 12, none⟩ = some (.slice (some ⟨H, 0, none⟩) x.hs.length x.hs.length) ∧ w.cell? ⟨p, 13, none⟩ = some (.slice (some ⟨gb, 0, none⟩) x.gs.length x.gs.length) ∧ w.cell? ⟨p, 14, none⟩ = some tv ∧ w.cell? ⟨p, 15, none⟩ = some mv ∧ w.cell? ⟨p, 6, none⟩ = some (.slice d.gl'.a d.gl.length d.gl'.c) := by
  have hb := h.box
  refine ⟨?_, ?_, ?_, ?_, ?_, ?_⟩ <;> simp [World.cell?, hb]
theorem Memory_yes (h : PlAt lo hi w p H gb K d tv mv x) : Calls Tryz.prog 20 #[.pointer (some ⟨p, 0, none⟩)] w fun e w' => e = .returned mv ∧ w = w' := by
  obtain ⟨c0, c12, c13, c14, c15, c6⟩ := h.c
  have C := made_yes p w c0
  obtain ⟨q, rfl⟩ := h.me.ptr
  clear h
  go_enter Tryz.func20, Tryz.ntmps20
  go_wp2_with fail
  refine C.mono ?_
  rintro e w1 ⟨rfl, rfl⟩
  go_wp2
  go_ret
  exact ⟨rfl, rfl⟩
theorem Size_yes (h : PlAt lo hi w p H gb K d tv mv x) : Calls Tryz.prog 19 #[.pointer (some ⟨p, 0, none⟩)] w fun e w' => e = .returned (.int .u32 x.tb.length) ∧ w = w' := by
  obtain ⟨c0, c12, c13, c14, c15, c6⟩ := h.c
  have C := made_yes p w c0
  have hl := h.ls.2.2
  have hn : ∃ a c, tv = .slice a x.tb.length c := by
    rcases h.tb with ⟨h1, h2⟩ | ⟨T, h1, _⟩
    · exact ⟨none, 0, by rw [h1, h2]; rfl⟩
    · exact ⟨_, _, h1⟩
  obtain ⟨a, c, rfl⟩ := hn
  clear h
  generalize x.tb.length = n at *
  have h1 : IntKind.u32.wrap (n : Int) = (n : Int) := by rw [IntKind.wrap_u32]; omega
  go_enter Tryz.func19, Tryz.ntmps19
  go_wp2_with fail
  refine C.mono ?_
  rintro e w1 ⟨rfl, rfl⟩
  go_wp2
  go_ret
  exact ⟨rfl, rfl⟩
def entryP (x : Pc) (k : Nat) : Int × Bool × Int := if k < x.tb.length then (match x.tb.getD k none with | some z => (z, true, 0) | none => (0, false, 0)) else (0, false, 220)
theorem Entry_yes (h : PlAt lo hi w p H gb K d tv mv x) (k : Nat) (hk : k ≤ 4294967295) : Calls Tryz.prog 23 #[.pointer (some ⟨p, 0, none⟩), .int .u32 k] w fun e w' => e = .returned (.tuple #[.int .u32 (entryP x k).1, .bool (entryP x k).2.1, .int .i64 (entryP x k).2.2]) ∧ w = w' := by
  obtain ⟨c0, c12, c13, c14, c15, c6⟩ := h.c
  have C := hid (made_yes p w c0)
  have hl := h.ls.2.2
  unfold entryP
  rcases h.tb with ⟨rfl, h2⟩ | ⟨T, rfl, hT, htab⟩
  · have C2 := hid (has_ptr none 0 0 k w (by omega) hk)
    rw [h2]
    simp only [List.length_nil, Nat.not_lt_zero, if_false]
    rw [decide_eq_false (Nat.not_lt_zero k)] at C2
    clear h h2 hl
    go_enter Tryz.func23, Tryz.ntmps23
    go_wp2_with fail
    refine C.out.mono ?_
    rintro e w1 ⟨rfl, rfl⟩
    go_wp2_with fail
    refine C2.out.mono ?_
    rintro e w1 ⟨rfl, rfl⟩
    go_wp2
    go_ret3
    exact ⟨rfl, rfl⟩
  · have C2 := hid (has_ptr (some ⟨T, 0, none⟩) x.tb.length x.tb.length k w hl hk)
    by_cases hkn : k < x.tb.length
    · obtain ⟨v, hv, hp⟩ := htab.cell hkn
      rw [decide_eq_true hkn] at C2
      rw [if_pos hkn]
      generalize x.tb.getD k none = o at *
      generalize x.tb.length = n at *
      have hki : (k : Int) < (n : Int) := by omega
      cases o with
      | none =>
        simp only [PtrO] at hp
        subst hp
        clear h htab hkn
        go_enter Tryz.func23, Tryz.ntmps23
        go_wp2_with fail
        refine C.out.mono ?_
        rintro e w1 ⟨rfl, rfl⟩
        go_wp2_with fail
        refine C2.out.mono ?_
        rintro e w1 ⟨rfl, rfl⟩
        go_wp2
        go_ret3
        exact ⟨rfl, rfl⟩
      | some z =>
        simp only [PtrO] at hp
        obtain ⟨b, i, rfl, -, hz⟩ := hp
        clear h htab hkn
        go_enter Tryz.func23, Tryz.ntmps23
        go_wp2_with fail
        refine C.out.mono ?_
        rintro e w1 ⟨rfl, rfl⟩
        go_wp2_with fail
        refine C2.out.mono ?_
        rintro e w1 ⟨rfl, rfl⟩
        go_wp2
        go_ret3
        exact ⟨rfl, rfl⟩
    · rw [decide_eq_false hkn] at C2
      rw [if_neg hkn]
      clear h htab
      generalize x.tb.length = n at *
      clear hkn
      go_enter Tryz.func23, Tryz.ntmps23
      go_wp2_with fail
      refine C.out.mono ?_
      rintro e w1 ⟨rfl, rfl⟩
      go_wp2_with fail
      refine C2.out.mono ?_
      rintro e w1 ⟨rfl, rfl⟩
      go_wp2
      go_ret3
      exact ⟨rfl, rfl⟩
end
end Go.Proofs.YtckdnhafookcgaaGreatDoor.Pl
