import Derived.Test.YtckdnhafookcgaaGreatDoorPa01
import Derived.Test.YtckdnhafookcgaaGreatDoorPa12
import Derived.Test.YtckdnhafookcgaaGreatDoorPa08
import Derived.Test.YtckdnhafookcgaaGreatDoorPa13
import Derived.Test.YtckdnhafookcgaaGreatDoorPa04
import Derived.Test.YtckdnhafookcgaaGreatDoorPa10
import Derived.RegionTactic
import Derived.BigRegion
import Derived.Deep.QuietTactic
import Derived.BigQuiet
import Derived.Lib.SliceRun
import Derived.Deep.RegionHeld3
import Derived.Deep.Cut
namespace Go.Proofs.YtckdnhafookcgaaGreatDoor.Instr
end Go.Proofs.YtckdnhafookcgaaGreatDoor.Instr
namespace Go.Proofs.YtckdnhafookcgaaGreatDoor.Mod
end Go.Proofs.YtckdnhafookcgaaGreatDoor.Mod
namespace Go.Proofs.YtckdnhafookcgaaGreatDoor.Mod
open Go.RowKit Go.Proofs.YtckdnhafookcgaaGreatDoor.Instr

/-- All in it together is little. -/
structure Md.small (m : Md) (most : Nat) : Prop where
  lens : m.ty.length + m.im.length + m.fu.length + m.tb.length + m.me.length + m.gl.length + m.ex.length + m.el.length + m.da.length ≤ most
  ls : ∀ l ∈ m.codes, l.t.weight ≤ most
  fs : ∀ e ∈ m.el, e.fs.length ≤ most
  bs : ∀ d ∈ m.da, d.bs.length ≤ most
  iS : ∀ i ∈ m.im, i.mo.size ≤ most ∧ i.na.size ≤ most
  eS : ∀ e ∈ m.ex, e.na.size ≤ most
def Large (m : Md) (w : World) (e : Ending) (w' : World) : Prop := ∃ b, e = .returned (.bool b) ∧ (b = false → m.small 5000) ∧ Below w.heap.size w w'
theorem large_true {m : Md} {w w' : World} (h : Below w.heap.size w w') : Large m w (.returned (.bool true)) w' := ⟨true, rfl, fun h => by simp at h, h⟩
theorem large_end {m : Md} {w w' : World} {N : Int} (h : Below w.heap.size w w') (hs : N ≤ 5000 → m.small 5000) : Large m w (.returned (.bool (decide (5000 < N)))) w' := ⟨_, rfl, fun hh => hs (by simpa using hh), h⟩
theorem drewQ {B : Nat} {w w' : World} (h : Below B w w') (n : Nat) : Below B w (w'.drewN n) := ⟨h.os, h.tape, h.output, h.size, h.block⟩
set_option maxHeartbeats 8000000 in
set_option maxRecDepth 100000 in
theorem Large_any (m : Md) (w : World) (hm : ModAt w.heap.size w m) (hf : m.fits) :
    Calls Tryz.prog 11 #[.agg m.v, .int .i64 5000] w (Large m w) := by
  have hb0 := (Below.refl w.heap.size w).alloc (Nat.le_refl _) (.cells m.v 32)
  have HB := hid hb0
  have HM := hid (hm.on hb0)
  have HX := hid (BoxAt.made w m.v 32)
  have HF := hid hf
  obtain ⟨ty, im, fu, tb, me, gl, ex, st, sn, el, da, ty', im', fu', tb', me', gl', ex', el', da'⟩ := m
  have b1 := hf.ty
  have b2 := hf.im
  have b3 := hf.fu
  have b4 := hf.tb
  have b5 := hf.me
  have b6 := hf.gl
  have b7 := hf.ex
  have b8 := hf.el
  have b9 := hf.da
  dsimp only at b1 b2 b3 b4 b5 b6 b7 b8 b9
  unfold Md.v at HB HM HX ⊢
  dsimp only at HB HM HX ⊢
  clear hm hf hb0
  by_cases h1 : 5000 < ty.length + im.length + fu.length + tb.length + me.length + gl.length + ex.length + el.length + da.length
  · have h1i : (5000 : Int) < (ty.length : Int) + im.length + fu.length + tb.length + me.length + gl.length + ex.length + el.length + da.length := by omega
    go_enter Tryz.func11, Tryz.ntmps11
    go_wp2
    go_ret
    exact large_true HB.out
  · have h1i : ¬ (5000 : Int) < (ty.length : Int) + im.length + fu.length + tb.length + me.length + gl.length + ex.length + el.length + da.length := by omega
    have hsum : ty.length + im.length + fu.length + tb.length + me.length + gl.length + ex.length + el.length + da.length ≤ 5000 := by omega
    have HSUM := hid hsum
    clear h1
    go_enter Tryz.func11, Tryz.ntmps11
    go_wp2
    obtain ⟨N0, hN0⟩ : ∃ N0 : Int, (ty.length : Int) + im.length + fu.length + tb.length + me.length + gl.length + ex.length + el.length + da.length = N0 := ⟨_, rfl⟩
    have l_ty : ty.length ≤ 5000 := by omega
    have l_im : im.length ≤ 5000 := by omega
    have l_fu : fu.length ≤ 5000 := by omega
    have l_tb : tb.length ≤ 5000 := by omega
    have l_me : me.length ≤ 5000 := by omega
    have l_gl : gl.length ≤ 5000 := by omega
    have l_ex : ex.length ≤ 5000 := by omega
    have l_el : el.length ≤ 5000 := by omega
    have l_da : da.length ≤ 5000 := by omega
    have hN1 : N0 ≤ 5000 := by omega
    have hN2 : 0 ≤ N0 := by omega
    have HI := hid (show (0 < fu.length ∨ 0 < gl.length ∨ 0 < el.length ∨ 0 < da.length ∨ 0 < im.length ∨ 0 < ex.length) → 1 ≤ N0 by omega)
    rw [hN0]
    clear hN0 h1i hsum b1 b2 b3 b4 b5 b6 b7 b8 b9
    generalize w.alloc (.cells #[.slice ty'.a ty.length ty'.c, .slice im'.a im.length im'.c, .slice fu'.a fu.length fu'.c, .slice tb'.a tb.length tb'.c, .slice me'.a me.length me'.c, .slice gl'.a gl.length gl'.c, .slice ex'.a ex.length ex'.c, .bool st, .int .u32 sn, .slice el'.a el.length el'.c, .slice da'.a da.length da'.c] 32) = W0 at HB HM HX ⊢
    have Xfu := hid (show W0.cell? ⟨w.heap.size, 2, none⟩ = some (.slice fu'.a fu.length fu'.c) from HX.out 2 _ rfl)
    have Rfu := hid (show Rows W0.heap.size W0 fu'.a 3 (fu.map Fn.v) from HM.out.fu)
    obtain ⟨nfu, hnfu⟩ : ∃ n, fu.length = n := ⟨_, rfl⟩
    have Lfu := hid hnfu
    rw [hnfu] at l_fu Xfu
    clear hnfu
    have Xgl := hid (show W0.cell? ⟨w.heap.size, 5, none⟩ = some (.slice gl'.a gl.length gl'.c) from HX.out 5 _ rfl)
    have Rgl := hid (show Rows W0.heap.size W0 gl'.a 2 (gl.map Gl.v) from HM.out.gl)
    obtain ⟨ngl, hngl⟩ : ∃ n, gl.length = n := ⟨_, rfl⟩
    have Lgl := hid hngl
    rw [hngl] at l_gl Xgl
    clear hngl
    have Xel := hid (show W0.cell? ⟨w.heap.size, 9, none⟩ = some (.slice el'.a el.length el'.c) from HX.out 9 _ rfl)
    have Rel := hid (show Rows W0.heap.size W0 el'.a 2 (el.map El.v) from HM.out.el)
    obtain ⟨nel, hnel⟩ : ∃ n, el.length = n := ⟨_, rfl⟩
    have Lel := hid hnel
    rw [hnel] at l_el Xel
    clear hnel
    have Xda := hid (show W0.cell? ⟨w.heap.size, 10, none⟩ = some (.slice da'.a da.length da'.c) from HX.out 10 _ rfl)
    have Rda := hid (show Rows W0.heap.size W0 da'.a 2 (da.map Da.v) from HM.out.da)
    obtain ⟨nda, hnda⟩ : ∃ n, da.length = n := ⟨_, rfl⟩
    have Lda := hid hnda
    rw [hnda] at l_da Xda
    clear hnda
    have Xim := hid (show W0.cell? ⟨w.heap.size, 1, none⟩ = some (.slice im'.a im.length im'.c) from HX.out 1 _ rfl)
    have Rim := hid (show Rows W0.heap.size W0 im'.a 3 (im.map Imp.v) from HM.out.im)
    obtain ⟨nim, hnim⟩ : ∃ n, im.length = n := ⟨_, rfl⟩
    have Lim := hid hnim
    rw [hnim] at l_im Xim
    clear hnim
    have Xex := hid (show W0.cell? ⟨w.heap.size, 6, none⟩ = some (.slice ex'.a ex.length ex'.c) from HX.out 6 _ rfl)
    have Rex := hid (show Rows W0.heap.size W0 ex'.a 3 (ex.map Ex.v) from HM.out.ex)
    obtain ⟨nex, hnex⟩ : ∃ n, ex.length = n := ⟨_, rfl⟩
    have Lex := hid hnex
    rw [hnex] at l_ex Xex
    clear hnex
    clear HX
    go_loopw [5, 6] (fun vn vi wr => ∃ (k : Nat) (N : Int), vn = .int .i64 N ∧ vi = .int .i64 k ∧ k ≤ nfu ∧ N0 ≤ N ∧ N ≤ 5000 + 20002 * (k : Int) ∧ Hid (N ≤ 5000 → (True) ∧ ∀ (j : Nat) (hj : j < fu.length), j < k → ∃ x, x = fu[j] ∧ x.l.t.weight ≤ 5000) ∧ Hid (Below W0.heap.size W0 wr)) (fun _ vi _ => nfu - (intOf vi).toNat)
    case atStart => exact ⟨0, N0, rfl, rfl, Nat.zero_le _, by omega, by omega, fun _ => ⟨trivial, fun j _ h => absurd h (Nat.not_lt_zero _)⟩, Below.refl _ _⟩
    case round =>
      obtain ⟨k, N, rfl, rfl, hk, hNa, hNb, HQ, HW⟩ := hrel
      have hbx := Go.Proofs.YtckdnhafookcgaaGreatDoor.keep HW.out Xfu.out
      by_cases hlt : k < nfu
      · have hkl : k < fu.length := by rw [Lfu.out]; exact hlt
        obtain ⟨b, off, ha, hb, hc⟩ := Rows.get Rfu.out hkl
        rw [ha] at hbx
        have hx : fu[k] ∈ fu := List.getElem_mem hkl
        have hLs := HM.out.ls fu[k].l (by unfold Md.codes; exact List.mem_append_left _ (List.mem_map.2 ⟨_, hx, rfl⟩))
        have hLl := HF.out.ls fu[k].l (by unfold Md.codes; exact List.mem_append_left _ (List.mem_map.2 ⟨_, hx, rfl⟩))
        obtain ⟨x, hxe⟩ : ∃ x, fu[k] = x := ⟨_, rfl⟩
        have HXE := hid hxe
        rw [hxe] at hc hLs hLl
        have cc : ∀ j, j < 3 → ∀ v, x.v[j]? = some v → wr.cell? ⟨b, off + k * 3 + j, none⟩ = some v := fun j hj v hv => (HW.out.cell (p := ⟨b, off + k * 3 + j, none⟩) hb).trans (hc j hj v hv)
        have c2 : wr.cell? ⟨b, off + k * 3 + 2, none⟩ = some (.slice x.l.a x.l.t.len x.l.c) := cc 2 (by omega) _ rfl
        have hki : (k : Int) < (nfu : Int) := by omega
        have hN1' : 1 ≤ N0 := HI.out (by omega)
        have hgo := go_bounds x.l.t 0 5000 (by omega) (by omega) (by omega)
        obtain ⟨q, hq⟩ : ∃ q, x.l.t.go 0 5000 = q := ⟨_, rfl⟩
        have C := hid (Instrs_any x.l.t.count x.l.t x.l.a x.l.t.len x.l.c 5000 wr (Nat.le_refl _) ((hLs.below HW.out).more HW.out.size) hLl (by omega) (by omega))
        rw [hq] at C hgo
        obtain ⟨hg0, hg1, hg2⟩ := hgo
        have HG := hid hg2
        have HQ' := hid (show N + q ≤ 5000 → (True) ∧ ∀ (j : Nat) (hj : j < fu.length), j < k + 1 → ∃ x, x = fu[j] ∧ x.l.t.weight ≤ 5000 from fun h => ⟨(HQ.out (by omega)).1, fun j hj hjk => by
          by_cases e : j = k
          · subst e; exact ⟨x, HXE.out.symm, by have := HG.out (by omega); omega⟩
          · exact (HQ.out (by omega)).2 j hj (by omega)⟩)
        clear hx hxe hc cc hb ha hLs hLl hq hg2
        go_wp2_with fail
        refine C.out.mono ?_
        rintro e w1 ⟨rfl, rfl⟩
        go_wp2
        go_roundw
        case rel => exact ⟨k + 1, _, rfl, by go_num, by omega, by omega, by omega, HQ', HW⟩
        case measure => simp [intOf]; omega
      · obtain rfl : k = nfu := by omega
        have HP := hid (show N ≤ 5000 → (True) ∧ ∀ x ∈ fu, x.l.t.weight ≤ 5000 from fun h => ⟨(HQ.out h).1, fun x hx => by
          obtain ⟨j, hj, rfl⟩ := List.mem_iff_getElem.1 hx
          obtain ⟨y, hy, hq⟩ := (HQ.out h).2 j hj (by rw [← Lfu.out]; exact hj)
          subst hy; exact hq⟩)
        have hNN1 : N0 ≤ N := by omega
        have hNN2 : N ≤ 100015000 := by omega
        have HBL := HW
        clear HQ hNa hNb HW hlt hk
        obtain ⟨NN, rfl⟩ : ∃ NN, NN = N := ⟨_, rfl⟩
        go_wp2
        clear hbx
        go_loopw [5, 7] (fun vn vi wr => ∃ (k : Nat) (N : Int), vn = .int .i64 N ∧ vi = .int .i64 k ∧ k ≤ ngl ∧ N0 ≤ N ∧ N ≤ 100015000 + 20002 * (k : Int) ∧ Hid (N ≤ 5000 → ((True) ∧ ∀ x ∈ fu, x.l.t.weight ≤ 5000) ∧ ∀ (j : Nat) (hj : j < gl.length), j < k → ∃ x, x = gl[j] ∧ x.l.t.weight ≤ 5000) ∧ Hid (Below W0.heap.size W0 wr)) (fun _ vi _ => ngl - (intOf vi).toNat)
        case atStart => exact ⟨0, NN, rfl, rfl, Nat.zero_le _, by omega, by omega, fun h => ⟨HP.out h, fun j _ h => absurd h (Nat.not_lt_zero _)⟩, HBL⟩
        case round =>
          clear HP HBL hNN1 hNN2
          obtain ⟨k, N, rfl, rfl, hk, hNa, hNb, HQ, HW⟩ := hrel
          have hbx := Go.Proofs.YtckdnhafookcgaaGreatDoor.keep HW.out Xgl.out
          by_cases hlt : k < ngl
          · have hkl : k < gl.length := by rw [Lgl.out]; exact hlt
            obtain ⟨b, off, ha, hb, hc⟩ := Rows.get Rgl.out hkl
            rw [ha] at hbx
            have hx : gl[k] ∈ gl := List.getElem_mem hkl
            have hLs := HM.out.ls gl[k].l (by unfold Md.codes; exact List.mem_append_right _ (List.mem_append_left _ (List.mem_map.2 ⟨_, hx, rfl⟩)))
            have hLl := HF.out.ls gl[k].l (by unfold Md.codes; exact List.mem_append_right _ (List.mem_append_left _ (List.mem_map.2 ⟨_, hx, rfl⟩)))
            obtain ⟨x, hxe⟩ : ∃ x, gl[k] = x := ⟨_, rfl⟩
            have HXE := hid hxe
            rw [hxe] at hc hLs hLl
            have cc : ∀ j, j < 2 → ∀ v, x.v[j]? = some v → wr.cell? ⟨b, off + k * 2 + j, none⟩ = some v := fun j hj v hv => (HW.out.cell (p := ⟨b, off + k * 2 + j, none⟩) hb).trans (hc j hj v hv)
            have c1 : wr.cell? ⟨b, off + k * 2 + 1, none⟩ = some (.slice x.l.a x.l.t.len x.l.c) := cc 1 (by omega) _ rfl
            have hki : (k : Int) < (ngl : Int) := by omega
            have hN1' : 1 ≤ N0 := HI.out (by omega)
            have hgo := go_bounds x.l.t 0 5000 (by omega) (by omega) (by omega)
            obtain ⟨q, hq⟩ : ∃ q, x.l.t.go 0 5000 = q := ⟨_, rfl⟩
            have C := hid (Instrs_any x.l.t.count x.l.t x.l.a x.l.t.len x.l.c 5000 wr (Nat.le_refl _) ((hLs.below HW.out).more HW.out.size) hLl (by omega) (by omega))
            rw [hq] at C hgo
            obtain ⟨hg0, hg1, hg2⟩ := hgo
            have HG := hid hg2
            have HQ' := hid (show N + q ≤ 5000 → ((True) ∧ ∀ x ∈ fu, x.l.t.weight ≤ 5000) ∧ ∀ (j : Nat) (hj : j < gl.length), j < k + 1 → ∃ x, x = gl[j] ∧ x.l.t.weight ≤ 5000 from fun h => ⟨(HQ.out (by omega)).1, fun j hj hjk => by
              by_cases e : j = k
              · subst e; exact ⟨x, HXE.out.symm, by have := HG.out (by omega); omega⟩
              · exact (HQ.out (by omega)).2 j hj (by omega)⟩)
            clear hx hxe hc cc hb ha hLs hLl hq hg2
            go_wp2_with fail
            refine C.out.mono ?_
            rintro e w1 ⟨rfl, rfl⟩
            go_wp2
            go_roundw
            case rel => exact ⟨k + 1, _, rfl, by go_num, by omega, by omega, by omega, HQ', HW⟩
            case measure => simp [intOf]; omega
          · obtain rfl : k = ngl := by omega
            have HP := hid (show N ≤ 5000 → ((True) ∧ ∀ x ∈ fu, x.l.t.weight ≤ 5000) ∧ ∀ x ∈ gl, x.l.t.weight ≤ 5000 from fun h => ⟨(HQ.out h).1, fun x hx => by
              obtain ⟨j, hj, rfl⟩ := List.mem_iff_getElem.1 hx
              obtain ⟨y, hy, hq⟩ := (HQ.out h).2 j hj (by rw [← Lgl.out]; exact hj)
              subst hy; exact hq⟩)
            have hNN1 : N0 ≤ N := by omega
            have hNN2 : N ≤ 200025000 := by omega
            have HBL := HW
            clear HQ hNa hNb HW hlt hk
            obtain ⟨NN, rfl⟩ : ∃ NN, NN = N := ⟨_, rfl⟩
            go_wp2
            clear hbx
            go_loopw [5, 8] (fun vn vi wr => ∃ (k : Nat) (N : Int), vn = .int .i64 N ∧ vi = .int .i64 k ∧ k ≤ nel ∧ N0 ≤ N ∧ N ≤ 200025000 + 20002 * (k : Int) ∧ Hid (N ≤ 5000 → (((True) ∧ ∀ x ∈ fu, x.l.t.weight ≤ 5000) ∧ ∀ x ∈ gl, x.l.t.weight ≤ 5000) ∧ ∀ (j : Nat) (hj : j < el.length), j < k → ∃ x, x = el[j] ∧ x.l.t.weight ≤ 5000 ∧ x.fs.length ≤ 5000) ∧ Hid (Below W0.heap.size W0 wr)) (fun _ vi _ => nel - (intOf vi).toNat)
            case atStart => exact ⟨0, NN, rfl, rfl, Nat.zero_le _, by omega, by omega, fun h => ⟨HP.out h, fun j _ h => absurd h (Nat.not_lt_zero _)⟩, HBL⟩
            case round =>
              clear HP HBL hNN1 hNN2
              obtain ⟨k, N, rfl, rfl, hk, hNa, hNb, HQ, HW⟩ := hrel
              have hbx := Go.Proofs.YtckdnhafookcgaaGreatDoor.keep HW.out Xel.out
              by_cases hlt : k < nel
              · have hkl : k < el.length := by rw [Lel.out]; exact hlt
                obtain ⟨b, off, ha, hb, hc⟩ := Rows.get Rel.out hkl
                rw [ha] at hbx
                have hx : el[k] ∈ el := List.getElem_mem hkl
                have hLs := HM.out.ls el[k].l (by unfold Md.codes; exact List.mem_append_right _ (List.mem_append_right _ (List.mem_append_left _ (List.mem_map.2 ⟨_, hx, rfl⟩))))
                have hLl := HF.out.ls el[k].l (by unfold Md.codes; exact List.mem_append_right _ (List.mem_append_right _ (List.mem_append_left _ (List.mem_map.2 ⟨_, hx, rfl⟩))))
                have hS := HF.out.fs _ hx
                obtain ⟨x, hxe⟩ : ∃ x, el[k] = x := ⟨_, rfl⟩
                have HXE := hid hxe
                rw [hxe] at hc hLs hLl hS
                have cc : ∀ j, j < 2 → ∀ v, x.v[j]? = some v → wr.cell? ⟨b, off + k * 2 + j, none⟩ = some v := fun j hj v hv => (HW.out.cell (p := ⟨b, off + k * 2 + j, none⟩) hb).trans (hc j hj v hv)
                have c0 : wr.cell? ⟨b, off + k * 2, none⟩ = some (.slice x.l.a x.l.t.len x.l.c) := cc 0 (by omega) _ rfl
                have c1 : wr.cell? ⟨b, off + k * 2 + 1, none⟩ = some (.slice x.fa x.fs.length x.fc) := cc 1 (by omega) _ rfl
                have hki : (k : Int) < (nel : Int) := by omega
                have hN1' : 1 ≤ N0 := HI.out (by omega)
                have hgo := go_bounds x.l.t 0 5000 (by omega) (by omega) (by omega)
                obtain ⟨q, hq⟩ : ∃ q, x.l.t.go 0 5000 = q := ⟨_, rfl⟩
                have C := hid (show ∀ a, Calls Tryz.prog 34 #[.slice x.l.a x.l.t.len x.l.c, .int .i64 5000] (wr.drewN a) fun e w' => e = .returned (.int .i64 (x.l.t.go 0 5000)) ∧ w' = wr.drewN a from fun a => (Instrs_any x.l.t.count x.l.t x.l.a x.l.t.len x.l.c 5000 _ (Nat.le_refl _) ((hLs.below (drewQ HW.out a)).more (drewQ HW.out a).size) hLl (by omega) (by omega)).mono fun e w' ⟨he, hw⟩ => ⟨he, hw.symm⟩)
                rw [hq] at C hgo
                obtain ⟨hg0, hg1, hg2⟩ := hgo
                have HG := hid hg2
                by_cases hmn : (5000 : Int) < (x.fs.length : Int)
                · have hmz : min (x.fs.length : Int) 5000 = 5000 := by omega
                  have e0 : IntKind.i64.wrap (N + q) = N + q := by rw [IntKind.wrap_i64]; omega
                  have e1 : IntKind.i64.wrap (N + q + 5000) = N + q + 5000 := by rw [IntKind.wrap_i64]; omega
                  have HQ' := hid (show N + q + 5000 ≤ 5000 → (((True) ∧ ∀ x ∈ fu, x.l.t.weight ≤ 5000) ∧ ∀ x ∈ gl, x.l.t.weight ≤ 5000) ∧ ∀ (j : Nat) (hj : j < el.length), j < k + 1 → ∃ x, x = el[j] ∧ x.l.t.weight ≤ 5000 ∧ x.fs.length ≤ 5000 from fun h => ⟨(HQ.out (by omega)).1, fun j hj hjk => by
                    by_cases e : j = k
                    · subst e; exact ⟨x, HXE.out.symm, by have := HG.out (by omega); omega, by omega⟩
                    · exact (HQ.out (by omega)).2 j hj (by omega)⟩)
                  have hz1 := show N0 ≤ N + q + 5000 by omega
                  have hz2 := show N + q + 5000 ≤ 200025000 + 20002 * ((k + 1 : Nat) : Int) by omega
                  clear hx hxe hc cc hb ha hLs hLl hq hg2
                  go_wp2
                  go_quiet ((go_at_call 34; exact Calls.quiet_of_same (C.out _)))
                  go_wp2
                  go_roundw
                  case rel => exact ⟨k + 1, _, rfl, by go_num, by omega, hz1, hz2, HQ', drewQ HW.out _⟩
                  case measure => simp [intOf]; omega
                · have hmz : min (x.fs.length : Int) 5000 = (x.fs.length : Int) := by omega
                  have e0 : IntKind.i64.wrap (N + q) = N + q := by rw [IntKind.wrap_i64]; omega
                  have e1 : IntKind.i64.wrap (N + q + (x.fs.length : Int)) = N + q + (x.fs.length : Int) := by rw [IntKind.wrap_i64]; omega
                  have HQ' := hid (show N + q + (x.fs.length : Int) ≤ 5000 → (((True) ∧ ∀ x ∈ fu, x.l.t.weight ≤ 5000) ∧ ∀ x ∈ gl, x.l.t.weight ≤ 5000) ∧ ∀ (j : Nat) (hj : j < el.length), j < k + 1 → ∃ x, x = el[j] ∧ x.l.t.weight ≤ 5000 ∧ x.fs.length ≤ 5000 from fun h => ⟨(HQ.out (by omega)).1, fun j hj hjk => by
                    by_cases e : j = k
                    · subst e; exact ⟨x, HXE.out.symm, by have := HG.out (by omega); omega, by omega⟩
                    · exact (HQ.out (by omega)).2 j hj (by omega)⟩)
                  have hz1 := show N0 ≤ N + q + (x.fs.length : Int) by omega
                  have hz2 := show N + q + (x.fs.length : Int) ≤ 200025000 + 20002 * ((k + 1 : Nat) : Int) by omega
                  clear hx hxe hc cc hb ha hLs hLl hq hg2
                  go_wp2
                  go_quiet ((go_at_call 34; exact Calls.quiet_of_same (C.out _)))
                  go_wp2
                  go_roundw
                  case rel => exact ⟨k + 1, _, rfl, by go_num, by omega, hz1, hz2, HQ', drewQ HW.out _⟩
                  case measure => simp [intOf]; omega
              · obtain rfl : k = nel := by omega
                have HP := hid (show N ≤ 5000 → (((True) ∧ ∀ x ∈ fu, x.l.t.weight ≤ 5000) ∧ ∀ x ∈ gl, x.l.t.weight ≤ 5000) ∧ ∀ x ∈ el, x.l.t.weight ≤ 5000 ∧ x.fs.length ≤ 5000 from fun h => ⟨(HQ.out h).1, fun x hx => by
                  obtain ⟨j, hj, rfl⟩ := List.mem_iff_getElem.1 hx
                  obtain ⟨y, hy, hq⟩ := (HQ.out h).2 j hj (by rw [← Lel.out]; exact hj)
                  subst hy; exact hq⟩)
                have hNN1 : N0 ≤ N := by omega
                have hNN2 : N ≤ 300035000 := by omega
                have HBL := HW
                clear HQ hNa hNb HW hlt hk
                obtain ⟨NN, rfl⟩ : ∃ NN, NN = N := ⟨_, rfl⟩
                go_wp2
                clear hbx
                go_loopw [5, 9] (fun vn vi wr => ∃ (k : Nat) (N : Int), vn = .int .i64 N ∧ vi = .int .i64 k ∧ k ≤ nda ∧ N0 ≤ N ∧ N ≤ 300035000 + 20002 * (k : Int) ∧ Hid (N ≤ 5000 → ((((True) ∧ ∀ x ∈ fu, x.l.t.weight ≤ 5000) ∧ ∀ x ∈ gl, x.l.t.weight ≤ 5000) ∧ ∀ x ∈ el, x.l.t.weight ≤ 5000 ∧ x.fs.length ≤ 5000) ∧ ∀ (j : Nat) (hj : j < da.length), j < k → ∃ x, x = da[j] ∧ x.l.t.weight ≤ 5000 ∧ x.bs.length ≤ 5000) ∧ Hid (Below W0.heap.size W0 wr)) (fun _ vi _ => nda - (intOf vi).toNat)
                case atStart => exact ⟨0, NN, rfl, rfl, Nat.zero_le _, by omega, by omega, fun h => ⟨HP.out h, fun j _ h => absurd h (Nat.not_lt_zero _)⟩, HBL⟩
                case round =>
                  clear HP HBL hNN1 hNN2
                  obtain ⟨k, N, rfl, rfl, hk, hNa, hNb, HQ, HW⟩ := hrel
                  have hbx := Go.Proofs.YtckdnhafookcgaaGreatDoor.keep HW.out Xda.out
                  by_cases hlt : k < nda
                  · have hkl : k < da.length := by rw [Lda.out]; exact hlt
                    obtain ⟨b, off, ha, hb, hc⟩ := Rows.get Rda.out hkl
                    rw [ha] at hbx
                    have hx : da[k] ∈ da := List.getElem_mem hkl
                    have hLs := HM.out.ls da[k].l (by unfold Md.codes; exact List.mem_append_right _ (List.mem_append_right _ (List.mem_append_right _ (List.mem_map.2 ⟨_, hx, rfl⟩))))
                    have hLl := HF.out.ls da[k].l (by unfold Md.codes; exact List.mem_append_right _ (List.mem_append_right _ (List.mem_append_right _ (List.mem_map.2 ⟨_, hx, rfl⟩))))
                    have hS := HF.out.bs _ hx
                    obtain ⟨x, hxe⟩ : ∃ x, da[k] = x := ⟨_, rfl⟩
                    have HXE := hid hxe
                    rw [hxe] at hc hLs hLl hS
                    have cc : ∀ j, j < 2 → ∀ v, x.v[j]? = some v → wr.cell? ⟨b, off + k * 2 + j, none⟩ = some v := fun j hj v hv => (HW.out.cell (p := ⟨b, off + k * 2 + j, none⟩) hb).trans (hc j hj v hv)
                    have c0 : wr.cell? ⟨b, off + k * 2, none⟩ = some (.slice x.l.a x.l.t.len x.l.c) := cc 0 (by omega) _ rfl
                    have c1 : wr.cell? ⟨b, off + k * 2 + 1, none⟩ = some (.slice x.ba x.bs.length x.bc) := cc 1 (by omega) _ rfl
                    have hki : (k : Int) < (nda : Int) := by omega
                    have hN1' : 1 ≤ N0 := HI.out (by omega)
                    have hgo := go_bounds x.l.t 0 5000 (by omega) (by omega) (by omega)
                    obtain ⟨q, hq⟩ : ∃ q, x.l.t.go 0 5000 = q := ⟨_, rfl⟩
                    have C := hid (show ∀ a, Calls Tryz.prog 34 #[.slice x.l.a x.l.t.len x.l.c, .int .i64 5000] (wr.drewN a) fun e w' => e = .returned (.int .i64 (x.l.t.go 0 5000)) ∧ w' = wr.drewN a from fun a => (Instrs_any x.l.t.count x.l.t x.l.a x.l.t.len x.l.c 5000 _ (Nat.le_refl _) ((hLs.below (drewQ HW.out a)).more (drewQ HW.out a).size) hLl (by omega) (by omega)).mono fun e w' ⟨he, hw⟩ => ⟨he, hw.symm⟩)
                    rw [hq] at C hgo
                    obtain ⟨hg0, hg1, hg2⟩ := hgo
                    have HG := hid hg2
                    by_cases hmn : (5000 : Int) < (x.bs.length : Int)
                    · have hmz : min (x.bs.length : Int) 5000 = 5000 := by omega
                      have e0 : IntKind.i64.wrap (N + q) = N + q := by rw [IntKind.wrap_i64]; omega
                      have e1 : IntKind.i64.wrap (N + q + 5000) = N + q + 5000 := by rw [IntKind.wrap_i64]; omega
                      have HQ' := hid (show N + q + 5000 ≤ 5000 → ((((True) ∧ ∀ x ∈ fu, x.l.t.weight ≤ 5000) ∧ ∀ x ∈ gl, x.l.t.weight ≤ 5000) ∧ ∀ x ∈ el, x.l.t.weight ≤ 5000 ∧ x.fs.length ≤ 5000) ∧ ∀ (j : Nat) (hj : j < da.length), j < k + 1 → ∃ x, x = da[j] ∧ x.l.t.weight ≤ 5000 ∧ x.bs.length ≤ 5000 from fun h => ⟨(HQ.out (by omega)).1, fun j hj hjk => by
                        by_cases e : j = k
                        · subst e; exact ⟨x, HXE.out.symm, by have := HG.out (by omega); omega, by omega⟩
                        · exact (HQ.out (by omega)).2 j hj (by omega)⟩)
                      have hz1 := show N0 ≤ N + q + 5000 by omega
                      have hz2 := show N + q + 5000 ≤ 300035000 + 20002 * ((k + 1 : Nat) : Int) by omega
                      clear hx hxe hc cc hb ha hLs hLl hq hg2
                      go_wp2
                      go_quiet ((go_at_call 34; exact Calls.quiet_of_same (C.out _)))
                      go_wp2
                      go_roundw
                      case rel => exact ⟨k + 1, _, rfl, by go_num, by omega, hz1, hz2, HQ', drewQ HW.out _⟩
                      case measure => simp [intOf]; omega
                    · have hmz : min (x.bs.length : Int) 5000 = (x.bs.length : Int) := by omega
                      have e0 : IntKind.i64.wrap (N + q) = N + q := by rw [IntKind.wrap_i64]; omega
                      have e1 : IntKind.i64.wrap (N + q + (x.bs.length : Int)) = N + q + (x.bs.length : Int) := by rw [IntKind.wrap_i64]; omega
                      have HQ' := hid (show N + q + (x.bs.length : Int) ≤ 5000 → ((((True) ∧ ∀ x ∈ fu, x.l.t.weight ≤ 5000) ∧ ∀ x ∈ gl, x.l.t.weight ≤ 5000) ∧ ∀ x ∈ el, x.l.t.weight ≤ 5000 ∧ x.fs.length ≤ 5000) ∧ ∀ (j : Nat) (hj : j < da.length), j < k + 1 → ∃ x, x = da[j] ∧ x.l.t.weight ≤ 5000 ∧ x.bs.length ≤ 5000 from fun h => ⟨(HQ.out (by omega)).1, fun j hj hjk => by
                        by_cases e : j = k
                        · subst e; exact ⟨x, HXE.out.symm, by have := HG.out (by omega); omega, by omega⟩
                        · exact (HQ.out (by omega)).2 j hj (by omega)⟩)
                      have hz1 := show N0 ≤ N + q + (x.bs.length : Int) by omega
                      have hz2 := show N + q + (x.bs.length : Int) ≤ 300035000 + 20002 * ((k + 1 : Nat) : Int) by omega
                      clear hx hxe hc cc hb ha hLs hLl hq hg2
                      go_wp2
                      go_quiet ((go_at_call 34; exact Calls.quiet_of_same (C.out _)))
                      go_wp2
                      go_roundw
                      case rel => exact ⟨k + 1, _, rfl, by go_num, by omega, hz1, hz2, HQ', drewQ HW.out _⟩
                      case measure => simp [intOf]; omega
                  · obtain rfl : k = nda := by omega
                    have HP := hid (show N ≤ 5000 → ((((True) ∧ ∀ x ∈ fu, x.l.t.weight ≤ 5000) ∧ ∀ x ∈ gl, x.l.t.weight ≤ 5000) ∧ ∀ x ∈ el, x.l.t.weight ≤ 5000 ∧ x.fs.length ≤ 5000) ∧ ∀ x ∈ da, x.l.t.weight ≤ 5000 ∧ x.bs.length ≤ 5000 from fun h => ⟨(HQ.out h).1, fun x hx => by
                      obtain ⟨j, hj, rfl⟩ := List.mem_iff_getElem.1 hx
                      obtain ⟨y, hy, hq⟩ := (HQ.out h).2 j hj (by rw [← Lda.out]; exact hj)
                      subst hy; exact hq⟩)
                    have hNN1 : N0 ≤ N := by omega
                    have hNN2 : N ≤ 400045000 := by omega
                    have HBL := HW
                    clear HQ hNa hNb HW hlt hk
                    obtain ⟨NN, rfl⟩ : ∃ NN, NN = N := ⟨_, rfl⟩
                    go_wp2
                    clear hbx
                    go_loopw [5, 10] (fun vn vi wr => ∃ (k : Nat) (N : Int), vn = .int .i64 N ∧ vi = .int .i64 k ∧ k ≤ nim ∧ N0 ≤ N ∧ N ≤ 400045000 + 20002 * (k : Int) ∧ Hid (N ≤ 5000 → (((((True) ∧ ∀ x ∈ fu, x.l.t.weight ≤ 5000) ∧ ∀ x ∈ gl, x.l.t.weight ≤ 5000) ∧ ∀ x ∈ el, x.l.t.weight ≤ 5000 ∧ x.fs.length ≤ 5000) ∧ ∀ x ∈ da, x.l.t.weight ≤ 5000 ∧ x.bs.length ≤ 5000) ∧ ∀ (j : Nat) (hj : j < im.length), j < k → ∃ x, x = im[j] ∧ x.mo.size ≤ 5000 ∧ x.na.size ≤ 5000) ∧ Hid (Below W0.heap.size W0 wr)) (fun _ vi _ => nim - (intOf vi).toNat)
                    case atStart => exact ⟨0, NN, rfl, rfl, Nat.zero_le _, by omega, by omega, fun h => ⟨HP.out h, fun j _ h => absurd h (Nat.not_lt_zero _)⟩, HBL⟩
                    case round =>
                      clear HP HBL hNN1 hNN2
                      obtain ⟨k, N, rfl, rfl, hk, hNa, hNb, HQ, HW⟩ := hrel
                      have hbx := Go.Proofs.YtckdnhafookcgaaGreatDoor.keep HW.out Xim.out
                      by_cases hlt : k < nim
                      · have hkl : k < im.length := by rw [Lim.out]; exact hlt
                        obtain ⟨b, off, ha, hb, hc⟩ := Rows.get Rim.out hkl
                        rw [ha] at hbx
                        have hx : im[k] ∈ im := List.getElem_mem hkl
                        have hS := HF.out.iS _ hx
                        obtain ⟨x, hxe⟩ : ∃ x, im[k] = x := ⟨_, rfl⟩
                        have HXE := hid hxe
                        rw [hxe] at hc hS
                        have cc : ∀ j, j < 3 → ∀ v, x.v[j]? = some v → wr.cell? ⟨b, off + k * 3 + j, none⟩ = some v := fun j hj v hv => (HW.out.cell (p := ⟨b, off + k * 3 + j, none⟩) hb).trans (hc j hj v hv)
                        have c0 : wr.cell? ⟨b, off + k * 3, none⟩ = some (.string x.mo) := cc 0 (by omega) _ rfl
                        have c1 : wr.cell? ⟨b, off + k * 3 + 1, none⟩ = some (.string x.na) := cc 1 (by omega) _ rfl
                        have hki : (k : Int) < (nim : Int) := by omega
                        have hN1' : 1 ≤ N0 := HI.out (by omega)
                        by_cases hm1 : (5000 : Int) < (x.mo.size : Int)
                        · by_cases hm2 : (5000 : Int) < (x.na.size : Int)
                          · have hmz : min (x.mo.size : Int) 5000 = 5000 := by omega
                            have hmy : min (x.na.size : Int) 5000 = 5000 := by omega
                            have e0 : IntKind.i64.wrap (N + 5000) = N + 5000 := by rw [IntKind.wrap_i64]; omega
                            have e1 : IntKind.i64.wrap (N + 5000 + 5000) = N + 5000 + 5000 := by rw [IntKind.wrap_i64]; omega
                            have HQ' := hid (show N + 5000 + 5000 ≤ 5000 → (((((True) ∧ ∀ x ∈ fu, x.l.t.weight ≤ 5000) ∧ ∀ x ∈ gl, x.l.t.weight ≤ 5000) ∧ ∀ x ∈ el, x.l.t.weight ≤ 5000 ∧ x.fs.length ≤ 5000) ∧ ∀ x ∈ da, x.l.t.weight ≤ 5000 ∧ x.bs.length ≤ 5000) ∧ ∀ (j : Nat) (hj : j < im.length), j < k + 1 → ∃ x, x = im[j] ∧ x.mo.size ≤ 5000 ∧ x.na.size ≤ 5000 from fun h => ⟨(HQ.out (by omega)).1, fun j hj hjk => by
                              by_cases e : j = k
                              · subst e; exact ⟨x, HXE.out.symm, by omega, by omega⟩
                              · exact (HQ.out (by omega)).2 j hj (by omega)⟩)
                            have hz1 := show N0 ≤ N + 5000 + 5000 by omega
                            have hz2 := show N + 5000 + 5000 ≤ 400045000 + 20002 * ((k + 1 : Nat) : Int) by omega
                            clear hx hxe hc cc hb ha
                            go_wp2
                            go_quiet (fail)
                            go_wp2
                            go_roundw
                            case rel => exact ⟨k + 1, _, rfl, by go_num, by omega, hz1, hz2, HQ', drewQ HW.out _⟩
                            case measure => simp [intOf]; omega
                          · have hmz : min (x.mo.size : Int) 5000 = 5000 := by omega
                            have hmy : min (x.na.size : Int) 5000 = (x.na.size : Int) := by omega
                            have e0 : IntKind.i64.wrap (N + 5000) = N + 5000 := by rw [IntKind.wrap_i64]; omega
                            have e1 : IntKind.i64.wrap (N + 5000 + (x.na.size : Int)) = N + 5000 + (x.na.size : Int) := by rw [IntKind.wrap_i64]; omega
                            have HQ' := hid (show N + 5000 + (x.na.size : Int) ≤ 5000 → (((((True) ∧ ∀ x ∈ fu, x.l.t.weight ≤ 5000) ∧ ∀ x ∈ gl, x.l.t.weight ≤ 5000) ∧ ∀ x ∈ el, x.l.t.weight ≤ 5000 ∧ x.fs.length ≤ 5000) ∧ ∀ x ∈ da, x.l.t.weight ≤ 5000 ∧ x.bs.length ≤ 5000) ∧ ∀ (j : Nat) (hj : j < im.length), j < k + 1 → ∃ x, x = im[j] ∧ x.mo.size ≤ 5000 ∧ x.na.size ≤ 5000 from fun h => ⟨(HQ.out (by omega)).1, fun j hj hjk => by
                              by_cases e : j = k
                              · subst e; exact ⟨x, HXE.out.symm, by omega, by omega⟩
                              · exact (HQ.out (by omega)).2 j hj (by omega)⟩)
                            have hz1 := show N0 ≤ N + 5000 + (x.na.size : Int) by omega
                            have hz2 := show N + 5000 + (x.na.size : Int) ≤ 400045000 + 20002 * ((k + 1 : Nat) : Int) by omega
                            clear hx hxe hc cc hb ha
                            go_wp2
                            go_quiet (fail)
                            go_wp2
                            go_roundw
                            case rel => exact ⟨k + 1, _, rfl, by go_num, by omega, hz1, hz2, HQ', drewQ HW.out _⟩
                            case measure => simp [intOf]; omega
                        · by_cases hm2 : (5000 : Int) < (x.na.size : Int)
                          · have hmz : min (x.mo.size : Int) 5000 = (x.mo.size : Int) := by omega
                            have hmy : min (x.na.size : Int) 5000 = 5000 := by omega
                            have e0 : IntKind.i64.wrap (N + (x.mo.size : Int)) = N + (x.mo.size : Int) := by rw [IntKind.wrap_i64]; omega
                            have e1 : IntKind.i64.wrap (N + (x.mo.size : Int) + 5000) = N + (x.mo.size : Int) + 5000 := by rw [IntKind.wrap_i64]; omega
                            have HQ' := hid (show N + (x.mo.size : Int) + 5000 ≤ 5000 → (((((True) ∧ ∀ x ∈ fu, x.l.t.weight ≤ 5000) ∧ ∀ x ∈ gl, x.l.t.weight ≤ 5000) ∧ ∀ x ∈ el, x.l.t.weight ≤ 5000 ∧ x.fs.length ≤ 5000) ∧ ∀ x ∈ da, x.l.t.weight ≤ 5000 ∧ x.bs.length ≤ 5000) ∧ ∀ (j : Nat) (hj : j < im.length), j < k + 1 → ∃ x, x = im[j] ∧ x.mo.size ≤ 5000 ∧ x.na.size ≤ 5000 from fun h => ⟨(HQ.out (by omega)).1, fun j hj hjk => by
                              by_cases e : j = k
                              · subst e; exact ⟨x, HXE.out.symm, by omega, by omega⟩
                              · exact (HQ.out (by omega)).2 j hj (by omega)⟩)
                            have hz1 := show N0 ≤ N + (x.mo.size : Int) + 5000 by omega
                            have hz2 := show N + (x.mo.size : Int) + 5000 ≤ 400045000 + 20002 * ((k + 1 : Nat) : Int) by omega
                            clear hx hxe hc cc hb ha
                            go_wp2
                            go_quiet (fail)
                            go_wp2
                            go_roundw
                            case rel => exact ⟨k + 1, _, rfl, by go_num, by omega, hz1, hz2, HQ', drewQ HW.out _⟩
                            case measure => simp [intOf]; omega
                          · have hmz : min (x.mo.size : Int) 5000 = (x.mo.size : Int) := by omega
                            have hmy : min (x.na.size : Int) 5000 = (x.na.size : Int) := by omega
                            have e0 : IntKind.i64.wrap (N + (x.mo.size : Int)) = N + (x.mo.size : Int) := by rw [IntKind.wrap_i64]; omega
                            have e1 : IntKind.i64.wrap (N + (x.mo.size : Int) + (x.na.size : Int)) = N + (x.mo.size : Int) + (x.na.size : Int) := by rw [IntKind.wrap_i64]; omega
                            have HQ' := hid (show N + (x.mo.size : Int) + (x.na.size : Int) ≤ 5000 → (((((True) ∧ ∀ x ∈ fu, x.l.t.weight ≤ 5000) ∧ ∀ x ∈ gl, x.l.t.weight ≤ 5000) ∧ ∀ x ∈ el, x.l.t.weight ≤ 5000 ∧ x.fs.length ≤ 5000) ∧ ∀ x ∈ da, x.l.t.weight ≤ 5000 ∧ x.bs.length ≤ 5000) ∧ ∀ (j : Nat) (hj : j < im.length), j < k + 1 → ∃ x, x = im[j] ∧ x.mo.size ≤ 5000 ∧ x.na.size ≤ 5000 from fun h => ⟨(HQ.out (by omega)).1, fun j hj hjk => by
                              by_cases e : j = k
                              · subst e; exact ⟨x, HXE.out.symm, by omega, by omega⟩
                              · exact (HQ.out (by omega)).2 j hj (by omega)⟩)
                            have hz1 := show N0 ≤ N + (x.mo.size : Int) + (x.na.size : Int) by omega
                            have hz2 := show N + (x.mo.size : Int) + (x.na.size : Int) ≤ 400045000 + 20002 * ((k + 1 : Nat) : Int) by omega
                            clear hx hxe hc cc hb ha
                            go_wp2
                            go_quiet (fail)
                            go_wp2
                            go_roundw
                            case rel => exact ⟨k + 1, _, rfl, by go_num, by omega, hz1, hz2, HQ', drewQ HW.out _⟩
                            case measure => simp [intOf]; omega
                      · obtain rfl : k = nim := by omega
                        have HP := hid (show N ≤ 5000 → (((((True) ∧ ∀ x ∈ fu, x.l.t.weight ≤ 5000) ∧ ∀ x ∈ gl, x.l.t.weight ≤ 5000) ∧ ∀ x ∈ el, x.l.t.weight ≤ 5000 ∧ x.fs.length ≤ 5000) ∧ ∀ x ∈ da, x.l.t.weight ≤ 5000 ∧ x.bs.length ≤ 5000) ∧ ∀ x ∈ im, x.mo.size ≤ 5000 ∧ x.na.size ≤ 5000 from fun h => ⟨(HQ.out h).1, fun x hx => by
                          obtain ⟨j, hj, rfl⟩ := List.mem_iff_getElem.1 hx
                          obtain ⟨y, hy, hq⟩ := (HQ.out h).2 j hj (by rw [← Lim.out]; exact hj)
                          subst hy; exact hq⟩)
                        have hNN1 : N0 ≤ N := by omega
                        have hNN2 : N ≤ 500055000 := by omega
                        have HBL := HW
                        clear HQ hNa hNb HW hlt hk
                        obtain ⟨NN, rfl⟩ : ∃ NN, NN = N := ⟨_, rfl⟩
                        go_wp2
                        clear hbx
                        go_loopw [5, 11] (fun vn vi wr => ∃ (k : Nat) (N : Int), vn = .int .i64 N ∧ vi = .int .i64 k ∧ k ≤ nex ∧ N0 ≤ N ∧ N ≤ 500055000 + 20002 * (k : Int) ∧ Hid (N ≤ 5000 → ((((((True) ∧ ∀ x ∈ fu, x.l.t.weight ≤ 5000) ∧ ∀ x ∈ gl, x.l.t.weight ≤ 5000) ∧ ∀ x ∈ el, x.l.t.weight ≤ 5000 ∧ x.fs.length ≤ 5000) ∧ ∀ x ∈ da, x.l.t.weight ≤ 5000 ∧ x.bs.length ≤ 5000) ∧ ∀ x ∈ im, x.mo.size ≤ 5000 ∧ x.na.size ≤ 5000) ∧ ∀ (j : Nat) (hj : j < ex.length), j < k → ∃ x, x = ex[j] ∧ x.na.size ≤ 5000) ∧ Hid (Below W0.heap.size W0 wr)) (fun _ vi _ => nex - (intOf vi).toNat)
                        case atStart => exact ⟨0, NN, rfl, rfl, Nat.zero_le _, by omega, by omega, fun h => ⟨HP.out h, fun j _ h => absurd h (Nat.not_lt_zero _)⟩, HBL⟩
                        case round =>
                          clear HP HBL hNN1 hNN2
                          obtain ⟨k, N, rfl, rfl, hk, hNa, hNb, HQ, HW⟩ := hrel
                          have hbx := Go.Proofs.YtckdnhafookcgaaGreatDoor.keep HW.out Xex.out
                          by_cases hlt : k < nex
                          · have hkl : k < ex.length := by rw [Lex.out]; exact hlt
                            obtain ⟨b, off, ha, hb, hc⟩ := Rows.get Rex.out hkl
                            rw [ha] at hbx
                            have hx : ex[k] ∈ ex := List.getElem_mem hkl
                            have hS := HF.out.eS _ hx
                            obtain ⟨x, hxe⟩ : ∃ x, ex[k] = x := ⟨_, rfl⟩
                            have HXE := hid hxe
                            rw [hxe] at hc hS
                            have cc : ∀ j, j < 3 → ∀ v, x.v[j]? = some v → wr.cell? ⟨b, off + k * 3 + j, none⟩ = some v := fun j hj v hv => (HW.out.cell (p := ⟨b, off + k * 3 + j, none⟩) hb).trans (hc j hj v hv)
                            have c0 : wr.cell? ⟨b, off + k * 3, none⟩ = some (.string x.na) := cc 0 (by omega) _ rfl
                            have hki : (k : Int) < (nex : Int) := by omega
                            have hN1' : 1 ≤ N0 := HI.out (by omega)
                            by_cases hmn : (5000 : Int) < (x.na.size : Int)
                            · have hmz : min (x.na.size : Int) 5000 = 5000 := by omega
                              have HQ' := hid (show N + 5000 ≤ 5000 → ((((((True) ∧ ∀ x ∈ fu, x.l.t.weight ≤ 5000) ∧ ∀ x ∈ gl, x.l.t.weight ≤ 5000) ∧ ∀ x ∈ el, x.l.t.weight ≤ 5000 ∧ x.fs.length ≤ 5000) ∧ ∀ x ∈ da, x.l.t.weight ≤ 5000 ∧ x.bs.length ≤ 5000) ∧ ∀ x ∈ im, x.mo.size ≤ 5000 ∧ x.na.size ≤ 5000) ∧ ∀ (j : Nat) (hj : j < ex.length), j < k + 1 → ∃ x, x = ex[j] ∧ x.na.size ≤ 5000 from fun h => ⟨(HQ.out (by omega)).1, fun j hj hjk => by
                                by_cases e : j = k
                                · subst e; exact ⟨x, HXE.out.symm, by omega⟩
                                · exact (HQ.out (by omega)).2 j hj (by omega)⟩)
                              clear hx hxe hc cc hb ha
                              go_wp2
                              go_roundw
                              case rel => exact ⟨k + 1, _, rfl, by go_num, by omega, by omega, by omega, HQ', HW⟩
                              case measure => simp [intOf]; omega
                            · have hmz : min (x.na.size : Int) 5000 = (x.na.size : Int) := by omega
                              have HQ' := hid (show N + (x.na.size : Int) ≤ 5000 → ((((((True) ∧ ∀ x ∈ fu, x.l.t.weight ≤ 5000) ∧ ∀ x ∈ gl, x.l.t.weight ≤ 5000) ∧ ∀ x ∈ el, x.l.t.weight ≤ 5000 ∧ x.fs.length ≤ 5000) ∧ ∀ x ∈ da, x.l.t.weight ≤ 5000 ∧ x.bs.length ≤ 5000) ∧ ∀ x ∈ im, x.mo.size ≤ 5000 ∧ x.na.size ≤ 5000) ∧ ∀ (j : Nat) (hj : j < ex.length), j < k + 1 → ∃ x, x = ex[j] ∧ x.na.size ≤ 5000 from fun h => ⟨(HQ.out (by omega)).1, fun j hj hjk => by
                                by_cases e : j = k
                                · subst e; exact ⟨x, HXE.out.symm, by omega⟩
                                · exact (HQ.out (by omega)).2 j hj (by omega)⟩)
                              clear hx hxe hc cc hb ha
                              go_wp2
                              go_roundw
                              case rel => exact ⟨k + 1, _, rfl, by go_num, by omega, by omega, by omega, HQ', HW⟩
                              case measure => simp [intOf]; omega
                          · obtain rfl : k = nex := by omega
                            have HP := hid (show N ≤ 5000 → ((((((True) ∧ ∀ x ∈ fu, x.l.t.weight ≤ 5000) ∧ ∀ x ∈ gl, x.l.t.weight ≤ 5000) ∧ ∀ x ∈ el, x.l.t.weight ≤ 5000 ∧ x.fs.length ≤ 5000) ∧ ∀ x ∈ da, x.l.t.weight ≤ 5000 ∧ x.bs.length ≤ 5000) ∧ ∀ x ∈ im, x.mo.size ≤ 5000 ∧ x.na.size ≤ 5000) ∧ ∀ x ∈ ex, x.na.size ≤ 5000 from fun h => ⟨(HQ.out h).1, fun x hx => by
                              obtain ⟨j, hj, rfl⟩ := List.mem_iff_getElem.1 hx
                              obtain ⟨y, hy, hq⟩ := (HQ.out h).2 j hj (by rw [← Lex.out]; exact hj)
                              subst hy; exact hq⟩)
                            have hNN1 : N0 ≤ N := by omega
                            have hNN2 : N ≤ 600065000 := by omega
                            have HBL := HW
                            clear HQ hNa hNb HW hlt hk
                            have HZ := hid (large_end (m := (⟨ty, im, fu, tb, me, gl, ex, st, sn, el, da, ty', im', fu', tb', me', gl', ex', el', da'⟩ : Md)) (N := N) (HB.out.trans (HBL.out.mono HB.out.size)) (fun h => by
                              obtain ⟨⟨⟨⟨⟨⟨_, z1⟩, z2⟩, z3⟩, z4⟩, z5⟩, z6⟩ := HP.out h
                              refine ⟨HSUM.out, fun l hl => ?_, fun e he => (z3 e he).2, fun d hd => (z4 d hd).2, z5, z6⟩
                              unfold Md.codes at hl
                              simp only [List.mem_append, List.mem_map] at hl
                              rcases hl with ⟨x, hx, rfl⟩ | ⟨x, hx, rfl⟩ | ⟨x, hx, rfl⟩ | ⟨x, hx, rfl⟩
                              · exact z1 x hx
                              · exact z2 x hx
                              · exact (z3 x hx).1
                              · exact (z4 x hx).1))
                            go_wp2
                            go_ret
                            exact HZ.out
end Go.Proofs.YtckdnhafookcgaaGreatDoor.Mod

namespace Go.Proofs.YtckdnhafookcgaaGreatDoor.Mod
open Go.RowKit Go.Proofs.YtckdnhafookcgaaGreatDoor.Instr

set_option maxRecDepth 100000 in
set_option maxHeartbeats 2000000 in
theorem clone_ty (w : World) (a : Option Addr) (n c : Nat) (ys : List (List Value)) (hn : ys.length = n) (hr : Rows w.heap.size w a 2 ys) (hlen : ∀ r ∈ ys, r.length = 2) (h1 : ∀ r ∈ ys, ∀ u ∈ r, u.oneCell' = true) (hl : ys.length ≤ 1000000000) :
    Calls Tryz.prog 86 #[.slice a n c] w fun e w' => ∃ v, e = .returned v ∧ OwnR 92 2 w.heap.size w' v ys ∧ Below w.heap.size w w' := by
  have HN := hid hn
  have HR := hid hr
  have HL := hid hlen
  have H1 := hid h1
  have HM := hid hl
  clear hn hr hlen h1 hl
  cases a with
  | none =>
    have HY : Hid (ys = []) := hid (HR.out.elim id (fun ⟨b, off, h, _⟩ => by cases h))
    have qn := Lib.run_eql_slice_nil (P := Tryz.prog) w 22 92 none n c 0 0 Tryz.underlying22
    rw [Option.isNone_none] at qn
    go_enter Tryz.func86, Tryz.ntmps86
    go_wp2
    go_ret
    exact ⟨_, rfl, by rw [HY.out]; exact OwnR.start _ _ _ _, Below.refl _ _⟩
  | some ad =>
    have qn := Lib.run_eql_slice_nil (P := Tryz.prog) w 22 92 (some ad) n c 0 0 Tryz.underlying22
    rw [Option.isNone_some] at qn
    go_enter Tryz.func86, Tryz.ntmps86
    go_wp2_with (at_builtin; refine append_list infoTy rfl (by omega) (by omega) Tryz.underlying22 rfl (.tmp 5) (.tmp 6) rfl rfl (OwnR.madeG 92 2 _ rfl) (by simp) _ _ _ rfl ys HN.out ((HR.out.below ((Below.refl _ _).alloc (Nat.le_refl _) _)).more (by simp)) HL.out H1.out HM.out ?_; intro v1 u1 ho hb hsz)
    go_ret
    exact ⟨_, rfl, ho, (((Below.refl w.heap.size w).alloc (Nat.le_refl _) _).trans hb)⟩

set_option maxRecDepth 100000 in
set_option maxHeartbeats 2000000 in
theorem clone_im (w : World) (a : Option Addr) (n c : Nat) (ys : List (List Value)) (hn : ys.length = n) (hr : Rows w.heap.size w a 3 ys) (hlen : ∀ r ∈ ys, r.length = 3) (h1 : ∀ r ∈ ys, ∀ u ∈ r, u.oneCell' = true) (hl : ys.length ≤ 1000000000) :
    Calls Tryz.prog 87 #[.slice a n c] w fun e w' => ∃ v, e = .returned v ∧ OwnR 90 3 w.heap.size w' v ys ∧ Below w.heap.size w w' := by
  have HN := hid hn
  have HR := hid hr
  have HL := hid hlen
  have H1 := hid h1
  have HM := hid hl
  clear hn hr hlen h1 hl
  cases a with
  | none =>
    have HY : Hid (ys = []) := hid (HR.out.elim id (fun ⟨b, off, h, _⟩ => by cases h))
    have qn := Lib.run_eql_slice_nil (P := Tryz.prog) w 23 90 none n c 0 0 Tryz.underlying23
    rw [Option.isNone_none] at qn
    go_enter Tryz.func87, Tryz.ntmps87
    go_wp2
    go_ret
    exact ⟨_, rfl, by rw [HY.out]; exact OwnR.start _ _ _ _, Below.refl _ _⟩
  | some ad =>
    have qn := Lib.run_eql_slice_nil (P := Tryz.prog) w 23 90 (some ad) n c 0 0 Tryz.underlying23
    rw [Option.isNone_some] at qn
    go_enter Tryz.func87, Tryz.ntmps87
    go_wp2_with (at_builtin; refine append_list infoIm rfl (by omega) (by omega) Tryz.underlying23 rfl (.tmp 5) (.tmp 6) rfl rfl (OwnR.madeG 90 3 _ rfl) (by simp) _ _ _ rfl ys HN.out ((HR.out.below ((Below.refl _ _).alloc (Nat.le_refl _) _)).more (by simp)) HL.out H1.out HM.out ?_; intro v1 u1 ho hb hsz)
    go_ret
    exact ⟨_, rfl, ho, (((Below.refl w.heap.size w).alloc (Nat.le_refl _) _).trans hb)⟩

set_option maxRecDepth 100000 in
set_option maxHeartbeats 2000000 in
theorem clone_fu (w : World) (a : Option Addr) (n c : Nat) (ys : List (List Value)) (hn : ys.length = n) (hr : Rows w.heap.size w a 3 ys) (hlen : ∀ r ∈ ys, r.length = 3) (h1 : ∀ r ∈ ys, ∀ u ∈ r, u.oneCell' = true) (hl : ys.length ≤ 1000000000) :
    Calls Tryz.prog 165 #[.slice a n c] w fun e w' => ∃ v, e = .returned v ∧ OwnR 101 3 w.heap.size w' v ys ∧ Below w.heap.size w w' := by
  have HN := hid hn
  have HR := hid hr
  have HL := hid hlen
  have H1 := hid h1
  have HM := hid hl
  clear hn hr hlen h1 hl
  cases a with
  | none =>
    have HY : Hid (ys = []) := hid (HR.out.elim id (fun ⟨b, off, h, _⟩ => by cases h))
    have qn := Lib.run_eql_slice_nil (P := Tryz.prog) w 24 101 none n c 0 0 Tryz.underlying24
    rw [Option.isNone_none] at qn
    go_enter Tryz.func165, Tryz.ntmps165
    go_wp2
    go_ret
    exact ⟨_, rfl, by rw [HY.out]; exact OwnR.start _ _ _ _, Below.refl _ _⟩
  | some ad =>
    have qn := Lib.run_eql_slice_nil (P := Tryz.prog) w 24 101 (some ad) n c 0 0 Tryz.underlying24
    rw [Option.isNone_some] at qn
    go_enter Tryz.func165, Tryz.ntmps165
    go_wp2_with (at_builtin; refine append_list infoFn rfl (by omega) (by omega) Tryz.underlying24 rfl (.tmp 5) (.tmp 6) rfl rfl (OwnR.madeG 101 3 _ rfl) (by simp) _ _ _ rfl ys HN.out ((HR.out.below ((Below.refl _ _).alloc (Nat.le_refl _) _)).more (by simp)) HL.out H1.out HM.out ?_; intro v1 u1 ho hb hsz)
    go_ret
    exact ⟨_, rfl, ho, (((Below.refl w.heap.size w).alloc (Nat.le_refl _) _).trans hb)⟩

set_option maxRecDepth 100000 in
set_option maxHeartbeats 2000000 in
theorem clone_li (w : World) (a : Option Addr) (n c : Nat) (ys : List (List Value)) (hn : ys.length = n) (hr : Rows w.heap.size w a 3 ys) (hlen : ∀ r ∈ ys, r.length = 3) (h1 : ∀ r ∈ ys, ∀ u ∈ r, u.oneCell' = true) (hl : ys.length ≤ 1000000000) :
    Calls Tryz.prog 90 #[.slice a n c] w fun e w' => ∃ v, e = .returned v ∧ OwnR 83 3 w.heap.size w' v ys ∧ Below w.heap.size w w' := by
  have HN := hid hn
  have HR := hid hr
  have HL := hid hlen
  have H1 := hid h1
  have HM := hid hl
  clear hn hr hlen h1 hl
  cases a with
  | none =>
    have HY : Hid (ys = []) := hid (HR.out.elim id (fun ⟨b, off, h, _⟩ => by cases h))
    have qn := Lib.run_eql_slice_nil (P := Tryz.prog) w 25 83 none n c 0 0 Tryz.underlying25
    rw [Option.isNone_none] at qn
    go_enter Tryz.func90, Tryz.ntmps90
    go_wp2
    go_ret
    exact ⟨_, rfl, by rw [HY.out]; exact OwnR.start _ _ _ _, Below.refl _ _⟩
  | some ad =>
    have qn := Lib.run_eql_slice_nil (P := Tryz.prog) w 25 83 (some ad) n c 0 0 Tryz.underlying25
    rw [Option.isNone_some] at qn
    go_enter Tryz.func90, Tryz.ntmps90
    go_wp2_with (at_builtin; refine append_list infoLi rfl (by omega) (by omega) Tryz.underlying25 rfl (.tmp 5) (.tmp 6) rfl rfl (OwnR.madeG 83 3 _ rfl) (by simp) _ _ _ rfl ys HN.out ((HR.out.below ((Below.refl _ _).alloc (Nat.le_refl _) _)).more (by simp)) HL.out H1.out HM.out ?_; intro v1 u1 ho hb hsz)
    go_ret
    exact ⟨_, rfl, ho, (((Below.refl w.heap.size w).alloc (Nat.le_refl _) _).trans hb)⟩

set_option maxRecDepth 100000 in
set_option maxHeartbeats 2000000 in
theorem clone_gl (w : World) (a : Option Addr) (n c : Nat) (ys : List (List Value)) (hn : ys.length = n) (hr : Rows w.heap.size w a 2 ys) (hlen : ∀ r ∈ ys, r.length = 2) (h1 : ∀ r ∈ ys, ∀ u ∈ r, u.oneCell' = true) (hl : ys.length ≤ 1000000000) :
    Calls Tryz.prog 167 #[.slice a n c] w fun e w' => ∃ v, e = .returned v ∧ OwnR 94 2 w.heap.size w' v ys ∧ Below w.heap.size w w' := by
  have HN := hid hn
  have HR := hid hr
  have HL := hid hlen
  have H1 := hid h1
  have HM := hid hl
  clear hn hr hlen h1 hl
  cases a with
  | none =>
    have HY : Hid (ys = []) := hid (HR.out.elim id (fun ⟨b, off, h, _⟩ => by cases h))
    have qn := Lib.run_eql_slice_nil (P := Tryz.prog) w 26 94 none n c 0 0 Tryz.underlying26
    rw [Option.isNone_none] at qn
    go_enter Tryz.func167, Tryz.ntmps167
    go_wp2
    go_ret
    exact ⟨_, rfl, by rw [HY.out]; exact OwnR.start _ _ _ _, Below.refl _ _⟩
  | some ad =>
    have qn := Lib.run_eql_slice_nil (P := Tryz.prog) w 26 94 (some ad) n c 0 0 Tryz.underlying26
    rw [Option.isNone_some] at qn
    go_enter Tryz.func167, Tryz.ntmps167
    go_wp2_with (at_builtin; refine append_list infoGl rfl (by omega) (by omega) Tryz.underlying26 rfl (.tmp 5) (.tmp 6) rfl rfl (OwnR.madeG 94 2 _ rfl) (by simp) _ _ _ rfl ys HN.out ((HR.out.below ((Below.refl _ _).alloc (Nat.le_refl _) _)).more (by simp)) HL.out H1.out HM.out ?_; intro v1 u1 ho hb hsz)
    go_ret
    exact ⟨_, rfl, ho, (((Below.refl w.heap.size w).alloc (Nat.le_refl _) _).trans hb)⟩

set_option maxRecDepth 100000 in
set_option maxHeartbeats 2000000 in
theorem clone_ex (w : World) (a : Option Addr) (n c : Nat) (ys : List (List Value)) (hn : ys.length = n) (hr : Rows w.heap.size w a 3 ys) (hlen : ∀ r ∈ ys, r.length = 3) (h1 : ∀ r ∈ ys, ∀ u ∈ r, u.oneCell' = true) (hl : ys.length ≤ 1000000000) :
    Calls Tryz.prog 93 #[.slice a n c] w fun e w' => ∃ v, e = .returned v ∧ OwnR 111 3 w.heap.size w' v ys ∧ Below w.heap.size w w' := by
  have HN := hid hn
  have HR := hid hr
  have HL := hid hlen
  have H1 := hid h1
  have HM := hid hl
  clear hn hr hlen h1 hl
  cases a with
  | none =>
    have HY : Hid (ys = []) := hid (HR.out.elim id (fun ⟨b, off, h, _⟩ => by cases h))
    have qn := Lib.run_eql_slice_nil (P := Tryz.prog) w 27 111 none n c 0 0 Tryz.underlying27
    rw [Option.isNone_none] at qn
    go_enter Tryz.func93, Tryz.ntmps93
    go_wp2
    go_ret
    exact ⟨_, rfl, by rw [HY.out]; exact OwnR.start _ _ _ _, Below.refl _ _⟩
  | some ad =>
    have qn := Lib.run_eql_slice_nil (P := Tryz.prog) w 27 111 (some ad) n c 0 0 Tryz.underlying27
    rw [Option.isNone_some] at qn
    go_enter Tryz.func93, Tryz.ntmps93
    go_wp2_with (at_builtin; refine append_list infoEx rfl (by omega) (by omega) Tryz.underlying27 rfl (.tmp 5) (.tmp 6) rfl rfl (OwnR.madeG 111 3 _ rfl) (by simp) _ _ _ rfl ys HN.out ((HR.out.below ((Below.refl _ _).alloc (Nat.le_refl _) _)).more (by simp)) HL.out H1.out HM.out ?_; intro v1 u1 ho hb hsz)
    go_ret
    exact ⟨_, rfl, ho, (((Below.refl w.heap.size w).alloc (Nat.le_refl _) _).trans hb)⟩

set_option maxRecDepth 100000 in
set_option maxHeartbeats 2000000 in
theorem clone_el (w : World) (a : Option Addr) (n c : Nat) (ys : List (List Value)) (hn : ys.length = n) (hr : Rows w.heap.size w a 2 ys) (hlen : ∀ r ∈ ys, r.length = 2) (h1 : ∀ r ∈ ys, ∀ u ∈ r, u.oneCell' = true) (hl : ys.length ≤ 1000000000) :
    Calls Tryz.prog 168 #[.slice a n c] w fun e w' => ∃ v, e = .returned v ∧ OwnR 109 2 w.heap.size w' v ys ∧ Below w.heap.size w w' := by
  have HN := hid hn
  have HR := hid hr
  have HL := hid hlen
  have H1 := hid h1
  have HM := hid hl
  clear hn hr hlen h1 hl
  cases a with
  | none =>
    have HY : Hid (ys = []) := hid (HR.out.elim id (fun ⟨b, off, h, _⟩ => by cases h))
    have qn := Lib.run_eql_slice_nil (P := Tryz.prog) w 29 109 none n c 0 0 Tryz.underlying29
    rw [Option.isNone_none] at qn
    go_enter Tryz.func168, Tryz.ntmps168
    go_wp2
    go_ret
    exact ⟨_, rfl, by rw [HY.out]; exact OwnR.start _ _ _ _, Below.refl _ _⟩
  | some ad =>
    have qn := Lib.run_eql_slice_nil (P := Tryz.prog) w 29 109 (some ad) n c 0 0 Tryz.underlying29
    rw [Option.isNone_some] at qn
    go_enter Tryz.func168, Tryz.ntmps168
    go_wp2_with (at_builtin; refine append_list infoEl rfl (by omega) (by omega) Tryz.underlying29 rfl (.tmp 5) (.tmp 6) rfl rfl (OwnR.madeG 109 2 _ rfl) (by simp) _ _ _ rfl ys HN.out ((HR.out.below ((Below.refl _ _).alloc (Nat.le_refl _) _)).more (by simp)) HL.out H1.out HM.out ?_; intro v1 u1 ho hb hsz)
    go_ret
    exact ⟨_, rfl, ho, (((Below.refl w.heap.size w).alloc (Nat.le_refl _) _).trans hb)⟩

set_option maxRecDepth 100000 in
set_option maxHeartbeats 2000000 in
theorem clone_da (w : World) (a : Option Addr) (n c : Nat) (ys : List (List Value)) (hn : ys.length = n) (hr : Rows w.heap.size w a 2 ys) (hlen : ∀ r ∈ ys, r.length = 2) (h1 : ∀ r ∈ ys, ∀ u ∈ r, u.oneCell' = true) (hl : ys.length ≤ 1000000000) :
    Calls Tryz.prog 170 #[.slice a n c] w fun e w' => ∃ v, e = .returned v ∧ OwnR 88 2 w.heap.size w' v ys ∧ Below w.heap.size w w' := by
  have HN := hid hn
  have HR := hid hr
  have HL := hid hlen
  have H1 := hid h1
  have HM := hid hl
  clear hn hr hlen h1 hl
  cases a with
  | none =>
    have HY : Hid (ys = []) := hid (HR.out.elim id (fun ⟨b, off, h, _⟩ => by cases h))
    have qn := Lib.run_eql_slice_nil (P := Tryz.prog) w 30 88 none n c 0 0 Tryz.underlying30
    rw [Option.isNone_none] at qn
    go_enter Tryz.func170, Tryz.ntmps170
    go_wp2
    go_ret
    exact ⟨_, rfl, by rw [HY.out]; exact OwnR.start _ _ _ _, Below.refl _ _⟩
  | some ad =>
    have qn := Lib.run_eql_slice_nil (P := Tryz.prog) w 30 88 (some ad) n c 0 0 Tryz.underlying30
    rw [Option.isNone_some] at qn
    go_enter Tryz.func170, Tryz.ntmps170
    go_wp2_with (at_builtin; refine append_list infoDa rfl (by omega) (by omega) Tryz.underlying30 rfl (.tmp 5) (.tmp 6) rfl rfl (OwnR.madeG 88 2 _ rfl) (by simp) _ _ _ rfl ys HN.out ((HR.out.below ((Below.refl _ _).alloc (Nat.le_refl _) _)).more (by simp)) HL.out H1.out HM.out ?_; intro v1 u1 ho hb hsz)
    go_ret
    exact ⟨_, rfl, ho, (((Below.refl w.heap.size w).alloc (Nat.le_refl _) _).trans hb)⟩

set_option maxRecDepth 100000 in
set_option maxHeartbeats 2000000 in
theorem clone_in (w : World) (a : Option Addr) (n c : Nat) (ys : List (List Value)) (hn : ys.length = n) (hr : Rows w.heap.size w a 8 ys) (hlen : ∀ r ∈ ys, r.length = 8) (h1 : ∀ r ∈ ys, ∀ u ∈ r, u.oneCell' = true) (hl : ys.length ≤ 1000000000) :
    Calls Tryz.prog 234 #[.slice a n c] w fun e w' => ∃ v, e = .returned v ∧ OwnR 105 8 w.heap.size w' v ys ∧ Below w.heap.size w w' := by
  have HN := hid hn
  have HR := hid hr
  have HL := hid hlen
  have H1 := hid h1
  have HM := hid hl
  clear hn hr hlen h1 hl
  cases a with
  | none =>
    have HY : Hid (ys = []) := hid (HR.out.elim id (fun ⟨b, off, h, _⟩ => by cases h))
    have qn := Lib.run_eql_slice_nil (P := Tryz.prog) w 85 105 none n c 0 0 Tryz.underlying85
    rw [Option.isNone_none] at qn
    go_enter Tryz.func234, Tryz.ntmps234
    go_wp2
    go_ret
    exact ⟨_, rfl, by rw [HY.out]; exact OwnR.start _ _ _ _, Below.refl _ _⟩
  | some ad =>
    have qn := Lib.run_eql_slice_nil (P := Tryz.prog) w 85 105 (some ad) n c 0 0 Tryz.underlying85
    rw [Option.isNone_some] at qn
    go_enter Tryz.func234, Tryz.ntmps234
    go_wp2_with (at_builtin; refine append_list Body.infoI rfl (by omega) (by omega) Tryz.underlying85 rfl (.tmp 5) (.tmp 6) rfl rfl (OwnR.madeG 105 8 _ rfl) (by simp) _ _ _ rfl ys HN.out ((HR.out.below ((Below.refl _ _).alloc (Nat.le_refl _) _)).more (by simp)) HL.out H1.out HM.out ?_; intro v1 u1 ho hb hsz)
    go_ret
    exact ⟨_, rfl, ho, (((Below.refl w.heap.size w).alloc (Nat.le_refl _) _).trans hb)⟩

set_option maxRecDepth 100000 in
set_option maxHeartbeats 2000000 in
theorem clone_u4 (w : World) (a : Option Addr) (n c : Nat) (ys : List (List Value)) (hn : ys.length = n) (hr : Rows w.heap.size w a 1 ys) (hlen : ∀ r ∈ ys, r.length = 1) (h1 : ∀ r ∈ ys, ∀ u ∈ r, u.oneCell' = true) (hl : ys.length ≤ 1000000000) :
    Calls Tryz.prog 169 #[.slice a n c] w fun e w' => ∃ v, e = .returned v ∧ OwnR 28 1 w.heap.size w' v ys ∧ Below w.heap.size w w' := by
  have HN := hid hn
  have HR := hid hr
  have HL := hid hlen
  have H1 := hid h1
  have HM := hid hl
  clear hn hr hlen h1 hl
  cases a with
  | none =>
    have HY : Hid (ys = []) := hid (HR.out.elim id (fun ⟨b, off, h, _⟩ => by cases h))
    have qn := Lib.run_eql_slice_nil (P := Tryz.prog) w 50 28 none n c 0 0 Tryz.underlying50
    rw [Option.isNone_none] at qn
    go_enter Tryz.func169, Tryz.ntmps169
    go_wp2
    go_ret
    exact ⟨_, rfl, by rw [HY.out]; exact OwnR.start _ _ _ _, Below.refl _ _⟩
  | some ad =>
    have qn := Lib.run_eql_slice_nil (P := Tryz.prog) w 50 28 (some ad) n c 0 0 Tryz.underlying50
    rw [Option.isNone_some] at qn
    go_enter Tryz.func169, Tryz.ntmps169
    go_wp2_with (at_builtin; refine append_list infoI32 rfl (by omega) (by omega) Tryz.underlying50 rfl (.tmp 5) (.tmp 6) rfl rfl (OwnR.madeG 28 1 _ rfl) (by simp) _ _ _ rfl ys HN.out ((HR.out.below ((Below.refl _ _).alloc (Nat.le_refl _) _)).more (by simp)) HL.out H1.out HM.out ?_; intro v1 u1 ho hb hsz)
    go_ret
    exact ⟨_, rfl, ho, (((Below.refl w.heap.size w).alloc (Nat.le_refl _) _).trans hb)⟩

end Go.Proofs.YtckdnhafookcgaaGreatDoor.Mod

namespace Go.Proofs.YtckdnhafookcgaaGreatDoor.Mod
open Go.RowKit Go.Proofs.YtckdnhafookcgaaGreatDoor.Instr

/-- Two worlds with the same blocks from lo on and below hi. -/
def Same2 (lo hi : Nat) (w w' : World) : Prop := ∀ b, lo ≤ b → b < hi → w'.heap[b]? = w.heap[b]?
theorem Same2.of_below {lo hi B : Nat} {w w' : World} (h : Below B w w') (hh : hi ≤ B) : Same2 lo hi w w' := fun b _ h2 => h.block b (by omega)
theorem Same2.set {lo hi b o : Nat} {w : World} {v : Value} (h : b < lo ∨ hi ≤ b) : Same2 lo hi w (w.setCell ⟨b, o, none⟩ v) := fun q h1 h2 => Below.heap_setCell w ⟨b, o, none⟩ v q (by simp only; omega)
theorem Same2.trans {lo hi : Nat} {a b c : World} (h : Same2 lo hi a b) (g : Same2 lo hi b c) : Same2 lo hi a c := fun q h1 h2 => (g q h1 h2).trans (h q h1 h2)
theorem Same2.cell {lo hi b o : Nat} {w w' : World} (h : Same2 lo hi w w') (h1 : lo ≤ b) (h2 : b < hi) : w'.cell? ⟨b, o, none⟩ = w.cell? ⟨b, o, none⟩ := by
  simp only [World.cell?, h b h1 h2]
theorem Blk.frame {lo hi b : Nat} {w w' : World} (s : Same2 lo hi w w') (h : Blk lo hi w b) : Blk lo hi w' b := by
  obtain ⟨h1, h2, cs, e, h3⟩ := h
  exact ⟨h1, h2, cs, e, (s b h1 h2).trans h3⟩
theorem TagsO.frame {lo hi : Nat} {w w' : World} (s : Same2 lo hi w w') {a : Option Addr} {zs : List Int} (h : TagsO lo hi w a zs) : TagsO lo hi w' a zs := by
  rcases h with h | ⟨b, off, ha, hb, hc⟩
  · exact .inl h
  · exact .inr ⟨b, off, ha, hb.frame s, fun i hi => (s.cell hb.1 hb.2.1).trans (hc i hi)⟩
theorem ItemsO.frame {lo hi : Nat} {w w' : World} (s : Same2 lo hi w w') : ∀ {t : Il} {b off : Nat}, ItemsO lo hi w b off t → ItemsO lo hi w' b off t
  | .nil, _, _, _ => trivial
  | .cons x l e r, b, off, ⟨hb, hx, hc, ht, ⟨l1, l2⟩, ⟨e1, e2⟩, hr⟩ => by
    refine ⟨hb.frame s, hx, fun j v hj => (s.cell hb.1 hb.2.1).trans (hc j v hj), ht.frame s, ⟨l1, ?_⟩, ⟨e1, ?_⟩, ItemsO.frame s hr⟩
    · rcases l2 with h | ⟨b', o', h1, h2⟩
      · exact .inl h
      · exact .inr ⟨b', o', h1, ItemsO.frame s h2⟩
    · rcases e2 with h | ⟨b', o', h1, h2⟩
      · exact .inl h
      · exact .inr ⟨b', o', h1, ItemsO.frame s h2⟩
theorem ListO.frame {lo hi n : Nat} {w w' : World} (s : Same2 lo hi w w') {a : Option Addr} {t : Il} (h : ListO lo hi w a n t) : ListO lo hi w' a n t := by
  refine ⟨h.1, ?_⟩
  rcases h.2 with h | ⟨b, off, h1, h2⟩
  · exact .inl h
  · exact .inr ⟨b, off, h1, h2.frame s⟩
theorem Blk.mono {lo hi lo' hi' b : Nat} {w : World} (h1 : lo' ≤ lo) (h2 : hi ≤ hi') (h : Blk lo hi w b) : Blk lo' hi' w b := ⟨Nat.le_trans h1 h.1, Nat.lt_of_lt_of_le h.2.1 h2, h.2.2⟩
theorem TagsO.mono {lo hi lo' hi' : Nat} {w : World} (h1 : lo' ≤ lo) (h2 : hi ≤ hi') {a : Option Addr} {zs : List Int} (h : TagsO lo hi w a zs) : TagsO lo' hi' w a zs := by
  rcases h with h | ⟨b, off, ha, hb, hc⟩
  · exact .inl h
  · exact .inr ⟨b, off, ha, hb.mono h1 h2, hc⟩
theorem ItemsO.mono {lo hi lo' hi' : Nat} {w : World} (g1 : lo' ≤ lo) (g2 : hi ≤ hi') : ∀ {t : Il} {b off : Nat}, ItemsO lo hi w b off t → ItemsO lo' hi' w b off t
  | .nil, _, _, _ => trivial
  | .cons x l e r, b, off, ⟨hb, hx, hc, ht, ⟨l1, l2⟩, ⟨e1, e2⟩, hr⟩ => by
    refine ⟨hb.mono g1 g2, hx, hc, ht.mono g1 g2, ⟨l1, ?_⟩, ⟨e1, ?_⟩, ItemsO.mono g1 g2 hr⟩
    · rcases l2 with h | ⟨b', o', h1, h2⟩
      · exact .inl h
      · exact .inr ⟨b', o', h1, ItemsO.mono g1 g2 h2⟩
    · rcases e2 with h | ⟨b', o', h1, h2⟩
      · exact .inl h
      · exact .inr ⟨b', o', h1, ItemsO.mono g1 g2 h2⟩
theorem ListO.mono {lo hi lo' hi' n : Nat} {w : World} (g1 : lo' ≤ lo) (g2 : hi ≤ hi') {a : Option Addr} {t : Il} (h : ListO lo hi w a n t) : ListO lo' hi' w a n t := by
  refine ⟨h.1, ?_⟩
  rcases h.2 with h | ⟨b, off, h1, h2⟩
  · exact .inl h
  · exact .inr ⟨b, off, h1, h2.mono g1 g2⟩
/-- The rows of one cell that numbers are. -/
def oneU (zs : List Int) : List (List Value) := zs.map fun z => [.int .u32 z]
theorem rows_tags {n₀ : Nat} {w : World} {a : Option Addr} {zs : List Int} (h : TagsAt n₀ w a zs) : Rows n₀ w a 1 (oneU zs) := by
  rcases h with h | ⟨b, off, ha, hb, hc⟩
  · exact .inl (by rw [h]; rfl)
  · refine .inr ⟨b, off, ha, hb, fun i hi j hj v hv => ?_⟩
    unfold oneU at hi hv
    rw [List.length_map] at hi
    obtain rfl : j = 0 := by omega
    have : (List.map (fun z => [Value.int .u32 z]) zs).getD i [] = [.int .u32 (zs.getD i 0)] := by simp [hi]
    rw [this] at hv
    cases hv
    rw [Nat.mul_one, Nat.add_zero]
    exact hc i hi
theorem flat_oneU (zs : List Int) : (oneU zs).flatten = zs.map (Value.int .u32) := by
  unfold oneU
  induction zs with
  | nil => rfl
  | cons z r ih => simp only [List.map_cons, List.flatten_cons, ih]; rfl
theorem own_tags {e : TypeId} {base : Nat} {w : World} {v : Value} {zs : List Int} (h : OwnR e 1 base w v (oneU zs)) : ∃ a c, v = .slice a zs.length c ∧ TagsO base w.heap.size w a zs := by
  have hn : (oneU zs).length = zs.length := by unfold oneU; rw [List.length_map]
  rcases h.row.2 with ⟨rfl, h0⟩ | ⟨g, cap, cur, rfl, hb, hg, h1, h2, h3, h4⟩
  · have : zs = [] := List.length_eq_zero_iff.1 (by omega)
    subst this
    exact ⟨none, 0, rfl, .inl rfl⟩
  · refine ⟨some ⟨g, 0, none⟩, cap, by rw [hn], .inr ⟨g, 0, rfl, ⟨hb, ?_, cur, e, hg⟩, fun i hi => ?_⟩⟩
    · rcases Nat.lt_or_ge g w.heap.size with h | h
      · exact h
      · rw [Array.getElem?_eq_none h] at hg; cases hg
    · rw [flat_oneU, hn, Nat.mul_one] at h4
      have hx : cur[i]? = some (.int .u32 (zs.getD i 0)) := by
        have h5 := congrArg (fun l => l[i]?) h4
        simp only [List.getElem?_take, if_pos hi, List.getElem?_map] at h5
        rw [Array.getElem?_toList] at h5
        rw [h5, List.getElem?_eq_getElem hi, getD_lt hi]; rfl
      rw [Nat.zero_add]
      simp [World.cell?, hg, hx]
end Go.Proofs.YtckdnhafookcgaaGreatDoor.Mod

namespace Go.Proofs.YtckdnhafookcgaaGreatDoor.Mod
open Go.RowKit Go.Proofs.YtckdnhafookcgaaGreatDoor.Instr

theorem cs_cell {w : World} {g : Nat} {cs : Array Value} {t : TypeId} {m : Nat × Nat} (hh : w.heap[g]? = some (.cells cs t m)) {i : Nat} {u : Value} (hu : cs[i]? = some u) : w.cell? ⟨g, i, none⟩ = some u := by
  simp [World.cell?, hh, hu]
/-- What copyInstr tells of x with its sublists l and e. -/
structure CpyX (lo : Nat) (w : World) (x' x : Ix) (l' l e' e : Il) : Prop where
  ok : x'.ok
  tags : TagsO lo w.heap.size w x'.ta x'.tags
  ls : ListO lo w.heap.size w x'.la x'.ln l'
  es : ListO lo w.heap.size w x'.ea x'.en e'
  same : AllSame x' x l' e' l e
/-- copyList, of lists of fewer than m instructions. -/
def CpyC (m : Nat) : Prop := ∀ (t : Il) (a : Option Addr) (n c : Nat) (w : World), t.count < m → t.weight ≤ 1000000000 → ListAt w.heap.size w a n t → n ≤ 140737488351232 →
    Calls Tryz.prog 166 #[.slice a n c] w fun e w' => (∃ a' c' u, e = .returned (.slice a' n c') ∧ ListO w.heap.size w'.heap.size w' a' n u ∧ u.bare = t.bare) ∧ Below w.heap.size w w'
theorem oneU_len (zs : List Int) : ∀ r ∈ oneU zs, r.length = 1 := by
  intro r hr
  unfold oneU at hr
  obtain ⟨z, _, rfl⟩ := List.mem_map.1 hr
  rfl
theorem oneU_one (zs : List Int) : ∀ r ∈ oneU zs, ∀ u ∈ r, u.oneCell' = true := by
  intro r hr u hu
  unfold oneU at hr
  obtain ⟨z, _, rfl⟩ := List.mem_map.1 hr
  rw [List.mem_singleton] at hu
  rw [hu]; rfl
set_option maxRecDepth 100000 in
set_option maxHeartbeats 4000000 in
theorem cpyI (m : Nat) (ih : CpyC m) (x : Ix) (l e : Il) (w : World) (hox : x.ok) (htx : TagsAt w.heap.size w x.ta x.tags) (hl : ListAt w.heap.size w x.la x.ln l) (he : ListAt w.heap.size w x.ea x.en e) (cl : l.count < m) (ce : e.count < m) (wt : x.tags.length ≤ 1000000000) (wl : l.weight ≤ 1000000000) (we : e.weight ≤ 1000000000) :
    Calls Tryz.prog 206 #[.agg x.vals] w fun r w' => (∃ x' l' e', r = .returned (.agg x'.vals) ∧ CpyX w.heap.size w' x' x l' l e' e) ∧ Below w.heap.size w w' := by
  obtain ⟨op, res, xa, xb, xn, tags, ta, tc, la, ln, lc, ea, en, ec⟩ := x
  dsimp only at htx hl he wt
  have HOX := hid hox
  have CT := hid (fun (W : World) (hb : Below w.heap.size w W) => clone_u4 W ta tags.length tc (oneU tags) (by unfold oneU; rw [List.length_map]) ((rows_tags (htx.below hb)).more hb.size) (oneU_len tags) (oneU_one tags) (by unfold oneU; rw [List.length_map]; exact wt))
  have CL := hid (fun (W : World) (hb : Below w.heap.size w W) => ih l la ln lc W cl wl ((hl.below hb).more hb.size) hox.ln)
  have CE := hid (fun (W : World) (hb : Below w.heap.size w W) => ih e ea en ec W ce we ((he.below hb).more hb.size) hox.en)
  have hr := heap_alloc_new w (.cells #[.int .i64 op, .int .i64 res, .int .u32 xa, .int .u32 xb, .int .i32 xn, .slice ta tags.length tc, .slice la ln lc, .slice ea en ec] 105)
  clear hox htx hl he cl ce wt wl we ih
  show Calls _ _ #[.agg #[.int .i64 op, .int .i64 res, .int .u32 xa, .int .u32 xb, .int .i32 xn, .slice ta tags.length tc, .slice la ln lc, .slice ea en ec]] w _
  go_enter Tryz.func206, Tryz.ntmps206
  have hs := heap_alloc_new (w.alloc (.cells #[.int .i64 op, .int .i64 res, .int .u32 xa, .int .u32 xb, .int .i32 xn, .slice ta tags.length tc, .slice la ln lc, .slice ea en ec] 105)) (.cells #[.int .i64 0, .int .i64 0, .int .u32 0, .int .u32 0, .int .i32 0, .slice none 0 0, .slice none 0 0, .slice none 0 0] 105)
  rw [World.size_alloc] at hs
  have hb1 : Below w.heap.size w ((w.alloc (.cells #[.int .i64 op, .int .i64 res, .int .u32 xa, .int .u32 xb, .int .i32 xn, .slice ta tags.length tc, .slice la ln lc, .slice ea en ec] 105)).alloc (.cells #[.int .i64 0, .int .i64 0, .int .u32 0, .int .u32 0, .int .i32 0, .slice none 0 0, .slice none 0 0, .slice none 0 0] 105)) := ((Below.refl w.heap.size w).alloc (Nat.le_refl _) _).alloc (by simp only [World.size_alloc]; omega) _
  have r1 : ((w.alloc (.cells #[.int .i64 op, .int .i64 res, .int .u32 xa, .int .u32 xb, .int .i32 xn, .slice ta tags.length tc, .slice la ln lc, .slice ea en ec] 105)).alloc (.cells #[.int .i64 0, .int .i64 0, .int .u32 0, .int .u32 0, .int .i32 0, .slice none 0 0, .slice none 0 0, .slice none 0 0] 105)).heap[w.heap.size]? = some (.cells #[.int .i64 op, .int .i64 res, .int .u32 xa, .int .u32 xb, .int .i32 xn, .slice ta tags.length tc, .slice la ln lc, .slice ea en ec] 105 (0, 0)) := (((Below.refl _ _).alloc (Nat.le_refl _) (.cells #[.int .i64 0, .int .i64 0, .int .u32 0, .int .u32 0, .int .i32 0, .slice none 0 0, .slice none 0 0, .slice none 0 0] 105)).block w.heap.size (by rw [World.size_alloc]; omega)).trans hr
  obtain ⟨W1, hW1⟩ : ∃ W1, ((w.alloc (.cells #[.int .i64 op, .int .i64 res, .int .u32 xa, .int .u32 xb, .int .i32 xn, .slice ta tags.length tc, .slice la ln lc, .slice ea en ec] 105)).alloc (.cells #[.int .i64 0, .int .i64 0, .int .u32 0, .int .u32 0, .int .i32 0, .slice none 0 0, .slice none 0 0, .slice none 0 0] 105)) = W1 := ⟨_, rfl⟩
  have n1 : W1.heap.size = w.heap.size + 2 := by rw [← hW1, World.size_alloc, World.size_alloc]
  rw [hW1] at hs hb1 r1
  obtain ⟨g, hg⟩ : ∃ g, w.heap.size = g := ⟨_, rfl⟩
  rw [hg] at hs hb1 r1 n1 CT CL CE
  have HW := hid hW1
  have HB := hid hb1
  have HR := hid r1
  have HS := hid hs
  have HN := hid n1
  have HG := hid hg
  clear hr hs hW1 hb1 r1 n1 hg
  go_wp2_with fail
  rw [HW.out]
  refine (CT.out _ HB.out).mono ?_
  rintro r w2 ⟨v, rfl, ho, hb2⟩
  obtain ⟨ta', tc', rfl, hT⟩ := own_tags ho
  rw [HG.out]
  have r2 : w2.heap[g]? = some (.cells #[.int .i64 op, .int .i64 res, .int .u32 xa, .int .u32 xb, .int .i32 xn, .slice ta tags.length tc, .slice la ln lc, .slice ea en ec] 105 (0, 0)) := (hb2.block g (by have := HN.out; omega)).trans HR.out
  have s2 : w2.heap[g + 1]? = some (.cells #[.int .i64 0, .int .i64 0, .int .u32 0, .int .u32 0, .int .i32 0, .slice none 0 0, .slice none 0 0, .slice none 0 0] 105 (0, 0)) := (hb2.block (g + 1) (by have := HN.out; omega)).trans HS.out
  have r3 : (w2.setCell ⟨g, 5, none⟩ (.slice ta' tags.length tc')).heap[g]? = some (.cells #[.int .i64 op, .int .i64 res, .int .u32 xa, .int .u32 xb, .int .i32 xn, .slice ta' tags.length tc', .slice la ln lc, .slice ea en ec] 105 (0, 0)) := heap_setCell_same w2 g 5 _ _ _ r2
  have s3 : (w2.setCell ⟨g, 5, none⟩ (.slice ta' tags.length tc')).heap[g + 1]? = some (.cells #[.int .i64 0, .int .i64 0, .int .u32 0, .int .u32 0, .int .i32 0, .slice none 0 0, .slice none 0 0, .slice none 0 0] 105 (0, 0)) := (Below.heap_setCell w2 ⟨g, 5, none⟩ _ (g + 1) (by simp only; omega)).trans s2
  have c5 := cs_cell r2 (i := 5) rfl
  have c6 := cs_cell r2 (i := 6) rfl
  have z5 := frozen_of_row w2 g 5 _ _ r2
  have hb3 : Below g w (w2.setCell ⟨g, 5, none⟩ (.slice ta' tags.length tc')) := (HB.out.trans (hb2.mono (by have := HN.out; omega))).setCell (p := ⟨g, 5, none⟩) (Nat.le_refl _) _
  have t3 : Same2 W1.heap.size w2.heap.size w2 (w2.setCell ⟨g, 5, none⟩ (.slice ta' tags.length tc')) := Same2.set (.inl (by have := HN.out; omega))
  have hT3 := hT.frame t3
  have e3 : (w2.setCell ⟨g, 5, none⟩ (.slice ta' tags.length tc')).heap.size = w2.heap.size := by simp [World.setCell]
  have q3 : g + 2 ≤ w2.heap.size := by have := HN.out; have := hb2.size; omega
  obtain ⟨w3, hw3⟩ : ∃ w3, w2.setCell ⟨g, 5, none⟩ (.slice ta' tags.length tc') = w3 := ⟨_, rfl⟩
  rw [hw3] at r3 s3 hb3 t3 hT3 e3
  have HW3 := hid hw3
  have HR3 := hid r3
  have HS3 := hid s3
  have HB3 := hid hb3
  have HT3 := hid hT3
  have HE3 := hid e3
  have HQ3 := hid q3
  clear r3 s3 hb3 t3 hT3 e3 q3 hT ho hb2 r2 s2 hw3
  go_wp2_with fail
  rw [HW3.out]
  refine (CL.out _ HB3.out).mono ?_
  rintro r w4 ⟨⟨la', lc', l', rfl, hL, hbare⟩, hb4⟩
  have r4 : w4.heap[g]? = some (.cells #[.int .i64 op, .int .i64 res, .int .u32 xa, .int .u32 xb, .int .i32 xn, .slice ta' tags.length tc', .slice la ln lc, .slice ea en ec] 105 (0, 0)) := (hb4.block g (by have := HQ3.out; have := HE3.out; omega)).trans HR3.out
  have s4 : w4.heap[g + 1]? = some (.cells #[.int .i64 0, .int .i64 0, .int .u32 0, .int .u32 0, .int .i32 0, .slice none 0 0, .slice none 0 0, .slice none 0 0] 105 (0, 0)) := (hb4.block (g + 1) (by have := HQ3.out; have := HE3.out; omega)).trans HS3.out
  have r5 : (w4.setCell ⟨g, 6, none⟩ (.slice la' ln lc')).heap[g]? = some (.cells #[.int .i64 op, .int .i64 res, .int .u32 xa, .int .u32 xb, .int .i32 xn, .slice ta' tags.length tc', .slice la' ln lc', .slice ea en ec] 105 (0, 0)) := heap_setCell_same w4 g 6 _ _ _ r4
  have s5 : (w4.setCell ⟨g, 6, none⟩ (.slice la' ln lc')).heap[g + 1]? = some (.cells #[.int .i64 0, .int .i64 0, .int .u32 0, .int .u32 0, .int .i32 0, .slice none 0 0, .slice none 0 0, .slice none 0 0] 105 (0, 0)) := (Below.heap_setCell w4 ⟨g, 6, none⟩ _ (g + 1) (by simp only; omega)).trans s4
  have c6 := cs_cell r4 (i := 6) rfl
  have c7 := cs_cell r4 (i := 7) rfl
  have z6 := frozen_of_row w4 g 6 _ _ r4
  have hb5 : Below g w (w4.setCell ⟨g, 6, none⟩ (.slice la' ln lc')) := (HB3.out.trans (hb4.mono (by have := HQ3.out; have := HE3.out; omega))).setCell (p := ⟨g, 6, none⟩) (Nat.le_refl _) _
  have q5 : g + 2 ≤ w4.heap.size := by have := HQ3.out; have := HE3.out; have := hb4.size; omega
  have f5 : ∀ lo, g + 2 ≤ lo → Same2 lo w2.heap.size w3 (w4.setCell ⟨g, 6, none⟩ (.slice la' ln lc')) := fun lo h => (Same2.of_below hb4 (by rw [HE3.out]; exact Nat.le_refl _)).trans (Same2.set (.inl (by omega)))
  have hL5 := hL.frame (Same2.set (lo := w3.heap.size) (hi := w4.heap.size) (b := g) (o := 6) (w := w4) (v := .slice la' ln lc') (.inl (by have := HQ3.out; have := HE3.out; omega)))
  have e5 : (w4.setCell ⟨g, 6, none⟩ (.slice la' ln lc')).heap.size = w4.heap.size := by simp [World.setCell]
  have m5 : w2.heap.size ≤ w4.heap.size := by have := HE3.out; have := hb4.size; omega
  obtain ⟨w5, hw5⟩ : ∃ w5, w4.setCell ⟨g, 6, none⟩ (.slice la' ln lc') = w5 := ⟨_, rfl⟩
  rw [hw5] at r5 s5 hb5 f5 hL5 e5
  have HW5 := hid hw5
  have HR5 := hid r5
  have HS5 := hid s5
  have HB5 := hid hb5
  have HE5 := hid e5
  have HQ5 := hid q5
  have HF5 := hid f5
  have HL5 := hid hL5
  have HU5 := hid hbare
  have HM5 := hid m5
  clear r5 s5 hb5 f5 hL5 e5 q5 m5 hL hbare hb4 r4 s4 hw5
  go_wp2_with fail
  rw [HW5.out]
  refine (CE.out _ HB5.out).mono ?_
  rintro r w6 ⟨⟨ea', ec', e', rfl, hL, hbare⟩, hb6⟩
  have r6 : w6.heap[g]? = some (.cells #[.int .i64 op, .int .i64 res, .int .u32 xa, .int .u32 xb, .int .i32 xn, .slice ta' tags.length tc', .slice la' ln lc', .slice ea en ec] 105 (0, 0)) := (hb6.block g (by have := HQ5.out; have := HE5.out; omega)).trans HR5.out
  have s6 : w6.heap[g + 1]? = some (.cells #[.int .i64 0, .int .i64 0, .int .u32 0, .int .u32 0, .int .i32 0, .slice none 0 0, .slice none 0 0, .slice none 0 0] 105 (0, 0)) := (hb6.block (g + 1) (by have := HQ5.out; have := HE5.out; omega)).trans HS5.out
  have r7 : (w6.setCell ⟨g, 7, none⟩ (.slice ea' en ec')).heap[g]? = some (.cells #[.int .i64 op, .int .i64 res, .int .u32 xa, .int .u32 xb, .int .i32 xn, .slice ta' tags.length tc', .slice la' ln lc', .slice ea' en ec'] 105 (0, 0)) := heap_setCell_same w6 g 7 _ _ _ r6
  have s7 : (w6.setCell ⟨g, 7, none⟩ (.slice ea' en ec')).heap[g + 1]? = some (.cells #[.int .i64 0, .int .i64 0, .int .u32 0, .int .u32 0, .int .i32 0, .slice none 0 0, .slice none 0 0, .slice none 0 0] 105 (0, 0)) := (Below.heap_setCell w6 ⟨g, 7, none⟩ _ (g + 1) (by simp only; omega)).trans s6
  have c0 := cs_cell r6 (i := 0) rfl
  have c1 := cs_cell r6 (i := 1) rfl
  have c2 := cs_cell r6 (i := 2) rfl
  have c3 := cs_cell r6 (i := 3) rfl
  have c4 := cs_cell r6 (i := 4) rfl
  have c5 := cs_cell r6 (i := 5) rfl
  have c6 := cs_cell r6 (i := 6) rfl
  have c7 := cs_cell r6 (i := 7) rfl
  have z7 := frozen_of_row w6 g 7 _ _ r6
  have hb7 : Below g w (w6.setCell ⟨g, 7, none⟩ (.slice ea' en ec')) := (HB5.out.trans (hb6.mono (by have := HQ5.out; have := HE5.out; omega))).setCell (p := ⟨g, 7, none⟩) (Nat.le_refl _) _
  have q7 : g + 2 ≤ w6.heap.size := by have := HQ5.out; have := HE5.out; have := hb6.size; omega
  have f7 : ∀ lo, g + 2 ≤ lo → Same2 lo w4.heap.size w5 (w6.setCell ⟨g, 7, none⟩ (.slice ea' en ec')) := fun lo h => (Same2.of_below hb6 (by rw [HE5.out]; exact Nat.le_refl _)).trans (Same2.set (.inl (by omega)))
  have hL7 := hL.frame (Same2.set (lo := w5.heap.size) (hi := w6.heap.size) (b := g) (o := 7) (w := w6) (v := .slice ea' en ec') (.inl (by have := HQ5.out; have := HE5.out; omega)))
  have e7 : (w6.setCell ⟨g, 7, none⟩ (.slice ea' en ec')).heap.size = w6.heap.size := by simp [World.setCell]
  have m7 : w4.heap.size ≤ w6.heap.size := by have := HE5.out; have := hb6.size; omega
  obtain ⟨w7, hw7⟩ : ∃ w7, w6.setCell ⟨g, 7, none⟩ (.slice ea' en ec') = w7 := ⟨_, rfl⟩
  rw [hw7] at r7 s7 hb7 f7 hL7 e7
  have HW7 := hid hw7
  have HR7 := hid r7
  have HS7 := hid s7
  have HB7 := hid hb7
  have HE7 := hid e7
  have HQ7 := hid q7
  have HF7 := hid f7
  have HL7 := hid hL7
  have HU7 := hid hbare
  have HM7 := hid m7
  have y0 := cs_cell s6 (i := 0) rfl
  have v0 := frozen_of_row w6 (g + 1) 0 _ _ s6
  have y1 := cs_cell s6 (i := 1) rfl
  have v1 := frozen_of_row w6 (g + 1) 1 _ _ s6
  have y2 := cs_cell s6 (i := 2) rfl
  have v2 := frozen_of_row w6 (g + 1) 2 _ _ s6
  have y3 := cs_cell s6 (i := 3) rfl
  have v3 := frozen_of_row w6 (g + 1) 3 _ _ s6
  have y4 := cs_cell s6 (i := 4) rfl
  have v4 := frozen_of_row w6 (g + 1) 4 _ _ s6
  have y5 := cs_cell s6 (i := 5) rfl
  have v5 := frozen_of_row w6 (g + 1) 5 _ _ s6
  have y6 := cs_cell s6 (i := 6) rfl
  have v6 := frozen_of_row w6 (g + 1) 6 _ _ s6
  have y7 := cs_cell s6 (i := 7) rfl
  have v7 := frozen_of_row w6 (g + 1) 7 _ _ s6
  have HX6 := hid r6
  clear r7 s7 hb7 f7 hL7 e7 q7 m7 hL hbare hb6 r6 s6 hw7
  go_wp2
  rw [HW7.out]
  clear y0 v0 c0 y1 v1 c1 y2 v2 c2 y3 v3 c3 y4 v4 c4 y5 v5 c5 y6 v6 c6 y7 v7 c7 z7
  have R0 := HS7.out
  have R1 : (w7.setCell ⟨g + 1, 0, none⟩ (.int .i64 op)).heap[g + 1]? = some (.cells #[.int .i64 op, .int .i64 0, .int .u32 0, .int .u32 0, .int .i32 0, .slice none 0 0, .slice none 0 0, .slice none 0 0] 105 (0, 0)) := heap_setCell_same _ (g + 1) 0 _ _ _ R0
  have R2 : ((w7.setCell ⟨g + 1, 0, none⟩ (.int .i64 op)).setCell ⟨g + 1, 1, none⟩ (.int .i64 res)).heap[g + 1]? = some (.cells #[.int .i64 op, .int .i64 res, .int .u32 0, .int .u32 0, .int .i32 0, .slice none 0 0, .slice none 0 0, .slice none 0 0] 105 (0, 0)) := heap_setCell_same _ (g + 1) 1 _ _ _ R1
  have R3 : (((w7.setCell ⟨g + 1, 0, none⟩ (.int .i64 op)).setCell ⟨g + 1, 1, none⟩ (.int .i64 res)).setCell ⟨g + 1, 2, none⟩ (.int .u32 xa)).heap[g + 1]? = some (.cells #[.int .i64 op, .int .i64 res, .int .u32 xa, .int .u32 0, .int .i32 0, .slice none 0 0, .slice none 0 0, .slice none 0 0] 105 (0, 0)) := heap_setCell_same _ (g + 1) 2 _ _ _ R2
  have R4 : ((((w7.setCell ⟨g + 1, 0, none⟩ (.int .i64 op)).setCell ⟨g + 1, 1, none⟩ (.int .i64 res)).setCell ⟨g + 1, 2, none⟩ (.int .u32 xa)).setCell ⟨g + 1, 3, none⟩ (.int .u32 xb)).heap[g + 1]? = some (.cells #[.int .i64 op, .int .i64 res, .int .u32 xa, .int .u32 xb, .int .i32 0, .slice none 0 0, .slice none 0 0, .slice none 0 0] 105 (0, 0)) := heap_setCell_same _ (g + 1) 3 _ _ _ R3
  have R5 : (((((w7.setCell ⟨g + 1, 0, none⟩ (.int .i64 op)).setCell ⟨g + 1, 1, none⟩ (.int .i64 res)).setCell ⟨g + 1, 2, none⟩ (.int .u32 xa)).setCell ⟨g + 1, 3, none⟩ (.int .u32 xb)).setCell ⟨g + 1, 4, none⟩ (.int .i32 xn)).heap[g + 1]? = some (.cells #[.int .i64 op, .int .i64 res, .int .u32 xa, .int .u32 xb, .int .i32 xn, .slice none 0 0, .slice none 0 0, .slice none 0 0] 105 (0, 0)) := heap_setCell_same _ (g + 1) 4 _ _ _ R4
  have R6 : ((((((w7.setCell ⟨g + 1, 0, none⟩ (.int .i64 op)).setCell ⟨g + 1, 1, none⟩ (.int .i64 res)).setCell ⟨g + 1, 2, none⟩ (.int .u32 xa)).setCell ⟨g + 1, 3, none⟩ (.int .u32 xb)).setCell ⟨g + 1, 4, none⟩ (.int .i32 xn)).setCell ⟨g + 1, 5, none⟩ (.slice ta' tags.length tc')).heap[g + 1]? = some (.cells #[.int .i64 op, .int .i64 res, .int .u32 xa, .int .u32 xb, .int .i32 xn, .slice ta' tags.length tc', .slice none 0 0, .slice none 0 0] 105 (0, 0)) := heap_setCell_same _ (g + 1) 5 _ _ _ R5
  have R7 : (((((((w7.setCell ⟨g + 1, 0, none⟩ (.int .i64 op)).setCell ⟨g + 1, 1, none⟩ (.int .i64 res)).setCell ⟨g + 1, 2, none⟩ (.int .u32 xa)).setCell ⟨g + 1, 3, none⟩ (.int .u32 xb)).setCell ⟨g + 1, 4, none⟩ (.int .i32 xn)).setCell ⟨g + 1, 5, none⟩ (.slice ta' tags.length tc')).setCell ⟨g + 1, 6, none⟩ (.slice la' ln lc')).heap[g + 1]? = some (.cells #[.int .i64 op, .int .i64 res, .int .u32 xa, .int .u32 xb, .int .i32 xn, .slice ta' tags.length tc', .slice la' ln lc', .slice none 0 0] 105 (0, 0)) := heap_setCell_same _ (g + 1) 6 _ _ _ R6
  have R8 : ((((((((w7.setCell ⟨g + 1, 0, none⟩ (.int .i64 op)).setCell ⟨g + 1, 1, none⟩ (.int .i64 res)).setCell ⟨g + 1, 2, none⟩ (.int .u32 xa)).setCell ⟨g + 1, 3, none⟩ (.int .u32 xb)).setCell ⟨g + 1, 4, none⟩ (.int .i32 xn)).setCell ⟨g + 1, 5, none⟩ (.slice ta' tags.length tc')).setCell ⟨g + 1, 6, none⟩ (.slice la' ln lc')).setCell ⟨g + 1, 7, none⟩ (.slice ea' en ec')).heap[g + 1]? = some (.cells #[.int .i64 op, .int .i64 res, .int .u32 xa, .int .u32 xb, .int .i32 xn, .slice ta' tags.length tc', .slice la' ln lc', .slice ea' en ec'] 105 (0, 0)) := heap_setCell_same _ (g + 1) 7 _ _ _ R7
  have F8 : ∀ lo hi, g + 2 ≤ lo → Same2 lo hi w7 ((((((((w7.setCell ⟨g + 1, 0, none⟩ (.int .i64 op)).setCell ⟨g + 1, 1, none⟩ (.int .i64 res)).setCell ⟨g + 1, 2, none⟩ (.int .u32 xa)).setCell ⟨g + 1, 3, none⟩ (.int .u32 xb)).setCell ⟨g + 1, 4, none⟩ (.int .i32 xn)).setCell ⟨g + 1, 5, none⟩ (.slice ta' tags.length tc')).setCell ⟨g + 1, 6, none⟩ (.slice la' ln lc')).setCell ⟨g + 1, 7, none⟩ (.slice ea' en ec')) := fun lo hi h =>
    (((((((Same2.set (b := g + 1) (.inl (by omega))).trans (Same2.set (b := g + 1) (.inl (by omega)))).trans (Same2.set (b := g + 1) (.inl (by omega)))).trans (Same2.set (b := g + 1) (.inl (by omega)))).trans (Same2.set (b := g + 1) (.inl (by omega)))).trans (Same2.set (b := g + 1) (.inl (by omega)))).trans (Same2.set (b := g + 1) (.inl (by omega)))).trans (Same2.set (b := g + 1) (.inl (by omega)))
  have B8 : Below g w ((((((((w7.setCell ⟨g + 1, 0, none⟩ (.int .i64 op)).setCell ⟨g + 1, 1, none⟩ (.int .i64 res)).setCell ⟨g + 1, 2, none⟩ (.int .u32 xa)).setCell ⟨g + 1, 3, none⟩ (.int .u32 xb)).setCell ⟨g + 1, 4, none⟩ (.int .i32 xn)).setCell ⟨g + 1, 5, none⟩ (.slice ta' tags.length tc')).setCell ⟨g + 1, 6, none⟩ (.slice la' ln lc')).setCell ⟨g + 1, 7, none⟩ (.slice ea' en ec')) := (((((((HB7.out.setCell (p := ⟨g + 1, 0, none⟩) (by simp only; omega) _).setCell (p := ⟨g + 1, 1, none⟩) (by simp only; omega) _).setCell (p := ⟨g + 1, 2, none⟩) (by simp only; omega) _).setCell (p := ⟨g + 1, 3, none⟩) (by simp only; omega) _).setCell (p := ⟨g + 1, 4, none⟩) (by simp only; omega) _).setCell (p := ⟨g + 1, 5, none⟩) (by simp only; omega) _).setCell (p := ⟨g + 1, 6, none⟩) (by simp only; omega) _).setCell (p := ⟨g + 1, 7, none⟩) (by simp only; omega) _
  have E8 : ((((((((w7.setCell ⟨g + 1, 0, none⟩ (.int .i64 op)).setCell ⟨g + 1, 1, none⟩ (.int .i64 res)).setCell ⟨g + 1, 2, none⟩ (.int .u32 xa)).setCell ⟨g + 1, 3, none⟩ (.int .u32 xb)).setCell ⟨g + 1, 4, none⟩ (.int .i32 xn)).setCell ⟨g + 1, 5, none⟩ (.slice ta' tags.length tc')).setCell ⟨g + 1, 6, none⟩ (.slice la' ln lc')).setCell ⟨g + 1, 7, none⟩ (.slice ea' en ec')).heap.size = w7.heap.size := by simp [World.setCell]
  obtain ⟨w8, hw8⟩ : ∃ w8, ((((((((w7.setCell ⟨g + 1, 0, none⟩ (.int .i64 op)).setCell ⟨g + 1, 1, none⟩ (.int .i64 res)).setCell ⟨g + 1, 2, none⟩ (.int .u32 xa)).setCell ⟨g + 1, 3, none⟩ (.int .u32 xb)).setCell ⟨g + 1, 4, none⟩ (.int .i32 xn)).setCell ⟨g + 1, 5, none⟩ (.slice ta' tags.length tc')).setCell ⟨g + 1, 6, none⟩ (.slice la' ln lc')).setCell ⟨g + 1, 7, none⟩ (.slice ea' en ec')) = w8 := ⟨_, rfl⟩
  rw [hw8] at F8 B8 E8 R8 ⊢
  clear hw8 R0 R1 R2 R3 R4 R5 R6 R7
  have hsz : w2.heap.size ≤ w4.heap.size ∧ w4.heap.size ≤ w6.heap.size ∧ w6.heap.size = w8.heap.size := ⟨HM5.out, HM7.out, by rw [E8, HE7.out]⟩
  have hg1 : g ≤ W1.heap.size ∧ g + 2 ≤ W1.heap.size := by have := HN.out; omega
  have hg3 : g + 2 ≤ w3.heap.size := by have := HQ3.out; have := HE3.out; omega
  have hg5 : g + 2 ≤ w5.heap.size := by have := HQ5.out; have := HE5.out; omega
  have k1 : TagsO g w8.heap.size w8 ta' tags := TagsO.mono hg1.1 (by omega) (((HT3.out.frame (HF5.out _ hg1.2)).frame (fun b h1 h2 => HF7.out _ hg1.2 b h1 (by omega))).frame (F8 _ _ hg1.2))
  have k2 : ListO g w8.heap.size w8 la' ln l' := ListO.mono (by omega) (by omega) ((HL5.out.frame (HF7.out _ hg3)).frame (F8 _ _ hg3))
  have k3 : ListO g w8.heap.size w8 ea' en e' := ListO.mono (by omega) (by omega) (HL7.out.frame (F8 _ _ hg5))
  have hok := HOX.out
  refine bodyPost_ret (v := .agg (Ix.vals ⟨op, res, xa, xb, xn, tags, ta', tc', la', ln, lc', ea', en, ec'⟩)) ?_ rfl ⟨⟨⟨op, res, xa, xb, xn, tags, ta', tc', la', ln, lc', ea', en, ec'⟩, l', e', rfl, ⟨⟨hok.op, hok.res, hok.a, hok.b, hok.n, hok.tags, hok.tn, hok.ln, hok.en⟩, by rw [HG.out]; exact k1, by rw [HG.out]; exact k2, by rw [HG.out]; exact k3, ⟨rfl, rfl, rfl, rfl, rfl, rfl, HU5.out, HU7.out⟩⟩⟩, by rw [HG.out]; exact B8⟩
  exact results_cell_row Tryz.results206 _ w8 (g + 1) _ _ _ _ rfl R8 Tryz.underlying105 rfl (by kernel_rfl)
end Go.Proofs.YtckdnhafookcgaaGreatDoor.Mod

namespace Go.Proofs.YtckdnhafookcgaaGreatDoor.Val
open Go.RowKit Go.Proofs.YtckdnhafookcgaaGreatDoor.Instr Go.Proofs.YtckdnhafookcgaaGreatDoor.Mod
set_option linter.unusedVariables false

theorem cbare_all : ∀ t : Il, t.bare.all = t.all
  | .nil => rfl
  | .cons x l e r => by simp only [Il.bare, Il.all, cbare_all l, cbare_all e, cbare_all r]; rfl
theorem cbare_count : ∀ t : Il, t.bare.count = t.count
  | .nil => rfl
  | .cons x l e r => by simp [Il.bare, Il.count, cbare_count l, cbare_count e, cbare_count r]
theorem cbare_deep : ∀ t : Il, t.bare.deep = t.deep
  | .nil => rfl
  | .cons x l e r => by simp [Il.bare, Il.deep, cbare_deep l, cbare_deep e, cbare_deep r]
theorem cbare_tags : ∀ t : Il, t.bare.tags = t.tags
  | .nil => rfl
  | .cons x l e r => by simp only [Il.bare, Il.tags, cbare_tags l, cbare_tags e, cbare_tags r]; rfl
theorem cbare_check (t : Il) : checkP t.bare = checkP t := by unfold checkP; rw [cbare_all, cbare_count, cbare_deep, cbare_tags]
theorem constP_bare (t : Il) : constP t.bare = constP t := by
  cases t with
  | nil => rfl
  | cons x l e r =>
    cases r with
    | nil =>
      have h := cbare_check (.cons x l e .nil)
      simp only [Il.bare] at h ⊢
      show (if x.bare.op = 65 ∧ checkP (.cons x.bare l.bare e.bare .nil) = 0 then (IntKind.u32.wrap x.bare.n, (0 : Int)) else (0, 210)) = (if x.op = 65 ∧ checkP (.cons x l e .nil) = 0 then (IntKind.u32.wrap x.n, (0 : Int)) else (0, 210))
      rw [h]; rfl
    | cons x' l' e' r' => rfl
end Go.Proofs.YtckdnhafookcgaaGreatDoor.Val
