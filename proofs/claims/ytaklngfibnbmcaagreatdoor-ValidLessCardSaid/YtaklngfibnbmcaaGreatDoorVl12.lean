import Derived.Test.YtaklngfibnbmcaaGreatDoorVl01
import Derived.Test.YtaklngfibnbmcaaGreatDoorVl10
import Derived.Test.YtaklngfibnbmcaaGreatDoorVl11
import Derived.Test.YtaklngfibnbmcaaGreatDoorVl08
import Derived.Test.YtaklngfibnbmcaaGreatDoorVl09
import Derived.Test.YtaklngfibnbmcaaGreatDoorVl04
import Derived.RegionTactic
import Derived.BigRegion
import Derived.Deep.QuietTactic
import Derived.BigQuiet
import Derived.KernelRfl
import Derived.Deep.Cut
namespace Go.Proofs.YtaklngfibnbmcaaGreatDoor.Instr
end Go.Proofs.YtaklngfibnbmcaaGreatDoor.Instr
namespace Go.Proofs.YtaklngfibnbmcaaGreatDoor.Mod
end Go.Proofs.YtaklngfibnbmcaaGreatDoor.Mod
namespace Go.Proofs.YtaklngfibnbmcaaGreatDoor.Mod
open Go.RowKit Go.Proofs.YtaklngfibnbmcaaGreatDoor.Instr

/-- All in it together is little. -/
structure Md.small (m : Md) (most : Nat) : Prop where
  lens : m.ty.length + m.im.length + m.fu.length + m.tb.length + m.me.length + m.gl.length + m.ex.length + m.el.length + m.da.length ≤ most
  ls : ∀ l ∈ m.codes, l.t.weight ≤ most
  fs : ∀ e ∈ m.el, e.fs.length ≤ most
  bs : ∀ d ∈ m.da, d.bs.length ≤ most
  iS : ∀ i ∈ m.im, i.mo.size ≤ most ∧ i.na.size ≤ most
  eS : ∀ e ∈ m.ex, e.na.size ≤ most
def Large (m : Md) (w : World) (e : Ending) (w' : World) : Prop := ∃ b, e = .returned (.bool b) ∧ (b = false → m.small 5000) ∧ Below w.heap.size w w'
theorem large_true {m : Md} {w w' : World} (h : Below w.heap.size w w') : Large m w (.returned (.bool true)) w' := ⟨true, rfl, fun h => by simp at h, h⟩
theorem large_end {m : Md} {w w' : World} {N : Int} (h : Below w.heap.size w w') (hs : N ≤ 5000 → m.small 5000) : Large m w (.returned (.bool (decide (5000 < N)))) w' := ⟨_, rfl, fun hh => hs (by simpa using hh), h⟩
theorem drewQ {B : Nat} {w w' : World} (h : Below B w w') (n : Nat) : Below B w (w'.drewN n) := ⟨h.os, h.tape, h.output, h.size, h.block⟩
set_option maxHeartbeats 8000000 in
set_option maxRecDepth 100000 in
theorem Large_any (m : Md) (w : World) (hm : ModAt w.heap.size w m) (hf : m.fits) :
    Calls Tryz.prog 10 #[.agg m.v, .int .i64 5000] w (Large m w) := by
  have hb0 := (Below.refl w.heap.size w).alloc (Nat.le_refl _) (.cells m.v 32)
  have HB := hid hb0
  have HM := hid (hm.on hb0)
  have HX := hid (BoxAt.made w m.v 32)
  have HF := hid hf
  obtain ⟨ty, im, fu, tb, me, gl, ex, st, sn, el, da, ty', im', fu', tb', me', gl', ex', el', da'⟩ := m
  have b1 := hf.ty
  have b2 := hf.im
  have b3 := hf.fu
  have b4 := hf.tb
  have b5 := hf.me
  have b6 := hf.gl
  have b7 := hf.ex
  have b8 := hf.el
  have b9 := hf.da
  dsimp only at b1 b2 b3 b4 b5 b6 b7 b8 b9
  unfold Md.v at HB HM HX ⊢
  dsimp only at HB HM HX ⊢
  clear hm hf hb0
  by_cases h1 : 5000 < ty.length + im.length + fu.length + tb.length + me.length + gl.length + ex.length + el.length + da.length
  · have h1i : (5000 : Int) < (ty.length : Int) + im.length + fu.length + tb.length + me.length + gl.length + ex.length + el.length + da.length := by omega
    go_enter Tryz.func10, Tryz.ntmps10
    go_wp2
    go_ret
    exact large_true HB.out
  · have h1i : ¬ (5000 : Int) < (ty.length : Int) + im.length + fu.length + tb.length + me.length + gl.length + ex.length + el.length + da.length := by omega
    have hsum : ty.length + im.length + fu.length + tb.length + me.length + gl.length + ex.length + el.length + da.length ≤ 5000 := by omega
    have HSUM := hid hsum
    clear h1
    go_enter Tryz.func10, Tryz.ntmps10
    go_wp2
    obtain ⟨N0, hN0⟩ : ∃ N0 : Int, (ty.length : Int) + im.length + fu.length + tb.length + me.length + gl.length + ex.length + el.length + da.length = N0 := ⟨_, rfl⟩
    have l_ty : ty.length ≤ 5000 := by omega
    have l_im : im.length ≤ 5000 := by omega
    have l_fu : fu.length ≤ 5000 := by omega
    have l_tb : tb.length ≤ 5000 := by omega
    have l_me : me.length ≤ 5000 := by omega
    have l_gl : gl.length ≤ 5000 := by omega
    have l_ex : ex.length ≤ 5000 := by omega
    have l_el : el.length ≤ 5000 := by omega
    have l_da : da.length ≤ 5000 := by omega
    have hN1 : N0 ≤ 5000 := by omega
    have hN2 : 0 ≤ N0 := by omega
    have HI := hid (show (0 < fu.length ∨ 0 < gl.length ∨ 0 < el.length ∨ 0 < da.length ∨ 0 < im.length ∨ 0 < ex.length) → 1 ≤ N0 by omega)
    rw [hN0]
    clear hN0 h1i hsum b1 b2 b3 b4 b5 b6 b7 b8 b9
    generalize w.alloc (.cells #[.slice ty'.a ty.length ty'.c, .slice im'.a im.length im'.c, .slice fu'.a fu.length fu'.c, .slice tb'.a tb.length tb'.c, .slice me'.a me.length me'.c, .slice gl'.a gl.length gl'.c, .slice ex'.a ex.length ex'.c, .bool st, .int .u32 sn, .slice el'.a el.length el'.c, .slice da'.a da.length da'.c] 32) = W0 at HB HM HX ⊢
    have Xfu := hid (show W0.cell? ⟨w.heap.size, 2, none⟩ = some (.slice fu'.a fu.length fu'.c) from HX.out 2 _ rfl)
    have Rfu := hid (show Rows W0.heap.size W0 fu'.a 3 (fu.map Fn.v) from HM.out.fu)
    obtain ⟨nfu, hnfu⟩ : ∃ n, fu.length = n := ⟨_, rfl⟩
    have Lfu := hid hnfu
    rw [hnfu] at l_fu Xfu
    clear hnfu
    have Xgl := hid (show W0.cell? ⟨w.heap.size, 5, none⟩ = some (.slice gl'.a gl.length gl'.c) from HX.out 5 _ rfl)
    have Rgl := hid (show Rows W0.heap.size W0 gl'.a 2 (gl.map Gl.v) from HM.out.gl)
    obtain ⟨ngl, hngl⟩ : ∃ n, gl.length = n := ⟨_, rfl⟩
    have Lgl := hid hngl
    rw [hngl] at l_gl Xgl
    clear hngl
    have Xel := hid (show W0.cell? ⟨w.heap.size, 9, none⟩ = some (.slice el'.a el.length el'.c) from HX.out 9 _ rfl)
    have Rel := hid (show Rows W0.heap.size W0 el'.a 2 (el.map El.v) from HM.out.el)
    obtain ⟨nel, hnel⟩ : ∃ n, el.length = n := ⟨_, rfl⟩
    have Lel := hid hnel
    rw [hnel] at l_el Xel
    clear hnel
    have Xda := hid (show W0.cell? ⟨w.heap.size, 10, none⟩ = some (.slice da'.a da.length da'.c) from HX.out 10 _ rfl)
    have Rda := hid (show Rows W0.heap.size W0 da'.a 2 (da.map Da.v) from HM.out.da)
    obtain ⟨nda, hnda⟩ : ∃ n, da.length = n := ⟨_, rfl⟩
    have Lda := hid hnda
    rw [hnda] at l_da Xda
    clear hnda
    have Xim := hid (show W0.cell? ⟨w.heap.size, 1, none⟩ = some (.slice im'.a im.length im'.c) from HX.out 1 _ rfl)
    have Rim := hid (show Rows W0.heap.size W0 im'.a 3 (im.map Imp.v) from HM.out.im)
    obtain ⟨nim, hnim⟩ : ∃ n, im.length = n := ⟨_, rfl⟩
    have Lim := hid hnim
    rw [hnim] at l_im Xim
    clear hnim
    have Xex := hid (show W0.cell? ⟨w.heap.size, 6, none⟩ = some (.slice ex'.a ex.length ex'.c) from HX.out 6 _ rfl)
    have Rex := hid (show Rows W0.heap.size W0 ex'.a 3 (ex.map Ex.v) from HM.out.ex)
    obtain ⟨nex, hnex⟩ : ∃ n, ex.length = n := ⟨_, rfl⟩
    have Lex := hid hnex
    rw [hnex] at l_ex Xex
    clear hnex
    clear HX
    go_loopw [5, 6] (fun vn vi wr => ∃ (k : Nat) (N : Int), vn = .int .i64 N ∧ vi = .int .i64 k ∧ k ≤ nfu ∧ N0 ≤ N ∧ N ≤ 5000 + 20002 * (k : Int) ∧ Hid (N ≤ 5000 → (True) ∧ ∀ (j : Nat) (hj : j < fu.length), j < k → ∃ x, x = fu[j] ∧ x.l.t.weight ≤ 5000) ∧ Hid (Below W0.heap.size W0 wr)) (fun _ vi _ => nfu - (intOf vi).toNat)
    case atStart => exact ⟨0, N0, rfl, rfl, Nat.zero_le _, by omega, by omega, fun _ => ⟨trivial, fun j _ h => absurd h (Nat.not_lt_zero _)⟩, Below.refl _ _⟩
    case round =>
      obtain ⟨k, N, rfl, rfl, hk, hNa, hNb, HQ, HW⟩ := hrel
      have hbx := Go.Proofs.YtaklngfibnbmcaaGreatDoor.keep HW.out Xfu.out
      by_cases hlt : k < nfu
      · have hkl : k < fu.length := by rw [Lfu.out]; exact hlt
        obtain ⟨b, off, ha, hb, hc⟩ := Rows.get Rfu.out hkl
        rw [ha] at hbx
        have hx : fu[k] ∈ fu := List.getElem_mem hkl
        have hLs := HM.out.ls fu[k].l (by unfold Md.codes; exact List.mem_append_left _ (List.mem_map.2 ⟨_, hx, rfl⟩))
        have hLl := HF.out.ls fu[k].l (by unfold Md.codes; exact List.mem_append_left _ (List.mem_map.2 ⟨_, hx, rfl⟩))
        obtain ⟨x, hxe⟩ : ∃ x, fu[k] = x := ⟨_, rfl⟩
        have HXE := hid hxe
        rw [hxe] at hc hLs hLl
        have cc : ∀ j, j < 3 → ∀ v, x.v[j]? = some v → wr.cell? ⟨b, off + k * 3 + j, none⟩ = some v := fun j hj v hv => (HW.out.cell (p := ⟨b, off + k * 3 + j, none⟩) hb).trans (hc j hj v hv)
        have c2 : wr.cell? ⟨b, off + k * 3 + 2, none⟩ = some (.slice x.l.a x.l.t.len x.l.c) := cc 2 (by omega) _ rfl
        have hki : (k : Int) < (nfu : Int) := by omega
        have hN1' : 1 ≤ N0 := HI.out (by omega)
        have hgo := go_bounds x.l.t 0 5000 (by omega) (by omega) (by omega)
        obtain ⟨q, hq⟩ : ∃ q, x.l.t.go 0 5000 = q := ⟨_, rfl⟩
        have C := hid (Instrs_any x.l.t.count x.l.t x.l.a x.l.t.len x.l.c 5000 wr (Nat.le_refl _) ((hLs.below HW.out).more HW.out.size) hLl (by omega) (by omega))
        rw [hq] at C hgo
        obtain ⟨hg0, hg1, hg2⟩ := hgo
        have HG := hid hg2
        have HQ' := hid (show N + q ≤ 5000 → (True) ∧ ∀ (j : Nat) (hj : j < fu.length), j < k + 1 → ∃ x, x = fu[j] ∧ x.l.t.weight ≤ 5000 from fun h => ⟨(HQ.out (by omega)).1, fun j hj hjk => by
          by_cases e : j = k
          · subst e; exact ⟨x, HXE.out.symm, by have := HG.out (by omega); omega⟩
          · exact (HQ.out (by omega)).2 j hj (by omega)⟩)
        clear hx hxe hc cc hb ha hLs hLl hq hg2
        go_wp2_with fail
        refine C.out.mono ?_
        rintro e w1 ⟨rfl, rfl⟩
        go_wp2
        go_roundw
        case rel => exact ⟨k + 1, _, rfl, by go_num, by omega, by omega, by omega, HQ', HW⟩
        case measure => simp [intOf]; omega
      · obtain rfl : k = nfu := by omega
        have HP := hid (show N ≤ 5000 → (True) ∧ ∀ x ∈ fu, x.l.t.weight ≤ 5000 from fun h => ⟨(HQ.out h).1, fun x hx => by
          obtain ⟨j, hj, rfl⟩ := List.mem_iff_getElem.1 hx
          obtain ⟨y, hy, hq⟩ := (HQ.out h).2 j hj (by rw [← Lfu.out]; exact hj)
          subst hy; exact hq⟩)
        have hNN1 : N0 ≤ N := by omega
        have hNN2 : N ≤ 100015000 := by omega
        have HBL := HW
        clear HQ hNa hNb HW hlt hk
        obtain ⟨NN, rfl⟩ : ∃ NN, NN = N := ⟨_, rfl⟩
        go_wp2
        clear hbx
        go_loopw [5, 7] (fun vn vi wr => ∃ (k : Nat) (N : Int), vn = .int .i64 N ∧ vi = .int .i64 k ∧ k ≤ ngl ∧ N0 ≤ N ∧ N ≤ 100015000 + 20002 * (k : Int) ∧ Hid (N ≤ 5000 → ((True) ∧ ∀ x ∈ fu, x.l.t.weight ≤ 5000) ∧ ∀ (j : Nat) (hj : j < gl.length), j < k → ∃ x, x = gl[j] ∧ x.l.t.weight ≤ 5000) ∧ Hid (Below W0.heap.size W0 wr)) (fun _ vi _ => ngl - (intOf vi).toNat)
        case atStart => exact ⟨0, NN, rfl, rfl, Nat.zero_le _, by omega, by omega, fun h => ⟨HP.out h, fun j _ h => absurd h (Nat.not_lt_zero _)⟩, HBL⟩
        case round =>
          clear HP HBL hNN1 hNN2
          obtain ⟨k, N, rfl, rfl, hk, hNa, hNb, HQ, HW⟩ := hrel
          have hbx := Go.Proofs.YtaklngfibnbmcaaGreatDoor.keep HW.out Xgl.out
          by_cases hlt : k < ngl
          · have hkl : k < gl.length := by rw [Lgl.out]; exact hlt
            obtain ⟨b, off, ha, hb, hc⟩ := Rows.get Rgl.out hkl
            rw [ha] at hbx
            have hx : gl[k] ∈ gl := List.getElem_mem hkl
            have hLs := HM.out.ls gl[k].l (by unfold Md.codes; exact List.mem_append_right _ (List.mem_append_left _ (List.mem_map.2 ⟨_, hx, rfl⟩)))
            have hLl := HF.out.ls gl[k].l (by unfold Md.codes; exact List.mem_append_right _ (List.mem_append_left _ (List.mem_map.2 ⟨_, hx, rfl⟩)))
            obtain ⟨x, hxe⟩ : ∃ x, gl[k] = x := ⟨_, rfl⟩
            have HXE := hid hxe
            rw [hxe] at hc hLs hLl
            have cc : ∀ j, j < 2 → ∀ v, x.v[j]? = some v → wr.cell? ⟨b, off + k * 2 + j, none⟩ = some v := fun j hj v hv => (HW.out.cell (p := ⟨b, off + k * 2 + j, none⟩) hb).trans (hc j hj v hv)
            have c1 : wr.cell? ⟨b, off + k * 2 + 1, none⟩ = some (.slice x.l.a x.l.t.len x.l.c) := cc 1 (by omega) _ rfl
            have hki : (k : Int) < (ngl : Int) := by omega
            have hN1' : 1 ≤ N0 := HI.out (by omega)
            have hgo := go_bounds x.l.t 0 5000 (by omega) (by omega) (by omega)
            obtain ⟨q, hq⟩ : ∃ q, x.l.t.go 0 5000 = q := ⟨_, rfl⟩
            have C := hid (Instrs_any x.l.t.count x.l.t x.l.a x.l.t.len x.l.c 5000 wr (Nat.le_refl _) ((hLs.below HW.out).more HW.out.size) hLl (by omega) (by omega))
            rw [hq] at C hgo
            obtain ⟨hg0, hg1, hg2⟩ := hgo
            have HG := hid hg2
            have HQ' := hid (show N + q ≤ 5000 → ((True) ∧ ∀ x ∈ fu, x.l.t.weight ≤ 5000) ∧ ∀ (j : Nat) (hj : j < gl.length), j < k + 1 → ∃ x, x = gl[j] ∧ x.l.t.weight ≤ 5000 from fun h => ⟨(HQ.out (by omega)).1, fun j hj hjk => by
              by_cases e : j = k
              · subst e; exact ⟨x, HXE.out.symm, by have := HG.out (by omega); omega⟩
              · exact (HQ.out (by omega)).2 j hj (by omega)⟩)
            clear hx hxe hc cc hb ha hLs hLl hq hg2
            go_wp2_with fail
            refine C.out.mono ?_
            rintro e w1 ⟨rfl, rfl⟩
            go_wp2
            go_roundw
            case rel => exact ⟨k + 1, _, rfl, by go_num, by omega, by omega, by omega, HQ', HW⟩
            case measure => simp [intOf]; omega
          · obtain rfl : k = ngl := by omega
            have HP := hid (show N ≤ 5000 → ((True) ∧ ∀ x ∈ fu, x.l.t.weight ≤ 5000) ∧ ∀ x ∈ gl, x.l.t.weight ≤ 5000 from fun h => ⟨(HQ.out h).1, fun x hx => by
              obtain ⟨j, hj, rfl⟩ := List.mem_iff_getElem.1 hx
              obtain ⟨y, hy, hq⟩ := (HQ.out h).2 j hj (by rw [← Lgl.out]; exact hj)
              subst hy; exact hq⟩)
            have hNN1 : N0 ≤ N := by omega
            have hNN2 : N ≤ 200025000 := by omega
            have HBL := HW
            clear HQ hNa hNb HW hlt hk
            obtain ⟨NN, rfl⟩ : ∃ NN, NN = N := ⟨_, rfl⟩
            go_wp2
            clear hbx
            go_loopw [5, 8] (fun vn vi wr => ∃ (k : Nat) (N : Int), vn = .int .i64 N ∧ vi = .int .i64 k ∧ k ≤ nel ∧ N0 ≤ N ∧ N ≤ 200025000 + 20002 * (k : Int) ∧ Hid (N ≤ 5000 → (((True) ∧ ∀ x ∈ fu, x.l.t.weight ≤ 5000) ∧ ∀ x ∈ gl, x.l.t.weight ≤ 5000) ∧ ∀ (j : Nat) (hj : j < el.length), j < k → ∃ x, x = el[j] ∧ x.l.t.weight ≤ 5000 ∧ x.fs.length ≤ 5000) ∧ Hid (Below W0.heap.size W0 wr)) (fun _ vi _ => nel - (intOf vi).toNat)
            case atStart => exact ⟨0, NN, rfl, rfl, Nat.zero_le _, by omega, by omega, fun h => ⟨HP.out h, fun j _ h => absurd h (Nat.not_lt_zero _)⟩, HBL⟩
            case round =>
              clear HP HBL hNN1 hNN2
              obtain ⟨k, N, rfl, rfl, hk, hNa, hNb, HQ, HW⟩ := hrel
              have hbx := Go.Proofs.YtaklngfibnbmcaaGreatDoor.keep HW.out Xel.out
              by_cases hlt : k < nel
              · have hkl : k < el.length := by rw [Lel.out]; exact hlt
                obtain ⟨b, off, ha, hb, hc⟩ := Rows.get Rel.out hkl
                rw [ha] at hbx
                have hx : el[k] ∈ el := List.getElem_mem hkl
                have hLs := HM.out.ls el[k].l (by unfold Md.codes; exact List.mem_append_right _ (List.mem_append_right _ (List.mem_append_left _ (List.mem_map.2 ⟨_, hx, rfl⟩))))
                have hLl := HF.out.ls el[k].l (by unfold Md.codes; exact List.mem_append_right _ (List.mem_append_right _ (List.mem_append_left _ (List.mem_map.2 ⟨_, hx, rfl⟩))))
                have hS := HF.out.fs _ hx
                obtain ⟨x, hxe⟩ : ∃ x, el[k] = x := ⟨_, rfl⟩
                have HXE := hid hxe
                rw [hxe] at hc hLs hLl hS
                have cc : ∀ j, j < 2 → ∀ v, x.v[j]? = some v → wr.cell? ⟨b, off + k * 2 + j, none⟩ = some v := fun j hj v hv => (HW.out.cell (p := ⟨b, off + k * 2 + j, none⟩) hb).trans (hc j hj v hv)
                have c0 : wr.cell? ⟨b, off + k * 2, none⟩ = some (.slice x.l.a x.l.t.len x.l.c) := cc 0 (by omega) _ rfl
                have c1 : wr.cell? ⟨b, off + k * 2 + 1, none⟩ = some (.slice x.fa x.fs.length x.fc) := cc 1 (by omega) _ rfl
                have hki : (k : Int) < (nel : Int) := by omega
                have hN1' : 1 ≤ N0 := HI.out (by omega)
                have hgo := go_bounds x.l.t 0 5000 (by omega) (by omega) (by omega)
                obtain ⟨q, hq⟩ : ∃ q, x.l.t.go 0 5000 = q := ⟨_, rfl⟩
                have C := hid (show ∀ a, Calls Tryz.prog 18 #[.slice x.l.a x.l.t.len x.l.c, .int .i64 5000] (wr.drewN a) fun e w' => e = .returned (.int .i64 (x.l.t.go 0 5000)) ∧ w' = wr.drewN a from fun a => (Instrs_any x.l.t.count x.l.t x.l.a x.l.t.len x.l.c 5000 _ (Nat.le_refl _) ((hLs.below (drewQ HW.out a)).more (drewQ HW.out a).size) hLl (by omega) (by omega)).mono fun e w' ⟨he, hw⟩ => ⟨he, hw.symm⟩)
                rw [hq] at C hgo
                obtain ⟨hg0, hg1, hg2⟩ := hgo
                have HG := hid hg2
                by_cases hmn : (5000 : Int) < (x.fs.length : Int)
                · have hmz : min (x.fs.length : Int) 5000 = 5000 := by omega
                  have e0 : IntKind.i64.wrap (N + q) = N + q := by rw [IntKind.wrap_i64]; omega
                  have e1 : IntKind.i64.wrap (N + q + 5000) = N + q + 5000 := by rw [IntKind.wrap_i64]; omega
                  have HQ' := hid (show N + q + 5000 ≤ 5000 → (((True) ∧ ∀ x ∈ fu, x.l.t.weight ≤ 5000) ∧ ∀ x ∈ gl, x.l.t.weight ≤ 5000) ∧ ∀ (j : Nat) (hj : j < el.length), j < k + 1 → ∃ x, x = el[j] ∧ x.l.t.weight ≤ 5000 ∧ x.fs.length ≤ 5000 from fun h => ⟨(HQ.out (by omega)).1, fun j hj hjk => by
                    by_cases e : j = k
                    · subst e; exact ⟨x, HXE.out.symm, by have := HG.out (by omega); omega, by omega⟩
                    · exact (HQ.out (by omega)).2 j hj (by omega)⟩)
                  have hz1 := show N0 ≤ N + q + 5000 by omega
                  have hz2 := show N + q + 5000 ≤ 200025000 + 20002 * ((k + 1 : Nat) : Int) by omega
                  clear hx hxe hc cc hb ha hLs hLl hq hg2
                  go_wp2
                  go_quiet ((go_at_call 18; exact Calls.quiet_of_same (C.out _)))
                  go_wp2
                  go_roundw
                  case rel => exact ⟨k + 1, _, rfl, by go_num, by omega, hz1, hz2, HQ', drewQ HW.out _⟩
                  case measure => simp [intOf]; omega
                · have hmz : min (x.fs.length : Int) 5000 = (x.fs.length : Int) := by omega
                  have e0 : IntKind.i64.wrap (N + q) = N + q := by rw [IntKind.wrap_i64]; omega
                  have e1 : IntKind.i64.wrap (N + q + (x.fs.length : Int)) = N + q + (x.fs.length : Int) := by rw [IntKind.wrap_i64]; omega
                  have HQ' := hid (show N + q + (x.fs.length : Int) ≤ 5000 → (((True) ∧ ∀ x ∈ fu, x.l.t.weight ≤ 5000) ∧ ∀ x ∈ gl, x.l.t.weight ≤ 5000) ∧ ∀ (j : Nat) (hj : j < el.length), j < k + 1 → ∃ x, x = el[j] ∧ x.l.t.weight ≤ 5000 ∧ x.fs.length ≤ 5000 from fun h => ⟨(HQ.out (by omega)).1, fun j hj hjk => by
                    by_cases e : j = k
                    · subst e; exact ⟨x, HXE.out.symm, by have := HG.out (by omega); omega, by omega⟩
                    · exact (HQ.out (by omega)).2 j hj (by omega)⟩)
                  have hz1 := show N0 ≤ N + q + (x.fs.length : Int) by omega
                  have hz2 := show N + q + (x.fs.length : Int) ≤ 200025000 + 20002 * ((k + 1 : Nat) : Int) by omega
                  clear hx hxe hc cc hb ha hLs hLl hq hg2
                  go_wp2
                  go_quiet ((go_at_call 18; exact Calls.quiet_of_same (C.out _)))
                  go_wp2
                  go_roundw
                  case rel => exact ⟨k + 1, _, rfl, by go_num, by omega, hz1, hz2, HQ', drewQ HW.out _⟩
                  case measure => simp [intOf]; omega
              · obtain rfl : k = nel := by omega
                have HP := hid (show N ≤ 5000 → (((True) ∧ ∀ x ∈ fu, x.l.t.weight ≤ 5000) ∧ ∀ x ∈ gl, x.l.t.weight ≤ 5000) ∧ ∀ x ∈ el, x.l.t.weight ≤ 5000 ∧ x.fs.length ≤ 5000 from fun h => ⟨(HQ.out h).1, fun x hx => by
                  obtain ⟨j, hj, rfl⟩ := List.mem_iff_getElem.1 hx
                  obtain ⟨y, hy, hq⟩ := (HQ.out h).2 j hj (by rw [← Lel.out]; exact hj)
                  subst hy; exact hq⟩)
                have hNN1 : N0 ≤ N := by omega
                have hNN2 : N ≤ 300035000 := by omega
                have HBL := HW
                clear HQ hNa hNb HW hlt hk
                obtain ⟨NN, rfl⟩ : ∃ NN, NN = N := ⟨_, rfl⟩
                go_wp2
                clear hbx
                go_loopw [5, 9] (fun vn vi wr => ∃ (k : Nat) (N : Int), vn = .int .i64 N ∧ vi = .int .i64 k ∧ k ≤ nda ∧ N0 ≤ N ∧ N ≤ 300035000 + 20002 * (k : Int) ∧ Hid (N ≤ 5000 → ((((True) ∧ ∀ x ∈ fu, x.l.t.weight ≤ 5000) ∧ ∀ x ∈ gl, x.l.t.weight ≤ 5000) ∧ ∀ x ∈ el, x.l.t.weight ≤ 5000 ∧ x.fs.length ≤ 5000) ∧ ∀ (j : Nat) (hj : j < da.length), j < k → ∃ x, x = da[j] ∧ x.l.t.weight ≤ 5000 ∧ x.bs.length ≤ 5000) ∧ Hid (Below W0.heap.size W0 wr)) (fun _ vi _ => nda - (intOf vi).toNat)
                case atStart => exact ⟨0, NN, rfl, rfl, Nat.zero_le _, by omega, by omega, fun h => ⟨HP.out h, fun j _ h => absurd h (Nat.not_lt_zero _)⟩, HBL⟩
                case round =>
                  clear HP HBL hNN1 hNN2
                  obtain ⟨k, N, rfl, rfl, hk, hNa, hNb, HQ, HW⟩ := hrel
                  have hbx := Go.Proofs.YtaklngfibnbmcaaGreatDoor.keep HW.out Xda.out
                  by_cases hlt : k < nda
                  · have hkl : k < da.length := by rw [Lda.out]; exact hlt
                    obtain ⟨b, off, ha, hb, hc⟩ := Rows.get Rda.out hkl
                    rw [ha] at hbx
                    have hx : da[k] ∈ da := List.getElem_mem hkl
                    have hLs := HM.out.ls da[k].l (by unfold Md.codes; exact List.mem_append_right _ (List.mem_append_right _ (List.mem_append_right _ (List.mem_map.2 ⟨_, hx, rfl⟩))))
                    have hLl := HF.out.ls da[k].l (by unfold Md.codes; exact List.mem_append_right _ (List.mem_append_right _ (List.mem_append_right _ (List.mem_map.2 ⟨_, hx, rfl⟩))))
                    have hS := HF.out.bs _ hx
                    obtain ⟨x, hxe⟩ : ∃ x, da[k] = x := ⟨_, rfl⟩
                    have HXE := hid hxe
                    rw [hxe] at hc hLs hLl hS
                    have cc : ∀ j, j < 2 → ∀ v, x.v[j]? = some v → wr.cell? ⟨b, off + k * 2 + j, none⟩ = some v := fun j hj v hv => (HW.out.cell (p := ⟨b, off + k * 2 + j, none⟩) hb).trans (hc j hj v hv)
                    have c0 : wr.cell? ⟨b, off + k * 2, none⟩ = some (.slice x.l.a x.l.t.len x.l.c) := cc 0 (by omega) _ rfl
                    have c1 : wr.cell? ⟨b, off + k * 2 + 1, none⟩ = some (.slice x.ba x.bs.length x.bc) := cc 1 (by omega) _ rfl
                    have hki : (k : Int) < (nda : Int) := by omega
                    have hN1' : 1 ≤ N0 := HI.out (by omega)
                    have hgo := go_bounds x.l.t 0 5000 (by omega) (by omega) (by omega)
                    obtain ⟨q, hq⟩ : ∃ q, x.l.t.go 0 5000 = q := ⟨_, rfl⟩
                    have C := hid (show ∀ a, Calls Tryz.prog 18 #[.slice x.l.a x.l.t.len x.l.c, .int .i64 5000] (wr.drewN a) fun e w' => e = .returned (.int .i64 (x.l.t.go 0 5000)) ∧ w' = wr.drewN a from fun a => (Instrs_any x.l.t.count x.l.t x.l.a x.l.t.len x.l.c 5000 _ (Nat.le_refl _) ((hLs.below (drewQ HW.out a)).more (drewQ HW.out a).size) hLl (by omega) (by omega)).mono fun e w' ⟨he, hw⟩ => ⟨he, hw.symm⟩)
                    rw [hq] at C hgo
                    obtain ⟨hg0, hg1, hg2⟩ := hgo
                    have HG := hid hg2
                    by_cases hmn : (5000 : Int) < (x.bs.length : Int)
                    · have hmz : min (x.bs.length : Int) 5000 = 5000 := by omega
                      have e0 : IntKind.i64.wrap (N + q) = N + q := by rw [IntKind.wrap_i64]; omega
                      have e1 : IntKind.i64.wrap (N + q + 5000) = N + q + 5000 := by rw [IntKind.wrap_i64]; omega
                      have HQ' := hid (show N + q + 5000 ≤ 5000 → ((((True) ∧ ∀ x ∈ fu, x.l.t.weight ≤ 5000) ∧ ∀ x ∈ gl, x.l.t.weight ≤ 5000) ∧ ∀ x ∈ el, x.l.t.weight ≤ 5000 ∧ x.fs.length ≤ 5000) ∧ ∀ (j : Nat) (hj : j < da.length), j < k + 1 → ∃ x, x = da[j] ∧ x.l.t.weight ≤ 5000 ∧ x.bs.length ≤ 5000 from fun h => ⟨(HQ.out (by omega)).1, fun j hj hjk => by
                        by_cases e : j = k
                        · subst e; exact ⟨x, HXE.out.symm, by have := HG.out (by omega); omega, by omega⟩
                        · exact (HQ.out (by omega)).2 j hj (by omega)⟩)
                      have hz1 := show N0 ≤ N + q + 5000 by omega
                      have hz2 := show N + q + 5000 ≤ 300035000 + 20002 * ((k + 1 : Nat) : Int) by omega
                      clear hx hxe hc cc hb ha hLs hLl hq hg2
                      go_wp2
                      go_quiet ((go_at_call 18; exact Calls.quiet_of_same (C.out _)))
                      go_wp2
                      go_roundw
                      case rel => exact ⟨k + 1, _, rfl, by go_num, by omega, hz1, hz2, HQ', drewQ HW.out _⟩
                      case measure => simp [intOf]; omega
                    · have hmz : min (x.bs.length : Int) 5000 = (x.bs.length : Int) := by omega
                      have e0 : IntKind.i64.wrap (N + q) = N + q := by rw [IntKind.wrap_i64]; omega
                      have e1 : IntKind.i64.wrap (N + q + (x.bs.length : Int)) = N + q + (x.bs.length : Int) := by rw [IntKind.wrap_i64]; omega
                      have HQ' := hid (show N + q + (x.bs.length : Int) ≤ 5000 → ((((True) ∧ ∀ x ∈ fu, x.l.t.weight ≤ 5000) ∧ ∀ x ∈ gl, x.l.t.weight ≤ 5000) ∧ ∀ x ∈ el, x.l.t.weight ≤ 5000 ∧ x.fs.length ≤ 5000) ∧ ∀ (j : Nat) (hj : j < da.length), j < k + 1 → ∃ x, x = da[j] ∧ x.l.t.weight ≤ 5000 ∧ x.bs.length ≤ 5000 from fun h => ⟨(HQ.out (by omega)).1, fun j hj hjk => by
                        by_cases e : j = k
                        · subst e; exact ⟨x, HXE.out.symm, by have := HG.out (by omega); omega, by omega⟩
                        · exact (HQ.out (by omega)).2 j hj (by omega)⟩)
                      have hz1 := show N0 ≤ N + q + (x.bs.length : Int) by omega
                      have hz2 := show N + q + (x.bs.length : Int) ≤ 300035000 + 20002 * ((k + 1 : Nat) : Int) by omega
                      clear hx hxe hc cc hb ha hLs hLl hq hg2
                      go_wp2
                      go_quiet ((go_at_call 18; exact Calls.quiet_of_same (C.out _)))
                      go_wp2
                      go_roundw
                      case rel => exact ⟨k + 1, _, rfl, by go_num, by omega, hz1, hz2, HQ', drewQ HW.out _⟩
                      case measure => simp [intOf]; omega
                  · obtain rfl : k = nda := by omega
                    have HP := hid (show N ≤ 5000 → ((((True) ∧ ∀ x ∈ fu, x.l.t.weight ≤ 5000) ∧ ∀ x ∈ gl, x.l.t.weight ≤ 5000) ∧ ∀ x ∈ el, x.l.t.weight ≤ 5000 ∧ x.fs.length ≤ 5000) ∧ ∀ x ∈ da, x.l.t.weight ≤ 5000 ∧ x.bs.length ≤ 5000 from fun h => ⟨(HQ.out h).1, fun x hx => by
                      obtain ⟨j, hj, rfl⟩ := List.mem_iff_getElem.1 hx
                      obtain ⟨y, hy, hq⟩ := (HQ.out h).2 j hj (by rw [← Lda.out]; exact hj)
                      subst hy; exact hq⟩)
                    have hNN1 : N0 ≤ N := by omega
                    have hNN2 : N ≤ 400045000 := by omega
                    have HBL := HW
                    clear HQ hNa hNb HW hlt hk
                    obtain ⟨NN, rfl⟩ : ∃ NN, NN = N := ⟨_, rfl⟩
                    go_wp2
                    clear hbx
                    go_loopw [5, 10] (fun vn vi wr => ∃ (k : Nat) (N : Int), vn = .int .i64 N ∧ vi = .int .i64 k ∧ k ≤ nim ∧ N0 ≤ N ∧ N ≤ 400045000 + 20002 * (k : Int) ∧ Hid (N ≤ 5000 → (((((True) ∧ ∀ x ∈ fu, x.l.t.weight ≤ 5000) ∧ ∀ x ∈ gl, x.l.t.weight ≤ 5000) ∧ ∀ x ∈ el, x.l.t.weight ≤ 5000 ∧ x.fs.length ≤ 5000) ∧ ∀ x ∈ da, x.l.t.weight ≤ 5000 ∧ x.bs.length ≤ 5000) ∧ ∀ (j : Nat) (hj : j < im.length), j < k → ∃ x, x = im[j] ∧ x.mo.size ≤ 5000 ∧ x.na.size ≤ 5000) ∧ Hid (Below W0.heap.size W0 wr)) (fun _ vi _ => nim - (intOf vi).toNat)
                    case atStart => exact ⟨0, NN, rfl, rfl, Nat.zero_le _, by omega, by omega, fun h => ⟨HP.out h, fun j _ h => absurd h (Nat.not_lt_zero _)⟩, HBL⟩
                    case round =>
                      clear HP HBL hNN1 hNN2
                      obtain ⟨k, N, rfl, rfl, hk, hNa, hNb, HQ, HW⟩ := hrel
                      have hbx := Go.Proofs.YtaklngfibnbmcaaGreatDoor.keep HW.out Xim.out
                      by_cases hlt : k < nim
                      · have hkl : k < im.length := by rw [Lim.out]; exact hlt
                        obtain ⟨b, off, ha, hb, hc⟩ := Rows.get Rim.out hkl
                        rw [ha] at hbx
                        have hx : im[k] ∈ im := List.getElem_mem hkl
                        have hS := HF.out.iS _ hx
                        obtain ⟨x, hxe⟩ : ∃ x, im[k] = x := ⟨_, rfl⟩
                        have HXE := hid hxe
                        rw [hxe] at hc hS
                        have cc : ∀ j, j < 3 → ∀ v, x.v[j]? = some v → wr.cell? ⟨b, off + k * 3 + j, none⟩ = some v := fun j hj v hv => (HW.out.cell (p := ⟨b, off + k * 3 + j, none⟩) hb).trans (hc j hj v hv)
                        have c0 : wr.cell? ⟨b, off + k * 3, none⟩ = some (.string x.mo) := cc 0 (by omega) _ rfl
                        have c1 : wr.cell? ⟨b, off + k * 3 + 1, none⟩ = some (.string x.na) := cc 1 (by omega) _ rfl
                        have hki : (k : Int) < (nim : Int) := by omega
                        have hN1' : 1 ≤ N0 := HI.out (by omega)
                        by_cases hm1 : (5000 : Int) < (x.mo.size : Int)
                        · by_cases hm2 : (5000 : Int) < (x.na.size : Int)
                          · have hmz : min (x.mo.size : Int) 5000 = 5000 := by omega
                            have hmy : min (x.na.size : Int) 5000 = 5000 := by omega
                            have e0 : IntKind.i64.wrap (N + 5000) = N + 5000 := by rw [IntKind.wrap_i64]; omega
                            have e1 : IntKind.i64.wrap (N + 5000 + 5000) = N + 5000 + 5000 := by rw [IntKind.wrap_i64]; omega
                            have HQ' := hid (show N + 5000 + 5000 ≤ 5000 → (((((True) ∧ ∀ x ∈ fu, x.l.t.weight ≤ 5000) ∧ ∀ x ∈ gl, x.l.t.weight ≤ 5000) ∧ ∀ x ∈ el, x.l.t.weight ≤ 5000 ∧ x.fs.length ≤ 5000) ∧ ∀ x ∈ da, x.l.t.weight ≤ 5000 ∧ x.bs.length ≤ 5000) ∧ ∀ (j : Nat) (hj : j < im.length), j < k + 1 → ∃ x, x = im[j] ∧ x.mo.size ≤ 5000 ∧ x.na.size ≤ 5000 from fun h => ⟨(HQ.out (by omega)).1, fun j hj hjk => by
                              by_cases e : j = k
                              · subst e; exact ⟨x, HXE.out.symm, by omega, by omega⟩
                              · exact (HQ.out (by omega)).2 j hj (by omega)⟩)
                            have hz1 := show N0 ≤ N + 5000 + 5000 by omega
                            have hz2 := show N + 5000 + 5000 ≤ 400045000 + 20002 * ((k + 1 : Nat) : Int) by omega
                            clear hx hxe hc cc hb ha
                            go_wp2
                            go_quiet (fail)
                            go_wp2
                            go_roundw
                            case rel => exact ⟨k + 1, _, rfl, by go_num, by omega, hz1, hz2, HQ', drewQ HW.out _⟩
                            case measure => simp [intOf]; omega
                          · have hmz : min (x.mo.size : Int) 5000 = 5000 := by omega
                            have hmy : min (x.na.size : Int) 5000 = (x.na.size : Int) := by omega
                            have e0 : IntKind.i64.wrap (N + 5000) = N + 5000 := by rw [IntKind.wrap_i64]; omega
                            have e1 : IntKind.i64.wrap (N + 5000 + (x.na.size : Int)) = N + 5000 + (x.na.size : Int) := by rw [IntKind.wrap_i64]; omega
                            have HQ' := hid (show N + 5000 + (x.na.size : Int) ≤ 5000 → (((((True) ∧ ∀ x ∈ fu, x.l.t.weight ≤ 5000) ∧ ∀ x ∈ gl, x.l.t.weight ≤ 5000) ∧ ∀ x ∈ el, x.l.t.weight ≤ 5000 ∧ x.fs.length ≤ 5000) ∧ ∀ x ∈ da, x.l.t.weight ≤ 5000 ∧ x.bs.length ≤ 5000) ∧ ∀ (j : Nat) (hj : j < im.length), j < k + 1 → ∃ x, x = im[j] ∧ x.mo.size ≤ 5000 ∧ x.na.size ≤ 5000 from fun h => ⟨(HQ.out (by omega)).1, fun j hj hjk => by
                              by_cases e : j = k
                              · subst e; exact ⟨x, HXE.out.symm, by omega, by omega⟩
                              · exact (HQ.out (by omega)).2 j hj (by omega)⟩)
                            have hz1 := show N0 ≤ N + 5000 + (x.na.size : Int) by omega
                            have hz2 := show N + 5000 + (x.na.size : Int) ≤ 400045000 + 20002 * ((k + 1 : Nat) : Int) by omega
                            clear hx hxe hc cc hb ha
                            go_wp2
                            go_quiet (fail)
                            go_wp2
                            go_roundw
                            case rel => exact ⟨k + 1, _, rfl, by go_num, by omega, hz1, hz2, HQ', drewQ HW.out _⟩
                            case measure => simp [intOf]; omega
                        · by_cases hm2 : (5000 : Int) < (x.na.size : Int)
                          · have hmz : min (x.mo.size : Int) 5000 = (x.mo.size : Int) := by omega
                            have hmy : min (x.na.size : Int) 5000 = 5000 := by omega
                            have e0 : IntKind.i64.wrap (N + (x.mo.size : Int)) = N + (x.mo.size : Int) := by rw [IntKind.wrap_i64]; omega
                            have e1 : IntKind.i64.wrap (N + (x.mo.size : Int) + 5000) = N + (x.mo.size : Int) + 5000 := by rw [IntKind.wrap_i64]; omega
                            have HQ' := hid (show N + (x.mo.size : Int) + 5000 ≤ 5000 → (((((True) ∧ ∀ x ∈ fu, x.l.t.weight ≤ 5000) ∧ ∀ x ∈ gl, x.l.t.weight ≤ 5000) ∧ ∀ x ∈ el, x.l.t.weight ≤ 5000 ∧ x.fs.length ≤ 5000) ∧ ∀ x ∈ da, x.l.t.weight ≤ 5000 ∧ x.bs.length ≤ 5000) ∧ ∀ (j : Nat) (hj : j < im.length), j < k + 1 → ∃ x, x = im[j] ∧ x.mo.size ≤ 5000 ∧ x.na.size ≤ 5000 from fun h => ⟨(HQ.out (by omega)).1, fun j hj hjk => by
                              by_cases e : j = k
                              · subst e; exact ⟨x, HXE.out.symm, by omega, by omega⟩
                              · exact (HQ.out (by omega)).2 j hj (by omega)⟩)
                            have hz1 := show N0 ≤ N + (x.mo.size : Int) + 5000 by omega
                            have hz2 := show N + (x.mo.size : Int) + 5000 ≤ 400045000 + 20002 * ((k + 1 : Nat) : Int) by omega
                            clear hx hxe hc cc hb ha
                            go_wp2
                            go_quiet (fail)
                            go_wp2
                            go_roundw
                            case rel => exact ⟨k + 1, _, rfl, by go_num, by omega, hz1, hz2, HQ', drewQ HW.out _⟩
                            case measure => simp [intOf]; omega
                          · have hmz : min (x.mo.size : Int) 5000 = (x.mo.size : Int) := by omega
                            have hmy : min (x.na.size : Int) 5000 = (x.na.size : Int) := by omega
                            have e0 : IntKind.i64.wrap (N + (x.mo.size : Int)) = N + (x.mo.size : Int) := by rw [IntKind.wrap_i64]; omega
                            have e1 : IntKind.i64.wrap (N + (x.mo.size : Int) + (x.na.size : Int)) = N + (x.mo.size : Int) + (x.na.size : Int) := by rw [IntKind.wrap_i64]; omega
                            have HQ' := hid (show N + (x.mo.size : Int) + (x.na.size : Int) ≤ 5000 → (((((True) ∧ ∀ x ∈ fu, x.l.t.weight ≤ 5000) ∧ ∀ x ∈ gl, x.l.t.weight ≤ 5000) ∧ ∀ x ∈ el, x.l.t.weight ≤ 5000 ∧ x.fs.length ≤ 5000) ∧ ∀ x ∈ da, x.l.t.weight ≤ 5000 ∧ x.bs.length ≤ 5000) ∧ ∀ (j : Nat) (hj : j < im.length), j < k + 1 → ∃ x, x = im[j] ∧ x.mo.size ≤ 5000 ∧ x.na.size ≤ 5000 from fun h => ⟨(HQ.out (by omega)).1, fun j hj hjk => by
                              by_cases e : j = k
                              · subst e; exact ⟨x, HXE.out.symm, by omega, by omega⟩
                              · exact (HQ.out (by omega)).2 j hj (by omega)⟩)
                            have hz1 := show N0 ≤ N + (x.mo.size : Int) + (x.na.size : Int) by omega
                            have hz2 := show N + (x.mo.size : Int) + (x.na.size : Int) ≤ 400045000 + 20002 * ((k + 1 : Nat) : Int) by omega
                            clear hx hxe hc cc hb ha
                            go_wp2
                            go_quiet (fail)
                            go_wp2
                            go_roundw
                            case rel => exact ⟨k + 1, _, rfl, by go_num, by omega, hz1, hz2, HQ', drewQ HW.out _⟩
                            case measure => simp [intOf]; omega
                      · obtain rfl : k = nim := by omega
                        have HP := hid (show N ≤ 5000 → (((((True) ∧ ∀ x ∈ fu, x.l.t.weight ≤ 5000) ∧ ∀ x ∈ gl, x.l.t.weight ≤ 5000) ∧ ∀ x ∈ el, x.l.t.weight ≤ 5000 ∧ x.fs.length ≤ 5000) ∧ ∀ x ∈ da, x.l.t.weight ≤ 5000 ∧ x.bs.length ≤ 5000) ∧ ∀ x ∈ im, x.mo.size ≤ 5000 ∧ x.na.size ≤ 5000 from fun h => ⟨(HQ.out h).1, fun x hx => by
                          obtain ⟨j, hj, rfl⟩ := List.mem_iff_getElem.1 hx
                          obtain ⟨y, hy, hq⟩ := (HQ.out h).2 j hj (by rw [← Lim.out]; exact hj)
                          subst hy; exact hq⟩)
                        have hNN1 : N0 ≤ N := by omega
                        have hNN2 : N ≤ 500055000 := by omega
                        have HBL := HW
                        clear HQ hNa hNb HW hlt hk
                        obtain ⟨NN, rfl⟩ : ∃ NN, NN = N := ⟨_, rfl⟩
                        go_wp2
                        clear hbx
                        go_loopw [5, 11] (fun vn vi wr => ∃ (k : Nat) (N : Int), vn = .int .i64 N ∧ vi = .int .i64 k ∧ k ≤ nex ∧ N0 ≤ N ∧ N ≤ 500055000 + 20002 * (k : Int) ∧ Hid (N ≤ 5000 → ((((((True) ∧ ∀ x ∈ fu, x.l.t.weight ≤ 5000) ∧ ∀ x ∈ gl, x.l.t.weight ≤ 5000) ∧ ∀ x ∈ el, x.l.t.weight ≤ 5000 ∧ x.fs.length ≤ 5000) ∧ ∀ x ∈ da, x.l.t.weight ≤ 5000 ∧ x.bs.length ≤ 5000) ∧ ∀ x ∈ im, x.mo.size ≤ 5000 ∧ x.na.size ≤ 5000) ∧ ∀ (j : Nat) (hj : j < ex.length), j < k → ∃ x, x = ex[j] ∧ x.na.size ≤ 5000) ∧ Hid (Below W0.heap.size W0 wr)) (fun _ vi _ => nex - (intOf vi).toNat)
                        case atStart => exact ⟨0, NN, rfl, rfl, Nat.zero_le _, by omega, by omega, fun h => ⟨HP.out h, fun j _ h => absurd h (Nat.not_lt_zero _)⟩, HBL⟩
                        case round =>
                          clear HP HBL hNN1 hNN2
                          obtain ⟨k, N, rfl, rfl, hk, hNa, hNb, HQ, HW⟩ := hrel
                          have hbx := Go.Proofs.YtaklngfibnbmcaaGreatDoor.keep HW.out Xex.out
                          by_cases hlt : k < nex
                          · have hkl : k < ex.length := by rw [Lex.out]; exact hlt
                            obtain ⟨b, off, ha, hb, hc⟩ := Rows.get Rex.out hkl
                            rw [ha] at hbx
                            have hx : ex[k] ∈ ex := List.getElem_mem hkl
                            have hS := HF.out.eS _ hx
                            obtain ⟨x, hxe⟩ : ∃ x, ex[k] = x := ⟨_, rfl⟩
                            have HXE := hid hxe
                            rw [hxe] at hc hS
                            have cc : ∀ j, j < 3 → ∀ v, x.v[j]? = some v → wr.cell? ⟨b, off + k * 3 + j, none⟩ = some v := fun j hj v hv => (HW.out.cell (p := ⟨b, off + k * 3 + j, none⟩) hb).trans (hc j hj v hv)
                            have c0 : wr.cell? ⟨b, off + k * 3, none⟩ = some (.string x.na) := cc 0 (by omega) _ rfl
                            have hki : (k : Int) < (nex : Int) := by omega
                            have hN1' : 1 ≤ N0 := HI.out (by omega)
                            by_cases hmn : (5000 : Int) < (x.na.size : Int)
                            · have hmz : min (x.na.size : Int) 5000 = 5000 := by omega
                              have HQ' := hid (show N + 5000 ≤ 5000 → ((((((True) ∧ ∀ x ∈ fu, x.l.t.weight ≤ 5000) ∧ ∀ x ∈ gl, x.l.t.weight ≤ 5000) ∧ ∀ x ∈ el, x.l.t.weight ≤ 5000 ∧ x.fs.length ≤ 5000) ∧ ∀ x ∈ da, x.l.t.weight ≤ 5000 ∧ x.bs.length ≤ 5000) ∧ ∀ x ∈ im, x.mo.size ≤ 5000 ∧ x.na.size ≤ 5000) ∧ ∀ (j : Nat) (hj : j < ex.length), j < k + 1 → ∃ x, x = ex[j] ∧ x.na.size ≤ 5000 from fun h => ⟨(HQ.out (by omega)).1, fun j hj hjk => by
                                by_cases e : j = k
                                · subst e; exact ⟨x, HXE.out.symm, by omega⟩
                                · exact (HQ.out (by omega)).2 j hj (by omega)⟩)
                              clear hx hxe hc cc hb ha
                              go_wp2
                              go_roundw
                              case rel => exact ⟨k + 1, _, rfl, by go_num, by omega, by omega, by omega, HQ', HW⟩
                              case measure => simp [intOf]; omega
                            · have hmz : min (x.na.size : Int) 5000 = (x.na.size : Int) := by omega
                              have HQ' := hid (show N + (x.na.size : Int) ≤ 5000 → ((((((True) ∧ ∀ x ∈ fu, x.l.t.weight ≤ 5000) ∧ ∀ x ∈ gl, x.l.t.weight ≤ 5000) ∧ ∀ x ∈ el, x.l.t.weight ≤ 5000 ∧ x.fs.length ≤ 5000) ∧ ∀ x ∈ da, x.l.t.weight ≤ 5000 ∧ x.bs.length ≤ 5000) ∧ ∀ x ∈ im, x.mo.size ≤ 5000 ∧ x.na.size ≤ 5000) ∧ ∀ (j : Nat) (hj : j < ex.length), j < k + 1 → ∃ x, x = ex[j] ∧ x.na.size ≤ 5000 from fun h => ⟨(HQ.out (by omega)).1, fun j hj hjk => by
                                by_cases e : j = k
                                · subst e; exact ⟨x, HXE.out.symm, by omega⟩
                                · exact (HQ.out (by omega)).2 j hj (by omega)⟩)
                              clear hx hxe hc cc hb ha
                              go_wp2
                              go_roundw
                              case rel => exact ⟨k + 1, _, rfl, by go_num, by omega, by omega, by omega, HQ', HW⟩
                              case measure => simp [intOf]; omega
                          · obtain rfl : k = nex := by omega
                            have HP := hid (show N ≤ 5000 → ((((((True) ∧ ∀ x ∈ fu, x.l.t.weight ≤ 5000) ∧ ∀ x ∈ gl, x.l.t.weight ≤ 5000) ∧ ∀ x ∈ el, x.l.t.weight ≤ 5000 ∧ x.fs.length ≤ 5000) ∧ ∀ x ∈ da, x.l.t.weight ≤ 5000 ∧ x.bs.length ≤ 5000) ∧ ∀ x ∈ im, x.mo.size ≤ 5000 ∧ x.na.size ≤ 5000) ∧ ∀ x ∈ ex, x.na.size ≤ 5000 from fun h => ⟨(HQ.out h).1, fun x hx => by
                              obtain ⟨j, hj, rfl⟩ := List.mem_iff_getElem.1 hx
                              obtain ⟨y, hy, hq⟩ := (HQ.out h).2 j hj (by rw [← Lex.out]; exact hj)
                              subst hy; exact hq⟩)
                            have hNN1 : N0 ≤ N := by omega
                            have hNN2 : N ≤ 600065000 := by omega
                            have HBL := HW
                            clear HQ hNa hNb HW hlt hk
                            have HZ := hid (large_end (m := (⟨ty, im, fu, tb, me, gl, ex, st, sn, el, da, ty', im', fu', tb', me', gl', ex', el', da'⟩ : Md)) (N := N) (HB.out.trans (HBL.out.mono HB.out.size)) (fun h => by
                              obtain ⟨⟨⟨⟨⟨⟨_, z1⟩, z2⟩, z3⟩, z4⟩, z5⟩, z6⟩ := HP.out h
                              refine ⟨HSUM.out, fun l hl => ?_, fun e he => (z3 e he).2, fun d hd => (z4 d hd).2, z5, z6⟩
                              unfold Md.codes at hl
                              simp only [List.mem_append, List.mem_map] at hl
                              rcases hl with ⟨x, hx, rfl⟩ | ⟨x, hx, rfl⟩ | ⟨x, hx, rfl⟩ | ⟨x, hx, rfl⟩
                              · exact z1 x hx
                              · exact z2 x hx
                              · exact (z3 x hx).1
                              · exact (z4 x hx).1))
                            go_wp2
                            go_ret
                            exact HZ.out
end Go.Proofs.YtaklngfibnbmcaaGreatDoor.Mod

namespace Go.Proofs.YtaklngfibnbmcaaGreatDoor.Val
open Go.RowKit Go.Proofs.YtaklngfibnbmcaaGreatDoor.Instr Go.Proofs.YtaklngfibnbmcaaGreatDoor.Mod
set_option linter.unusedVariables false

def less1 (m : Md) : Md := { m with ex := m.ex.dropLast, st := false, sn := 0 }
def less2 (m : Md) : Md := { m with da := m.da.dropLast, el := m.el.dropLast }
def more3 (m : Md) (s : Sl) (f : Mod.Fn) : Md := { m with fu := m.fu ++ [f], fu' := s }
theorem less1_sub (m : Md) : Sub (less1 m) m := ⟨List.prefix_refl _, List.prefix_refl _, List.prefix_refl _, List.prefix_refl _, List.prefix_refl _, List.prefix_refl _, List.dropLast_prefix _, List.prefix_refl _, List.prefix_refl _, .inr rfl⟩
theorem less2_sub (m : Md) : Sub (less2 m) m := ⟨List.prefix_refl _, List.prefix_refl _, List.prefix_refl _, List.prefix_refl _, List.prefix_refl _, List.prefix_refl _, List.prefix_refl _, List.dropLast_prefix _, List.dropLast_prefix _, .inl ⟨rfl, rfl⟩⟩
theorem less1_lies (m : Md) : Lies (less1 m) m := by constructor <;> exact .inl rfl
theorem less2_lies (m : Md) : Lies (less2 m) m := by constructor <;> exact .inl rfl
theorem less1_rg {m : Md} (h : Rg m) : Rg (less1 m) := ⟨fun e he => h.ei e ((List.dropLast_prefix _).subset he), h.ef, by show (0 : Int) ≤ 0 ∧ (0 : Int) < 4294967296; omega⟩
theorem less2_rg {m : Md} (h : Rg m) : Rg (less2 m) := ⟨h.ei, fun e he => h.ef e ((List.dropLast_prefix _).subset he), h.sn⟩
theorem more3_rg {m : Md} {s : Sl} {f : Mod.Fn} (h : Rg m) : Rg (more3 m s f) := ⟨h.ei, h.ef, h.sn⟩
theorem getD_drop {α : Type} (l : List α) (k : Nat) (d : α) (h : k < l.dropLast.length) : l.dropLast.getD k d = l.getD k d := by
  have h2 : k < l.length := by simp at h; omega
  rw [List.getD_eq_getElem?_getD, List.getD_eq_getElem?_getD, List.getElem?_eq_getElem h, List.getElem?_eq_getElem h2, List.getElem_dropLast]
theorem take_drop {α : Type} (l : List α) (k : Nat) (h : k < l.dropLast.length) : l.dropLast.take k = l.take k := by
  have h2 : k ≤ l.length - 1 := by simp at h; omega
  rw [List.dropLast_eq_take, List.take_take, Nat.min_eq_left h2]
theorem valid_less1 {m : Md} (h : Valid m) : Valid (less1 m) := by
  refine ⟨check_sub (less1_sub m) h.1, fun j hj k hk => ?_⟩
  match j, hj with
  | 0, _ => exact h.2 0 (by omega) k hk
  | 1, _ => exact h.2 1 (by omega) k hk
  | 2, _ => exact h.2 2 (by omega) k hk
  | 3, _ =>
    have hk' : k < m.ex.dropLast.length := hk
    have h3 : exportEP m k = 0 := h.2 3 (by omega) k (by show k < m.ex.length; simp at hk'; omega)
    show exportEP (less1 m) k = 0
    unfold exportEP at h3 ⊢
    have e1 : exAt (less1 m) k = exAt m k := getD_drop _ _ _ hk'
    have e2 : (less1 m).ex.take k = m.ex.take k := take_drop _ _ hk'
    rw [e1, e2]; exact h3
  | 4, _ => exact absurd hk (by show ¬ k < (if false then 1 else 0); simp)
  | 5, _ => exact h.2 5 (by omega) k hk
  | 6, _ =>
    have h6 : (Md.bodyP m k).1 = 0 := h.2 6 (by omega) k hk
    show (Md.bodyP (less1 m) k).1 = 0
    rw [bodyP_ext (m := m) (n := less1 m) ⟨rfl, rfl, rfl, rfl, fun k _ => rfl⟩ k rfl rfl h6]; exact h6
  | 7, _ => exact h.2 7 (by omega) k hk
theorem valid_less2 {m : Md} (h : Valid m) : Valid (less2 m) := by
  refine ⟨check_sub (less2_sub m) h.1, fun j hj k hk => ?_⟩
  match j, hj with
  | 0, _ => exact h.2 0 (by omega) k hk
  | 1, _ => exact h.2 1 (by omega) k hk
  | 2, _ => exact h.2 2 (by omega) k hk
  | 3, _ => exact h.2 3 (by omega) k hk
  | 4, _ => exact h.2 4 (by omega) k hk
  | 5, _ =>
    have hk' : k < m.el.dropLast.length := hk
    have h5 : elemEP m (elAt m k) = 0 := h.2 5 (by omega) k (by show k < m.el.length; simp at hk'; omega)
    show elemEP (less2 m) (elAt (less2 m) k) = 0
    have e1 : elAt (less2 m) k = elAt m k := getD_drop _ _ _ hk'
    rw [e1]; exact h5
  | 6, _ =>
    have h6 : (Md.bodyP m k).1 = 0 := h.2 6 (by omega) k hk
    show (Md.bodyP (less2 m) k).1 = 0
    rw [bodyP_ext (m := m) (n := less2 m) ⟨rfl, rfl, rfl, rfl, fun k _ => rfl⟩ k rfl rfl h6]; exact h6
  | 7, _ =>
    have hk' : k < m.da.dropLast.length := hk
    have h7 : dataEP m (daAt m k).l.t = 0 := h.2 7 (by omega) k (by show k < m.da.length; simp at hk'; omega)
    show dataEP (less2 m) (daAt (less2 m) k).l.t = 0
    have e1 : daAt (less2 m) k = daAt m k := getD_drop _ _ _ hk'
    rw [e1]; exact h7

def unI : Ix := ⟨0, 0, 0, 0, 0, [], none, 0, none, 0, 0, none, 0, 0⟩
def unL : Il := .cons unI .nil .nil .nil
theorem un_body (n : Md) (lo re : Int) (hre : re = 0 ∨ re = 1) : (listS n lo re unL (startS re)).er = 0 := by
  rcases hre with rfl | rfl <;> rfl
theorem getD_app {α : Type} (l : List α) (f d : α) (k : Nat) (h : k < l.length) : (l ++ [f]).getD k d = l.getD k d := by
  rw [List.getD_eq_getElem?_getD, List.getD_eq_getElem?_getD, List.getElem?_append_left h]
theorem getD_end {α : Type} (l : List α) (f d : α) : (l ++ [f]).getD l.length d = f := by
  rw [List.getD_eq_getElem?_getD]; simp
theorem typeN_more {m : Md} {s : Sl} {f : Mod.Fn} {k : Nat} (h : k < m.im.length + m.fu.length) : (more3 m s f).typeN k = m.typeN k := by
  unfold Md.typeN
  show (if k < m.im.length then _ else if k < m.im.length + (m.fu ++ [f]).length then (((m.fu ++ [f]).map (·.ty)).getD (k - m.im.length) 0) else -1) = _
  by_cases h1 : k < m.im.length
  · rw [if_pos h1, if_pos h1]; rfl
  · rw [if_neg h1, if_neg h1, if_pos h, if_pos (by simp; omega), List.map_append, List.map_singleton, getD_app _ _ _ _ (by simp; omega)]
theorem ext_more (m : Md) (s : Sl) (f : Mod.Fn) : Ext m (more3 m s f) := by
  refine ⟨rfl, rfl, rfl, rfl, fun k hk => ?_⟩
  have h : k < m.im.length + m.fu.length := by
    apply Classical.byContradiction
    intro h
    have : m.typeN k = -1 := by unfold Md.typeN; rw [if_neg (by omega), if_neg h]
    unfold Md.typeOf at hk
    rw [this, if_pos (.inl (by omega))] at hk
    cases hk
  unfold Md.typeOf
  rw [typeN_more h]; rfl
theorem check_more {m : Md} {s : Sl} {f : Mod.Fn} (hs : m.small 5000) (hf : f.ty = 0 ∧ f.lo = 0 ∧ f.l.t = unL) (h : m.check = 0) : (more3 m s f).check = 0 := by
  rw [check_zero] at h ⊢
  obtain ⟨h1, h2, h3, h4, h5⟩ := h
  have hl := hs.lens
  refine ⟨?_, ?_, h3, h4, ?_⟩
  · unfold Md.crowded at h1 ⊢
    simp only [Bool.or_eq_false_iff, decide_eq_false_iff_not] at h1 ⊢
    obtain ⟨⟨⟨⟨⟨⟨⟨⟨⟨a1, a2⟩, a3⟩, a4⟩, a5⟩, a6⟩, a7⟩, a8⟩, a9⟩, a10⟩ := h1
    exact ⟨⟨⟨⟨⟨⟨⟨⟨⟨a1, a2⟩, by show ¬ 16384 < (m.fu ++ [f]).length; simp; omega⟩, a4⟩, a5⟩, a6⟩, a7⟩, a8⟩, a9⟩, a10⟩
  · intro y hy
    have hy' : y ∈ (m.fu ++ [f]).map (·.l) ++ (m.gl.map (·.l) ++ (m.el.map (·.l) ++ m.da.map (·.l))) := hy
    rw [List.map_append, List.append_assoc, List.mem_append, List.mem_append] at hy'
    rcases hy' with hy' | hy' | hy'
    · exact h2 y (List.mem_append_left _ hy')
    · obtain rfl : y = f.l := by simpa using hy'
      rw [hf.2.2]; rfl
    · exact h2 y (List.mem_append_right _ hy')
  · unfold Md.wrong at h5 ⊢
    simp only [Bool.or_eq_false_iff] at h5 ⊢
    obtain ⟨⟨⟨⟨⟨⟨⟨a1, a2⟩, a3⟩, a4⟩, a5⟩, a6⟩, a7⟩, a8⟩ := h5
    refine ⟨⟨⟨⟨⟨⟨⟨a1, a2⟩, a3⟩, ?_⟩, a5⟩, a6⟩, a7⟩, a8⟩
    show (m.fu ++ [f]).any wrongF = false
    rw [List.any_append, a4]
    simp [wrongF, wrongN, hf.1, hf.2.1]
theorem few_more {m : Md} {s : Sl} {f : Mod.Fn} (hs : m.small 5000) (hf : f.l.t = unL) (h : m.few) : (more3 m s f).few := by
  have hl := hs.lens
  have hc : ∀ l ∈ (more3 m s f).codes, l ∈ m.codes ∨ l = f.l := by
    intro y hy
    have hy' : y ∈ (m.fu ++ [f]).map (·.l) ++ (m.gl.map (·.l) ++ (m.el.map (·.l) ++ m.da.map (·.l))) := hy
    rw [List.map_append, List.append_assoc, List.mem_append, List.mem_append] at hy'
    rcases hy' with hy' | hy' | hy'
    · exact .inl (List.mem_append_left _ hy')
    · exact .inr (by simpa using hy')
    · exact .inl (List.mem_append_right _ hy')
  have hlen : (more3 m s f).fu.length = m.fu.length + 1 := by show (m.fu ++ [f]).length = _; simp
  refine ⟨⟨h.fit.ty, h.fit.im, by omega, h.fit.tb, h.fit.me, h.fit.gl, h.fit.ex, h.fit.el, h.fit.da, fun l hl => ?_, h.fit.fs, h.fit.bs, h.fit.iS, h.fit.eS⟩, fun l hl => ?_, ?_⟩
  · rcases hc l hl with a | rfl
    · exact h.fit.ls l a
    · rw [hf]; decide
  · rcases hc l hl with a | rfl
    · exact h.cs l a
    · rw [hf]; decide
  · have := h.lens
    rw [hlen]
    exact ⟨this.1, this.2.1, by omega, this.2.2.2.1, this.2.2.2.2.1, this.2.2.2.2.2.1, this.2.2.2.2.2.2.1, this.2.2.2.2.2.2.2.1, this.2.2.2.2.2.2.2.2⟩
theorem valid_more3 {m : Md} {s : Sl} {f : Mod.Fn} (hs : m.small 5000) (ht : 0 < m.ty.length) (hf : f.ty = 0 ∧ f.lo = 0 ∧ f.l.t = unL) (h : Valid m) : Valid (more3 m s f) := by
  have hE := ext_more m s f
  have hcnt : ∀ k, countP m k ≤ countP (more3 m s f) k := by
    intro k
    unfold countP
    show _ ≤ (if k = 0 then (m.im.length : Int) + (m.fu ++ [f]).length else _)
    by_cases hk : k = 0
    · rw [if_pos hk, if_pos hk]; simp; omega
    · rw [if_neg hk, if_neg hk]; exact Int.le_refl _
  refine ⟨check_more hs hf h.1, fun j hj k hk => ?_⟩
  match j, hj with
  | 0, _ => exact h.2 0 (by omega) k hk
  | 1, _ =>
    have hk' : k < (m.fu ++ [f]).length := hk
    show typeEP m ((m.fu ++ [f]).getD k ⟨0, 0, ⟨none, 0, .nil⟩⟩).ty = 0
    by_cases hkl : k < m.fu.length
    · rw [getD_app _ _ _ _ hkl]; exact h.2 1 (by omega) k hkl
    · have : k = m.fu.length := by simp at hk'; omega
      subst this
      rw [getD_end, hf.1]
      unfold typeEP
      rw [if_neg (by omega)]
  | 2, _ => exact h.2 2 (by omega) k hk
  | 3, _ =>
    have h3 : exportEP m k = 0 := h.2 3 (by omega) k hk
    show exportEP (more3 m s f) k = 0
    unfold exportEP at h3 ⊢
    have e1 : exAt (more3 m s f) k = exAt m k := rfl
    rw [e1]
    have := hcnt (exAt m k).k
    by_cases hx : (exAt m k).i < countP m (exAt m k).k
    · rw [if_pos hx] at h3; rw [if_pos (by omega)]; exact h3
    · rw [if_neg hx] at h3; omega
  | 4, _ =>
    have h4 : startEP m = 0 := h.2 4 (by omega) k hk
    show startEP (more3 m s f) = 0
    unfold startEP at h4 ⊢
    by_cases hx : (m.typeOf m.sn.toNat).2 = false
    · rw [if_pos hx] at h4; omega
    · have e : (more3 m s f).typeOf (more3 m s f).sn.toNat = m.typeOf m.sn.toNat := hE.tp m.sn.toNat (by simpa using hx)
      rw [e]; exact h4
  | 5, _ =>
    have h5 : elemEP m (elAt m k) = 0 := h.2 5 (by omega) k hk
    show elemEP (more3 m s f) (elAt m k) = 0
    unfold elemEP at h5 ⊢
    have e : (more3 m s f).tb = m.tb := rfl
    rw [e]
    by_cases c1 : m.tb.length = 0
    · rw [if_pos c1] at h5; omega
    · rw [if_neg c1] at h5 ⊢
      by_cases c2 : (constP (elAt m k).l.t).2 ≠ 0
      · rw [if_pos c2] at h5; exact absurd h5 c2
      · rw [if_neg c2] at h5 ⊢
        by_cases c3 : (elAt m k).fs.any (fun x => !decide (x < countP m 0)) = true
        · rw [if_pos c3] at h5; omega
        · rw [if_neg]
          intro hh
          apply c3
          rw [List.any_eq_true] at hh ⊢
          obtain ⟨x, hx, hx2⟩ := hh
          refine ⟨x, hx, ?_⟩
          have := hcnt 0
          simp only [Bool.not_eq_true', decide_eq_false_iff_not] at hx2 ⊢
          omega
  | 6, _ =>
    have hk' : k < (m.fu ++ [f]).length := hk
    show (Md.bodyP (more3 m s f) k).1 = 0
    by_cases hkl : k < m.fu.length
    · have h6 : (Md.bodyP m k).1 = 0 := h.2 6 (by omega) k hkl
      rw [bodyP_ext hE k rfl (getD_app _ _ _ _ hkl) h6]; exact h6
    · have : k = m.fu.length := by simp at hk'; omega
      subst this
      have hty : (more3 m s f).typeOf (m.im.length + m.fu.length) = (m.ty.getD 0 (0, 0), true) := by
        have hN : (more3 m s f).typeN (m.im.length + m.fu.length) = 0 := by
          unfold Md.typeN
          show (if m.im.length + m.fu.length < m.im.length then _ else if m.im.length + m.fu.length < m.im.length + (m.fu ++ [f]).length then (((m.fu ++ [f]).map (·.ty)).getD (m.im.length + m.fu.length - m.im.length) 0) else -1) = 0
          rw [if_neg (by omega), if_pos (by simp), List.map_append, List.map_singleton, show m.im.length + m.fu.length - m.im.length = (m.fu.map (·.ty)).length from by simp, getD_end]
          exact hf.1
        unfold Md.typeOf
        rw [hN]
        show (if (0 : Int) < 0 ∨ (m.ty.length : Int) ≤ 0 then _ else _) = _
        rw [if_neg (by omega)]; rfl
      have hty' : (more3 m s f).typeOf ((more3 m s f).im.length + m.fu.length) = (m.ty.getD 0 (0, 0), true) := hty
      have hg : (more3 m s f).fu.getD m.fu.length ⟨0, 0, ⟨none, 0, .nil⟩⟩ = f := getD_end _ _ _
      have hT := (fine_of h.1).tys.getD 0
      unfold Md.bodyP
      rw [hty', if_neg (by simp), hg]
      dsimp only
      rw [hf.2.1, hf.2.2]
      exact un_body _ _ _ (by omega)
  | 7, _ => exact h.2 7 (by omega) k hk
end Go.Proofs.YtaklngfibnbmcaaGreatDoor.Val

namespace Go.Proofs.YtaklngfibnbmcaaGreatDoor.Mod
open Go.RowKit Go.Shelf Go.Proofs.YtaklngfibnbmcaaGreatDoor.Instr

theorem count_le_weight : ∀ t : Il, t.count ≤ t.weight
  | .nil => Nat.le_refl _
  | .cons x l e r => by have := count_le_weight l; have := count_le_weight e; have := count_le_weight r; simp only [Il.count, Il.weight]; omega
theorem small_few' {m : Md} {k : Nat} (h : m.small k) (hk : k ≤ 1000000) (hf : m.fits) : m.few := ⟨hf, fun l hl => by have := h.ls l hl; have := count_le_weight l.t; omega, by have := h.lens; omega⟩
end Go.Proofs.YtaklngfibnbmcaaGreatDoor.Mod
namespace Go.Proofs.YtaklngfibnbmcaaGreatDoor
open Go.RowKit
end Go.Proofs.YtaklngfibnbmcaaGreatDoor

namespace Go.Proofs.YtaklngfibnbmcaaGreatDoor.Val
open Go.RowKit Go.Shelf Go.Proofs.YtaklngfibnbmcaaGreatDoor.Instr Go.Proofs.YtaklngfibnbmcaaGreatDoor.Mod
set_option linter.unusedVariables false

def NB (W : World) (g : Nat) (v : Array Value) : Prop := W.heap[g]? = some (.cells v 32 (0, 0))
theorem NB.lt {W : World} {g : Nat} {v : Array Value} (b : NB W g v) : g < W.heap.size := (Array.getElem?_eq_some_iff.1 b).1
theorem NB.made (W : World) (v : Array Value) : NB (W.alloc (.cells v 32)) W.heap.size v := heap_alloc_new W _
theorem NB.below {W W' : World} {g : Nat} {v : Array Value} (b : NB W g v) (hb : Below W.heap.size W W') : NB W' g v := (hb.block g b.lt).trans b
theorem NB.c {W : World} {g : Nat} {v : Array Value} (b : NB W g v) (j : Nat) : W.cell? ⟨g, j, none⟩ = v[j]? := cell_of_row W g j _ _ _ b
theorem NB.f {W : World} {g : Nat} {v : Array Value} (b : NB W g v) (j : Nat) : W.frozen? ⟨g, j, none⟩ = false := frozen_of_row W g j _ _ b
theorem NB.box {W : World} {g : Nat} {v : Array Value} (b : NB W g v) : BoxAt W g v := fun j x h => (b.c j).trans h
theorem NB.set {W : World} {g : Nat} {v : Array Value} (b : NB W g v) (j : Nat) (x : Value) : NB (W.setCell ⟨g, j, none⟩ x) g (v.set! j x) := heap_setCell_same W g j _ _ _ b
/-- The two boxes: the module's own, and that of what is made of it. -/
def Tw (n₀ : Nat) (w0 : World) (g : Nat) (u v : Array Value) (W : World) : Prop := NB W g v ∧ BoxAt W n₀ u ∧ Below n₀ w0 W ∧ n₀ < g
theorem Tw.set {n₀ g : Nat} {w0 W : World} {u v : Array Value} (h : Tw n₀ w0 g u v W) (j : Nat) (x : Value) : Tw n₀ w0 g u (v.set! j x) (W.setCell ⟨g, j, none⟩ x) :=
  ⟨h.1.set j x, fun i y hy => (World.cell?_setCell_far _ ⟨g, j, none⟩ _ _ (show g ≠ n₀ by have := h.2.2.2; omega)).trans (h.2.1 i y hy), h.2.2.1.setCell (by show n₀ ≤ g; have := h.2.2.2; omega) _, h.2.2.2⟩
theorem Tw.below {n₀ g : Nat} {w0 W W' : World} {u v : Array Value} (h : Tw n₀ w0 g u v W) (hs : n₀ ≤ W.heap.size) (hb : Below W.heap.size W W') : Tw n₀ w0 g u v W' :=
  ⟨h.1.below hb, h.2.1.keep hb, h.2.2.1.trans (hb.mono hs), h.2.2.2⟩
theorem NB.fs {W : World} {g : Nat} {v : Array Value} (b : NB W g v) : W.frozen? ⟨g, 0, none⟩ = false ∧ W.frozen? ⟨g, 1, none⟩ = false ∧ W.frozen? ⟨g, 2, none⟩ = false ∧ W.frozen? ⟨g, 3, none⟩ = false ∧ W.frozen? ⟨g, 4, none⟩ = false ∧ W.frozen? ⟨g, 5, none⟩ = false ∧
    W.frozen? ⟨g, 6, none⟩ = false ∧ W.frozen? ⟨g, 7, none⟩ = false ∧ W.frozen? ⟨g, 8, none⟩ = false ∧ W.frozen? ⟨g, 9, none⟩ = false ∧ W.frozen? ⟨g, 10, none⟩ = false := ⟨b.f 0, b.f 1, b.f 2, b.f 3, b.f 4, b.f 5, b.f 6, b.f 7, b.f 8, b.f 9, b.f 10⟩
theorem NB.cs {W : World} {g : Nat} {v0 v1 v2 v3 v4 v5 v6 v7 v8 v9 v10 : Value} (b : NB W g #[v0, v1, v2, v3, v4, v5, v6, v7, v8, v9, v10]) : W.cell? ⟨g, 0, none⟩ = some v0 ∧ W.cell? ⟨g, 1, none⟩ = some v1 ∧ W.cell? ⟨g, 2, none⟩ = some v2 ∧ W.cell? ⟨g, 3, none⟩ = some v3 ∧ W.cell? ⟨g, 4, none⟩ = some v4 ∧ W.cell? ⟨g, 5, none⟩ = some v5 ∧
    W.cell? ⟨g, 6, none⟩ = some v6 ∧ W.cell? ⟨g, 7, none⟩ = some v7 ∧ W.cell? ⟨g, 8, none⟩ = some v8 ∧ W.cell? ⟨g, 9, none⟩ = some v9 ∧ W.cell? ⟨g, 10, none⟩ = some v10 := ⟨b.c 0, b.c 1, b.c 2, b.c 3, b.c 4, b.c 5, b.c 6, b.c 7, b.c 8, b.c 9, b.c 10⟩
theorem Tw.all11 {n₀ g : Nat} {w0 W : World} {u : Array Value} {v0 v1 v2 v3 v4 v5 v6 v7 v8 v9 v10 : Value} (h : Tw n₀ w0 g u #[v0, v1, v2, v3, v4, v5, v6, v7, v8, v9, v10] W) (x0 x1 x2 x3 x4 x5 x6 x7 x8 x9 x10 : Value) : Tw n₀ w0 g u #[x0, x1, x2, x3, x4, x5, x6, x7, x8, x9, x10] (((((((((((W.setCell ⟨g, 0, none⟩ x0).setCell ⟨g, 1, none⟩ x1).setCell ⟨g, 2, none⟩ x2).setCell ⟨g, 3, none⟩ x3).setCell ⟨g, 4, none⟩ x4).setCell ⟨g, 5, none⟩ x5).setCell ⟨g, 6, none⟩ x6).setCell ⟨g, 7, none⟩ x7).setCell ⟨g, 8, none⟩ x8).setCell ⟨g, 9, none⟩ x9).setCell ⟨g, 10, none⟩ x10) := by
  have h1 : Tw n₀ w0 g u #[x0, v1, v2, v3, v4, v5, v6, v7, v8, v9, v10] (W.setCell ⟨g, 0, none⟩ x0) := h.set 0 x0
  have h2 : Tw n₀ w0 g u #[x0, x1, v2, v3, v4, v5, v6, v7, v8, v9, v10] ((W.setCell ⟨g, 0, none⟩ x0).setCell ⟨g, 1, none⟩ x1) := h1.set 1 x1
  have h3 : Tw n₀ w0 g u #[x0, x1, x2, v3, v4, v5, v6, v7, v8, v9, v10] (((W.setCell ⟨g, 0, none⟩ x0).setCell ⟨g, 1, none⟩ x1).setCell ⟨g, 2, none⟩ x2) := h2.set 2 x2
  have h4 : Tw n₀ w0 g u #[x0, x1, x2, x3, v4, v5, v6, v7, v8, v9, v10] ((((W.setCell ⟨g, 0, none⟩ x0).setCell ⟨g, 1, none⟩ x1).setCell ⟨g, 2, none⟩ x2).setCell ⟨g, 3, none⟩ x3) := h3.set 3 x3
  have h5 : Tw n₀ w0 g u #[x0, x1, x2, x3, x4, v5, v6, v7, v8, v9, v10] (((((W.setCell ⟨g, 0, none⟩ x0).setCell ⟨g, 1, none⟩ x1).setCell ⟨g, 2, none⟩ x2).setCell ⟨g, 3, none⟩ x3).setCell ⟨g, 4, none⟩ x4) := h4.set 4 x4
  have h6 : Tw n₀ w0 g u #[x0, x1, x2, x3, x4, x5, v6, v7, v8, v9, v10] ((((((W.setCell ⟨g, 0, none⟩ x0).setCell ⟨g, 1, none⟩ x1).setCell ⟨g, 2, none⟩ x2).setCell ⟨g, 3, none⟩ x3).setCell ⟨g, 4, none⟩ x4).setCell ⟨g, 5, none⟩ x5) := h5.set 5 x5
  have h7 : Tw n₀ w0 g u #[x0, x1, x2, x3, x4, x5, x6, v7, v8, v9, v10] (((((((W.setCell ⟨g, 0, none⟩ x0).setCell ⟨g, 1, none⟩ x1).setCell ⟨g, 2, none⟩ x2).setCell ⟨g, 3, none⟩ x3).setCell ⟨g, 4, none⟩ x4).setCell ⟨g, 5, none⟩ x5).setCell ⟨g, 6, none⟩ x6) := h6.set 6 x6
  have h8 : Tw n₀ w0 g u #[x0, x1, x2, x3, x4, x5, x6, x7, v8, v9, v10] ((((((((W.setCell ⟨g, 0, none⟩ x0).setCell ⟨g, 1, none⟩ x1).setCell ⟨g, 2, none⟩ x2).setCell ⟨g, 3, none⟩ x3).setCell ⟨g, 4, none⟩ x4).setCell ⟨g, 5, none⟩ x5).setCell ⟨g, 6, none⟩ x6).setCell ⟨g, 7, none⟩ x7) := h7.set 7 x7
  have h9 : Tw n₀ w0 g u #[x0, x1, x2, x3, x4, x5, x6, x7, x8, v9, v10] (((((((((W.setCell ⟨g, 0, none⟩ x0).setCell ⟨g, 1, none⟩ x1).setCell ⟨g, 2, none⟩ x2).setCell ⟨g, 3, none⟩ x3).setCell ⟨g, 4, none⟩ x4).setCell ⟨g, 5, none⟩ x5).setCell ⟨g, 6, none⟩ x6).setCell ⟨g, 7, none⟩ x7).setCell ⟨g, 8, none⟩ x8) := h8.set 8 x8
  have h10 : Tw n₀ w0 g u #[x0, x1, x2, x3, x4, x5, x6, x7, x8, x9, v10] ((((((((((W.setCell ⟨g, 0, none⟩ x0).setCell ⟨g, 1, none⟩ x1).setCell ⟨g, 2, none⟩ x2).setCell ⟨g, 3, none⟩ x3).setCell ⟨g, 4, none⟩ x4).setCell ⟨g, 5, none⟩ x5).setCell ⟨g, 6, none⟩ x6).setCell ⟨g, 7, none⟩ x7).setCell ⟨g, 8, none⟩ x8).setCell ⟨g, 9, none⟩ x9) := h9.set 9 x9
  have h11 : Tw n₀ w0 g u #[x0, x1, x2, x3, x4, x5, x6, x7, x8, x9, x10] (((((((((((W.setCell ⟨g, 0, none⟩ x0).setCell ⟨g, 1, none⟩ x1).setCell ⟨g, 2, none⟩ x2).setCell ⟨g, 3, none⟩ x3).setCell ⟨g, 4, none⟩ x4).setCell ⟨g, 5, none⟩ x5).setCell ⟨g, 6, none⟩ x6).setCell ⟨g, 7, none⟩ x7).setCell ⟨g, 8, none⟩ x8).setCell ⟨g, 9, none⟩ x9).setCell ⟨g, 10, none⟩ x10) := h10.set 10 x10
  exact h11
theorem Tw.s2 {n₀ g : Nat} {w0 W : World} {u : Array Value} {v0 v1 v2 v3 v4 v5 v6 v7 v8 v9 v10 : Value} (h : Tw n₀ w0 g u #[v0, v1, v2, v3, v4, v5, v6, v7, v8, v9, v10] W) (x : Value) : Tw n₀ w0 g u #[v0, v1, x, v3, v4, v5, v6, v7, v8, v9, v10] (W.setCell ⟨g, 2, none⟩ x) := h.set 2 x
theorem Tw.s9 {n₀ g : Nat} {w0 W : World} {u : Array Value} {v0 v1 v2 v3 v4 v5 v6 v7 v8 v9 v10 : Value} (h : Tw n₀ w0 g u #[v0, v1, v2, v3, v4, v5, v6, v7, v8, v9, v10] W) (x : Value) : Tw n₀ w0 g u #[v0, v1, v2, v3, v4, v5, v6, v7, v8, x, v10] (W.setCell ⟨g, 9, none⟩ x) := h.set 9 x
theorem Tw.s10 {n₀ g : Nat} {w0 W : World} {u : Array Value} {v0 v1 v2 v3 v4 v5 v6 v7 v8 v9 v10 : Value} (h : Tw n₀ w0 g u #[v0, v1, v2, v3, v4, v5, v6, v7, v8, v9, v10] W) (x : Value) : Tw n₀ w0 g u #[v0, v1, v2, v3, v4, v5, v6, v7, v8, v9, x] (W.setCell ⟨g, 10, none⟩ x) := h.set 10 x

theorem infoFn : (Tryz.prog.info? 51).map (fun i => (i.zero, i.size, i.bytes)) = some (some (.agg #[.int .i64 0, .int .i64 0, .slice none 0 0]), 3, 40) := by kernel_rfl
def newF (b : Nat) : Mod.Fn := ⟨0, 0, ⟨some ⟨b, 0, none⟩, 1, unL⟩⟩
/-- The module with a function more, where its functions lie now. -/
theorem more_at {w W : World} {m : Md} {b base : Nat} {a : Option Addr} {c : Nat} {v : Value} (hm : ModAt w.heap.size w m) (hB : Below w.heap.size w W) (ho : Stk.OwnR 51 3 base W v (m.fu.map Fn.v ++ [(newF b).v])) (hv : v = .slice a (m.fu.length + 1) c)
    (hb : BoxAt W b unI.vals) : ModAt W.heap.size W (more3 m ⟨a, c⟩ (newF b)) := by
  have h := hm.on hB
  obtain ⟨a', c', e1, e2, -⟩ := Stk.OwnR.rows ho
  rw [hv] at e1
  simp only [List.length_append, List.length_map, List.length_singleton, Value.slice.injEq] at e1
  obtain ⟨rfl, -, rfl⟩ := e1
  refine ⟨h.ty, h.im, ?_, h.tb, h.me, h.gl, h.ex, h.el, h.da, ?_, h.fs, h.bs⟩
  · have e : (more3 m ⟨a, c⟩ (newF b)).fu.map Fn.v = m.fu.map Fn.v ++ [(newF b).v] := by show (m.fu ++ [newF b]).map Fn.v = _; rw [List.map_append]; rfl
    rw [e]; exact e2
  · intro y hy
    have hy' : y ∈ (m.fu ++ [newF b]).map (·.l) ++ (m.gl.map (·.l) ++ (m.el.map (·.l) ++ m.da.map (·.l))) := hy
    rw [List.map_append, List.append_assoc, List.mem_append, List.mem_append] at hy'
    rcases hy' with hy' | hy' | hy'
    · exact h.ls y (List.mem_append_left _ hy')
    · obtain rfl : y = (newF b).l := by simpa using hy'
      have hlb := World.block_lt_of_cell? W _ (hb 0 _ rfl)
      exact list_box (l := [(unI, .nil, .nil)]) hlb hb (fun x hx => by
        obtain rfl := List.mem_singleton.1 hx
        exact ⟨by constructor <;> simp [unI], .inl rfl, ⟨rfl, .inl rfl⟩, ⟨rfl, .inl rfl⟩⟩)
    · exact h.ls y (List.mem_append_right _ hy')

theorem more_v (m : Md) (a : Option Addr) (c : Nat) (f : Mod.Fn) : (more3 m ⟨a, c⟩ f).v = #[.slice m.ty'.a m.ty.length m.ty'.c, .slice m.im'.a m.im.length m.im'.c, .slice a (m.fu.length + 1) c, .slice m.tb'.a m.tb.length m.tb'.c, .slice m.me'.a m.me.length m.me'.c, .slice m.gl'.a m.gl.length m.gl'.c, .slice m.ex'.a m.ex.length m.ex'.c, .bool m.st, .int .u32 m.sn, .slice m.el'.a m.el.length m.el'.c, .slice m.da'.a m.da.length m.da'.c] := by
  unfold Md.v more3
  dsimp only
  simp only [List.length_append, List.length_singleton]
theorem more_rel {w u : World} {m : Md} {g b : Nat} {a2 : Option Addr} {c2 : Nat} (hg : g < b) (TU : Tw w.heap.size w g m.v #[.slice m.ty'.a m.ty.length m.ty'.c, .slice m.im'.a m.im.length m.im'.c, .slice m.fu'.a m.fu.length m.fu'.c, .slice m.tb'.a m.tb.length m.tb'.c, .slice m.me'.a m.me.length m.me'.c, .slice m.gl'.a m.gl.length m.gl'.c, .slice m.ex'.a m.ex.length m.ex'.c, .bool m.st, .int .u32 m.sn, .slice m.el'.a m.el.length m.el'.c, .slice m.da'.a m.da.length m.da'.c] u)
    (ho : Stk.OwnR 51 3 (b + 1) u (.slice a2 (m.fu.length + 1) c2) (m.fu.map Fn.v ++ [(newF b).v])) (hbx : BoxAt u b unI.vals) (hs : m.small 5000) (ht : 0 < m.ty.length) (hv : Valid m) (hm : ModAt w.heap.size w m) (hw : m.few) (hr : Rg m) :
    ∃ n' : Md, Tw w.heap.size w g m.v n'.v (u.setCell ⟨g, 2, none⟩ (.slice a2 (m.fu.length + 1) c2)) ∧ Valid n' ∧ ModAt (u.setCell ⟨g, 2, none⟩ (.slice a2 (m.fu.length + 1) c2)).heap.size (u.setCell ⟨g, 2, none⟩ (.slice a2 (m.fu.length + 1) c2)) n' ∧ n'.few ∧ Rg n' := by
  have TS := TU.s2 (.slice a2 (m.fu.length + 1) c2)
  rw [← more_v m a2 c2 (newF b)] at TS
  have HB2 := TS.2.2.1
  have hbx2 : BoxAt (u.setCell ⟨g, 2, none⟩ (.slice a2 (m.fu.length + 1) c2)) b unI.vals := fun i y hy => (World.cell?_setCell_far _ ⟨g, 2, none⟩ _ _ (show g ≠ b by omega)).trans (hbx i y hy)
  have ho2 := ho.setCell (p := ⟨g, 2, none⟩) (show g < b + 1 by omega) (.slice a2 (m.fu.length + 1) c2)
  obtain ⟨W, hW⟩ : ∃ W, W = u.setCell ⟨g, 2, none⟩ (.slice a2 (m.fu.length + 1) c2) := ⟨_, rfl⟩
  rw [← hW] at TS HB2 hbx2 ho2 ⊢
  exact ⟨more3 m ⟨a2, c2⟩ (newF b), TS, valid_more3 hs ht ⟨rfl, rfl, rfl⟩ hv, more_at hm HB2 ho2 rfl hbx2, few_more hs rfl hw, more3_rg hr⟩

set_option maxRecDepth 100000 in
set_option maxHeartbeats 1000000 in
theorem validLess_go (w : World) (m : Md) (hm : ModAt w.heap.size w m) (hf : m.fits) (hc : m.caps) (hr : Rg m) (hT : Tb w) :
    Calls Tryz.prog 7 #[.agg m.v] w fun e w' => e = .returned (.bool true) ∧ Below w.heap.size w w' := by
  have hb0 := belowAlloc w (.cells m.v 32)
  have B0 := hid hb0
  have X0 := hid (BoxAt.made w m.v 32)
  have HT := hid hT
  have HM := hid hm
  have HF := hid hf
  have HC := hid hc
  have HR := hid hr
  have C := hid (awake_m (w.alloc (.cells m.v 32)) (hT.on hb0))
  clear hb0 hT hm hf hc hr
  unfold Md.v at B0 X0 C ⊢
  go_enter Tryz.func7, Tryz.ntmps7
  go_wp2_with fail
  refine C.out.mono ?_
  rintro e w1 ⟨rfl, hb⟩
  have B1 := hid (thenB B0.out hb)
  have X1 := hid (show BoxAt w1 w.heap.size m.v from X0.out.keep hb)
  have M1 := hid (HM.out.on B1.out)
  obtain ⟨d0, d1, d2, d3, d4, d5, d6, d7, d8, d9, d10⟩ := X1.out.all
  have C2 := hid (Large_any m w1 M1.out HF.out)
  unfold Md.v at C2
  clear C hb X0 B0
  go_wp2_with fail
  refine C2.out.mono ?_
  clear C2
  rintro e w2 ⟨b, rfl, hs, hb⟩
  have B2 := hid (thenB B1.out hb)
  have X2 := hid (X1.out.keep hb)
  have M2 := hid (M1.out.on hb)
  have HS := hid hs
  clear hb hs d0 d1 d2 d3 d4 d5 d6 d7 d8 d9 d10 X1 M1 B1
  cases b with
  | true =>
    go_wp2
    go_ret
    exact ⟨rfl, B2.out⟩
  | false =>
    have HSM := hid (HS.out rfl)
    have HW := hid (small_few' HSM.out (by omega) HF.out)
    clear HS
    obtain ⟨d0, d1, d2, d3, d4, d5, d6, d7, d8, d9, d10⟩ := X2.out.all
    have C3 := hid (Check_m m w2 M2.out HW.out HR.out (HT.out.on B2.out).nt (HT.out.on B2.out).ut (HT.out.on B2.out).ar)
    unfold CheckP at C3
    rcases wrong_cases m with ⟨hw, hv⟩ | ⟨hw, hv⟩
    · rw [hw] at C3
      have HV := hid hv
      unfold Md.v Wr.v at C3
      clear hw hv
      go_wp2_with fail
      refine C3.out.mono ?_
      clear C3
      rintro e w3 ⟨rfl, hb⟩
      have B3 := hid (thenB B2.out hb)
      have X3 := hid (X2.out.keep hb)
      have M3 := hid (M2.out.on hb)
      clear hb d0 d1 d2 d3 d4 d5 d6 d7 d8 d9 d10 X2 M2 B2
      obtain ⟨d0, d1, d2, d3, d4, d5, d6, d7, d8, d9, d10⟩ := X3.out.all
      go_upto_if 20 with fail
      go_cut [] from 6 (fun wx => wx = w3.alloc (.cells #[.slice m.ty'.a m.ty.length m.ty'.c, .slice m.im'.a m.im.length m.im'.c, .slice m.fu'.a m.fu.length m.fu'.c, .slice m.tb'.a m.tb.length m.tb'.c, .slice m.me'.a m.me.length m.me'.c, .slice m.gl'.a m.gl.length m.gl'.c, .slice m.ex'.a (m.ex.length - 1) m.ex'.c, .bool m.st, .int .u32 m.sn, .slice m.el'.a m.el.length m.el'.c, .slice m.da'.a m.da.length m.da'.c] 32))
      case first =>
        have hl := HF.out.ex
        have hcp := HC.out.ex
        generalize hn : m.ex.length = n at *
        clear hn
        cases n with
        | zero =>
          clear hl hcp
          go_wp2_with fail
          go_meet
          case rel => rfl
        | succ n =>
          have e1 : ((n + 1 : Nat) : Int) = (n : Int) + 1 := by omega
          have h0 : (0 : Int) < (n : Int) + 1 := by omega
          have h0' : 0 < n + 1 := by omega
          have hcq : (n : Int) ≤ (m.ex'.c : Int) := by omega
          go_wp2_with fail
          go_meet
          case rel => rfl
      case rest =>
        subst hcut
        obtain ⟨W1, hW1⟩ : ∃ W1, W1 = w3.alloc (.cells (less1 m).v 32) := ⟨_, rfl⟩
        have b1 : Below w3.heap.size w3 W1 := by rw [hW1]; exact belowAlloc _ _
        have N1 := hid (show NB W1 w3.heap.size (less1 m).v by rw [hW1]; exact NB.made _ _)
        have B4 := hid (thenB B3.out b1)
        have X4 := hid (X3.out.keep b1)
        have M4 := hid (M3.out.on b1)
        have C4 := hid (Check_m (less1 m) W1 (at_sub (less1_sub m) (less1_lies m) M4.out) (few_sub (less1_sub m) HW.out) (less1_rg HR.out) (HT.out.on B4.out).nt (HT.out.on B4.out).ut (HT.out.on B4.out).ar)
        unfold CheckP at C4
        rw [valid_wrong (valid_less1 HV.out)] at C4
        unfold Md.v less1 Wr.v at C4
        dsimp only at C4
        simp only [List.length_dropLast] at C4
        unfold Md.v less1 at hW1
        dsimp only at hW1
        simp only [List.length_dropLast] at hW1
        clear d0 d1 d2 d3 d4 d5 d6 d7 d8 d9 d10 b1
        go_wp2_with fail
        rw [← hW1]
        refine C4.out.mono ?_
        clear C4
        rintro e w4 ⟨rfl, hb⟩
        have HG := hid (show w.heap.size < w3.heap.size from World.block_lt_of_cell? w3 _ (X3.out 0 _ rfl))
        have T4 := hid (show Tw w.heap.size w w3.heap.size m.v #[.slice m.ty'.a m.ty.length m.ty'.c, .slice m.im'.a m.im.length m.im'.c, .slice m.fu'.a m.fu.length m.fu'.c, .slice m.tb'.a m.tb.length m.tb'.c, .slice m.me'.a m.me.length m.me'.c, .slice m.gl'.a m.gl.length m.gl'.c, .slice m.ex'.a (m.ex.length - 1) m.ex'.c, .bool false, .int .u32 0, .slice m.el'.a m.el.length m.el'.c, .slice m.da'.a m.da.length m.da'.c] w4 from (show Tw w.heap.size w w3.heap.size m.v (less1 m).v W1 from ⟨N1.out, X4.out, B4.out, HG.out⟩).below B4.out.size hb |> fun h => by
          have e : (less1 m).v = #[.slice m.ty'.a m.ty.length m.ty'.c, .slice m.im'.a m.im.length m.im'.c, .slice m.fu'.a m.fu.length m.fu'.c, .slice m.tb'.a m.tb.length m.tb'.c, .slice m.me'.a m.me.length m.me'.c, .slice m.gl'.a m.gl.length m.gl'.c, .slice m.ex'.a (m.ex.length - 1) m.ex'.c, .bool false, .int .u32 0, .slice m.el'.a m.el.length m.el'.c, .slice m.da'.a m.da.length m.da'.c] := by
            unfold Md.v less1
            dsimp only
            simp only [List.length_dropLast]
          rw [← e]; exact h)
        clear hb B4 X4 M4 N1 hW1
        go_upto_region 11 with fail
        go_cut [] from 6 (fun wx => Tw w.heap.size w w3.heap.size m.v #[.slice m.ty'.a m.ty.length m.ty'.c, .slice m.im'.a m.im.length m.im'.c, .slice m.fu'.a m.fu.length m.fu'.c, .slice m.tb'.a m.tb.length m.tb'.c, .slice m.me'.a m.me.length m.me'.c, .slice m.gl'.a m.gl.length m.gl'.c, .slice m.ex'.a m.ex.length m.ex'.c, .bool m.st, .int .u32 m.sn, .slice m.el'.a m.el.length m.el'.c, .slice m.da'.a m.da.length m.da'.c] wx)
        case first =>
          obtain ⟨d0, d1, d2, d3, d4, d5, d6, d7, d8, d9, d10⟩ := T4.out.2.1.all
          obtain ⟨f0, f1, f2, f3, f4, f5, f6, f7, f8, f9, f10⟩ := T4.out.1.fs
          obtain ⟨c0, c1, c2, c3, c4, c5, c6, c7, c8, c9, c10⟩ := T4.out.1.cs
          go_wp2_with fail
          go_meet
          case rel => exact T4.out.all11 _ _ _ _ _ _ _ _ _ _ _
        case rest =>
          have T5 := hid hcut
          clear hcut T4
          obtain ⟨d0, d1, d2, d3, d4, d5, d6, d7, d8, d9, d10⟩ := T5.out.2.1.all
          obtain ⟨c0, c1, c2, c3, c4, c5, c6, c7, c8, c9, c10⟩ := T5.out.1.cs
          go_upto_if 39 with fail
          clear c0 c1 c2 c3 c4 c5 c6 c7 c8 c9 c10
          go_cut [] from 6 (fun wx => Tw w.heap.size w w3.heap.size m.v #[.slice m.ty'.a m.ty.length m.ty'.c, .slice m.im'.a m.im.length m.im'.c, .slice m.fu'.a m.fu.length m.fu'.c, .slice m.tb'.a m.tb.length m.tb'.c, .slice m.me'.a m.me.length m.me'.c, .slice m.gl'.a m.gl.length m.gl'.c, .slice m.ex'.a m.ex.length m.ex'.c, .bool m.st, .int .u32 m.sn, .slice m.el'.a m.el.length m.el'.c, .slice m.da'.a (m.da.length - 1) m.da'.c] wx)
          case first =>
            have hl := HF.out.da
            have hcp := HC.out.da
            have T := hid T5.out
            have f10 := T5.out.1.f 10
            obtain ⟨c0, c1, c2, c3, c4, c5, c6, c7, c8, c9, c10⟩ := T5.out.1.cs
            clear T5 d0 d1 d2 d3 d4 d5 d6 d7 d8 d9 d10
            generalize hn : m.da.length = n at *
            clear hn
            cases n with
            | zero =>
              clear hl hcp
              go_wp2_with fail
              go_meet
              case rel => exact T.out
            | succ n =>
              have e1 : ((n + 1 : Nat) : Int) = (n : Int) + 1 := by omega
              have h0 : (0 : Int) < (n : Int) + 1 := by omega
              have h0' : 0 < n + 1 := by omega
              have hcq : (n : Int) ≤ (m.da'.c : Int) := by omega
              go_wp2_with fail
              go_meet
              case rel => exact T.out.s10 _
          case rest =>
            have T6 := hid hcut
            clear hcut T5 d0 d1 d2 d3 d4 d5 d6 d7 d8 d9 d10
            obtain ⟨d0, d1, d2, d3, d4, d5, d6, d7, d8, d9, d10⟩ := T6.out.2.1.all
            obtain ⟨c0, c1, c2, c3, c4, c5, c6, c7, c8, c9, c10⟩ := T6.out.1.cs
            go_upto_if 51 with fail
            clear c0 c1 c2 c3 c4 c5 c6 c7 c8 c9 c10
            go_cut [] from 6 (fun wx => Tw w.heap.size w w3.heap.size m.v #[.slice m.ty'.a m.ty.length m.ty'.c, .slice m.im'.a m.im.length m.im'.c, .slice m.fu'.a m.fu.length m.fu'.c, .slice m.tb'.a m.tb.length m.tb'.c, .slice m.me'.a m.me.length m.me'.c, .slice m.gl'.a m.gl.length m.gl'.c, .slice m.ex'.a m.ex.length m.ex'.c, .bool m.st, .int .u32 m.sn, .slice m.el'.a (m.el.length - 1) m.el'.c, .slice m.da'.a (m.da.length - 1) m.da'.c] wx)
            case first =>
              have hl := HF.out.el
              have hcp := HC.out.el
              have T := hid T6.out
              have f9 := T6.out.1.f 9
              obtain ⟨c0, c1, c2, c3, c4, c5, c6, c7, c8, c9, c10⟩ := T6.out.1.cs
              clear T6 d0 d1 d2 d3 d4 d5 d6 d7 d8 d9 d10
              generalize hn : m.el.length = n at *
              clear hn
              cases n with
              | zero =>
                clear hl hcp
                go_wp2_with fail
                go_meet
                case rel => exact T.out
              | succ n =>
                have e1 : ((n + 1 : Nat) : Int) = (n : Int) + 1 := by omega
                have h0 : (0 : Int) < (n : Int) + 1 := by omega
                have h0' : 0 < n + 1 := by omega
                have hcq : (n : Int) ≤ (m.el'.c : Int) := by omega
                go_wp2_with fail
                go_meet
                case rel => exact T.out.s9 _
            case rest =>
              have T7 := hid hcut
              clear hcut T6 d0 d1 d2 d3 d4 d5 d6 d7 d8 d9 d10
              obtain ⟨c0, c1, c2, c3, c4, c5, c6, c7, c8, c9, c10⟩ := T7.out.1.cs
              have C7 := hid (Check_m (less2 m) wc (at_sub (less2_sub m) (less2_lies m) (HM.out.on T7.out.2.2.1)) (few_sub (less2_sub m) HW.out) (less2_rg HR.out) (HT.out.on T7.out.2.2.1).nt (HT.out.on T7.out.2.2.1).ut (HT.out.on T7.out.2.2.1).ar)
              unfold CheckP at C7
              rw [valid_wrong (valid_less2 HV.out)] at C7
              unfold Md.v less2 Wr.v at C7
              dsimp only at C7
              simp only [List.length_dropLast] at C7
              go_wp2_with fail
              refine C7.out.mono ?_
              clear C7
              rintro e w7 ⟨rfl, hb⟩
              have T8 := hid (T7.out.below T7.out.2.2.1.size hb)
              clear hb T7 c0 c1 c2 c3 c4 c5 c6 c7 c8 c9 c10
              go_upto_region 18 with fail
              go_cut [] from 6 (fun wx => Tw w.heap.size w w3.heap.size m.v #[.slice m.ty'.a m.ty.length m.ty'.c, .slice m.im'.a m.im.length m.im'.c, .slice m.fu'.a m.fu.length m.fu'.c, .slice m.tb'.a m.tb.length m.tb'.c, .slice m.me'.a m.me.length m.me'.c, .slice m.gl'.a m.gl.length m.gl'.c, .slice m.ex'.a m.ex.length m.ex'.c, .bool m.st, .int .u32 m.sn, .slice m.el'.a m.el.length m.el'.c, .slice m.da'.a m.da.length m.da'.c] wx)
              case first =>
                obtain ⟨d0, d1, d2, d3, d4, d5, d6, d7, d8, d9, d10⟩ := T8.out.2.1.all
                obtain ⟨f0, f1, f2, f3, f4, f5, f6, f7, f8, f9, f10⟩ := T8.out.1.fs
                obtain ⟨c0, c1, c2, c3, c4, c5, c6, c7, c8, c9, c10⟩ := T8.out.1.cs
                go_wp2_with fail
                go_meet
                case rel => exact T8.out.all11 _ _ _ _ _ _ _ _ _ _ _
              case rest =>
                have T9 := hid hcut
                clear hcut T8
                obtain ⟨d0, d1, d2, d3, d4, d5, d6, d7, d8, d9, d10⟩ := T9.out.2.1.all
                obtain ⟨c0, c1, c2, c3, c4, c5, c6, c7, c8, c9, c10⟩ := T9.out.1.cs
                go_upto_if 68 with fail
                clear c0 c1 c2 c3 c4 c5 c6 c7 c8 c9 c10
                go_cut [] from 6 (fun wx => ∃ n' : Md, Tw w.heap.size w w3.heap.size m.v n'.v wx ∧ Valid n' ∧ ModAt wx.heap.size wx n' ∧ n'.few ∧ Rg n')
                case first =>
                  have T := hid T9.out
                  obtain ⟨c0, c1, c2, c3, c4, c5, c6, c7, c8, c9, c10⟩ := T9.out.1.cs
                  obtain ⟨f0, f1, f2, f3, f4, f5, f6, f7, f8, f9, f10⟩ := T9.out.1.fs
                  have TT := hid T9.out
                  clear T9
                  generalize hn : m.ty.length = n at *
                  have HN := hid hn
                  clear hn
                  cases n with
                  | zero =>
                    go_wp2_with fail
                    go_meet
                    case rel =>
                      refine ⟨m, ⟨?_, T.out.2⟩, HV.out, HM.out.on T.out.2.2.1, HW.out, HR.out⟩
                      unfold Md.v
                      rw [HN.out]
                      exact T.out.1
                  | succ n =>
                    have e1 : ((n + 1 : Nat) : Int) = (n : Int) + 1 := by omega
                    have h0 : (0 : Int) < (n : Int) + 1 := by omega
                    have h0' : 0 < n + 1 := by omega
                    go_upto_region 21 with fail
                    obtain ⟨ys, hys⟩ : ∃ ys, m.fu.map Fn.v = ys := ⟨_, rfl⟩
                    have HYS := hid hys
                    have HNF := hid (show ys.length = m.fu.length by rw [← hys]; simp)
                    have HLF := hid (show ∀ r ∈ ys, r.length = 3 by rw [← hys]; intro r hr; obtain ⟨x, _, rfl⟩ := List.mem_map.1 hr; rfl)
                    have HOF := hid (show ∀ r ∈ ys, ∀ u ∈ r, u.oneCell' = true by rw [← hys]; intro r hr; obtain ⟨x, _, rfl⟩ := List.mem_map.1 hr; simp [Fn.v, Lst.val, Value.oneCell'])
                    have HMF := hid (show ys.length ≤ 5000 by rw [HNF.out]; have := HSM.out.lens; omega)
                    have HRF := hid (show Mod.Rows wc.heap.size wc m.fu'.a 3 ys by rw [← hys]; exact (HM.out.on T.out.2.2.1).fu)
                    clear hys c0 c1 c2 c3 c4 c5 c6 c7 c8 c9 c10 f0 f1 f2 f3 f4 f5 f6 f7 f8 f9 f10
                    have hlt := World.block_lt_of_cell? wc _ d2
                    dsimp only at hlt
                    have HLW := hid hlt
                    have HNW : Hid (∀ (u1 : World) (j : Nat) (u : Value), [(newF wc.heap.size).v].flatten[j]? = some u → (u1.alloc (.cells #[.int .i64 0, .int .i64 0, .slice (some ⟨wc.heap.size, 0, none⟩) 1 1] 51)).cell? ((⟨u1.heap.size, 0, none⟩ : Addr).add j) = some u) :=
                      hid fun u1 => World.news_of_block (heap_alloc_new u1 (.cells #[.int .i64 0, .int .i64 0, .slice (some ⟨wc.heap.size, 0, none⟩) 1 1] 51))
                    have HGT := hid T.out.1.lt
                    go_wp2_with (first
                      | (at_builtin; refine Stk.append_list infoFn rfl (by omega) (by omega) Tryz.underlying24 rfl (.tmp 71) (.tmp 73) rfl rfl (Stk.OwnR.madeG 51 3 (wc.heap.size + 1) (by simp)) (by simp) _ _ _ rfl ys HNF.out (Stk.Rows.more (by simp only [World.size_alloc]; omega) (Stk.Rows.below ((belowAlloc _ _).alloc (by simp) _) HRF.out)) HLF.out HOF.out (by have := HMF.out; omega) ?_
                         intro v1 u1 ho hb hsz
                         obtain ⟨a1, c1, hv1, -, -⟩ := Stk.OwnR.rows ho
                         rw [HNF.out] at hv1
                         subst hv1
                         have HO1 := hid ho
                         have HB1 := hid hb
                         have HS1 := hid hsz
                         clear ho hb hsz)
                      | (at_builtin; refine Stk.append_rows infoFn rfl (by omega) (by omega) Tryz.underlying24 rfl (.tmp 74) (.tmp 78) rfl (base := wc.heap.size + 1) (w0 := u1) (xs := ys) [(newF wc.heap.size).v] rfl (HO1.out.alloc _) ((Below.refl _ _).alloc HS1.out _) (by rw [World.size_alloc]; have := HS1.out; omega) ⟨u1.heap.size, 0, none⟩ 1 1 rfl rfl (by simp [newF, Fn.v]) (HNW.out u1) (by simp [newF, Fn.v, Lst.val, Value.oneCell']) (by have := HMF.out; omega) ?_
                         intro v2 u2 ho hb hsz hgrow
                         obtain ⟨a2, c2, hv2, -, -⟩ := Stk.OwnR.rows ho
                         rw [List.length_append, HNF.out, List.length_singleton] at hv2
                         have HV2 := hid hv2
                         subst hv2
                         have hch : Below (wc.heap.size + 1) (wc.alloc (.cells unI.vals 61)) u2 := (Below.alloc (Below.refl _ _) (by simp) (.cells #[] 51)).trans (HB1.out.trans hb)
                         have htu := T.out.below T.out.2.2.1.size ((belowAlloc wc (.cells unI.vals 61)).trans (hch.mono (by omega)))
                         have hbx := BoxAt.keep (w := wc.alloc (.cells unI.vals 61)) (w' := u2) (by rw [World.size_alloc]; exact hch) (BoxAt.made wc unI.vals 61)
                         have f2 := htu.1.f 2
                         have k2 := htu.1.cs.2.2.1
                         have TU := hid htu
                         have HBX := hid hbx
                         have HO2 := hid ho
                         clear ho hb hsz hgrow hch htu hbx))
                    go_meet
                    case rel =>
                      have TU' := TU.out
                      rw [← HN.out] at TU'
                      have ho' := HO2.out
                      rw [← HYS.out] at ho'
                      exact more_rel HGT.out TU' ho' HBX.out HSM.out (by rw [HN.out]; omega) HV.out HM.out HW.out HR.out
                case rest =>
                  obtain ⟨n', ht, hv, hm', hf', hr'⟩ := hcut
                  have T := hid ht
                  unfold Md.v at ht
                  obtain ⟨c0, c1, c2, c3, c4, c5, c6, c7, c8, c9, c10⟩ := ht.1.cs
                  have C10 := hid (Check_m n' wc hm' hf' hr' (HT.out.on ht.2.2.1).nt (HT.out.on ht.2.2.1).ut (HT.out.on ht.2.2.1).ar)
                  unfold CheckP at C10
                  rw [valid_wrong hv] at C10
                  unfold Md.v Wr.v at C10
                  dsimp only at C10
                  clear ht hv hm' hf' hr' d0 d1 d2 d3 d4 d5 d6 d7 d8 d9 d10 T9
                  go_wp2_with fail
                  refine C10.out.mono ?_
                  clear C10
                  rintro e w10 ⟨rfl, hb⟩
                  have B10 := hid (thenB T.out.2.2.1 hb)
                  clear hb c0 c1 c2 c3 c4 c5 c6 c7 c8 c9 c10 T
                  go_wp2
                  go_ret
                  exact ⟨rfl, B10.out⟩
    · obtain ⟨r, hr⟩ : ∃ r, wrongP m = r := ⟨_, rfl⟩
      rw [hr] at C3 hw
      obtain ⟨e0, s0, i0, a0⟩ := r
      unfold Md.v Wr.v at C3
      dsimp only at C3 hw
      have hwb : (e0 == 0) = false := by simpa using hw
      clear hr hv hw
      go_wp2_with fail
      refine C3.out.mono ?_
      clear C3
      rintro e w3 ⟨rfl, hb⟩
      have B3 := hid (thenB B2.out hb)
      clear hb d0 d1 d2 d3 d4 d5 d6 d7 d8 d9 d10
      go_wp2
      go_ret
      exact ⟨rfl, B3.out⟩
end Go.Proofs.YtaklngfibnbmcaaGreatDoor.Val
namespace Go.Proofs.YtaklngfibnbmcaaGreatDoor
open Go.RowKit
theorem validLess_walk (w : World) (m : Mod.Md) (hm : Mod.ModAt w.heap.size w m) (hf : m.fits) (hc : m.caps) (hr : m.ranged) (hT : Instr.Nams w ∧ Utf.Tabs w ∧ Num.Arit w) :
    Calls Tryz.prog 7 #[.agg m.v] w fun e w' => e = .returned (.bool true) ∧ Below w.heap.size w w' := Val.validLess_go w m hm hf hc ⟨hr.ei, hr.ef, hr.sn⟩ (Val.Tb.mk hT.1 hT.2.1 hT.2.2)
end Go.Proofs.YtaklngfibnbmcaaGreatDoor
