import Derived.Test.YtiadgkdkjinnjaaGreatDoorBun07
import Derived.Test.YtiadgkdkjinnjaaGreatDoorBun04
import Derived.Test.YtiadgkdkjinnjaaGreatDoorBun09
import Derived.Test.YtiadgkdkjinnjaaGreatDoorBun08
import Derived.RegionTactic
import Derived.BigRegion
import Derived.Deep.QuietTactic
import Derived.BigQuiet
/-
  MODULE: whether a module is more than is gone through, by contract.
-/
namespace Go.Proofs.YtiadgkdkjinnjaaGreatDoor.Mod
open Go.RowKit Go.Proofs.YtiadgkdkjinnjaaGreatDoor.Instr

/-- All in it together is little. -/
structure Md.small (m : Md) (most : Nat) : Prop where
  lens : m.ty.length + m.im.length + m.fu.length + m.tb.length + m.me.length + m.gl.length + m.ex.length + m.el.length + m.da.length ≤ most
  ls : ∀ l ∈ m.codes, l.t.weight ≤ most
  fs : ∀ e ∈ m.el, e.fs.length ≤ most
  bs : ∀ d ∈ m.da, d.bs.length ≤ most
  iS : ∀ i ∈ m.im, i.mo.size ≤ most ∧ i.na.size ≤ most
  eS : ∀ e ∈ m.ex, e.na.size ≤ most
def Large (m : Md) (w : World) (e : Ending) (w' : World) : Prop := ∃ b, e = .returned (.bool b) ∧ (b = false → m.small 5000) ∧ Below w.heap.size w w'
theorem large_true {m : Md} {w w' : World} (h : Below w.heap.size w w') : Large m w (.returned (.bool true)) w' := ⟨true, rfl, fun h => by simp at h, h⟩
theorem large_end {m : Md} {w w' : World} {N : Int} (h : Below w.heap.size w w') (hs : N ≤ 5000 → m.small 5000) : Large m w (.returned (.bool (decide (5000 < N)))) w' := ⟨_, rfl, fun hh => hs (by simpa using hh), h⟩
theorem drewQ {B : Nat} {w w' : World} (h : Below B w w') (n : Nat) : Below B w (w'.drewN n) := ⟨h.os, h.tape, h.output, h.size, h.block⟩
set_option maxHeartbeats 8000000 in
set_option maxRecDepth 100000 in
theorem Large_any (m : Md) (w : World) (hm : ModAt w.heap.size w m) (hf : m.fits) :
    Calls Tryz.prog 9 #[.agg m.v, .int .i64 5000] w (Large m w) := by
  have hb0 := (Below.refl w.heap.size w).alloc (Nat.le_refl _) (.cells m.v 32)
  have HB := hid hb0
  have HM := hid (hm.on hb0)
  have HX := hid (BoxAt.made w m.v 32)
  have HF := hid hf
  obtain ⟨ty, im, fu, tb, me, gl, ex, st, sn, el, da, ty', im', fu', tb', me', gl', ex', el', da'⟩ := m
  have b1 := hf.ty
  have b2 := hf.im
  have b3 := hf.fu
  have b4 := hf.tb
  have b5 := hf.me
  have b6 := hf.gl
  have b7 := hf.ex
  have b8 := hf.el
  have b9 := hf.da
  dsimp only at b1 b2 b3 b4 b5 b6 b7 b8 b9
  unfold Md.v at HB HM HX ⊢
  dsimp only at HB HM HX ⊢
  clear hm hf hb0
  by_cases h1 : 5000 < ty.length + im.length + fu.length + tb.length + me.length + gl.length + ex.length + el.length + da.length
  · have h1i : (5000 : Int) < (ty.length : Int) + im.length + fu.length + tb.length + me.length + gl.length + ex.length + el.length + da.length := by omega
    go_enter Tryz.func9, Tryz.ntmps9
    go_wp2
    go_ret
    exact large_true HB.out
  · have h1i : ¬ (5000 : Int) < (ty.length : Int) + im.length + fu.length + tb.length + me.length + gl.length + ex.length + el.length + da.length := by omega
    have hsum : ty.length + im.length + fu.length + tb.length + me.length + gl.length + ex.length + el.length + da.length ≤ 5000 := by omega
    have HSUM := hid hsum
    clear h1
    go_enter Tryz.func9, Tryz.ntmps9
    go_wp2
    obtain ⟨N0, hN0⟩ : ∃ N0 : Int, (ty.length : Int) + im.length + fu.length + tb.length + me.length + gl.length + ex.length + el.length + da.length = N0 := ⟨_, rfl⟩
    have l_ty : ty.length ≤ 5000 := by omega
    have l_im : im.length ≤ 5000 := by omega
    have l_fu : fu.length ≤ 5000 := by omega
    have l_tb : tb.length ≤ 5000 := by omega
    have l_me : me.length ≤ 5000 := by omega
    have l_gl : gl.length ≤ 5000 := by omega
    have l_ex : ex.length ≤ 5000 := by omega
    have l_el : el.length ≤ 5000 := by omega
    have l_da : da.length ≤ 5000 := by omega
    have hN1 : N0 ≤ 5000 := by omega
    have hN2 : 0 ≤ N0 := by omega
    have HI := hid (show (0 < fu.length ∨ 0 < gl.length ∨ 0 < el.length ∨ 0 < da.length ∨ 0 < im.length ∨ 0 < ex.length) → 1 ≤ N0 by omega)
    rw [hN0]
    clear hN0 h1i hsum b1 b2 b3 b4 b5 b6 b7 b8 b9
    generalize w.alloc (.cells #[.slice ty'.a ty.length ty'.c, .slice im'.a im.length im'.c, .slice fu'.a fu.length fu'.c, .slice tb'.a tb.length tb'.c, .slice me'.a me.length me'.c, .slice gl'.a gl.length gl'.c, .slice ex'.a ex.length ex'.c, .bool st, .int .u32 sn, .slice el'.a el.length el'.c, .slice da'.a da.length da'.c] 32) = W0 at HB HM HX ⊢
    have Xfu := hid (show W0.cell? ⟨w.heap.size, 2, none⟩ = some (.slice fu'.a fu.length fu'.c) from HX.out 2 _ rfl)
    have Rfu := hid (show Rows W0.heap.size W0 fu'.a 3 (fu.map Fn.v) from HM.out.fu)
    obtain ⟨nfu, hnfu⟩ : ∃ n, fu.length = n := ⟨_, rfl⟩
    have Lfu := hid hnfu
    rw [hnfu] at l_fu Xfu
    clear hnfu
    have Xgl := hid (show W0.cell? ⟨w.heap.size, 5, none⟩ = some (.slice gl'.a gl.length gl'.c) from HX.out 5 _ rfl)
    have Rgl := hid (show Rows W0.heap.size W0 gl'.a 2 (gl.map Gl.v) from HM.out.gl)
    obtain ⟨ngl, hngl⟩ : ∃ n, gl.length = n := ⟨_, rfl⟩
    have Lgl := hid hngl
    rw [hngl] at l_gl Xgl
    clear hngl
    have Xel := hid (show W0.cell? ⟨w.heap.size, 9, none⟩ = some (.slice el'.a el.length el'.c) from HX.out 9 _ rfl)
    have Rel := hid (show Rows W0.heap.size W0 el'.a 2 (el.map El.v) from HM.out.el)
    obtain ⟨nel, hnel⟩ : ∃ n, el.length = n := ⟨_, rfl⟩
    have Lel := hid hnel
    rw [hnel] at l_el Xel
    clear hnel
    have Xda := hid (show W0.cell? ⟨w.heap.size, 10, none⟩ = some (.slice da'.a da.length da'.c) from HX.out 10 _ rfl)
    have Rda := hid (show Rows W0.heap.size W0 da'.a 2 (da.map Da.v) from HM.out.da)
    obtain ⟨nda, hnda⟩ : ∃ n, da.length = n := ⟨_, rfl⟩
    have Lda := hid hnda
    rw [hnda] at l_da Xda
    clear hnda
    have Xim := hid (show W0.cell? ⟨w.heap.size, 1, none⟩ = some (.slice im'.a im.length im'.c) from HX.out 1 _ rfl)
    have Rim := hid (show Rows W0.heap.size W0 im'.a 3 (im.map Imp.v) from HM.out.im)
    obtain ⟨nim, hnim⟩ : ∃ n, im.length = n := ⟨_, rfl⟩
    have Lim := hid hnim
    rw [hnim] at l_im Xim
    clear hnim
    have Xex := hid (show W0.cell? ⟨w.heap.size, 6, none⟩ = some (.slice ex'.a ex.length ex'.c) from HX.out 6 _ rfl)
    have Rex := hid (show Rows W0.heap.size W0 ex'.a 3 (ex.map Ex.v) from HM.out.ex)
    obtain ⟨nex, hnex⟩ : ∃ n, ex.length = n := ⟨_, rfl⟩
    have Lex := hid hnex
    rw [hnex] at l_ex Xex
    clear hnex
    clear HX
    go_loopw [5, 6] (fun vn vi wr => ∃ (k : Nat) (N : Int), vn = .int .i64 N ∧ vi = .int .i64 k ∧ k ≤ nfu ∧ N0 ≤ N ∧ N ≤ 5000 + 20002 * (k : Int) ∧ Hid (N ≤ 5000 → (True) ∧ ∀ (j : Nat) (hj : j < fu.length), j < k → ∃ x, x = fu[j] ∧ x.l.t.weight ≤ 5000) ∧ Hid (Below W0.heap.size W0 wr)) (fun _ vi _ => nfu - (intOf vi).toNat)
    case atStart => exact ⟨0, N0, rfl, rfl, Nat.zero_le _, by omega, by omega, fun _ => ⟨trivial, fun j _ h => absurd h (Nat.not_lt_zero _)⟩, Below.refl _ _⟩
    case round =>
      obtain ⟨k, N, rfl, rfl, hk, hNa, hNb, HQ, HW⟩ := hrel
      have hbx := Go.Proofs.YtiadgkdkjinnjaaGreatDoor.keep HW.out Xfu.out
      by_cases hlt : k < nfu
      · have hkl : k < fu.length := by rw [Lfu.out]; exact hlt
        obtain ⟨b, off, ha, hb, hc⟩ := Rows.get Rfu.out hkl
        rw [ha] at hbx
        have hx : fu[k] ∈ fu := List.getElem_mem hkl
        have hLs := HM.out.ls fu[k].l (by unfold Md.codes; exact List.mem_append_left _ (List.mem_map.2 ⟨_, hx, rfl⟩))
        have hLl := HF.out.ls fu[k].l (by unfold Md.codes; exact List.mem_append_left _ (List.mem_map.2 ⟨_, hx, rfl⟩))
        obtain ⟨x, hxe⟩ : ∃ x, fu[k] = x := ⟨_, rfl⟩
        have HXE := hid hxe
        rw [hxe] at hc hLs hLl
        have cc : ∀ j, j < 3 → ∀ v, x.v[j]? = some v → wr.cell? ⟨b, off + k * 3 + j, none⟩ = some v := fun j hj v hv => (HW.out.cell (p := ⟨b, off + k * 3 + j, none⟩) hb).trans (hc j hj v hv)
        have c2 : wr.cell? ⟨b, off + k * 3 + 2, none⟩ = some (.slice x.l.a x.l.t.len x.l.c) := cc 2 (by omega) _ rfl
        have hki : (k : Int) < (nfu : Int) := by omega
        have hN1' : 1 ≤ N0 := HI.out (by omega)
        have hgo := go_bounds x.l.t 0 5000 (by omega) (by omega) (by omega)
        obtain ⟨q, hq⟩ : ∃ q, x.l.t.go 0 5000 = q := ⟨_, rfl⟩
        have C := hid (Instrs_any x.l.t.count x.l.t x.l.a x.l.t.len x.l.c 5000 wr (Nat.le_refl _) ((hLs.below HW.out).more HW.out.size) hLl (by omega) (by omega))
        rw [hq] at C hgo
        obtain ⟨hg0, hg1, hg2⟩ := hgo
        have HG := hid hg2
        have HQ' := hid (show N + q ≤ 5000 → (True) ∧ ∀ (j : Nat) (hj : j < fu.length), j < k + 1 → ∃ x, x = fu[j] ∧ x.l.t.weight ≤ 5000 from fun h => ⟨(HQ.out (by omega)).1, fun j hj hjk => by
          by_cases e : j = k
          · subst e; exact ⟨x, HXE.out.symm, by have := HG.out (by omega); omega⟩
          · exact (HQ.out (by omega)).2 j hj (by omega)⟩)
        clear hx hxe hc cc hb ha hLs hLl hq hg2
        go_wp2_with fail
        refine C.out.mono ?_
        rintro e w1 ⟨rfl, rfl⟩
        go_wp2
        go_roundw
        case rel => exact ⟨k + 1, _, rfl, by go_num, by omega, by omega, by omega, HQ', HW⟩
        case measure => simp [intOf]; omega
      · obtain rfl : k = nfu := by omega
        have HP := hid (show N ≤ 5000 → (True) ∧ ∀ x ∈ fu, x.l.t.weight ≤ 5000 from fun h => ⟨(HQ.out h).1, fun x hx => by
          obtain ⟨j, hj, rfl⟩ := List.mem_iff_getElem.1 hx
          obtain ⟨y, hy, hq⟩ := (HQ.out h).2 j hj (by rw [← Lfu.out]; exact hj)
          subst hy; exact hq⟩)
        have hNN1 : N0 ≤ N := by omega
        have hNN2 : N ≤ 100015000 := by omega
        have HBL := HW
        clear HQ hNa hNb HW hlt hk
        obtain ⟨NN, rfl⟩ : ∃ NN, NN = N := ⟨_, rfl⟩
        go_wp2
        clear hbx
        go_loopw [5, 7] (fun vn vi wr => ∃ (k : Nat) (N : Int), vn = .int .i64 N ∧ vi = .int .i64 k ∧ k ≤ ngl ∧ N0 ≤ N ∧ N ≤ 100015000 + 20002 * (k : Int) ∧ Hid (N ≤ 5000 → ((True) ∧ ∀ x ∈ fu, x.l.t.weight ≤ 5000) ∧ ∀ (j : Nat) (hj : j < gl.length), j < k → ∃ x, x = gl[j] ∧ x.l.t.weight ≤ 5000) ∧ Hid (Below W0.heap.size W0 wr)) (fun _ vi _ => ngl - (intOf vi).toNat)
        case atStart => exact ⟨0, NN, rfl, rfl, Nat.zero_le _, by omega, by omega, fun h => ⟨HP.out h, fun j _ h => absurd h (Nat.not_lt_zero _)⟩, HBL⟩
        case round =>
          clear HP HBL hNN1 hNN2
          obtain ⟨k, N, rfl, rfl, hk, hNa, hNb, HQ, HW⟩ := hrel
          have hbx := Go.Proofs.YtiadgkdkjinnjaaGreatDoor.keep HW.out Xgl.out
          by_cases hlt : k < ngl
          · have hkl : k < gl.length := by rw [Lgl.out]; exact hlt
            obtain ⟨b, off, ha, hb, hc⟩ := Rows.get Rgl.out hkl
            rw [ha] at hbx
            have hx : gl[k] ∈ gl := List.getElem_mem hkl
            have hLs := HM.out.ls gl[k].l (by unfold Md.codes; exact List.mem_append_right _ (List.mem_append_left _ (List.mem_map.2 ⟨_, hx, rfl⟩)))
            have hLl := HF.out.ls gl[k].l (by unfold Md.codes; exact List.mem_append_right _ (List.mem_append_left _ (List.mem_map.2 ⟨_, hx, rfl⟩)))
            obtain ⟨x, hxe⟩ : ∃ x, gl[k] = x := ⟨_, rfl⟩
            have HXE := hid hxe
            rw [hxe] at hc hLs hLl
            have cc : ∀ j, j < 2 → ∀ v, x.v[j]? = some v → wr.cell? ⟨b, off + k * 2 + j, none⟩ = some v := fun j hj v hv => (HW.out.cell (p := ⟨b, off + k * 2 + j, none⟩) hb).trans (hc j hj v hv)
            have c1 : wr.cell? ⟨b, off + k * 2 + 1, none⟩ = some (.slice x.l.a x.l.t.len x.l.c) := cc 1 (by omega) _ rfl
            have hki : (k : Int) < (ngl : Int) := by omega
            have hN1' : 1 ≤ N0 := HI.out (by omega)
            have hgo := go_bounds x.l.t 0 5000 (by omega) (by omega) (by omega)
            obtain ⟨q, hq⟩ : ∃ q, x.l.t.go 0 5000 = q := ⟨_, rfl⟩
            have C := hid (Instrs_any x.l.t.count x.l.t x.l.a x.l.t.len x.l.c 5000 wr (Nat.le_refl _) ((hLs.below HW.out).more HW.out.size) hLl (by omega) (by omega))
            rw [hq] at C hgo
            obtain ⟨hg0, hg1, hg2⟩ := hgo
            have HG := hid hg2
            have HQ' := hid (show N + q ≤ 5000 → ((True) ∧ ∀ x ∈ fu, x.l.t.weight ≤ 5000) ∧ ∀ (j : Nat) (hj : j < gl.length), j < k + 1 → ∃ x, x = gl[j] ∧ x.l.t.weight ≤ 5000 from fun h => ⟨(HQ.out (by omega)).1, fun j hj hjk => by
              by_cases e : j = k
              · subst e; exact ⟨x, HXE.out.symm, by have := HG.out (by omega); omega⟩
              · exact (HQ.out (by omega)).2 j hj (by omega)⟩)
            clear hx hxe hc cc hb ha hLs hLl hq hg2
            go_wp2_with fail
            refine C.out.mono ?_
            rintro e w1 ⟨rfl, rfl⟩
            go_wp2
            go_roundw
            case rel => exact ⟨k + 1, _, rfl, by go_num, by omega, by omega, by omega, HQ', HW⟩
            case measure => simp [intOf]; omega
          · obtain rfl : k = ngl := by omega
            have HP := hid (show N ≤ 5000 → ((True) ∧ ∀ x ∈ fu, x.l.t.weight ≤ 5000) ∧ ∀ x ∈ gl, x.l.t.weight ≤ 5000 from fun h => ⟨(HQ.out h).1, fun x hx => by
              obtain ⟨j, hj, rfl⟩ := List.mem_iff_getElem.1 hx
              obtain ⟨y, hy, hq⟩ := (HQ.out h).2 j hj (by rw [← Lgl.out]; exact hj)
              subst hy; exact hq⟩)
            have hNN1 : N0 ≤ N := by omega
            have hNN2 : N ≤ 200025000 := by omega
            have HBL := HW
            clear HQ hNa hNb HW hlt hk
            obtain ⟨NN, rfl⟩ : ∃ NN, NN = N := ⟨_, rfl⟩
            go_wp2
            clear hbx
            go_loopw [5, 8] (fun vn vi wr => ∃ (k : Nat) (N : Int), vn = .int .i64 N ∧ vi = .int .i64 k ∧ k ≤ nel ∧ N0 ≤ N ∧ N ≤ 200025000 + 20002 * (k : Int) ∧ Hid (N ≤ 5000 → (((True) ∧ ∀ x ∈ fu, x.l.t.weight ≤ 5000) ∧ ∀ x ∈ gl, x.l.t.weight ≤ 5000) ∧ ∀ (j : Nat) (hj : j < el.length), j < k → ∃ x, x = el[j] ∧ x.l.t.weight ≤ 5000 ∧ x.fs.length ≤ 5000) ∧ Hid (Below W0.heap.size W0 wr)) (fun _ vi _ => nel - (intOf vi).toNat)
            case atStart => exact ⟨0, NN, rfl, rfl, Nat.zero_le _, by omega, by omega, fun h => ⟨HP.out h, fun j _ h => absurd h (Nat.not_lt_zero _)⟩, HBL⟩
            case round =>
              clear HP HBL hNN1 hNN2
              obtain ⟨k, N, rfl, rfl, hk, hNa, hNb, HQ, HW⟩ := hrel
              have hbx := Go.Proofs.YtiadgkdkjinnjaaGreatDoor.keep HW.out Xel.out
              by_cases hlt : k < nel
              · have hkl : k < el.length := by rw [Lel.out]; exact hlt
                obtain ⟨b, off, ha, hb, hc⟩ := Rows.get Rel.out hkl
                rw [ha] at hbx
                have hx : el[k] ∈ el := List.getElem_mem hkl
                have hLs := HM.out.ls el[k].l (by unfold Md.codes; exact List.mem_append_right _ (List.mem_append_right _ (List.mem_append_left _ (List.mem_map.2 ⟨_, hx, rfl⟩))))
                have hLl := HF.out.ls el[k].l (by unfold Md.codes; exact List.mem_append_right _ (List.mem_append_right _ (List.mem_append_left _ (List.mem_map.2 ⟨_, hx, rfl⟩))))
                have hS := HF.out.fs _ hx
                obtain ⟨x, hxe⟩ : ∃ x, el[k] = x := ⟨_, rfl⟩
                have HXE := hid hxe
                rw [hxe] at hc hLs hLl hS
                have cc : ∀ j, j < 2 → ∀ v, x.v[j]? = some v → wr.cell? ⟨b, off + k * 2 + j, none⟩ = some v := fun j hj v hv => (HW.out.cell (p := ⟨b, off + k * 2 + j, none⟩) hb).trans (hc j hj v hv)
                have c0 : wr.cell? ⟨b, off + k * 2, none⟩ = some (.slice x.l.a x.l.t.len x.l.c) := cc 0 (by omega) _ rfl
                have c1 : wr.cell? ⟨b, off + k * 2 + 1, none⟩ = some (.slice x.fa x.fs.length x.fc) := cc 1 (by omega) _ rfl
                have hki : (k : Int) < (nel : Int) := by omega
                have hN1' : 1 ≤ N0 := HI.out (by omega)
                have hgo := go_bounds x.l.t 0 5000 (by omega) (by omega) (by omega)
                obtain ⟨q, hq⟩ : ∃ q, x.l.t.go 0 5000 = q := ⟨_, rfl⟩
                have C := hid (show ∀ a, Calls Tryz.prog 32 #[.slice x.l.a x.l.t.len x.l.c, .int .i64 5000] (wr.drewN a) fun e w' => e = .returned (.int .i64 (x.l.t.go 0 5000)) ∧ w' = wr.drewN a from fun a => (Instrs_any x.l.t.count x.l.t x.l.a x.l.t.len x.l.c 5000 _ (Nat.le_refl _) ((hLs.below (drewQ HW.out a)).more (drewQ HW.out a).size) hLl (by omega) (by omega)).mono fun e w' ⟨he, hw⟩ => ⟨he, hw.symm⟩)
                rw [hq] at C hgo
                obtain ⟨hg0, hg1, hg2⟩ := hgo
                have HG := hid hg2
                by_cases hmn : (5000 : Int) < (x.fs.length : Int)
                · have hmz : min (x.fs.length : Int) 5000 = 5000 := by omega
                  have e0 : IntKind.i64.wrap (N + q) = N + q := by rw [IntKind.wrap_i64]; omega
                  have e1 : IntKind.i64.wrap (N + q + 5000) = N + q + 5000 := by rw [IntKind.wrap_i64]; omega
                  have HQ' := hid (show N + q + 5000 ≤ 5000 → (((True) ∧ ∀ x ∈ fu, x.l.t.weight ≤ 5000) ∧ ∀ x ∈ gl, x.l.t.weight ≤ 5000) ∧ ∀ (j : Nat) (hj : j < el.length), j < k + 1 → ∃ x, x = el[j] ∧ x.l.t.weight ≤ 5000 ∧ x.fs.length ≤ 5000 from fun h => ⟨(HQ.out (by omega)).1, fun j hj hjk => by
                    by_cases e : j = k
                    · subst e; exact ⟨x, HXE.out.symm, by have := HG.out (by omega); omega, by omega⟩
                    · exact (HQ.out (by omega)).2 j hj (by omega)⟩)
                  have hz1 := show N0 ≤ N + q + 5000 by omega
                  have hz2 := show N + q + 5000 ≤ 200025000 + 20002 * ((k + 1 : Nat) : Int) by omega
                  clear hx hxe hc cc hb ha hLs hLl hq hg2
                  go_wp2
                  go_quiet ((go_at_call 32; exact Calls.quiet_of_same (C.out _)))
                  go_wp2
                  go_roundw
                  case rel => exact ⟨k + 1, _, rfl, by go_num, by omega, hz1, hz2, HQ', drewQ HW.out _⟩
                  case measure => simp [intOf]; omega
                · have hmz : min (x.fs.length : Int) 5000 = (x.fs.length : Int) := by omega
                  have e0 : IntKind.i64.wrap (N + q) = N + q := by rw [IntKind.wrap_i64]; omega
                  have e1 : IntKind.i64.wrap (N + q + (x.fs.length : Int)) = N + q + (x.fs.length : Int) := by rw [IntKind.wrap_i64]; omega
                  have HQ' := hid (show N + q + (x.fs.length : Int) ≤ 5000 → (((True) ∧ ∀ x ∈ fu, x.l.t.weight ≤ 5000) ∧ ∀ x ∈ gl, x.l.t.weight ≤ 5000) ∧ ∀ (j : Nat) (hj : j < el.length), j < k + 1 → ∃ x, x = el[j] ∧ x.l.t.weight ≤ 5000 ∧ x.fs.length ≤ 5000 from fun h => ⟨(HQ.out (by omega)).1, fun j hj hjk => by
                    by_cases e : j = k
                    · subst e; exact ⟨x, HXE.out.symm, by have := HG.out (by omega); omega, by omega⟩
                    · exact (HQ.out (by omega)).2 j hj (by omega)⟩)
                  have hz1 := show N0 ≤ N + q + (x.fs.length : Int) by omega
                  have hz2 := show N + q + (x.fs.length : Int) ≤ 200025000 + 20002 * ((k + 1 : Nat) : Int) by omega
                  clear hx hxe hc cc hb ha hLs hLl hq hg2
                  go_wp2
                  go_quiet ((go_at_call 32; exact Calls.quiet_of_same (C.out _)))
                  go_wp2
                  go_roundw
                  case rel => exact ⟨k + 1, _, rfl, by go_num, by omega, hz1, hz2, HQ', drewQ HW.out _⟩
                  case measure => simp [intOf]; omega
              · obtain rfl : k = nel := by omega
                have HP := hid (show N ≤ 5000 → (((True) ∧ ∀ x ∈ fu, x.l.t.weight ≤ 5000) ∧ ∀ x ∈ gl, x.l.t.weight ≤ 5000) ∧ ∀ x ∈ el, x.l.t.weight ≤ 5000 ∧ x.fs.length ≤ 5000 from fun h => ⟨(HQ.out h).1, fun x hx => by
                  obtain ⟨j, hj, rfl⟩ := List.mem_iff_getElem.1 hx
                  obtain ⟨y, hy, hq⟩ := (HQ.out h).2 j hj (by rw [← Lel.out]; exact hj)
                  subst hy; exact hq⟩)
                have hNN1 : N0 ≤ N := by omega
                have hNN2 : N ≤ 300035000 := by omega
                have HBL := HW
                clear HQ hNa hNb HW hlt hk
                obtain ⟨NN, rfl⟩ : ∃ NN, NN = N := ⟨_, rfl⟩
                go_wp2
                clear hbx
                go_loopw [5, 9] (fun vn vi wr => ∃ (k : Nat) (N : Int), vn = .int .i64 N ∧ vi = .int .i64 k ∧ k ≤ nda ∧ N0 ≤ N ∧ N ≤ 300035000 + 20002 * (k : Int) ∧ Hid (N ≤ 5000 → ((((True) ∧ ∀ x ∈ fu, x.l.t.weight ≤ 5000) ∧ ∀ x ∈ gl, x.l.t.weight ≤ 5000) ∧ ∀ x ∈ el, x.l.t.weight ≤ 5000 ∧ x.fs.length ≤ 5000) ∧ ∀ (j : Nat) (hj : j < da.length), j < k → ∃ x, x = da[j] ∧ x.l.t.weight ≤ 5000 ∧ x.bs.length ≤ 5000) ∧ Hid (Below W0.heap.size W0 wr)) (fun _ vi _ => nda - (intOf vi).toNat)
                case atStart => exact ⟨0, NN, rfl, rfl, Nat.zero_le _, by omega, by omega, fun h => ⟨HP.out h, fun j _ h => absurd h (Nat.not_lt_zero _)⟩, HBL⟩
                case round =>
                  clear HP HBL hNN1 hNN2
                  obtain ⟨k, N, rfl, rfl, hk, hNa, hNb, HQ, HW⟩ := hrel
                  have hbx := Go.Proofs.YtiadgkdkjinnjaaGreatDoor.keep HW.out Xda.out
                  by_cases hlt : k < nda
                  · have hkl : k < da.length := by rw [Lda.out]; exact hlt
                    obtain ⟨b, off, ha, hb, hc⟩ := Rows.get Rda.out hkl
                    rw [ha] at hbx
                    have hx : da[k] ∈ da := List.getElem_mem hkl
                    have hLs := HM.out.ls da[k].l (by unfold Md.codes; exact List.mem_append_right _ (List.mem_append_right _ (List.mem_append_right _ (List.mem_map.2 ⟨_, hx, rfl⟩))))
                    have hLl := HF.out.ls da[k].l (by unfold Md.codes; exact List.mem_append_right _ (List.mem_append_right _ (List.mem_append_right _ (List.mem_map.2 ⟨_, hx, rfl⟩))))
                    have hS := HF.out.bs _ hx
                    obtain ⟨x, hxe⟩ : ∃ x, da[k] = x := ⟨_, rfl⟩
                    have HXE := hid hxe
                    rw [hxe] at hc hLs hLl hS
                    have cc : ∀ j, j < 2 → ∀ v, x.v[j]? = some v → wr.cell? ⟨b, off + k * 2 + j, none⟩ = some v := fun j hj v hv => (HW.out.cell (p := ⟨b, off + k * 2 + j, none⟩) hb).trans (hc j hj v hv)
                    have c0 : wr.cell? ⟨b, off + k * 2, none⟩ = some (.slice x.l.a x.l.t.len x.l.c) := cc 0 (by omega) _ rfl
                    have c1 : wr.cell? ⟨b, off + k * 2 + 1, none⟩ = some (.slice x.ba x.bs.length x.bc) := cc 1 (by omega) _ rfl
                    have hki : (k : Int) < (nda : Int) := by omega
                    have hN1' : 1 ≤ N0 := HI.out (by omega)
                    have hgo := go_bounds x.l.t 0 5000 (by omega) (by omega) (by omega)
                    obtain ⟨q, hq⟩ : ∃ q, x.l.t.go 0 5000 = q := ⟨_, rfl⟩
                    have C := hid (show ∀ a, Calls Tryz.prog 32 #[.slice x.l.a x.l.t.len x.l.c, .int .i64 5000] (wr.drewN a) fun e w' => e = .returned (.int .i64 (x.l.t.go 0 5000)) ∧ w' = wr.drewN a from fun a => (Instrs_any x.l.t.count x.l.t x.l.a x.l.t.len x.l.c 5000 _ (Nat.le_refl _) ((hLs.below (drewQ HW.out a)).more (drewQ HW.out a).size) hLl (by omega) (by omega)).mono fun e w' ⟨he, hw⟩ => ⟨he, hw.symm⟩)
                    rw [hq] at C hgo
                    obtain ⟨hg0, hg1, hg2⟩ := hgo
                    have HG := hid hg2
                    by_cases hmn : (5000 : Int) < (x.bs.length : Int)
                    · have hmz : min (x.bs.length : Int) 5000 = 5000 := by omega
                      have e0 : IntKind.i64.wrap (N + q) = N + q := by rw [IntKind.wrap_i64]; omega
                      have e1 : IntKind.i64.wrap (N + q + 5000) = N + q + 5000 := by rw [IntKind.wrap_i64]; omega
                      have HQ' := hid (show N + q + 5000 ≤ 5000 → ((((True) ∧ ∀ x ∈ fu, x.l.t.weight ≤ 5000) ∧ ∀ x ∈ gl, x.l.t.weight ≤ 5000) ∧ ∀ x ∈ el, x.l.t.weight ≤ 5000 ∧ x.fs.length ≤ 5000) ∧ ∀ (j : Nat) (hj : j < da.length), j < k + 1 → ∃ x, x = da[j] ∧ x.l.t.weight ≤ 5000 ∧ x.bs.length ≤ 5000 from fun h => ⟨(HQ.out (by omega)).1, fun j hj hjk => by
                        by_cases e : j = k
                        · subst e; exact ⟨x, HXE.out.symm, by have := HG.out (by omega); omega, by omega⟩
                        · exact (HQ.out (by omega)).2 j hj (by omega)⟩)
                      have hz1 := show N0 ≤ N + q + 5000 by omega
                      have hz2 := show N + q + 5000 ≤ 300035000 + 20002 * ((k + 1 : Nat) : Int) by omega
                      clear hx hxe hc cc hb ha hLs hLl hq hg2
                      go_wp2
                      go_quiet ((go_at_call 32; exact Calls.quiet_of_same (C.out _)))
                      go_wp2
                      go_roundw
                      case rel => exact ⟨k + 1, _, rfl, by go_num, by omega, hz1, hz2, HQ', drewQ HW.out _⟩
                      case measure => simp [intOf]; omega
                    · have hmz : min (x.bs.length : Int) 5000 = (x.bs.length : Int) := by omega
                      have e0 : IntKind.i64.wrap (N + q) = N + q := by rw [IntKind.wrap_i64]; omega
                      have e1 : IntKind.i64.wrap (N + q + (x.bs.length : Int)) = N + q + (x.bs.length : Int) := by rw [IntKind.wrap_i64]; omega
                      have HQ' := hid (show N + q + (x.bs.length : Int) ≤ 5000 → ((((True) ∧ ∀ x ∈ fu, x.l.t.weight ≤ 5000) ∧ ∀ x ∈ gl, x.l.t.weight ≤ 5000) ∧ ∀ x ∈ el, x.l.t.weight ≤ 5000 ∧ x.fs.length ≤ 5000) ∧ ∀ (j : Nat) (hj : j < da.length), j < k + 1 → ∃ x, x = da[j] ∧ x.l.t.weight ≤ 5000 ∧ x.bs.length ≤ 5000 from fun h => ⟨(HQ.out (by omega)).1, fun j hj hjk => by
                        by_cases e : j = k
                        · subst e; exact ⟨x, HXE.out.symm, by have := HG.out (by omega); omega, by omega⟩
                        · exact (HQ.out (by omega)).2 j hj (by omega)⟩)
                      have hz1 := show N0 ≤ N + q + (x.bs.length : Int) by omega
                      have hz2 := show N + q + (x.bs.length : Int) ≤ 300035000 + 20002 * ((k + 1 : Nat) : Int) by omega
                      clear hx hxe hc cc hb ha hLs hLl hq hg2
                      go_wp2
                      go_quiet ((go_at_call 32; exact Calls.quiet_of_same (C.out _)))
                      go_wp2
                      go_roundw
                      case rel => exact ⟨k + 1, _, rfl, by go_num, by omega, hz1, hz2, HQ', drewQ HW.out _⟩
                      case measure => simp [intOf]; omega
                  · obtain rfl : k = nda := by omega
                    have HP := hid (show N ≤ 5000 → ((((True) ∧ ∀ x ∈ fu, x.l.t.weight ≤ 5000) ∧ ∀ x ∈ gl, x.l.t.weight ≤ 5000) ∧ ∀ x ∈ el, x.l.t.weight ≤ 5000 ∧ x.fs.length ≤ 5000) ∧ ∀ x ∈ da, x.l.t.weight ≤ 5000 ∧ x.bs.length ≤ 5000 from fun h => ⟨(HQ.out h).1, fun x hx => by
                      obtain ⟨j, hj, rfl⟩ := List.mem_iff_getElem.1 hx
                      obtain ⟨y, hy, hq⟩ := (HQ.out h).2 j hj (by rw [← Lda.out]; exact hj)
                      subst hy; exact hq⟩)
                    have hNN1 : N0 ≤ N := by omega
                    have hNN2 : N ≤ 400045000 := by omega
                    have HBL := HW
                    clear HQ hNa hNb HW hlt hk
                    obtain ⟨NN, rfl⟩ : ∃ NN, NN = N := ⟨_, rfl⟩
                    go_wp2
                    clear hbx
                    go_loopw [5, 10] (fun vn vi wr => ∃ (k : Nat) (N : Int), vn = .int .i64 N ∧ vi = .int .i64 k ∧ k ≤ nim ∧ N0 ≤ N ∧ N ≤ 400045000 + 20002 * (k : Int) ∧ Hid (N ≤ 5000 → (((((True) ∧ ∀ x ∈ fu, x.l.t.weight ≤ 5000) ∧ ∀ x ∈ gl, x.l.t.weight ≤ 5000) ∧ ∀ x ∈ el, x.l.t.weight ≤ 5000 ∧ x.fs.length ≤ 5000) ∧ ∀ x ∈ da, x.l.t.weight ≤ 5000 ∧ x.bs.length ≤ 5000) ∧ ∀ (j : Nat) (hj : j < im.length), j < k → ∃ x, x = im[j] ∧ x.mo.size ≤ 5000 ∧ x.na.size ≤ 5000) ∧ Hid (Below W0.heap.size W0 wr)) (fun _ vi _ => nim - (intOf vi).toNat)
                    case atStart => exact ⟨0, NN, rfl, rfl, Nat.zero_le _, by omega, by omega, fun h => ⟨HP.out h, fun j _ h => absurd h (Nat.not_lt_zero _)⟩, HBL⟩
                    case round =>
                      clear HP HBL hNN1 hNN2
                      obtain ⟨k, N, rfl, rfl, hk, hNa, hNb, HQ, HW⟩ := hrel
                      have hbx := Go.Proofs.YtiadgkdkjinnjaaGreatDoor.keep HW.out Xim.out
                      by_cases hlt : k < nim
                      · have hkl : k < im.length := by rw [Lim.out]; exact hlt
                        obtain ⟨b, off, ha, hb, hc⟩ := Rows.get Rim.out hkl
                        rw [ha] at hbx
                        have hx : im[k] ∈ im := List.getElem_mem hkl
                        have hS := HF.out.iS _ hx
                        obtain ⟨x, hxe⟩ : ∃ x, im[k] = x := ⟨_, rfl⟩
                        have HXE := hid hxe
                        rw [hxe] at hc hS
                        have cc : ∀ j, j < 3 → ∀ v, x.v[j]? = some v → wr.cell? ⟨b, off + k * 3 + j, none⟩ = some v := fun j hj v hv => (HW.out.cell (p := ⟨b, off + k * 3 + j, none⟩) hb).trans (hc j hj v hv)
                        have c0 : wr.cell? ⟨b, off + k * 3, none⟩ = some (.string x.mo) := cc 0 (by omega) _ rfl
                        have c1 : wr.cell? ⟨b, off + k * 3 + 1, none⟩ = some (.string x.na) := cc 1 (by omega) _ rfl
                        have hki : (k : Int) < (nim : Int) := by omega
                        have hN1' : 1 ≤ N0 := HI.out (by omega)
                        by_cases hm1 : (5000 : Int) < (x.mo.size : Int)
                        · by_cases hm2 : (5000 : Int) < (x.na.size : Int)
                          · have hmz : min (x.mo.size : Int) 5000 = 5000 := by omega
                            have hmy : min (x.na.size : Int) 5000 = 5000 := by omega
                            have e0 : IntKind.i64.wrap (N + 5000) = N + 5000 := by rw [IntKind.wrap_i64]; omega
                            have e1 : IntKind.i64.wrap (N + 5000 + 5000) = N + 5000 + 5000 := by rw [IntKind.wrap_i64]; omega
                            have HQ' := hid (show N + 5000 + 5000 ≤ 5000 → (((((True) ∧ ∀ x ∈ fu, x.l.t.weight ≤ 5000) ∧ ∀ x ∈ gl, x.l.t.weight ≤ 5000) ∧ ∀ x ∈ el, x.l.t.weight ≤ 5000 ∧ x.fs.length ≤ 5000) ∧ ∀ x ∈ da, x.l.t.weight ≤ 5000 ∧ x.bs.length ≤ 5000) ∧ ∀ (j : Nat) (hj : j < im.length), j < k + 1 → ∃ x, x = im[j] ∧ x.mo.size ≤ 5000 ∧ x.na.size ≤ 5000 from fun h => ⟨(HQ.out (by omega)).1, fun j hj hjk => by
                              by_cases e : j = k
                              · subst e; exact ⟨x, HXE.out.symm, by omega, by omega⟩
                              · exact (HQ.out (by omega)).2 j hj (by omega)⟩)
                            have hz1 := show N0 ≤ N + 5000 + 5000 by omega
                            have hz2 := show N + 5000 + 5000 ≤ 400045000 + 20002 * ((k + 1 : Nat) : Int) by omega
                            clear hx hxe hc cc hb ha
                            go_wp2
                            go_quiet (fail)
                            go_wp2
                            go_roundw
                            case rel => exact ⟨k + 1, _, rfl, by go_num, by omega, hz1, hz2, HQ', drewQ HW.out _⟩
                            case measure => simp [intOf]; omega
                          · have hmz : min (x.mo.size : Int) 5000 = 5000 := by omega
                            have hmy : min (x.na.size : Int) 5000 = (x.na.size : Int) := by omega
                            have e0 : IntKind.i64.wrap (N + 5000) = N + 5000 := by rw [IntKind.wrap_i64]; omega
                            have e1 : IntKind.i64.wrap (N + 5000 + (x.na.size : Int)) = N + 5000 + (x.na.size : Int) := by rw [IntKind.wrap_i64]; omega
                            have HQ' := hid (show N + 5000 + (x.na.size : Int) ≤ 5000 → (((((True) ∧ ∀ x ∈ fu, x.l.t.weight ≤ 5000) ∧ ∀ x ∈ gl, x.l.t.weight ≤ 5000) ∧ ∀ x ∈ el, x.l.t.weight ≤ 5000 ∧ x.fs.length ≤ 5000) ∧ ∀ x ∈ da, x.l.t.weight ≤ 5000 ∧ x.bs.length ≤ 5000) ∧ ∀ (j : Nat) (hj : j < im.length), j < k + 1 → ∃ x, x = im[j] ∧ x.mo.size ≤ 5000 ∧ x.na.size ≤ 5000 from fun h => ⟨(HQ.out (by omega)).1, fun j hj hjk => by
                              by_cases e : j = k
                              · subst e; exact ⟨x, HXE.out.symm, by omega, by omega⟩
                              · exact (HQ.out (by omega)).2 j hj (by omega)⟩)
                            have hz1 := show N0 ≤ N + 5000 + (x.na.size : Int) by omega
                            have hz2 := show N + 5000 + (x.na.size : Int) ≤ 400045000 + 20002 * ((k + 1 : Nat) : Int) by omega
                            clear hx hxe hc cc hb ha
                            go_wp2
                            go_quiet (fail)
                            go_wp2
                            go_roundw
                            case rel => exact ⟨k + 1, _, rfl, by go_num, by omega, hz1, hz2, HQ', drewQ HW.out _⟩
                            case measure => simp [intOf]; omega
                        · by_cases hm2 : (5000 : Int) < (x.na.size : Int)
                          · have hmz : min (x.mo.size : Int) 5000 = (x.mo.size : Int) := by omega
                            have hmy : min (x.na.size : Int) 5000 = 5000 := by omega
                            have e0 : IntKind.i64.wrap (N + (x.mo.size : Int)) = N + (x.mo.size : Int) := by rw [IntKind.wrap_i64]; omega
                            have e1 : IntKind.i64.wrap (N + (x.mo.size : Int) + 5000) = N + (x.mo.size : Int) + 5000 := by rw [IntKind.wrap_i64]; omega
                            have HQ' := hid (show N + (x.mo.size : Int) + 5000 ≤ 5000 → (((((True) ∧ ∀ x ∈ fu, x.l.t.weight ≤ 5000) ∧ ∀ x ∈ gl, x.l.t.weight ≤ 5000) ∧ ∀ x ∈ el, x.l.t.weight ≤ 5000 ∧ x.fs.length ≤ 5000) ∧ ∀ x ∈ da, x.l.t.weight ≤ 5000 ∧ x.bs.length ≤ 5000) ∧ ∀ (j : Nat) (hj : j < im.length), j < k + 1 → ∃ x, x = im[j] ∧ x.mo.size ≤ 5000 ∧ x.na.size ≤ 5000 from fun h => ⟨(HQ.out (by omega)).1, fun j hj hjk => by
                              by_cases e : j = k
                              · subst e; exact ⟨x, HXE.out.symm, by omega, by omega⟩
                              · exact (HQ.out (by omega)).2 j hj (by omega)⟩)
                            have hz1 := show N0 ≤ N + (x.mo.size : Int) + 5000 by omega
                            have hz2 := show N + (x.mo.size : Int) + 5000 ≤ 400045000 + 20002 * ((k + 1 : Nat) : Int) by omega
                            clear hx hxe hc cc hb ha
                            go_wp2
                            go_quiet (fail)
                            go_wp2
                            go_roundw
                            case rel => exact ⟨k + 1, _, rfl, by go_num, by omega, hz1, hz2, HQ', drewQ HW.out _⟩
                            case measure => simp [intOf]; omega
                          · have hmz : min (x.mo.size : Int) 5000 = (x.mo.size : Int) := by omega
                            have hmy : min (x.na.size : Int) 5000 = (x.na.size : Int) := by omega
                            have e0 : IntKind.i64.wrap (N + (x.mo.size : Int)) = N + (x.mo.size : Int) := by rw [IntKind.wrap_i64]; omega
                            have e1 : IntKind.i64.wrap (N + (x.mo.size : Int) + (x.na.size : Int)) = N + (x.mo.size : Int) + (x.na.size : Int) := by rw [IntKind.wrap_i64]; omega
                            have HQ' := hid (show N + (x.mo.size : Int) + (x.na.size : Int) ≤ 5000 → (((((True) ∧ ∀ x ∈ fu, x.l.t.weight ≤ 5000) ∧ ∀ x ∈ gl, x.l.t.weight ≤ 5000) ∧ ∀ x ∈ el, x.l.t.weight ≤ 5000 ∧ x.fs.length ≤ 5000) ∧ ∀ x ∈ da, x.l.t.weight ≤ 5000 ∧ x.bs.length ≤ 5000) ∧ ∀ (j : Nat) (hj : j < im.length), j < k + 1 → ∃ x, x = im[j] ∧ x.mo.size ≤ 5000 ∧ x.na.size ≤ 5000 from fun h => ⟨(HQ.out (by omega)).1, fun j hj hjk => by
                              by_cases e : j = k
                              · subst e; exact ⟨x, HXE.out.symm, by omega, by omega⟩
                              · exact (HQ.out (by omega)).2 j hj (by omega)⟩)
                            have hz1 := show N0 ≤ N + (x.mo.size : Int) + (x.na.size : Int) by omega
                            have hz2 := show N + (x.mo.size : Int) + (x.na.size : Int) ≤ 400045000 + 20002 * ((k + 1 : Nat) : Int) by omega
                            clear hx hxe hc cc hb ha
                            go_wp2
                            go_quiet (fail)
                            go_wp2
                            go_roundw
                            case rel => exact ⟨k + 1, _, rfl, by go_num, by omega, hz1, hz2, HQ', drewQ HW.out _⟩
                            case measure => simp [intOf]; omega
                      · obtain rfl : k = nim := by omega
                        have HP := hid (show N ≤ 5000 → (((((True) ∧ ∀ x ∈ fu, x.l.t.weight ≤ 5000) ∧ ∀ x ∈ gl, x.l.t.weight ≤ 5000) ∧ ∀ x ∈ el, x.l.t.weight ≤ 5000 ∧ x.fs.length ≤ 5000) ∧ ∀ x ∈ da, x.l.t.weight ≤ 5000 ∧ x.bs.length ≤ 5000) ∧ ∀ x ∈ im, x.mo.size ≤ 5000 ∧ x.na.size ≤ 5000 from fun h => ⟨(HQ.out h).1, fun x hx => by
                          obtain ⟨j, hj, rfl⟩ := List.mem_iff_getElem.1 hx
                          obtain ⟨y, hy, hq⟩ := (HQ.out h).2 j hj (by rw [← Lim.out]; exact hj)
                          subst hy; exact hq⟩)
                        have hNN1 : N0 ≤ N := by omega
                        have hNN2 : N ≤ 500055000 := by omega
                        have HBL := HW
                        clear HQ hNa hNb HW hlt hk
                        obtain ⟨NN, rfl⟩ : ∃ NN, NN = N := ⟨_, rfl⟩
                        go_wp2
                        clear hbx
                        go_loopw [5, 11] (fun vn vi wr => ∃ (k : Nat) (N : Int), vn = .int .i64 N ∧ vi = .int .i64 k ∧ k ≤ nex ∧ N0 ≤ N ∧ N ≤ 500055000 + 20002 * (k : Int) ∧ Hid (N ≤ 5000 → ((((((True) ∧ ∀ x ∈ fu, x.l.t.weight ≤ 5000) ∧ ∀ x ∈ gl, x.l.t.weight ≤ 5000) ∧ ∀ x ∈ el, x.l.t.weight ≤ 5000 ∧ x.fs.length ≤ 5000) ∧ ∀ x ∈ da, x.l.t.weight ≤ 5000 ∧ x.bs.length ≤ 5000) ∧ ∀ x ∈ im, x.mo.size ≤ 5000 ∧ x.na.size ≤ 5000) ∧ ∀ (j : Nat) (hj : j < ex.length), j < k → ∃ x, x = ex[j] ∧ x.na.size ≤ 5000) ∧ Hid (Below W0.heap.size W0 wr)) (fun _ vi _ => nex - (intOf vi).toNat)
                        case atStart => exact ⟨0, NN, rfl, rfl, Nat.zero_le _, by omega, by omega, fun h => ⟨HP.out h, fun j _ h => absurd h (Nat.not_lt_zero _)⟩, HBL⟩
                        case round =>
                          clear HP HBL hNN1 hNN2
                          obtain ⟨k, N, rfl, rfl, hk, hNa, hNb, HQ, HW⟩ := hrel
                          have hbx := Go.Proofs.YtiadgkdkjinnjaaGreatDoor.keep HW.out Xex.out
                          by_cases hlt : k < nex
                          · have hkl : k < ex.length := by rw [Lex.out]; exact hlt
                            obtain ⟨b, off, ha, hb, hc⟩ := Rows.get Rex.out hkl
                            rw [ha] at hbx
                            have hx : ex[k] ∈ ex := List.getElem_mem hkl
                            have hS := HF.out.eS _ hx
                            obtain ⟨x, hxe⟩ : ∃ x, ex[k] = x := ⟨_, rfl⟩
                            have HXE := hid hxe
                            rw [hxe] at hc hS
                            have cc : ∀ j, j < 3 → ∀ v, x.v[j]? = some v → wr.cell? ⟨b, off + k * 3 + j, none⟩ = some v := fun j hj v hv => (HW.out.cell (p := ⟨b, off + k * 3 + j, none⟩) hb).trans (hc j hj v hv)
                            have c0 : wr.cell? ⟨b, off + k * 3, none⟩ = some (.string x.na) := cc 0 (by omega) _ rfl
                            have hki : (k : Int) < (nex : Int) := by omega
                            have hN1' : 1 ≤ N0 := HI.out (by omega)
                            by_cases hmn : (5000 : Int) < (x.na.size : Int)
                            · have hmz : min (x.na.size : Int) 5000 = 5000 := by omega
                              have HQ' := hid (show N + 5000 ≤ 5000 → ((((((True) ∧ ∀ x ∈ fu, x.l.t.weight ≤ 5000) ∧ ∀ x ∈ gl, x.l.t.weight ≤ 5000) ∧ ∀ x ∈ el, x.l.t.weight ≤ 5000 ∧ x.fs.length ≤ 5000) ∧ ∀ x ∈ da, x.l.t.weight ≤ 5000 ∧ x.bs.length ≤ 5000) ∧ ∀ x ∈ im, x.mo.size ≤ 5000 ∧ x.na.size ≤ 5000) ∧ ∀ (j : Nat) (hj : j < ex.length), j < k + 1 → ∃ x, x = ex[j] ∧ x.na.size ≤ 5000 from fun h => ⟨(HQ.out (by omega)).1, fun j hj hjk => by
                                by_cases e : j = k
                                · subst e; exact ⟨x, HXE.out.symm, by omega⟩
                                · exact (HQ.out (by omega)).2 j hj (by omega)⟩)
                              clear hx hxe hc cc hb ha
                              go_wp2
                              go_roundw
                              case rel => exact ⟨k + 1, _, rfl, by go_num, by omega, by omega, by omega, HQ', HW⟩
                              case measure => simp [intOf]; omega
                            · have hmz : min (x.na.size : Int) 5000 = (x.na.size : Int) := by omega
                              have HQ' := hid (show N + (x.na.size : Int) ≤ 5000 → ((((((True) ∧ ∀ x ∈ fu, x.l.t.weight ≤ 5000) ∧ ∀ x ∈ gl, x.l.t.weight ≤ 5000) ∧ ∀ x ∈ el, x.l.t.weight ≤ 5000 ∧ x.fs.length ≤ 5000) ∧ ∀ x ∈ da, x.l.t.weight ≤ 5000 ∧ x.bs.length ≤ 5000) ∧ ∀ x ∈ im, x.mo.size ≤ 5000 ∧ x.na.size ≤ 5000) ∧ ∀ (j : Nat) (hj : j < ex.length), j < k + 1 → ∃ x, x = ex[j] ∧ x.na.size ≤ 5000 from fun h => ⟨(HQ.out (by omega)).1, fun j hj hjk => by
                                by_cases e : j = k
                                · subst e; exact ⟨x, HXE.out.symm, by omega⟩
                                · exact (HQ.out (by omega)).2 j hj (by omega)⟩)
                              clear hx hxe hc cc hb ha
                              go_wp2
                              go_roundw
                              case rel => exact ⟨k + 1, _, rfl, by go_num, by omega, by omega, by omega, HQ', HW⟩
                              case measure => simp [intOf]; omega
                          · obtain rfl : k = nex := by omega
                            have HP := hid (show N ≤ 5000 → ((((((True) ∧ ∀ x ∈ fu, x.l.t.weight ≤ 5000) ∧ ∀ x ∈ gl, x.l.t.weight ≤ 5000) ∧ ∀ x ∈ el, x.l.t.weight ≤ 5000 ∧ x.fs.length ≤ 5000) ∧ ∀ x ∈ da, x.l.t.weight ≤ 5000 ∧ x.bs.length ≤ 5000) ∧ ∀ x ∈ im, x.mo.size ≤ 5000 ∧ x.na.size ≤ 5000) ∧ ∀ x ∈ ex, x.na.size ≤ 5000 from fun h => ⟨(HQ.out h).1, fun x hx => by
                              obtain ⟨j, hj, rfl⟩ := List.mem_iff_getElem.1 hx
                              obtain ⟨y, hy, hq⟩ := (HQ.out h).2 j hj (by rw [← Lex.out]; exact hj)
                              subst hy; exact hq⟩)
                            have hNN1 : N0 ≤ N := by omega
                            have hNN2 : N ≤ 600065000 := by omega
                            have HBL := HW
                            clear HQ hNa hNb HW hlt hk
                            have HZ := hid (large_end (m := (⟨ty, im, fu, tb, me, gl, ex, st, sn, el, da, ty', im', fu', tb', me', gl', ex', el', da'⟩ : Md)) (N := N) (HB.out.trans (HBL.out.mono HB.out.size)) (fun h => by
                              obtain ⟨⟨⟨⟨⟨⟨_, z1⟩, z2⟩, z3⟩, z4⟩, z5⟩, z6⟩ := HP.out h
                              refine ⟨HSUM.out, fun l hl => ?_, fun e he => (z3 e he).2, fun d hd => (z4 d hd).2, z5, z6⟩
                              unfold Md.codes at hl
                              simp only [List.mem_append, List.mem_map] at hl
                              rcases hl with ⟨x, hx, rfl⟩ | ⟨x, hx, rfl⟩ | ⟨x, hx, rfl⟩ | ⟨x, hx, rfl⟩
                              · exact z1 x hx
                              · exact z2 x hx
                              · exact (z3 x hx).1
                              · exact (z4 x hx).1))
                            go_wp2
                            go_ret
                            exact HZ.out
end Go.Proofs.YtiadgkdkjinnjaaGreatDoor.Mod

/-
  MODULE: whether one of the names is such, whatever is asked of it.
-/
namespace Go.Proofs.YtiadgkdkjinnjaaGreatDoor.Mod
open Go.RowKit Go.Shelf Go.Proofs.YtiadgkdkjinnjaaGreatDoor.Instr

/-- What is asked of a name: by function g, in whatever world. -/
def Asks (w : World) (g : Nat) (p : ByteArray → Bool) : Prop :=
  (∀ args w, (callFunc g args).run Tryz.prog w = .ok (.enter g args) w) ∧
    ∀ (W : World) (s : ByteArray), s.size ≤ 140737488351232 → Below w.heap.size w W → Calls Tryz.prog g #[.string s] W fun e w' => e = .returned (.bool (p s)) ∧ Below W.heap.size W w'
theorem Asks.on {w w' : World} {g : Nat} {p : ByteArray → Bool} (h : Asks w g p) (hb : Below w.heap.size w w') : Asks w' g p := ⟨h.1, fun W s hs hW => h.2 W s hs (hb.trans (hW.mono hb.size))⟩

set_option maxHeartbeats 400000 in
theorem anyName1_any (x : Imp) (b g : Nat) (p : ByteArray → Bool) (w : World) (hc : w.cell? ⟨b, 0, none⟩ = some (.func (.func g) #[] #[])) (hp : Asks w g p) (h1 : x.mo.size ≤ 140737488351232) (h2 : x.na.size ≤ 140737488351232) :
    Calls Tryz.prog 121 #[.agg #[.string x.mo, .string x.na, .int .i64 x.ty], .pointer (some ⟨b, 0, none⟩)] w fun e w' => e = .returned (.bool (p x.mo || p x.na)) ∧ Below w.heap.size w w' := by
  have eg := hp.1
  have C1 := hid (hp.2 (w.alloc (.cells #[.string x.mo, .string x.na, .int .i64 x.ty] 70)) x.mo h1 ((Below.refl _ _).alloc (Nat.le_refl _) _))
  have C2 := hid (fun W (hb : Below w.heap.size w W) => hp.2 W x.na h2 hb)
  have HC := hid (show ∀ w1, Below w.heap.size w w1 → w1.cell? ⟨b, 0, none⟩ = some (.func (.func g) #[] #[]) from fun w1 hb => Go.Proofs.YtiadgkdkjinnjaaGreatDoor.keep hb hc)
  have hbl := World.block_lt_of_cell? w _ hc
  obtain ⟨q, hq⟩ : ∃ q, p x.mo = q := ⟨_, rfl⟩
  rw [hq] at C1 ⊢
  clear hq hp h1 h2
  cases q with
  | true =>
    go_enter Tryz.func121, Tryz.ntmps121
    go_wp2_with (go_at_fn g; refine C1.out.mono ?_; rintro e w1 ⟨rfl, hb1⟩)
    go_ret
    exact ⟨rfl, thenB ((Below.refl _ _).alloc (Nat.le_refl _) _) hb1⟩
  | false =>
    rw [Bool.false_or]
    obtain ⟨r, hr⟩ : ∃ r, p x.na = r := ⟨_, rfl⟩
    rw [hr] at C2 ⊢
    clear hr
    go_enter Tryz.func121, Tryz.ntmps121
    go_wp2_with fail
    refine (Calls.mono (R' := fun e w1 => (e = .returned (.bool false) ∧ Below w.heap.size w w1) ∧ w1.cell? ⟨b, 0, none⟩ = some (.func (.func g) #[] #[]) ∧ w1.cell? ⟨w.heap.size, 1, none⟩ = some (.string x.na)) C1.out ?_).mono ?_
    · rintro e w1 ⟨rfl, hb1⟩
      have hB := thenB ((Below.refl _ _).alloc (Nat.le_refl _) _) hb1
      exact ⟨⟨rfl, hB⟩, HC.out _ hB, Go.Proofs.YtiadgkdkjinnjaaGreatDoor.keep hb1 (by go_simp)⟩
    rintro e w1 ⟨⟨rfl, hb1⟩, hc1, hc2⟩
    have C3 := hid (C2.out w1 hb1)
    clear hc C2
    go_wp2_with (go_at_fn g; refine C3.out.mono ?_; rintro e w2 ⟨rfl, hb2⟩)
    go_ret
    exact ⟨rfl, thenB hb1 hb2⟩
set_option maxHeartbeats 400000 in
theorem anyName2_any (x : Ex) (b g : Nat) (p : ByteArray → Bool) (w : World) (hc : w.cell? ⟨b, 0, none⟩ = some (.func (.func g) #[] #[])) (hp : Asks w g p) (h1 : x.na.size ≤ 140737488351232) :
    Calls Tryz.prog 122 #[.agg #[.string x.na, .int .i64 x.k, .int .u32 x.i], .pointer (some ⟨b, 0, none⟩)] w fun e w' => e = .returned (.bool (p x.na)) ∧ Below w.heap.size w w' := by
  have eg := hp.1
  have C1 := hid (hp.2 (w.alloc (.cells #[.string x.na, .int .i64 x.k, .int .u32 x.i] 72)) x.na h1 ((Below.refl _ _).alloc (Nat.le_refl _) _))
  have hbl := World.block_lt_of_cell? w _ hc
  clear hp h1
  go_enter Tryz.func122, Tryz.ntmps122
  go_wp2_with (go_at_fn g; refine C1.out.mono ?_; rintro e w1 ⟨rfl, hb1⟩)
  go_ret
  exact ⟨rfl, thenB ((Below.refl _ _).alloc (Nat.le_refl _) _) hb1⟩

theorem enters1 : ∀ args w, (callFunc 121 args).run Tryz.prog w = .ok (.enter 121 args) w := enters_of Tryz.func121 (by kernel_rfl) rfl
theorem enters2 : ∀ args w, (callFunc 122 args).run Tryz.prog w = .ok (.enter 122 args) w := enters_of Tryz.func122 (by kernel_rfl) rfl
set_option maxHeartbeats 1000000 in
theorem anyName_any (m : Md) (g : Nat) (p : ByteArray → Bool) (w : World) (hm : ModAt w.heap.size w m) (hf : m.fits) (hp : Asks w g p) :
    Calls Tryz.prog 55 #[.agg m.v, .func (.func g) #[] #[]] w fun e w' => e = .returned (.bool (m.anyName p)) ∧ Below w.heap.size w w' := by
  have B1 := hid (((Below.refl w.heap.size w).alloc (Nat.le_refl _) (.cells m.v 32)).alloc (by simp) (.cells #[.func (.func g) #[] #[]] 94))
  have hbx : BoxAt ((w.alloc (.cells m.v 32)).alloc (.cells #[.func (.func g) #[] #[]] 94)) w.heap.size m.v := (BoxAt.made w m.v _).keep ((Below.refl _ _).alloc (Nat.le_refl _) _)
  have hcb : ((w.alloc (.cells m.v 32)).alloc (.cells #[.func (.func g) #[] #[]] 94)).cell? ⟨w.heap.size + 1, 0, none⟩ = some (.func (.func g) #[] #[]) := by go_simp
  have C1 := hid (any_im m.im m.im'.a m.im.length m.im'.c ((w.alloc (.cells m.v 32)).alloc (.cells #[.func (.func g) #[] #[]] 94)) rfl (hm.on B1.out).im hf.im
    121 #[.pointer (some ⟨w.heap.size + 1, 0, none⟩)] enters1 (fun x => p x.mo || p x.na) (fun W x hx hW => anyName1_any x _ g p W (Go.Proofs.YtiadgkdkjinnjaaGreatDoor.keep hW hcb) ((hp.on B1.out).on hW) (hf.iS x hx).1 (hf.iS x hx).2))
  have C2 := hid (fun (W : World) (hW : Below ((w.alloc (.cells m.v 32)).alloc (.cells #[.func (.func g) #[] #[]] 94)).heap.size ((w.alloc (.cells m.v 32)).alloc (.cells #[.func (.func g) #[] #[]] 94)) W) =>
    any_ex m.ex m.ex'.a m.ex.length m.ex'.c W rfl ((hm.on B1.out).on hW).ex hf.ex
      122 #[.pointer (some ⟨w.heap.size + 1, 0, none⟩)] enters2 (fun x => p x.na) (fun W' x hx hW' => anyName2_any x _ g p W' (Go.Proofs.YtiadgkdkjinnjaaGreatDoor.keep hW' (Go.Proofs.YtiadgkdkjinnjaaGreatDoor.keep hW hcb)) (((hp.on B1.out).on hW).on hW') (hf.eS x hx)))
  have HX := hid (fun (W : World) (hW : Below ((w.alloc (.cells m.v 32)).alloc (.cells #[.func (.func g) #[] #[]] 94)).heap.size ((w.alloc (.cells m.v 32)).alloc (.cells #[.func (.func g) #[] #[]] 94)) W) => (hbx.keep hW) 6 _ rfl)
  have HE : Hid (m.anyName p = ((m.im.any fun i => p i.mo || p i.na) || (m.ex.any fun e => p e.na))) := rfl
  obtain ⟨q, hq⟩ : ∃ q, (m.im.any fun x => p x.mo || p x.na) = q := ⟨_, rfl⟩
  rw [hq] at C1 HE
  unfold Md.v at C1 C2 B1 HX ⊢
  clear hq hcb hbx hm hf hp
  cases q with
  | true =>
    have HE' : Hid (m.anyName p = true) := by show _ = _; rw [HE.out, Bool.true_or]
    clear HE
    go_enter Tryz.func55, Tryz.ntmps55
    go_wp2_with fail
    refine C1.out.mono ?_
    rintro e w1 ⟨rfl, hb1⟩
    clear C1 C2 HX
    go_wp2
    go_ret
    exact ⟨ret_bool HE'.out.symm, B1.out.trans (hb1.mono B1.out.size)⟩
  | false =>
    obtain ⟨r, hr⟩ : ∃ r, (m.ex.any fun x => p x.na) = r := ⟨_, rfl⟩
    have HE' : Hid (m.anyName p = r) := by show _ = _; rw [HE.out, Bool.false_or]; exact hr
    rw [hr] at C2
    clear HE hr
    go_enter Tryz.func55, Tryz.ntmps55
    go_wp2_with fail
    refine C1.out.mono ?_
    rintro e w1 ⟨rfl, hb1⟩
    have hx := HX.out w1 hb1
    have C3 := hid (C2.out w1 hb1)
    clear C1 C2 HX
    go_wp2_with fail
    refine C3.out.mono ?_
    rintro e w2 ⟨rfl, hb2⟩
    clear C3 hx
    go_wp2
    go_ret
    exact ⟨ret_bool HE'.out.symm, B1.out.trans ((thenB hb1 hb2).mono B1.out.size)⟩
end Go.Proofs.YtiadgkdkjinnjaaGreatDoor.Mod

/-
  MODULE: anyBeyond, isNoText, by contract.
-/
namespace Go.Proofs.YtiadgkdkjinnjaaGreatDoor.Mod
open Go.RowKit Go.Shelf Go.Proofs.YtiadgkdkjinnjaaGreatDoor.Instr

theorem entersB : ∀ args w, (callFunc 130 args).run Tryz.prog w = .ok (.enter 130 args) w := enters_of Tryz.func130 (by kernel_rfl) rfl
set_option maxHeartbeats 1000000 in
theorem anyBeyond_any (l : List Li) (a : Option Addr) (n c : Nat) (most : Int) (w : World) (hn : l.length = n) (hr : Rows w.heap.size w a 3 (l.map Li.v)) (hl : n ≤ 140737488351232) :
    Calls Tryz.prog 75 #[.slice a n c, .int .u32 most] w fun e w' => e = .returned (.bool (l.any (beyond most))) ∧ Below w.heap.size w w' := by
  have hB := (Below.refl w.heap.size w).alloc (Nat.le_refl _) (.cells #[.int .u32 most] 28)
  have hc : (w.alloc (.cells #[.int .u32 most] 28)).cell? ⟨w.heap.size, 0, none⟩ = some (.int .u32 most) := by go_simp
  have C := hid (any_li l a n c (w.alloc (.cells #[.int .u32 most] 28)) hn ((hr.below hB).more hB.size) hl 130 #[.pointer (some ⟨w.heap.size, 0, none⟩)] entersB (beyond most)
    (fun W x _ hW => beyond_any x _ most W (Go.Proofs.YtiadgkdkjinnjaaGreatDoor.keep hW hc)))
  have HB := hid hB
  clear hB hc hn hr
  go_enter Tryz.func75, Tryz.ntmps75
  go_wp2_with fail
  refine C.out.mono ?_
  rintro e w1 ⟨rfl, hb1⟩
  clear C
  go_wp2
  go_ret
  exact ⟨rfl, HB.out.trans (hb1.mono HB.out.size)⟩

theorem Bad_any (zs : List Int) (a : Option Addr) (n c : Nat) (w : World) (hT : Utf.Tabs w) (hn : zs.length = n) (hz : Bytes w a zs) :
    Calls Tryz.prog 123 #[.slice a n c] w fun e w' => e = .returned (.int .i64 (Utf.badL zs)) ∧ Below w.heap.size w w' := by
  have e1 := str_of hz n c hn
  have C := hid (Utf.bad_any zs hz.byte w hT)
  clear hn hz
  go_enter Tryz.func123, Tryz.ntmps123
  go_wp2_with fail
  refine C.out.mono ?_
  rintro e w1 ⟨rfl, hb1⟩
  clear C
  go_wp2
  go_ret
  exact ⟨rfl, hb1⟩
set_option maxHeartbeats 400000 in
theorem isNoText_any (s : ByteArray) (w : World) (hT : Utf.Tabs w) (hs : s.size ≤ 140737488351232) : Calls Tryz.prog 61 #[.string s] w fun e w' => e = .returned (.bool (noText s)) ∧ Below w.heap.size w w' := by
  unfold noText
  obtain ⟨b, c, w1, e1, hz, hb1⟩ := bytes_of (numsOf s) (numsOf_bytes s) (by rw [numsOf_length]; exact hs) w
  rw [str_numsOf] at e1
  have C := hid (Bad_any (numsOf s) _ _ c w1 (hT.below hb1) rfl hz)
  obtain ⟨q, hq⟩ : ∃ q, Utf.badL (numsOf s) = q := ⟨_, rfl⟩
  rw [hq] at C ⊢
  obtain ⟨n, hn⟩ : ∃ n, (numsOf s).length = n := ⟨_, rfl⟩
  rw [hn] at C e1
  have HB := hid hb1
  clear hq hn hz hb1 hT
  go_enter Tryz.func61, Tryz.ntmps61
  go_wp2_with fail
  refine C.out.mono ?_
  rintro e w2 ⟨rfl, hb2⟩
  clear C e1
  go_wp2
  go_ret
  exact ⟨rfl, thenB HB.out hb2⟩
theorem asks_long (w : World) : Asks w 56 longS := ⟨enters_of Tryz.func56 (by kernel_rfl) rfl, fun W s _ _ => isLong_any s W⟩
theorem asks_text (w : World) (hT : Utf.Tabs w) : Asks w 61 noText := ⟨enters_of Tryz.func61 (by kernel_rfl) rfl, fun W s hs hW => isNoText_any s W (hT.below hW) hs⟩
end Go.Proofs.YtiadgkdkjinnjaaGreatDoor.Mod

/-
  MODULE: Size and codeError by contract: loops over the range function.
-/
namespace Go.Proofs.YtiadgkdkjinnjaaGreatDoor.Mod
open Go.RowKit Go.Shelf Go.Proofs.YtiadgkdkjinnjaaGreatDoor.Instr

attribute [local go_sem] Oper.semAt_some

/-- What is known of each list. -/
def Fair (w : World) (l : Lst) : Prop := ListAt w.heap.size w l.a l.t.len l.t ∧ l.t.len ≤ 140737488351232 ∧ l.t.count ≤ 1000000
theorem fair_all {m : Md} {w : World} (hm : ModAt w.heap.size w m) (hf : m.few) : ∀ l ∈ m.codes, Fair w l := fun l hl => ⟨hm.ls l hl, hf.fit.ls l hl, hf.cs l hl⟩
theorem Fair.at {w W : World} {l : Lst} (h : Fair w l) (hb : Below w.heap.size w W) : ListAt W.heap.size W l.a l.t.len l.t := h.1.on hb
def valsP {P : Lst → Prop} (pre : List {l : Lst // P l}) : List Lst := pre.map (·.1)
theorem valsP_with (m : Md) (P : Lst → Prop) (hP : ∀ l ∈ m.codes, P l) : valsP (m.codes.attachWith P hP) = m.codes := by simp [valsP]
theorem countL_append : ∀ l r : List Lst, countL (l ++ r) = countL l + countL r
  | [], r => by simp [countL]
  | d :: l, r => by simp only [List.cons_append, countL, countL_append l r]; omega
theorem countL_le {P : Lst → Prop} (h : ∀ l, P l → l.t.count ≤ 1000000) : ∀ pre : List {l : Lst // P l}, countL (valsP pre) ≤ 1000000 * pre.length
  | [] => by simp [valsP, countL]
  | x :: pre => by
    have := countL_le h pre
    have := h x.1 x.2
    simp only [valsP, List.map_cons, countL, List.length_cons] at *
    omega
theorem keepsOthers_below {w w' : World} (h : Below w.heap.size w w') : KeepsOthers w w' := ⟨h.size, fun k _ hk _ => (h.block k (Array.getElem?_eq_some_iff.1 hk).1).trans hk⟩
theorem codes_length (m : Md) (hf : m.few) : m.codes.length ≤ 4000000 := by
  have := hf.lens
  simp [Md.codes]; omega

set_option maxRecDepth 100000 in
set_option maxHeartbeats 2000000 in
theorem Size_any (m : Md) (w : World) (hm : ModAt w.heap.size w m) (hf : m.few) :
    Calls Tryz.prog 26 #[.agg m.v] w fun e w' => e = .returned (.int .i64 m.size) ∧ Below w.heap.size w w' := by
  have HM := hid hm
  have HF := hid hf
  have HCL := hid (codes_length m hf)
  have hbx := BoxAt.made (((w.alloc (.cells m.v 32)).alloc (.cells #[.int .i64 0] 3))) m.v 32
  have hs := cell_new (w.alloc (.cells m.v 32)) (.int .i64 0) 3
  have hB0 : Below w.heap.size w (((w.alloc (.cells m.v 32)).alloc (.cells #[.int .i64 0] 3)).alloc (.cells m.v 32)) := thenA (thenA (thenA (Below.refl _ _) _) _) _
  have hsz : (((w.alloc (.cells m.v 32)).alloc (.cells #[.int .i64 0] 3)).alloc (.cells m.v 32)).heap.size = w.heap.size + 3 := by simp
  have hc0 := cell_alloc' (.cells m.v 32) hs.1
  have hf0 := frozen_alloc' (.cells m.v 32) hs.1 hs.2
  simp only [World.size_alloc] at hc0 hf0 hbx
  clear hm hf hs
  unfold Md.v at hbx hB0 hsz hc0 hf0 ⊢
  refine (callsIn_wide (n := 3)).1 ?_
  refine callsIn_of_wp_marks Tryz.func26 rfl trivial ?_ rfl
  simp only [Tryz.ntmps26, List.size_toArray, List.length_cons, List.length_nil, Nat.reduceAdd, Nat.reduceSub, Array.replicate_succ, Array.replicate_zero, List.push_toArray, List.append_toArray, List.nil_append, List.cons_append]
  gi_wp2_with fail
  refine ⟨trivial, ?_⟩
  refine (codes_in _ m _).mono ?_
  unfold Md.v
  rintro e w' ⟨rfl, rfl⟩
  gi_wp2
  generalize (((w.alloc (.cells #[.slice m.ty'.a m.ty.length m.ty'.c, .slice m.im'.a m.im.length m.im'.c, .slice m.fu'.a m.fu.length m.fu'.c, .slice m.tb'.a m.tb.length m.tb'.c, .slice m.me'.a m.me.length m.me'.c, .slice m.gl'.a m.gl.length m.gl'.c, .slice m.ex'.a m.ex.length m.ex'.c, .bool m.st, .int .u32 m.sn, .slice m.el'.a m.el.length m.el'.c, .slice m.da'.a m.da.length m.da'.c] 32)).alloc (.cells #[.int .i64 0] 3)).alloc (.cells #[.slice m.ty'.a m.ty.length m.ty'.c, .slice m.im'.a m.im.length m.im'.c, .slice m.fu'.a m.fu.length m.fu'.c, .slice m.tb'.a m.tb.length m.tb'.c, .slice m.me'.a m.me.length m.me'.c, .slice m.gl'.a m.gl.length m.gl'.c, .slice m.ex'.a m.ex.length m.ex'.c, .bool m.st, .int .u32 m.sn, .slice m.el'.a m.el.length m.el'.c, .slice m.da'.a m.da.length m.da'.c] 32)) = W0 at hbx hB0 hsz hc0 hf0 ⊢
  have HB0 := hid hB0
  refine wpIn_rangeFunc_ownF rfl (by omega) (gf := 137) (lb := #[.pointer (some ⟨w.heap.size + 1 + 1, 0, none⟩)]) rfl trivial (enters_of Tryz.func137 (by kernel_rfl) rfl)
    (codes_stops _ w.heap.size (w.heap.size + 1 + 1) m W0 (by omega) (by omega) hbx (HM.out.below hB0) HF.out.fit (Fair w) (fair_all HM.out HF.out)) (fun h k => h.trans k) (keptB_b (by omega)) (Below.refl _ _) (fun _ => rfl)
    (fun pre W => (W.cell? ⟨w.heap.size + 1, 0, none⟩ = some (.int .i64 (countL (valsP pre))) ∧ W.frozen? ⟨w.heap.size + 1, 0, none⟩ = false) ∧ Below w.heap.size w W)
    (fun _ _ _ => False)
    (OwnFrom.and (Own.from (fun s A B row hs hg hr => ⟨cell_kept hs.1 hg hr, (frozen_kept hs.1 hg hr).trans hs.2⟩) _) (ownFrom_below (Nat.le_refl _) (by omega)))
    (fun _ _ _ _ _ hs _ _ => hs)
    ⟨⟨hc0, hf0⟩, hB0⟩
    (fun x => { tmps := #[.agg #[.slice m.ty'.a m.ty.length m.ty'.c, .slice m.im'.a m.im.length m.im'.c, .slice m.fu'.a m.fu.length m.fu'.c, .slice m.tb'.a m.tb.length m.tb'.c, .slice m.me'.a m.me.length m.me'.c, .slice m.gl'.a m.gl.length m.gl'.c, .slice m.ex'.a m.ex.length m.ex'.c, .bool m.st, .int .u32 m.sn, .slice m.el'.a m.el.length m.el'.c, .slice m.da'.a m.da.length m.da'.c], .pointer (some ⟨w.heap.size, 0, none⟩), .int .i64 0, .pointer (some ⟨w.heap.size + 1, 0, none⟩), x.1.val, .agg #[.slice m.ty'.a m.ty.length m.ty'.c, .slice m.im'.a m.im.length m.im'.c, .slice m.fu'.a m.fu.length m.fu'.c, .slice m.tb'.a m.tb.length m.tb'.c, .slice m.me'.a m.me.length m.me'.c, .slice m.gl'.a m.gl.length m.gl'.c, .slice m.ex'.a m.ex.length m.ex'.c, .bool m.st, .int .u32 m.sn, .slice m.el'.a m.el.length m.el'.c, .slice m.da'.a m.da.length m.da'.c], .func (.func 137) #[] #[.pointer (some ⟨w.heap.size + 1 + 1, 0, none⟩)], x.1.val, undef, undef, undef, undef, undef], defers := [] }) ?assign ?body ?done ?stop
  case assign =>
    intro l x W K hK
    gi_wp2
    simpa [encP] using hK
  case body =>
    rintro l pre x W ⟨⟨hc, hf⟩, hB⟩ hlt
    have hBd : Below W.heap.size W W.drew := (Below.refl _ _).drew
    have CL := callsIn_wide (n := 0) |>.2 (Count_any x.1.a x.1.t.len x.1.c x.1.t W.drew (x.2.at (hB.trans (hBd.mono hB.size))) (by have := x.2.2.2; omega) x.2.2.1)
    have hle := countL_le (fun l (h : Fair w l) => h.2.2) pre
    have hcn := x.2.2.2
    obtain ⟨N, hN⟩ : ∃ N : Nat, countL (valsP pre) = N := ⟨_, rfl⟩
    obtain ⟨C, hC⟩ : ∃ C : Nat, x.1.t.count = C := ⟨_, rfl⟩
    have HS := hid (show countL (valsP (pre ++ [x])) = N + C by rw [← hN, ← hC]; simp [valsP, countL_append, countL])
    rw [hN] at hc hle
    rw [hC] at CL hcn
    have hln := HCL.out
    have h1 : (0 : Int) ≤ N := by omega
    have h2 : (N : Int) ≤ 4611686018427387904 := by omega
    have h3 : (C : Int) ≤ 1000000 := by omega
    have HWR : Hid (IntKind.i64.wrap ((N : Int) + C) = ((N + C : Nat) : Int)) := by show _ = _; rw [IntKind.wrap_i64]; omega
    have CL2 := hid (CallsIn.mono (R' := fun e w' => e = .returned (.int .i64 C) ∧ w'.cell? ⟨w.heap.size + 1, 0, none⟩ = some (.int .i64 N) ∧ w'.frozen? ⟨w.heap.size + 1, 0, none⟩ = false ∧ Hid (Below W.heap.size W w')) CL (by
      rintro e w' ⟨rfl, hb⟩
      have hb' : Below W.heap.size W w' := hBd.trans (hb.mono hBd.size)
      exact ⟨rfl, Go.Proofs.YtiadgkdkjinnjaaGreatDoor.keep hb' hc, (hb'.frozen (p := ⟨w.heap.size + 1, 0, none⟩) (World.block_lt_of_cell? W _ hc)).trans hf, hb'⟩))
    have hmix : Tryz.prog.follows .mixedOrders = true := by kernel_rfl
    clear hN hC hle hcn hln hsz hbx hc0 hf0 HM HF hB0 CL
    have HB := hid hB
    unfold Lst.val
    clear hB hBd
    gi_wp2_with fail
    gi_region_with_o (refine ⟨trivial, ?_⟩; refine (CallsIn.inRound l CL2.out).mono ?_; rintro e W3 ⟨rfl, hc3, hf3, hb3⟩)
    all_goals
      gi_wp2
      exact ⟨(keepsOthers_below hb3.out).trans (KeepsOthers.setCell _ _ _), (KeptB.of_below hb3.out HB.out.size).setCell (p := ⟨w.heap.size + 1, 0, none⟩) (by simp) (by simp) _,
        ⟨by rw [HS.out, ← HWR.out]; exact World.cell?_setCell_same' _ _ _ (by rw [hc3]; rfl), by rw [World.frozen?_setCell]; exact hf3⟩, (HB.out.trans (hb3.out.mono HB.out.size)).setCell (p := ⟨w.heap.size + 1, 0, none⟩) (by simp) _⟩
  case done =>
    rintro D ys W hD rfl ⟨⟨hc, _⟩, hB⟩ hK
    rw [valsP_with] at hc
    have HE : Hid (m.size = countL m.codes) := rfl
    gi_wp2
    refine ⟨by simp, .inl ⟨_, _, rfl, run_takeDeferred hK, ?_⟩⟩
    exact ⟨_, results_tmp rfl _ _ _, by rw [HE.out]; rfl, hB.trans (belowK_b (w := w) (Nat.le_refl _) W D _ _ (by omega) hK rfl rfl)⟩
  case stop =>
    rintro D c pre W _ _ h _
    exact h.elim
theorem worstP_snoc (pre : List Lst) (x : Lst) (a : Int) : worstP (pre ++ [x]) a = if checkP x.t = 0 then worstP pre a else checkP x.t := by rw [worstP_append]; rfl
/-- What the loop of codeError holds in its own cells: result, worst. -/
structure Cod (g : Nat) (r : Int) (n : Int) (W : World) : Prop where
  res : W.cell? ⟨g + 1, 0, none⟩ = some (.int .i64 r)
  num : W.cell? ⟨g + 1 + 1, 0, none⟩ = some (.int .i64 n)
  fres : W.frozen? ⟨g + 1, 0, none⟩ = false
  fnum : W.frozen? ⟨g + 1 + 1, 0, none⟩ = false
theorem Cod.own {g : Nat} {r n : Int} {A B : World} {row : Option Nat} (h : Cod g r n A) (hg : A.grownBy B row) (hr : ∀ r, row = some r → ∃ o : Obj, A.heap[r]? = some o ∧ o.isCells = false) : Cod g r n B :=
  ⟨cell_kept h.res hg hr, cell_kept h.num hg hr, (frozen_kept h.res hg hr).trans h.fres, (frozen_kept h.num hg hr).trans h.fnum⟩
theorem Cod.below {g : Nat} {r n : Int} {A B : World} (h : Cod g r n A) (hb : Below A.heap.size A B) : Cod g r n B :=
  have f : ∀ p v, A.cell? p = some v → A.frozen? p = false → B.frozen? p = false := fun p _ hc hf => (hb.frozen (World.block_lt_of_cell? A p hc)).trans hf
  ⟨Go.Proofs.YtiadgkdkjinnjaaGreatDoor.keep hb h.res, Go.Proofs.YtiadgkdkjinnjaaGreatDoor.keep hb h.num, f _ _ h.res h.fres, f _ _ h.num h.fnum⟩
theorem Cod.set {g : Nat} {r n n' : Int} {A : World} (h : Cod g r n A) : Cod g r n' (A.setCell ⟨g + 1 + 1, 0, none⟩ (.int .i64 n')) := by
  obtain ⟨r1, r2, f1, f2⟩ := h
  constructor <;> simp [go_sem, *]
set_option maxRecDepth 100000 in
set_option maxHeartbeats 4000000 in
theorem codeError_any (m : Md) (w : World) (hT : Nams w) (hm : ModAt w.heap.size w m) (hf : m.few) :
    Calls Tryz.prog 53 #[.agg m.v] w fun e w' => e = .returned (.int .i64 (codeP m.codes)) ∧ Below w.heap.size w w' := by
  have HM := hid hm
  have HF := hid hf
  have hbx := BoxAt.made (((w.alloc (.cells m.v 32)).alloc (.cells #[.int .i64 0] 36)).alloc (.cells #[.int .i64 0] 36)) m.v 32
  have hS0 : Cod w.heap.size 0 0 (((w.alloc (.cells m.v 32)).alloc (.cells #[.int .i64 0] 36)).alloc (.cells #[.int .i64 0] 36)) := by constructor <;> go_simp
  have hS1 := hS0.below ((Below.refl _ _).alloc (Nat.le_refl _) (.cells m.v 32))
  have hB0 : Below w.heap.size w ((((w.alloc (.cells m.v 32)).alloc (.cells #[.int .i64 0] 36)).alloc (.cells #[.int .i64 0] 36)).alloc (.cells m.v 32)) := thenA (thenA (thenA (thenA (Below.refl _ _) _) _) _) _
  have hsz : ((((w.alloc (.cells m.v 32)).alloc (.cells #[.int .i64 0] 36)).alloc (.cells #[.int .i64 0] 36)).alloc (.cells m.v 32)).heap.size = w.heap.size + 4 := by simp
  simp only [World.size_alloc] at hbx
  clear hm hf hS0
  unfold Md.v at hbx hB0 hsz hS1 ⊢
  refine (callsIn_wide (n := 3)).1 ?_
  refine callsIn_of_wp_marks Tryz.func53 rfl trivial ?_ rfl
  simp only [Tryz.ntmps53, List.size_toArray, List.length_cons, List.length_nil, Nat.reduceAdd, Nat.reduceSub, Array.replicate_succ, Array.replicate_zero, List.push_toArray, List.append_toArray, List.nil_append, List.cons_append]
  gi_wp2_with fail
  refine ⟨trivial, ?_⟩
  refine (codes_in _ m _).mono ?_
  unfold Md.v
  rintro e w' ⟨rfl, rfl⟩
  gi_wp2
  generalize ((((w.alloc (.cells #[.slice m.ty'.a m.ty.length m.ty'.c, .slice m.im'.a m.im.length m.im'.c, .slice m.fu'.a m.fu.length m.fu'.c, .slice m.tb'.a m.tb.length m.tb'.c, .slice m.me'.a m.me.length m.me'.c, .slice m.gl'.a m.gl.length m.gl'.c, .slice m.ex'.a m.ex.length m.ex'.c, .bool m.st, .int .u32 m.sn, .slice m.el'.a m.el.length m.el'.c, .slice m.da'.a m.da.length m.da'.c] 32)).alloc (.cells #[.int .i64 0] 36)).alloc (.cells #[.int .i64 0] 36)).alloc (.cells #[.slice m.ty'.a m.ty.length m.ty'.c, .slice m.im'.a m.im.length m.im'.c, .slice m.fu'.a m.fu.length m.fu'.c, .slice m.tb'.a m.tb.length m.tb'.c, .slice m.me'.a m.me.length m.me'.c, .slice m.gl'.a m.gl.length m.gl'.c, .slice m.ex'.a m.ex.length m.ex'.c, .bool m.st, .int .u32 m.sn, .slice m.el'.a m.el.length m.el'.c, .slice m.da'.a m.da.length m.da'.c] 32)) = W0 at hbx hB0 hsz hS1 ⊢
  have HB0 := hid hB0
  refine wpIn_rangeFunc_ownF rfl (by omega) (gf := 137) (lb := #[.pointer (some ⟨w.heap.size + 1 + 1 + 1, 0, none⟩)]) rfl trivial (enters_of Tryz.func137 (by kernel_rfl) rfl)
    (codes_stops _ w.heap.size (w.heap.size + 1 + 1 + 1) m W0 (by omega) (by omega) hbx (HM.out.below hB0) HF.out.fit (Fair w) (fair_all HM.out HF.out)) (fun h k => h.trans k) (keptB_b (by omega)) (Below.refl _ _) (fun _ => rfl)
    (fun pre W => ((∀ y ∈ valsP pre, checkP y.t ≠ 141) ∧ Cod w.heap.size 0 (worstP (valsP pre) 0) W) ∧ Below w.heap.size w W)
    (fun c pre W => (c = .ret ∧ (∃ y ∈ valsP pre, checkP y.t = 141) ∧ W.cell? ⟨w.heap.size + 1, 0, none⟩ = some (.int .i64 141)) ∧ Below w.heap.size w W)
    (OwnFrom.and (Own.from (fun s A B row hs hg hr => ⟨hs.1, hs.2.own hg hr⟩) _) (ownFrom_below (Nat.le_refl _) (by omega)))
    (fun c => OwnFrom.and (Own.from (fun s A B row hs hg hr => ⟨hs.1, hs.2.1, cell_kept hs.2.2 hg hr⟩) _) (ownFrom_below (Nat.le_refl _) (by omega)))
    ⟨⟨by simp [valsP], hS1⟩, hB0⟩
    (fun x => { tmps := #[.agg #[.slice m.ty'.a m.ty.length m.ty'.c, .slice m.im'.a m.im.length m.im'.c, .slice m.fu'.a m.fu.length m.fu'.c, .slice m.tb'.a m.tb.length m.tb'.c, .slice m.me'.a m.me.length m.me'.c, .slice m.gl'.a m.gl.length m.gl'.c, .slice m.ex'.a m.ex.length m.ex'.c, .bool m.st, .int .u32 m.sn, .slice m.el'.a m.el.length m.el'.c, .slice m.da'.a m.da.length m.da'.c], .pointer (some ⟨w.heap.size, 0, none⟩), .pointer (some ⟨w.heap.size + 1, 0, none⟩), .pointer (some ⟨w.heap.size + 1 + 1, 0, none⟩), x.1.val, undef, .agg #[.slice m.ty'.a m.ty.length m.ty'.c, .slice m.im'.a m.im.length m.im'.c, .slice m.fu'.a m.fu.length m.fu'.c, .slice m.tb'.a m.tb.length m.tb'.c, .slice m.me'.a m.me.length m.me'.c, .slice m.gl'.a m.gl.length m.gl'.c, .slice m.ex'.a m.ex.length m.ex'.c, .bool m.st, .int .u32 m.sn, .slice m.el'.a m.el.length m.el'.c, .slice m.da'.a m.da.length m.da'.c], .func (.func 137) #[] #[.pointer (some ⟨w.heap.size + 1 + 1 + 1, 0, none⟩)], x.1.val, undef, undef, undef, undef, undef, undef, undef, undef, undef, undef], defers := [] }) ?assign ?body ?done ?stop
  case assign =>
    intro l x W K hK
    gi_wp2
    simpa [encP] using hK
  case body =>
    rintro l pre x W ⟨⟨hla, hch⟩, hB⟩ hlt
    have CL := callsIn_wide (n := 0) |>.2 (Check_any x.1.a x.1.t.len x.1.c x.1.t W (hT.below hB) (x.2.at hB) (by have := x.2.2.2; omega) x.2.2.1)
    obtain ⟨N, hN⟩ : ∃ N : Int, worstP (valsP pre) 0 = N := ⟨_, rfl⟩
    obtain ⟨C, hC⟩ : ∃ C : Int, checkP x.1.t = C := ⟨_, rfl⟩
    have HV := hid (show valsP (pre ++ [x]) = valsP pre ++ [x.1] by simp [valsP])
    have HS := hid (show worstP (valsP pre ++ [x.1]) 0 = if C = 0 then N else C by rw [worstP_snoc, hN, hC])
    have HCC := hid (show C = 0 ∨ C = 141 ∨ C = 2 from hC ▸ checkP_cases x.1.t)
    have HC := hid hC
    rw [hN] at hch
    rw [hC] at CL
    have CL2 := hid (CallsIn.mono (R' := fun e w' => e = .returned (.int .i64 C) ∧ Cod w.heap.size 0 N w' ∧ Hid (Below W.heap.size W w')) CL (by
      rintro e w' ⟨rfl, hb⟩
      exact ⟨rfl, hch.below hb, hb⟩))
    have HLA := hid hla
    have HB := hid hB
    clear hN hC hsz hbx hS1 HM HF hB0 CL hla hB hch
    unfold Lst.val
    rcases HCC.out with h | h | h
    · have HS0 := hid (show worstP (valsP (pre ++ [x])) 0 = N by rw [HV.out, HS.out, if_pos h])
      subst h
      gi_wp2_with (refine ⟨trivial, ?_⟩; refine (CallsIn.inRound l CL2.out).mono ?_; rintro e W3 ⟨rfl, hk3, hb3⟩)
      exact ⟨keepsOthers_below hb3.out, KeptB.of_below hb3.out HB.out.size, ⟨by rw [HV.out]; intro y hy; rcases List.mem_append.1 hy with hy | hy; exact HLA.out y hy; rw [List.mem_singleton.1 hy, HC.out]; omega, by rw [HS0.out]; exact hk3⟩, HB.out.trans (hb3.out.mono HB.out.size)⟩
    · have HY := hid (show ∃ y ∈ valsP (pre ++ [x]), checkP y.t = 141 from ⟨x.1, by rw [HV.out]; simp, by rw [HC.out, h]⟩)
      subst h
      gi_wp2_with (refine ⟨trivial, ?_⟩; refine (CallsIn.inRound l CL2.out).mono ?_; rintro e W3 ⟨rfl, ⟨k1, k2, k3, k4⟩, hb3⟩)
      exact ⟨(keepsOthers_below hb3.out).trans (KeepsOthers.setCell _ _ _), ⟨rfl, HY.out, World.cell?_setCell_same' _ _ _ (by rw [k1]; rfl)⟩, (HB.out.trans (hb3.out.mono HB.out.size)).setCell (p := ⟨w.heap.size + 1, 0, none⟩) (by simp) _⟩
    · have HS0 := hid (show worstP (valsP (pre ++ [x])) 0 = 2 by rw [HV.out, HS.out, if_neg (by omega), h])
      subst h
      gi_wp2_with (refine ⟨trivial, ?_⟩; refine (CallsIn.inRound l CL2.out).mono ?_; rintro e W3 ⟨rfl, hk3, hb3⟩; have hk3' := hid hk3; obtain ⟨k1, k2, k3, k4⟩ := hk3)
      exact ⟨(keepsOthers_below hb3.out).trans (KeepsOthers.setCell _ _ _), (KeptB.of_below hb3.out HB.out.size).setCell (p := ⟨w.heap.size + 1 + 1, 0, none⟩) (by simp; omega) (by simp) _,
        ⟨by rw [HV.out]; intro y hy; rcases List.mem_append.1 hy with hy | hy; exact HLA.out y hy; rw [List.mem_singleton.1 hy, HC.out]; omega, by rw [HS0.out]; exact hk3'.out.set⟩, (HB.out.trans (hb3.out.mono HB.out.size)).setCell (p := ⟨w.heap.size + 1 + 1, 0, none⟩) (by simp; omega) _⟩
  case done =>
    rintro D ys W hD rfl ⟨⟨hla, hch⟩, hB⟩ hK
    rw [valsP_with] at hla hch
    obtain ⟨h1, _⟩ := codeP_none m.codes 0 hla (.inl rfl)
    rw [if_neg (by omega)] at h1
    rw [h1] at hch
    obtain ⟨q, hq⟩ : ∃ q, codeP m.codes = q := ⟨_, rfl⟩
    rw [hq] at hch
    have HQ := hid hq
    clear hq h1 hla
    obtain ⟨r1, r2, f1, f2⟩ := hch
    gi_wp2
    have hK' := (KeepsOthers.setCell W ⟨w.heap.size + 1, 0, none⟩ (.int .i64 q)).same D _ hK rfl
    refine ⟨by simp, .inl ⟨_, _, rfl, run_takeDeferred hK', ?_⟩⟩
    have hc5 := cell_kept (World.cell?_setCell_same' W ⟨w.heap.size + 1, 0, none⟩ (.int .i64 q) (by rw [r1]; rfl)) (grownBy_putObj' _ D (.deferred none)) (fun r e => by cases e; exact ⟨_, hK', rfl⟩)
    refine ⟨.int .i64 q, ?_, by rw [HQ.out], (hB.setCell (p := ⟨w.heap.size + 1, 0, none⟩) (by simp) _).trans (belowK_b (w := w) (Nat.le_refl _) _ D _ _ (by omega) hK' rfl rfl)⟩
    simp [results, Tryz.f53, go_sem, hc5]
  case stop =>
    rintro D c pre W hD hpre ⟨⟨rfl, ⟨y, hy, hy1⟩, hc2⟩, hB⟩ hK
    have HR : Hid (codeP m.codes = 141) := by
      show _ = _
      refine codeP_many _ y ?_ hy1
      rw [← valsP_with m (Fair w) (fair_all HM.out HF.out)]
      unfold valsP at hy ⊢
      obtain ⟨z, hz⟩ := hpre
      rw [← hz, List.map_append]
      exact List.mem_append_left _ hy
    clear hy hy1 hpre
    gi_wp2
    refine ⟨by simp, .inl ⟨_, _, rfl, run_takeDeferred hK, ?_⟩⟩
    have hc5 := cell_kept hc2 (grownBy_putObj' _ D (.deferred none)) (fun r e => by cases e; exact ⟨_, hK, rfl⟩)
    refine ⟨.int .i64 141, ?_, by rw [HR.out], hB.trans (belowK_b (w := w) (Nat.le_refl _) W D _ _ (by omega) hK rfl rfl)⟩
    simp [results, Tryz.f53, go_sem, hc5]
end Go.Proofs.YtiadgkdkjinnjaaGreatDoor.Mod

/-
  MODULE: the thirteen checks of Check, each by contract.
-/
namespace Go.Proofs.YtiadgkdkjinnjaaGreatDoor.Mod
open Go.RowKit Go.Shelf Go.Proofs.YtiadgkdkjinnjaaGreatDoor.Instr

theorem BoxAt.all {W : World} {g : Nat} {m : Md} (h : BoxAt W g m.v) : W.cell? ⟨g, 0, none⟩ = some (.slice m.ty'.a m.ty.length m.ty'.c) ∧ W.cell? ⟨g, 1, none⟩ = some (.slice m.im'.a m.im.length m.im'.c) ∧ W.cell? ⟨g, 2, none⟩ = some (.slice m.fu'.a m.fu.length m.fu'.c) ∧
    W.cell? ⟨g, 3, none⟩ = some (.slice m.tb'.a m.tb.length m.tb'.c) ∧ W.cell? ⟨g, 4, none⟩ = some (.slice m.me'.a m.me.length m.me'.c) ∧ W.cell? ⟨g, 5, none⟩ = some (.slice m.gl'.a m.gl.length m.gl'.c) ∧ W.cell? ⟨g, 6, none⟩ = some (.slice m.ex'.a m.ex.length m.ex'.c) ∧
    W.cell? ⟨g, 7, none⟩ = some (.bool m.st) ∧ W.cell? ⟨g, 8, none⟩ = some (.int .u32 m.sn) ∧ W.cell? ⟨g, 9, none⟩ = some (.slice m.el'.a m.el.length m.el'.c) ∧ W.cell? ⟨g, 10, none⟩ = some (.slice m.da'.a m.da.length m.da'.c) :=
  ⟨h 0 _ rfl, h 1 _ rfl, h 2 _ rfl, h 3 _ rfl, h 4 _ rfl, h 5 _ rfl, h 6 _ rfl, h 7 _ rfl, h 8 _ rfl, h 9 _ rfl, h 10 _ rfl⟩

set_option maxHeartbeats 1000000 in
theorem chk1 (m : Md) (g : Nat) (W : World) (hx : BoxAt W g m.v) (hm : ModAt W.heap.size W m) (hf : m.few) : Calls Tryz.prog 49 #[.pointer (some ⟨g, 0, none⟩)] W fun e w' => e = .returned (.int .i64 (errI (m.crowded) 141)) ∧ Below W.heap.size W w' := by
  have C := hid (crowded_any m W hm hf.fit)
  obtain ⟨q, hq⟩ : ∃ q, m.crowded = q := ⟨_, rfl⟩
  rw [hq] at C ⊢
  have E := hid (fun w => errIf_any q 141 w)
  unfold Md.v at C
  obtain ⟨c0,c1,c2,c3,c4,c5,c6,c7,c8,c9,c10⟩ := hx.all
  clear hx hm hf hq
  go_enter Tryz.func49, Tryz.ntmps49
  go_wp2_with fail
  refine C.out.mono ?_
  rintro e w1 ⟨rfl, hb1⟩
  clear C c0 c1 c2 c3 c4 c5 c6 c7 c8 c9 c10
  go_wp2_with fail
  refine (E.out _).mono ?_
  rintro e w2 ⟨rfl, rfl⟩
  go_wp2
  go_ret
  exact ⟨rfl, hb1⟩

set_option maxHeartbeats 1000000 in
theorem chk3 (m : Md) (g : Nat) (W : World) (hx : BoxAt W g m.v) (hm : ModAt W.heap.size W m) (hf : m.few) : Calls Tryz.prog 54 #[.pointer (some ⟨g, 0, none⟩)] W fun e w' => e = .returned (.int .i64 (errI (m.anyName longS) 3)) ∧ Below W.heap.size W w' := by
  have C := hid (anyName_any m 56 longS W hm hf.fit (asks_long W))
  obtain ⟨q, hq⟩ : ∃ q, m.anyName longS = q := ⟨_, rfl⟩
  rw [hq] at C ⊢
  have E := hid (fun w => errIf_any q 3 w)
  unfold Md.v at C
  obtain ⟨c0,c1,c2,c3,c4,c5,c6,c7,c8,c9,c10⟩ := hx.all
  clear hx hm hf hq
  go_enter Tryz.func54, Tryz.ntmps54
  go_wp2_with fail
  refine C.out.mono ?_
  rintro e w1 ⟨rfl, hb1⟩
  clear C c0 c1 c2 c3 c4 c5 c6 c7 c8 c9 c10
  go_wp2_with fail
  refine (E.out _).mono ?_
  rintro e w2 ⟨rfl, rfl⟩
  go_wp2
  go_ret
  exact ⟨rfl, hb1⟩

set_option maxHeartbeats 1000000 in
theorem chk4 (m : Md) (g : Nat) (W : World) (hx : BoxAt W g m.v) (hm : ModAt W.heap.size W m) (hf : m.few) : Calls Tryz.prog 57 #[.pointer (some ⟨g, 0, none⟩)] W fun e w' => e = .returned (.int .i64 (errI (m.heavy) 3)) ∧ Below W.heap.size W w' := by
  have C := hid (heavy_any m.da m.da'.a m.da.length m.da'.c W rfl hm.da hf.fit.da)
  unfold Md.heavy
  obtain ⟨q, hq⟩ : ∃ q, decide (1048576 < sumB m.da) = q := ⟨_, rfl⟩
  rw [hq] at C ⊢
  have E := hid (fun w => errIf_any q 3 w)
  obtain ⟨c0,c1,c2,c3,c4,c5,c6,c7,c8,c9,c10⟩ := hx.all
  clear hx hm hf hq
  go_enter Tryz.func57, Tryz.ntmps57
  go_wp2_with fail
  refine C.out.mono ?_
  rintro e w1 ⟨rfl, hb1⟩
  clear C c0 c1 c2 c3 c4 c5 c6 c7 c8 c9 c10
  go_wp2_with fail
  refine (E.out _).mono ?_
  rintro e w2 ⟨rfl, rfl⟩
  go_wp2
  go_ret
  exact ⟨rfl, hb1⟩

set_option maxHeartbeats 1000000 in
theorem chk6 (m : Md) (g : Nat) (W : World) (hx : BoxAt W g m.v) (hm : ModAt W.heap.size W m) (hf : m.few) (hU : Utf.Tabs W) : Calls Tryz.prog 60 #[.pointer (some ⟨g, 0, none⟩)] W fun e w' => e = .returned (.int .i64 (errI (m.anyName noText) 2)) ∧ Below W.heap.size W w' := by
  have C := hid (anyName_any m 61 noText W hm hf.fit (asks_text W hU))
  obtain ⟨q, hq⟩ : ∃ q, m.anyName noText = q := ⟨_, rfl⟩
  rw [hq] at C ⊢
  have E := hid (fun w => errIf_any q 2 w)
  unfold Md.v at C
  obtain ⟨c0,c1,c2,c3,c4,c5,c6,c7,c8,c9,c10⟩ := hx.all
  clear hx hm hf hq
  go_enter Tryz.func60, Tryz.ntmps60
  go_wp2_with fail
  refine C.out.mono ?_
  rintro e w1 ⟨rfl, hb1⟩
  clear C c0 c1 c2 c3 c4 c5 c6 c7 c8 c9 c10
  go_wp2_with fail
  refine (E.out _).mono ?_
  rintro e w2 ⟨rfl, rfl⟩
  go_wp2
  go_ret
  exact ⟨rfl, hb1⟩

set_option maxHeartbeats 1000000 in
theorem chk7 (m : Md) (g : Nat) (W : World) (hx : BoxAt W g m.v) (hm : ModAt W.heap.size W m) (hf : m.few) : Calls Tryz.prog 62 #[.pointer (some ⟨g, 0, none⟩)] W fun e w' => e = .returned (.int .i64 (errI (m.ty.any wrongT) 2)) ∧ Below W.heap.size W w' := by
  have C := hid (any_ty m.ty m.ty'.a m.ty.length m.ty'.c W rfl hm.ty hf.fit.ty 64 #[] (enters_of Tryz.func64 (by kernel_rfl) rfl) wrongT (fun W' x _ _ => by simp only [Array.append_empty]; exact wrongT_any x W'))
  obtain ⟨q, hq⟩ : ∃ q, m.ty.any wrongT = q := ⟨_, rfl⟩
  rw [hq] at C ⊢
  have E := hid (fun w => errIf_any q 2 w)
  obtain ⟨c0,c1,c2,c3,c4,c5,c6,c7,c8,c9,c10⟩ := hx.all
  clear hx hm hf hq
  go_enter Tryz.func62, Tryz.ntmps62
  go_wp2_with fail
  refine C.out.mono ?_
  rintro e w1 ⟨rfl, hb1⟩
  clear C c0 c1 c2 c3 c4 c5 c6 c7 c8 c9 c10
  go_wp2_with fail
  refine (E.out _).mono ?_
  rintro e w2 ⟨rfl, rfl⟩
  go_wp2
  go_ret
  exact ⟨rfl, hb1⟩

set_option maxHeartbeats 1000000 in
theorem chk8 (m : Md) (g : Nat) (W : World) (hx : BoxAt W g m.v) (hm : ModAt W.heap.size W m) (hf : m.few) : Calls Tryz.prog 65 #[.pointer (some ⟨g, 0, none⟩)] W fun e w' => e = .returned (.int .i64 (errI (m.im.any wrongI) 2)) ∧ Below W.heap.size W w' := by
  have C := hid (any_im m.im m.im'.a m.im.length m.im'.c W rfl hm.im hf.fit.im 67 #[] (enters_of Tryz.func67 (by kernel_rfl) rfl) wrongI (fun W' x _ _ => by simp only [Array.append_empty]; exact wrongI_any x W'))
  obtain ⟨q, hq⟩ : ∃ q, m.im.any wrongI = q := ⟨_, rfl⟩
  rw [hq] at C ⊢
  have E := hid (fun w => errIf_any q 2 w)
  obtain ⟨c0,c1,c2,c3,c4,c5,c6,c7,c8,c9,c10⟩ := hx.all
  clear hx hm hf hq
  go_enter Tryz.func65, Tryz.ntmps65
  go_wp2_with fail
  refine C.out.mono ?_
  rintro e w1 ⟨rfl, hb1⟩
  clear C c0 c1 c2 c3 c4 c5 c6 c7 c8 c9 c10
  go_wp2_with fail
  refine (E.out _).mono ?_
  rintro e w2 ⟨rfl, rfl⟩
  go_wp2
  go_ret
  exact ⟨rfl, hb1⟩

set_option maxHeartbeats 1000000 in
theorem chk9 (m : Md) (g : Nat) (W : World) (hx : BoxAt W g m.v) (hm : ModAt W.heap.size W m) (hf : m.few) : Calls Tryz.prog 68 #[.pointer (some ⟨g, 0, none⟩)] W fun e w' => e = .returned (.int .i64 (errI (m.fu.any wrongF) 2)) ∧ Below W.heap.size W w' := by
  have C := hid (any_fu m.fu m.fu'.a m.fu.length m.fu'.c W rfl hm.fu hf.fit.fu 70 #[] (enters_of Tryz.func70 (by kernel_rfl) rfl) wrongF (fun W' x _ _ => by simp only [Array.append_empty]; exact wrongF_any x W'))
  obtain ⟨q, hq⟩ : ∃ q, m.fu.any wrongF = q := ⟨_, rfl⟩
  rw [hq] at C ⊢
  have E := hid (fun w => errIf_any q 2 w)
  obtain ⟨c0,c1,c2,c3,c4,c5,c6,c7,c8,c9,c10⟩ := hx.all
  clear hx hm hf hq
  go_enter Tryz.func68, Tryz.ntmps68
  go_wp2_with fail
  refine C.out.mono ?_
  rintro e w1 ⟨rfl, hb1⟩
  clear C c0 c1 c2 c3 c4 c5 c6 c7 c8 c9 c10
  go_wp2_with fail
  refine (E.out _).mono ?_
  rintro e w2 ⟨rfl, rfl⟩
  go_wp2
  go_ret
  exact ⟨rfl, hb1⟩

set_option maxHeartbeats 1000000 in
theorem chk10 (m : Md) (g : Nat) (W : World) (hx : BoxAt W g m.v) (hm : ModAt W.heap.size W m) (hf : m.few) : Calls Tryz.prog 71 #[.pointer (some ⟨g, 0, none⟩)] W fun e w' => e = .returned (.int .i64 (errI (m.ex.any wrongE) 2)) ∧ Below W.heap.size W w' := by
  have C := hid (any_ex m.ex m.ex'.a m.ex.length m.ex'.c W rfl hm.ex hf.fit.ex 73 #[] (enters_of Tryz.func73 (by kernel_rfl) rfl) wrongE (fun W' x _ _ => by simp only [Array.append_empty]; exact wrongE_any x W'))
  obtain ⟨q, hq⟩ : ∃ q, m.ex.any wrongE = q := ⟨_, rfl⟩
  rw [hq] at C ⊢
  have E := hid (fun w => errIf_any q 2 w)
  obtain ⟨c0,c1,c2,c3,c4,c5,c6,c7,c8,c9,c10⟩ := hx.all
  clear hx hm hf hq
  go_enter Tryz.func71, Tryz.ntmps71
  go_wp2_with fail
  refine C.out.mono ?_
  rintro e w1 ⟨rfl, hb1⟩
  clear C c0 c1 c2 c3 c4 c5 c6 c7 c8 c9 c10
  go_wp2_with fail
  refine (E.out _).mono ?_
  rintro e w2 ⟨rfl, rfl⟩
  go_wp2
  go_ret
  exact ⟨rfl, hb1⟩

set_option maxHeartbeats 1000000 in
theorem chk11 (m : Md) (g : Nat) (W : World) (hx : BoxAt W g m.v) (hm : ModAt W.heap.size W m) (hf : m.few) : Calls Tryz.prog 74 #[.pointer (some ⟨g, 0, none⟩)] W fun e w' => e = .returned (.int .i64 (errI (m.tb.any (beyond 1048576)) 2)) ∧ Below W.heap.size W w' := by
  have C := hid (anyBeyond_any m.tb m.tb'.a m.tb.length m.tb'.c 1048576 W rfl hm.tb hf.fit.tb)
  obtain ⟨q, hq⟩ : ∃ q, m.tb.any (beyond 1048576) = q := ⟨_, rfl⟩
  rw [hq] at C ⊢
  have E := hid (fun w => errIf_any q 2 w)
  obtain ⟨c0,c1,c2,c3,c4,c5,c6,c7,c8,c9,c10⟩ := hx.all
  clear hx hm hf hq
  go_enter Tryz.func74, Tryz.ntmps74
  go_wp2_with fail
  refine C.out.mono ?_
  rintro e w1 ⟨rfl, hb1⟩
  clear C c0 c1 c2 c3 c4 c5 c6 c7 c8 c9 c10
  go_wp2_with fail
  refine (E.out _).mono ?_
  rintro e w2 ⟨rfl, rfl⟩
  go_wp2
  go_ret
  exact ⟨rfl, hb1⟩

set_option maxHeartbeats 1000000 in
theorem chk12 (m : Md) (g : Nat) (W : World) (hx : BoxAt W g m.v) (hm : ModAt W.heap.size W m) (hf : m.few) : Calls Tryz.prog 76 #[.pointer (some ⟨g, 0, none⟩)] W fun e w' => e = .returned (.int .i64 (errI (m.me.any (beyond 65536)) 2)) ∧ Below W.heap.size W w' := by
  have C := hid (anyBeyond_any m.me m.me'.a m.me.length m.me'.c 65536 W rfl hm.me hf.fit.me)
  obtain ⟨q, hq⟩ : ∃ q, m.me.any (beyond 65536) = q := ⟨_, rfl⟩
  rw [hq] at C ⊢
  have E := hid (fun w => errIf_any q 2 w)
  obtain ⟨c0,c1,c2,c3,c4,c5,c6,c7,c8,c9,c10⟩ := hx.all
  clear hx hm hf hq
  go_enter Tryz.func76, Tryz.ntmps76
  go_wp2_with fail
  refine C.out.mono ?_
  rintro e w1 ⟨rfl, hb1⟩
  clear C c0 c1 c2 c3 c4 c5 c6 c7 c8 c9 c10
  go_wp2_with fail
  refine (E.out _).mono ?_
  rintro e w2 ⟨rfl, rfl⟩
  go_wp2
  go_ret
  exact ⟨rfl, hb1⟩

set_option maxHeartbeats 1000000 in
theorem chk2 (m : Md) (g : Nat) (q0 : Int) (W : World) (hx : BoxAt W g m.v) (hm : ModAt W.heap.size W m) (hf : m.few) (hT : Nams W) (hc : W.cell? ⟨g + 1, 0, none⟩ = some (.int .i64 q0)) (hfr : W.frozen? ⟨g + 1, 0, none⟩ = false) :
    Calls Tryz.prog 52 #[.pointer (some ⟨g, 0, none⟩), .pointer (some ⟨g + 1, 0, none⟩)] W fun e w' => e = .returned (.int .i64 (errI (codeP m.codes == 141) 141)) ∧ ∃ w1, Below W.heap.size W w1 ∧ w' = w1.setCell ⟨g + 1, 0, none⟩ (.int .i64 (codeP m.codes)) := by
  have C := hid (codeError_any m W hT hm hf)
  obtain ⟨q, hq⟩ : ∃ q, codeP m.codes = q := ⟨_, rfl⟩
  rw [hq] at C ⊢
  have E := hid (fun w => errIf_any (q == 141) 141 w)
  have HK := hid (show ∀ w1, Below W.heap.size W w1 → w1.cell? ⟨g + 1, 0, none⟩ = some (.int .i64 q0) ∧ w1.frozen? ⟨g + 1, 0, none⟩ = false from fun w1 hb => ⟨Go.Proofs.YtiadgkdkjinnjaaGreatDoor.keep hb hc, (hb.frozen (p := ⟨g + 1, 0, none⟩) (World.block_lt_of_cell? W _ hc)).trans hfr⟩)
  unfold Md.v at C
  obtain ⟨c0,c1,c2,c3,c4,c5,c6,c7,c8,c9,c10⟩ := hx.all
  clear hx hm hf hq hT hc hfr
  go_enter Tryz.func52, Tryz.ntmps52
  go_wp2_with fail
  refine C.out.mono ?_
  rintro e w1 ⟨rfl, hb1⟩
  obtain ⟨k1, k2⟩ := HK.out w1 hb1
  clear C c0 c1 c2 c3 c4 c5 c6 c7 c8 c9 c10
  go_wp2_with fail
  refine (E.out _).mono ?_
  rintro e w2 ⟨rfl, rfl⟩
  go_wp2
  go_ret
  exact ⟨rfl, w1, hb1, rfl⟩
theorem chk5 (g : Nat) (q : Int) (W : World) (hc : W.cell? ⟨g + 1, 0, none⟩ = some (.int .i64 q)) : Calls Tryz.prog 59 #[.pointer (some ⟨g + 1, 0, none⟩)] W fun e w' => e = .returned (.int .i64 q) ∧ Below W.heap.size W w' := by
  go_enter Tryz.func59, Tryz.ntmps59
  go_wp2
  go_ret
  exact ⟨rfl, Below.refl _ _⟩
set_option maxHeartbeats 1000000 in
theorem chk13 (m : Md) (g : Nat) (W : World) (hx : BoxAt W g m.v) : Calls Tryz.prog 77 #[.pointer (some ⟨g, 0, none⟩)] W fun e w' => e = .returned (.int .i64 (errI (!m.st && decide (m.sn ≠ 0)) 2)) ∧ Below W.heap.size W w' := by
  obtain ⟨c0,c1,c2,c3,c4,c5,c6,c7,c8,c9,c10⟩ := hx.all
  obtain ⟨sn, hsn⟩ : ∃ sn, m.sn = sn := ⟨_, rfl⟩
  obtain ⟨st, hst⟩ : ∃ st, m.st = st := ⟨_, rfl⟩
  rw [hsn] at c8 ⊢
  rw [hst] at c7 ⊢
  clear hx hsn hst
  have E := hid (fun b w => errIf_any b 2 w)
  cases st
  · by_cases h : sn = 0
    · subst h
      go_enter Tryz.func77, Tryz.ntmps77
      go_wp2_with fail
      refine (E.out _ _).mono ?_
      rintro e w2 ⟨rfl, rfl⟩
      go_wp2
      go_ret
      exact ⟨by simp, Below.refl _ _⟩
    · have hn1 : (sn == 0) = false := by simpa using h
      have hn2 : (sn != 0) = true := by simpa using h
      have HH := hid h
      clear h
      go_enter Tryz.func77, Tryz.ntmps77
      go_wp2_with fail
      refine (E.out _ _).mono ?_
      rintro e w2 ⟨rfl, rfl⟩
      go_wp2
      go_ret
      exact ⟨by simp [HH.out], Below.refl _ _⟩
  · go_enter Tryz.func77, Tryz.ntmps77
    go_wp2_with fail
    refine (E.out _ _).mono ?_
    rintro e w2 ⟨rfl, rfl⟩
    go_wp2
    go_ret
    exact ⟨by simp, Below.refl _ _⟩
end Go.Proofs.YtiadgkdkjinnjaaGreatDoor.Mod
