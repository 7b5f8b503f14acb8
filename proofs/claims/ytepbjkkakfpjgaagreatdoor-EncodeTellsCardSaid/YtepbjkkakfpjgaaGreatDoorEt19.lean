import Derived.Test.YtepbjkkakfpjgaaGreatDoorEt01
import Derived.Test.YtepbjkkakfpjgaaGreatDoorEt14
import Derived.Test.YtepbjkkakfpjgaaGreatDoorEt08
import Derived.Test.YtepbjkkakfpjgaaGreatDoorEt09
import Derived.Test.YtepbjkkakfpjgaaGreatDoorEt06
import Derived.Test.YtepbjkkakfpjgaaGreatDoorEt05
import Derived.Laws.AppendOwn
import Derived.Laws.AppendOwnNone
import Derived.Deep.AppendLies
import Derived.Deep.RegionLaw
import Derived.Deep.RegionHeldLaw
namespace Go.Proofs.YtepbjkkakfpjgaaGreatDoor.Mod
open Go.RowKit Go.Proofs.YtepbjkkakfpjgaaGreatDoor.Instr
theorem refCode_any (l : Lst) (e : Int) (w : World) (hl : ListAt w.heap.size w l.a l.t.len l.t) (h1 : l.t.len ≤ 140737488351232) (h2 : l.t.count ≤ 1000000) :
  Calls Tryz.prog 184 #[.slice l.a l.t.len l.c, .int .i64 e] w fun x w' => x = .returned (.bool (checkP l.t == e)) ∧ Below w.heap.size w w' := by
 have C := hid (Body.checkDoc_any l.t l.a l.t.len l.c w hl h1 (by omega))
 obtain ⟨q, hq⟩ : ∃ q, checkP l.t = q := ⟨_, rfl⟩
 rw [hq] at C ⊢
 clear hq hl
 go_enter Tryz.func184, Tryz.ntmps184
 go_wp2_with fail
 refine C.out.mono ?_
 rintro e1 w1 ⟨rfl, hb⟩
 clear C
 go_wp2
 go_ret
 exact ⟨rfl, hb⟩
def Md.has (m : Md) (e : Int) : Bool := (m.fu.any fun x => checkP x.l.t == e) || ((m.gl.any fun x => checkP x.l.t == e) || ((m.el.any fun x => checkP x.l.t == e) || (m.da.any fun x => checkP x.l.t == e)))
set_option maxHeartbeats 4000000 in
set_option maxRecDepth 100000 in
theorem refInstrs_any (m : Md) (e : Int) (w : World) (hm : ModAt w.heap.size w m) (hf : m.few) :
  Calls Tryz.prog 131 #[.agg m.v, .int .i64 e] w fun x w' => x = .returned (.bool (m.has e)) ∧ Below w.heap.size w w' := by
 have hb0 := (Below.refl w.heap.size w).alloc (Nat.le_refl _) (.cells m.v 32)
 have HB := hid hb0
 have HM := hid (hm.on hb0)
 have HX := hid (BoxAt.made w m.v 32)
 have HF := hid hf
 unfold Md.v at HB HX HM ⊢
 clear hm hf hb0
 go_enter Tryz.func131, Tryz.ntmps131
 go_wp2
 generalize w.alloc (.cells #[.slice m.ty'.a m.ty.length m.ty'.c, .slice m.im'.a m.im.length m.im'.c, .slice m.fu'.a m.fu.length m.fu'.c, .slice m.tb'.a m.tb.length m.tb'.c, .slice m.me'.a m.me.length m.me'.c, .slice m.gl'.a m.gl.length m.gl'.c, .slice m.ex'.a m.ex.length m.ex'.c, .bool m.st, .int .u32 m.sn, .slice m.el'.a m.el.length m.el'.c, .slice m.da'.a m.da.length m.da'.c] 32) = W0 at HB HM HX ⊢
 obtain ⟨lf, hlf⟩ : ∃ n, m.fu.length = n := ⟨_, rfl⟩
 have Llf := hid hlf
 have blf : lf ≤ 140737488351232 := by have := HF.out.fit.fu; omega
 have zlf : lf ≤ 1000000 := by have := HF.out.lens; omega
 have Xfu := hid (show W0.cell? ⟨w.heap.size, 2, none⟩ = some (.slice m.fu'.a lf m.fu'.c) by rw [← hlf]; exact HX.out 2 _ rfl)
 have Rfu := hid HM.out.fu
 clear hlf
 obtain ⟨lg, hlg⟩ : ∃ n, m.gl.length = n := ⟨_, rfl⟩
 have Llg := hid hlg
 have blg : lg ≤ 140737488351232 := by have := HF.out.fit.gl; omega
 have zlg : lg ≤ 1000000 := by have := HF.out.lens; omega
 have Xgl := hid (show W0.cell? ⟨w.heap.size, 5, none⟩ = some (.slice m.gl'.a lg m.gl'.c) by rw [← hlg]; exact HX.out 5 _ rfl)
 have Rgl := hid HM.out.gl
 clear hlg
 obtain ⟨le, hle⟩ : ∃ n, m.el.length = n := ⟨_, rfl⟩
 have Lle := hid hle
 have ble : le ≤ 140737488351232 := by have := HF.out.fit.el; omega
 have zle : le ≤ 1000000 := by have := HF.out.lens; omega
 have Xel := hid (show W0.cell? ⟨w.heap.size, 9, none⟩ = some (.slice m.el'.a le m.el'.c) by rw [← hle]; exact HX.out 9 _ rfl)
 have Rel := hid HM.out.el
 clear hle
 obtain ⟨ld, hld⟩ : ∃ n, m.da.length = n := ⟨_, rfl⟩
 have Lld := hid hld
 have bld : ld ≤ 140737488351232 := by have := HF.out.fit.da; omega
 have zld : ld ≤ 1000000 := by have := HF.out.lens; omega
 have Xda := hid (show W0.cell? ⟨w.heap.size, 10, none⟩ = some (.slice m.da'.a ld m.da'.c) by rw [← hld]; exact HX.out 10 _ rfl)
 have Rda := hid HM.out.da
 clear hld
 clear HX
 go_loopw [5] (fun vi wr => ∃ k : Nat, vi = .int .i64 k ∧ k ≤ lf ∧ Hid (∀ j (hj : j < m.fu.length), j < k → (checkP (m.fu[j]).l.t == e) = false) ∧ Hid (Below W0.heap.size W0 wr)) (fun vi _ => lf - (intOf vi).toNat)
 case atStart => exact ⟨0, rfl, Nat.zero_le _, fun j _ h => absurd h (Nat.not_lt_zero _), Below.refl _ _⟩
 case round =>
  obtain ⟨k, rfl, hk, HQ, HW⟩ := hrel
  have hbx := Go.Proofs.YtepbjkkakfpjgaaGreatDoor.keep HW.out Xfu.out
  by_cases hlt : k < lf
  ·have hkl : k < m.fu.length := by rw [Llf.out]; exact hlt
   obtain ⟨b, off, ha, hb, hc⟩ := Rows.get Rfu.out hkl
   rw [ha] at hbx
   have hx : m.fu[k] ∈ m.fu := List.getElem_mem hkl
   have hLs := HM.out.ls m.fu[k].l (by unfold Md.codes; exact List.mem_append_left _ (List.mem_map.2 ⟨_, hx, rfl⟩))
   have hLl := HF.out.fit.ls m.fu[k].l (by unfold Md.codes; exact List.mem_append_left _ (List.mem_map.2 ⟨_, hx, rfl⟩))
   have hLc := HF.out.cs m.fu[k].l (by unfold Md.codes; exact List.mem_append_left _ (List.mem_map.2 ⟨_, hx, rfl⟩))
   obtain ⟨x, hxe⟩ : ∃ x, m.fu[k] = x := ⟨_, rfl⟩
   have HXE := hid hxe
   rw [hxe] at hc hLs hLl hLc
   have cc : ∀ j, j < 3 → ∀ v, x.v[j]? = some v → wr.cell? ⟨b, off + k * 3 + j, none⟩ = some v := fun j hj v hv => (HW.out.cell (p := ⟨b, off + k * 3 + j, none⟩) hb).trans (hc j hj v hv)
   have c2 : wr.cell? ⟨b, off + k * 3 + 2, none⟩ = some (.slice x.l.a x.l.t.len x.l.c) := cc 2 (by omega) _ rfl
   have hki : (k : Int) < (lf : Int) := by omega
   have C := hid (refCode_any x.l e wr ((hLs.below HW.out).more HW.out.size) hLl hLc)
   obtain ⟨q, hq⟩ : ∃ q, (checkP x.l.t == e) = q := ⟨_, rfl⟩
   rw [hq] at C
   have HQK := hid (show (checkP (m.fu[k]).l.t == e) = q by rw [HXE.out]; exact hq)
   clear hx hxe hc cc hb ha hLs hLl hLc hq
   cases q with
   | true =>
    have HE := hid (show m.has e = true by unfold Md.has; rw [any_some hkl HQK.out]; simp)
    go_wp2_with fail
    refine C.out.mono ?_
    rintro e1 w1 ⟨rfl, hb1⟩
    have HW1 := hid (HW.out.trans (hb1.mono HW.out.size))
    clear C hb1
    go_wp2
    go_ret
    exact ⟨ret_bool HE.out.symm, HB.out.trans (HW1.out.mono HB.out.size)⟩
   | false =>
    have HQ' := hid (any_take (p := fun x => checkP x.l.t == e) hkl HQ.out HQK.out)
    go_wp2_with fail
    refine C.out.mono ?_
    rintro e1 w1 ⟨rfl, hb1⟩
    have HW1 := hid (HW.out.trans (hb1.mono HW.out.size))
    clear C hb1 hbx c2
    go_wp2
    go_roundw
    case rel => exact ⟨k + 1, by go_num, by omega, HQ', HW1⟩
    case measure => simp [intOf]; omega
  ·obtain rfl : lf = k := by omega
   have HBL := HW
   have HAfu := hid (any_none (p := fun x => checkP x.l.t == e) (l := m.fu) (fun j hj => HQ.out j hj (by rw [← Llf.out]; exact hj)))
   clear HQ HW hlt hk
   go_wp2
   clear hbx
   go_loopw [6] (fun vi wr => ∃ k : Nat, vi = .int .i64 k ∧ k ≤ lg ∧ Hid (∀ j (hj : j < m.gl.length), j < k → (checkP (m.gl[j]).l.t == e) = false) ∧ Hid (Below W0.heap.size W0 wr)) (fun vi _ => lg - (intOf vi).toNat)
   case atStart => exact ⟨0, rfl, Nat.zero_le _, fun j _ h => absurd h (Nat.not_lt_zero _), HBL⟩
   case round =>
    clear HBL
    obtain ⟨k, rfl, hk, HQ, HW⟩ := hrel
    have hbx := Go.Proofs.YtepbjkkakfpjgaaGreatDoor.keep HW.out Xgl.out
    by_cases hlt : k < lg
    ·have hkl : k < m.gl.length := by rw [Llg.out]; exact hlt
     obtain ⟨b, off, ha, hb, hc⟩ := Rows.get Rgl.out hkl
     rw [ha] at hbx
     have hx : m.gl[k] ∈ m.gl := List.getElem_mem hkl
     have hLs := HM.out.ls m.gl[k].l (by unfold Md.codes; exact List.mem_append_right _ (List.mem_append_left _ (List.mem_map.2 ⟨_, hx, rfl⟩)))
     have hLl := HF.out.fit.ls m.gl[k].l (by unfold Md.codes; exact List.mem_append_right _ (List.mem_append_left _ (List.mem_map.2 ⟨_, hx, rfl⟩)))
     have hLc := HF.out.cs m.gl[k].l (by unfold Md.codes; exact List.mem_append_right _ (List.mem_append_left _ (List.mem_map.2 ⟨_, hx, rfl⟩)))
     obtain ⟨x, hxe⟩ : ∃ x, m.gl[k] = x := ⟨_, rfl⟩
     have HXE := hid hxe
     rw [hxe] at hc hLs hLl hLc
     have cc : ∀ j, j < 2 → ∀ v, x.v[j]? = some v → wr.cell? ⟨b, off + k * 2 + j, none⟩ = some v := fun j hj v hv => (HW.out.cell (p := ⟨b, off + k * 2 + j, none⟩) hb).trans (hc j hj v hv)
     have c1 : wr.cell? ⟨b, off + k * 2 + 1, none⟩ = some (.slice x.l.a x.l.t.len x.l.c) := cc 1 (by omega) _ rfl
     have hki : (k : Int) < (lg : Int) := by omega
     have C := hid (refCode_any x.l e wr ((hLs.below HW.out).more HW.out.size) hLl hLc)
     obtain ⟨q, hq⟩ : ∃ q, (checkP x.l.t == e) = q := ⟨_, rfl⟩
     rw [hq] at C
     have HQK := hid (show (checkP (m.gl[k]).l.t == e) = q by rw [HXE.out]; exact hq)
     clear hx hxe hc cc hb ha hLs hLl hLc hq
     cases q with
     | true =>
      have HE := hid (show m.has e = true by unfold Md.has; rw [any_some hkl HQK.out]; simp)
      go_wp2_with fail
      refine C.out.mono ?_
      rintro e1 w1 ⟨rfl, hb1⟩
      have HW1 := hid (HW.out.trans (hb1.mono HW.out.size))
      clear C hb1
      go_wp2
      go_ret
      exact ⟨ret_bool HE.out.symm, HB.out.trans (HW1.out.mono HB.out.size)⟩
     | false =>
      have HQ' := hid (any_take (p := fun x => checkP x.l.t == e) hkl HQ.out HQK.out)
      go_wp2_with fail
      refine C.out.mono ?_
      rintro e1 w1 ⟨rfl, hb1⟩
      have HW1 := hid (HW.out.trans (hb1.mono HW.out.size))
      clear C hb1 hbx c1
      go_wp2
      go_roundw
      case rel => exact ⟨k + 1, by go_num, by omega, HQ', HW1⟩
      case measure => simp [intOf]; omega
    ·obtain rfl : lg = k := by omega
     have HBL := HW
     have HAgl := hid (any_none (p := fun x => checkP x.l.t == e) (l := m.gl) (fun j hj => HQ.out j hj (by rw [← Llg.out]; exact hj)))
     clear HQ HW hlt hk
     go_wp2
     clear hbx
     go_loopw [7] (fun vi wr => ∃ k : Nat, vi = .int .i64 k ∧ k ≤ le ∧ Hid (∀ j (hj : j < m.el.length), j < k → (checkP (m.el[j]).l.t == e) = false) ∧ Hid (Below W0.heap.size W0 wr)) (fun vi _ => le - (intOf vi).toNat)
     case atStart => exact ⟨0, rfl, Nat.zero_le _, fun j _ h => absurd h (Nat.not_lt_zero _), HBL⟩
     case round =>
      clear HBL
      obtain ⟨k, rfl, hk, HQ, HW⟩ := hrel
      have hbx := Go.Proofs.YtepbjkkakfpjgaaGreatDoor.keep HW.out Xel.out
      by_cases hlt : k < le
      ·have hkl : k < m.el.length := by rw [Lle.out]; exact hlt
       obtain ⟨b, off, ha, hb, hc⟩ := Rows.get Rel.out hkl
       rw [ha] at hbx
       have hx : m.el[k] ∈ m.el := List.getElem_mem hkl
       have hLs := HM.out.ls m.el[k].l (by unfold Md.codes; exact List.mem_append_right _ (List.mem_append_right _ (List.mem_append_left _ (List.mem_map.2 ⟨_, hx, rfl⟩))))
       have hLl := HF.out.fit.ls m.el[k].l (by unfold Md.codes; exact List.mem_append_right _ (List.mem_append_right _ (List.mem_append_left _ (List.mem_map.2 ⟨_, hx, rfl⟩))))
       have hLc := HF.out.cs m.el[k].l (by unfold Md.codes; exact List.mem_append_right _ (List.mem_append_right _ (List.mem_append_left _ (List.mem_map.2 ⟨_, hx, rfl⟩))))
       obtain ⟨x, hxe⟩ : ∃ x, m.el[k] = x := ⟨_, rfl⟩
       have HXE := hid hxe
       rw [hxe] at hc hLs hLl hLc
       have cc : ∀ j, j < 2 → ∀ v, x.v[j]? = some v → wr.cell? ⟨b, off + k * 2 + j, none⟩ = some v := fun j hj v hv => (HW.out.cell (p := ⟨b, off + k * 2 + j, none⟩) hb).trans (hc j hj v hv)
       have c0 : wr.cell? ⟨b, off + k * 2, none⟩ = some (.slice x.l.a x.l.t.len x.l.c) := cc 0 (by omega) _ rfl
       have hki : (k : Int) < (le : Int) := by omega
       have C := hid (refCode_any x.l e wr ((hLs.below HW.out).more HW.out.size) hLl hLc)
       obtain ⟨q, hq⟩ : ∃ q, (checkP x.l.t == e) = q := ⟨_, rfl⟩
       rw [hq] at C
       have HQK := hid (show (checkP (m.el[k]).l.t == e) = q by rw [HXE.out]; exact hq)
       clear hx hxe hc cc hb ha hLs hLl hLc hq
       cases q with
       | true =>
        have HE := hid (show m.has e = true by unfold Md.has; rw [any_some hkl HQK.out]; simp)
        go_wp2_with fail
        refine C.out.mono ?_
        rintro e1 w1 ⟨rfl, hb1⟩
        have HW1 := hid (HW.out.trans (hb1.mono HW.out.size))
        clear C hb1
        go_wp2
        go_ret
        exact ⟨ret_bool HE.out.symm, HB.out.trans (HW1.out.mono HB.out.size)⟩
       | false =>
        have HQ' := hid (any_take (p := fun x => checkP x.l.t == e) hkl HQ.out HQK.out)
        go_wp2_with fail
        refine C.out.mono ?_
        rintro e1 w1 ⟨rfl, hb1⟩
        have HW1 := hid (HW.out.trans (hb1.mono HW.out.size))
        clear C hb1 hbx c0
        go_wp2
        go_roundw
        case rel => exact ⟨k + 1, by go_num, by omega, HQ', HW1⟩
        case measure => simp [intOf]; omega
      ·obtain rfl : le = k := by omega
       have HBL := HW
       have HAel := hid (any_none (p := fun x => checkP x.l.t == e) (l := m.el) (fun j hj => HQ.out j hj (by rw [← Lle.out]; exact hj)))
       clear HQ HW hlt hk
       go_wp2
       clear hbx
       go_loopw [8] (fun vi wr => ∃ k : Nat, vi = .int .i64 k ∧ k ≤ ld ∧ Hid (∀ j (hj : j < m.da.length), j < k → (checkP (m.da[j]).l.t == e) = false) ∧ Hid (Below W0.heap.size W0 wr)) (fun vi _ => ld - (intOf vi).toNat)
       case atStart => exact ⟨0, rfl, Nat.zero_le _, fun j _ h => absurd h (Nat.not_lt_zero _), HBL⟩
       case round =>
        clear HBL
        obtain ⟨k, rfl, hk, HQ, HW⟩ := hrel
        have hbx := Go.Proofs.YtepbjkkakfpjgaaGreatDoor.keep HW.out Xda.out
        by_cases hlt : k < ld
        ·have hkl : k < m.da.length := by rw [Lld.out]; exact hlt
         obtain ⟨b, off, ha, hb, hc⟩ := Rows.get Rda.out hkl
         rw [ha] at hbx
         have hx : m.da[k] ∈ m.da := List.getElem_mem hkl
         have hLs := HM.out.ls m.da[k].l (by unfold Md.codes; exact List.mem_append_right _ (List.mem_append_right _ (List.mem_append_right _ (List.mem_map.2 ⟨_, hx, rfl⟩))))
         have hLl := HF.out.fit.ls m.da[k].l (by unfold Md.codes; exact List.mem_append_right _ (List.mem_append_right _ (List.mem_append_right _ (List.mem_map.2 ⟨_, hx, rfl⟩))))
         have hLc := HF.out.cs m.da[k].l (by unfold Md.codes; exact List.mem_append_right _ (List.mem_append_right _ (List.mem_append_right _ (List.mem_map.2 ⟨_, hx, rfl⟩))))
         obtain ⟨x, hxe⟩ : ∃ x, m.da[k] = x := ⟨_, rfl⟩
         have HXE := hid hxe
         rw [hxe] at hc hLs hLl hLc
         have cc : ∀ j, j < 2 → ∀ v, x.v[j]? = some v → wr.cell? ⟨b, off + k * 2 + j, none⟩ = some v := fun j hj v hv => (HW.out.cell (p := ⟨b, off + k * 2 + j, none⟩) hb).trans (hc j hj v hv)
         have c0 : wr.cell? ⟨b, off + k * 2, none⟩ = some (.slice x.l.a x.l.t.len x.l.c) := cc 0 (by omega) _ rfl
         have hki : (k : Int) < (ld : Int) := by omega
         have C := hid (refCode_any x.l e wr ((hLs.below HW.out).more HW.out.size) hLl hLc)
         obtain ⟨q, hq⟩ : ∃ q, (checkP x.l.t == e) = q := ⟨_, rfl⟩
         rw [hq] at C
         have HQK := hid (show (checkP (m.da[k]).l.t == e) = q by rw [HXE.out]; exact hq)
         clear hx hxe hc cc hb ha hLs hLl hLc hq
         cases q with
         | true =>
          have HE := hid (show m.has e = true by unfold Md.has; rw [any_some hkl HQK.out]; simp)
          go_wp2_with fail
          refine C.out.mono ?_
          rintro e1 w1 ⟨rfl, hb1⟩
          have HW1 := hid (HW.out.trans (hb1.mono HW.out.size))
          clear C hb1
          go_wp2
          go_ret
          exact ⟨ret_bool HE.out.symm, HB.out.trans (HW1.out.mono HB.out.size)⟩
         | false =>
          have HQ' := hid (any_take (p := fun x => checkP x.l.t == e) hkl HQ.out HQK.out)
          go_wp2_with fail
          refine C.out.mono ?_
          rintro e1 w1 ⟨rfl, hb1⟩
          have HW1 := hid (HW.out.trans (hb1.mono HW.out.size))
          clear C hb1 hbx c0
          go_wp2
          go_roundw
          case rel => exact ⟨k + 1, by go_num, by omega, HQ', HW1⟩
          case measure => simp [intOf]; omega
        ·obtain rfl : ld = k := by omega
         have HBL := HW
         have HAda := hid (any_none (p := fun x => checkP x.l.t == e) (l := m.da) (fun j hj => HQ.out j hj (by rw [← Lld.out]; exact hj)))
         clear HQ HW hlt hk
         have HE := hid (show m.has e = false by unfold Md.has; rw [HAfu.out, HAgl.out, HAel.out, HAda.out]; rfl)
         go_wp2
         go_ret
         exact ⟨ret_bool HE.out.symm, HB.out.trans (HBL.out.mono HB.out.size)⟩
end Go.Proofs.YtepbjkkakfpjgaaGreatDoor.Mod
namespace Go.Proofs.YtepbjkkakfpjgaaGreatDoor.Mod
open Go.RowKit Go.Proofs.YtepbjkkakfpjgaaGreatDoor.Instr
def Md.many (m : Md) : Bool := m.crowded || m.has 141
def Md.lens7 (m : Md) : List Nat := [m.ty.length, m.im.length, m.fu.length, m.gl.length, m.ex.length, m.el.length, m.da.length]
def longF (e : El) : Bool := decide (16384 < e.fs.length)
theorem many_two {m : Md} (h : 1 < m.tb.length ∨ 1 < m.me.length) : m.many = true := by
 unfold Md.many Md.crowded; simp only [Bool.or_eq_true, decide_eq_true_eq]; rcases h with h | h <;> simp [h]
theorem many_el {m : Md} {k : Nat} (hk : k < m.el.length) (h : longF m.el[k] = true) : m.many = true := by
 have : (m.el.any fun e => decide (16384 < e.fs.length)) = true := any_some (p := longF) hk h
 unfold Md.many Md.crowded; rw [this]; simp
theorem many_len {m : Md} {k : Nat} (hk : k < 7) (h : 16384 < m.lens7.getD k 0) : m.many = true := by
 unfold Md.many Md.crowded
 unfold Md.lens7 at h
 match k, hk with
 | 0, _ => simp only [List.getD_cons_zero] at h; simp [h]
 | 1, _ => simp only [List.getD_cons_zero, List.getD_cons_succ] at h; simp [h]
 | 2, _ => simp only [List.getD_cons_zero, List.getD_cons_succ] at h; simp [h]
 | 3, _ => simp only [List.getD_cons_zero, List.getD_cons_succ] at h; simp [h]
 | 4, _ => simp only [List.getD_cons_zero, List.getD_cons_succ] at h; simp [h]
 | 5, _ => simp only [List.getD_cons_zero, List.getD_cons_succ] at h; simp [h]
 | 6, _ => simp only [List.getD_cons_zero, List.getD_cons_succ] at h; simp [h]
theorem many_rest {m : Md} (h1 : ¬ 1 < m.tb.length) (h2 : ¬ 1 < m.me.length) (h3 : ∀ k, k < 7 → ¬ 16384 < m.lens7.getD k 0) (h4 : ∀ j (hj : j < m.el.length), j < 16385 → longF m.el[j] = false) : m.many = m.has 141 := by
 have a0 := h3 0 (by omega)
 have a1 := h3 1 (by omega)
 have a2 := h3 2 (by omega)
 have a3 := h3 3 (by omega)
 have a4 := h3 4 (by omega)
 have a5 := h3 5 (by omega)
 have a6 := h3 6 (by omega)
 unfold Md.lens7 at a0 a1 a2 a3 a4 a5 a6
 simp only [List.getD_cons_zero, List.getD_cons_succ] at a0 a1 a2 a3 a4 a5 a6
 have : (m.el.any fun e => decide (16384 < e.fs.length)) = false := any_none (p := longF) (fun j hj => h4 j hj (by omega))
 unfold Md.many Md.crowded
 rw [this]
 simp [a0, a1, a2, a3, a4, a5, a6, h1, h2]
theorem cell7 (w : World) (a b c d e f g : Int) (t : TypeId) {k : Nat} (hk : k < 7) : (w.alloc (.cells #[.int .i64 a, .int .i64 b, .int .i64 c, .int .i64 d, .int .i64 e, .int .i64 f, .int .i64 g] t)).cell? ⟨w.heap.size, k, none⟩ = some (.int .i64 ([a, b, c, d, e, f, g].getD k 0)) := by
 match k, hk with
 | 0, _ => simp [go_sem]
 | 1, _ => simp [go_sem]
 | 2, _ => simp [go_sem]
 | 3, _ => simp [go_sem]
 | 4, _ => simp [go_sem]
 | 5, _ => simp [go_sem]
 | 6, _ => simp [go_sem]
theorem getD7 (a b c d e f g : Nat) (k : Nat) : [(a : Int), b, c, d, e, f, g].getD k 0 = (([a, b, c, d, e, f, g].getD k 0 : Nat) : Int) := by
 match k with
 | 0 => rfl
 | 1 => rfl
 | 2 => rfl
 | 3 => rfl
 | 4 => rfl
 | 5 => rfl
 | 6 => rfl
 | k + 7 => simp
set_option maxHeartbeats 4000000 in
set_option maxRecDepth 100000 in
theorem refMany_any (m : Md) (w : World) (hm : ModAt w.heap.size w m) (hf : m.few) :
  Calls Tryz.prog 77 #[.agg m.v] w fun x w' => x = .returned (.bool m.many) ∧ Below w.heap.size w w' := by
 have hb0 := (Below.refl w.heap.size w).alloc (Nat.le_refl _) (.cells m.v 32)
 have HB := hid hb0
 have HM := hid (hm.on hb0)
 have X0 := (BoxAt.made w m.v 32)
 have HX := hid X0
 have HF := hid hf
 have HLF := hid (show ∀ e ∈ m.el, e.fs.length ≤ 140737488351232 from hf.fit.fs)
 have hle : m.el.length ≤ 1000000 := hf.lens.2.2.2.2.2.2.2.1
 have b0 := hf.fit.ty
 have b1 := hf.fit.im
 have b2 := hf.fit.fu
 have b3 := hf.fit.tb
 have b4 := hf.fit.me
 have b5 := hf.fit.gl
 have b6 := hf.fit.ex
 have b10 := hf.fit.da
 have HT2 := hid (fun h => many_two (m := m) h)
 have HTL := hid (fun k (hk : k < 7) h => many_len (m := m) hk h)
 have HRR := hid (fun h1 h2 h3 h4 => many_rest (m := m) h1 h2 h3 h4)
 have H7 : Hid (m.lens7 = [m.ty.length, m.im.length, m.fu.length, m.gl.length, m.ex.length, m.el.length, m.da.length]) := rfl
 unfold Md.v at HB HX HM X0 ⊢
 clear hm hf hb0
 obtain ⟨x0, x1, x2, x3, x4, x5, x6, x7, x8, x9, x10⟩ := Mod.cells11 X0
 clear X0
 go_enter Tryz.func77, Tryz.ntmps77
 by_cases g1 : 1 < m.tb.length
 ·have HE := hid (HT2.out (.inl g1))
  have g1i : (1 : Int) < (m.tb.length : Int) := by omega
  clear HT2 HTL HRR HX HM
  go_wp2
  go_ret
  exact ⟨ret_bool HE.out.symm, HB.out⟩
 ·have g1i : ¬ (1 : Int) < (m.tb.length : Int) := by omega
  by_cases g2 : 1 < m.me.length
  ·have HE := hid (HT2.out (.inr g2))
   have g2i : (1 : Int) < (m.me.length : Int) := by omega
   clear HT2 HTL HRR HX HM
   go_wp2
   go_ret
   exact ⟨ret_bool HE.out.symm, HB.out⟩
  ·have g2i : ¬ (1 : Int) < (m.me.length : Int) := by omega
   have HR1 := hid (HRR.out g1 g2)
   clear HT2 HRR g1 g2
   have C := hid (fun (W : World) (h : ModAt W.heap.size W m) => refInstrs_any m 141 W h HF.out)
   unfold Md.v at C
   go_wp2
   generalize w.alloc (.cells #[.slice m.ty'.a m.ty.length m.ty'.c, .slice m.im'.a m.im.length m.im'.c, .slice m.fu'.a m.fu.length m.fu'.c, .slice m.tb'.a m.tb.length m.tb'.c, .slice m.me'.a m.me.length m.me'.c, .slice m.gl'.a m.gl.length m.gl'.c, .slice m.ex'.a m.ex.length m.ex'.c, .bool m.st, .int .u32 m.sn, .slice m.el'.a m.el.length m.el'.c, .slice m.da'.a m.da.length m.da'.c] 32) = W0 at *
   obtain ⟨le, hle0⟩ : ∃ n, m.el.length = n := ⟨_, rfl⟩
   have Lle := hid hle0
   rw [hle0] at x9 hle H7 C
   have RE := hid HM.out.el
   clear hle0
   go_loopw [3] (fun vi wr => ∃ k : Nat, vi = .int .i64 k ∧ k ≤ le ∧ k ≤ 16385 ∧ wr = W0 ∧ Hid (∀ j (hj : j < m.el.length), j < k → longF m.el[j] = false)) (fun vi _ => le - (intOf vi).toNat)
   case atStart => exact ⟨0, rfl, Nat.zero_le _, Nat.zero_le _, rfl, none_upto _ _⟩
   case round =>
    obtain ⟨k, rfl, hk, hk2, rfl, HQ⟩ := hrel
    by_cases hlt : k < le ∧ k < 16385
    ·obtain ⟨l1, l2⟩ := hlt
     have hkl : k < m.el.length := by rw [Lle.out]; exact l1
     obtain ⟨b, off, ha, hb, hc⟩ := Rows.get RE.out hkl
     rw [ha] at x9
     have HT := hid (fun (h : longF m.el[k] = true) => many_el hkl h)
     have HO := hid (fun (h : longF m.el[k] = false) => any_take hkl HQ.out h)
     have hsz := HLF.out m.el[k] (List.getElem_mem hkl)
     have HWT : Hid (longF m.el[k] = decide (16384 < m.el[k].fs.length)) := rfl
     obtain ⟨x, hx⟩ : ∃ x, m.el[k] = x := ⟨_, rfl⟩
     rw [hx] at hc HT hsz HWT
     have HO1 : Hid (longF x = false → ∀ j (hj : j < m.el.length), j < k + 1 → longF m.el[j] = false) := by rw [← hx]; exact HO
     have c1 := hc 1 (by omega) (.slice x.fa x.fs.length x.fc) rfl
     obtain ⟨q, hq⟩ : ∃ q, x.fs.length = q := ⟨_, rfl⟩
     rw [hq] at c1 HWT hsz
     have hki : (k : Int) < (le : Int) := by omega
     have hki2 : (k : Int) ≤ 16384 := by omega
     clear hc hx hq hb ha hkl HO HQ
     by_cases g : 16384 < q
     ·have HE := hid (HT.out (by rw [HWT.out]; simp [g]))
      have gi : (16384 : Int) < (q : Int) := by omega
      clear HT HO1 HWT
      go_wp2
      go_ret
      exact ⟨ret_bool HE.out.symm, HB.out⟩
     ·have HE := hid (HO1.out (by rw [HWT.out]; simp [g]))
      have gi : ¬ (16384 : Int) < (q : Int) := by omega
      clear HT HO1 HWT
      go_wp2
      go_roundw
      case rel => exact ⟨k + 1, by go_num, by omega, by omega, trivial, HE⟩
      case measure => simp [intOf]; omega
    ·have HQ9 := hid (show ∀ j (hj : j < m.el.length), j < 16385 → longF m.el[j] = false from fun j hj hj2 => HQ.out j hj (by have := Lle.out; omega))
     clear HQ
     by_cases l1 : k < le
     ·have l2 : k = 16385 := by omega
      subst l2
      have l1i : (16385 : Int) < (le : Int) := by omega
      go_wp2
      have hbA := (Below.refl wr.heap.size wr).alloc (Nat.le_refl _) (.cells #[.int .i64 m.ty.length, .int .i64 m.im.length, .int .i64 m.fu.length, .int .i64 m.gl.length, .int .i64 m.ex.length, .int .i64 le, .int .i64 m.da.length] 3)
      have HC7 := hid (show ∀ j, j < 7 → (wr.alloc (.cells #[.int .i64 m.ty.length, .int .i64 m.im.length, .int .i64 m.fu.length, .int .i64 m.gl.length, .int .i64 m.ex.length, .int .i64 le, .int .i64 m.da.length] 3)).cell? ⟨wr.heap.size, j, none⟩ = some (.int .i64 ((m.lens7.getD j 0 : Nat) : Int)) from fun j hj => by rw [cell7 wr _ _ _ _ _ _ _ _ hj, getD7, H7.out])
      have HB7 := hid (HB.out.trans (hbA.mono HB.out.size))
      have C7 := hid (C.out _ (HM.out.on hbA))
      have y0 := Go.Proofs.YtepbjkkakfpjgaaGreatDoor.keep hbA x0
      have y1 := Go.Proofs.YtepbjkkakfpjgaaGreatDoor.keep hbA x1
      have y2 := Go.Proofs.YtepbjkkakfpjgaaGreatDoor.keep hbA x2
      have y3 := Go.Proofs.YtepbjkkakfpjgaaGreatDoor.keep hbA x3
      have y4 := Go.Proofs.YtepbjkkakfpjgaaGreatDoor.keep hbA x4
      have y5 := Go.Proofs.YtepbjkkakfpjgaaGreatDoor.keep hbA x5
      have y6 := Go.Proofs.YtepbjkkakfpjgaaGreatDoor.keep hbA x6
      have y7 := Go.Proofs.YtepbjkkakfpjgaaGreatDoor.keep hbA x7
      have y8 := Go.Proofs.YtepbjkkakfpjgaaGreatDoor.keep hbA x8
      have y9 := Go.Proofs.YtepbjkkakfpjgaaGreatDoor.keep hbA x9
      have y10 := Go.Proofs.YtepbjkkakfpjgaaGreatDoor.keep hbA x10
      clear C HM HX hbA HB RE x0 x1 x2 x3 x4 x5 x6 x7 x8 x9 x10
      generalize wr.alloc (.cells #[.int .i64 m.ty.length, .int .i64 m.im.length, .int .i64 m.fu.length, .int .i64 m.gl.length, .int .i64 m.ex.length, .int .i64 le, .int .i64 m.da.length] 3) = W1 at *
      go_loopw [5] (fun vi w9 => ∃ i : Nat, vi = .int .i64 i ∧ i ≤ 7 ∧ w9 = W1 ∧ Hid (∀ j, j < i → ¬ 16384 < m.lens7.getD j 0)) (fun vi _ => 7 - (intOf vi).toNat)
      case atStart => exact ⟨0, rfl, Nat.zero_le _, rfl, fun j h => absurd h (Nat.not_lt_zero _)⟩
      case round =>
       obtain ⟨i, rfl, hi, rfl, HI⟩ := hrel
       by_cases hi7 : i < 7
       ·have c := HC7.out i hi7
        have HT := hid (HTL.out i hi7)
        have HO := hid (show ¬ 16384 < m.lens7.getD i 0 → ∀ j, j < i + 1 → ¬ 16384 < m.lens7.getD j 0 from fun h j hj => by
          by_cases e : j = i
          · rw [e]; exact h
          · exact HI.out j (by omega))
        obtain ⟨q, hq⟩ : ∃ q, m.lens7.getD i 0 = q := ⟨_, rfl⟩
        rw [hq] at c HT HO
        have hii : (i : Int) < 7 := by omega
        clear hq HI
        by_cases g : 16384 < q
        ·have HE := hid (HT.out g)
         have gi : (16384 : Int) < (q : Int) := by omega
         clear HT HO
         go_wp2
         go_ret
         exact ⟨ret_bool HE.out.symm, HB7.out⟩
        ·have HE := hid (HO.out g)
         have gi : ¬ (16384 : Int) < (q : Int) := by omega
         clear HT HO
         go_wp2
         go_roundw
         case rel => exact ⟨i + 1, by go_num, by omega, trivial, HE⟩
         case measure => simp [intOf]; omega
       ·obtain rfl : i = 7 := by omega
        have HE := hid (HR1.out HI.out HQ9.out)
        clear HI HR1 HTL
        go_wp2_with fail
        refine C7.out.mono ?_
        rintro e1 w1 ⟨rfl, hb1⟩
        have HZ := hid (HB7.out.trans (hb1.mono HB7.out.size))
        clear C7 hb1
        go_wp2
        go_ret
        exact ⟨ret_bool HE.out.symm, HZ.out⟩
     ·obtain rfl : le = k := by omega
      go_wp2
      have hbA := (Below.refl wr.heap.size wr).alloc (Nat.le_refl _) (.cells #[.int .i64 m.ty.length, .int .i64 m.im.length, .int .i64 m.fu.length, .int .i64 m.gl.length, .int .i64 m.ex.length, .int .i64 le, .int .i64 m.da.length] 3)
      have HC7 := hid (show ∀ j, j < 7 → (wr.alloc (.cells #[.int .i64 m.ty.length, .int .i64 m.im.length, .int .i64 m.fu.length, .int .i64 m.gl.length, .int .i64 m.ex.length, .int .i64 le, .int .i64 m.da.length] 3)).cell? ⟨wr.heap.size, j, none⟩ = some (.int .i64 ((m.lens7.getD j 0 : Nat) : Int)) from fun j hj => by rw [cell7 wr _ _ _ _ _ _ _ _ hj, getD7, H7.out])
      have HB7 := hid (HB.out.trans (hbA.mono HB.out.size))
      have C7 := hid (C.out _ (HM.out.on hbA))
      have y0 := Go.Proofs.YtepbjkkakfpjgaaGreatDoor.keep hbA x0
      have y1 := Go.Proofs.YtepbjkkakfpjgaaGreatDoor.keep hbA x1
      have y2 := Go.Proofs.YtepbjkkakfpjgaaGreatDoor.keep hbA x2
      have y3 := Go.Proofs.YtepbjkkakfpjgaaGreatDoor.keep hbA x3
      have y4 := Go.Proofs.YtepbjkkakfpjgaaGreatDoor.keep hbA x4
      have y5 := Go.Proofs.YtepbjkkakfpjgaaGreatDoor.keep hbA x5
      have y6 := Go.Proofs.YtepbjkkakfpjgaaGreatDoor.keep hbA x6
      have y7 := Go.Proofs.YtepbjkkakfpjgaaGreatDoor.keep hbA x7
      have y8 := Go.Proofs.YtepbjkkakfpjgaaGreatDoor.keep hbA x8
      have y9 := Go.Proofs.YtepbjkkakfpjgaaGreatDoor.keep hbA x9
      have y10 := Go.Proofs.YtepbjkkakfpjgaaGreatDoor.keep hbA x10
      clear C HM HX hbA HB RE x0 x1 x2 x3 x4 x5 x6 x7 x8 x9 x10
      generalize wr.alloc (.cells #[.int .i64 m.ty.length, .int .i64 m.im.length, .int .i64 m.fu.length, .int .i64 m.gl.length, .int .i64 m.ex.length, .int .i64 le, .int .i64 m.da.length] 3) = W1 at *
      go_loopw [5] (fun vi w9 => ∃ i : Nat, vi = .int .i64 i ∧ i ≤ 7 ∧ w9 = W1 ∧ Hid (∀ j, j < i → ¬ 16384 < m.lens7.getD j 0)) (fun vi _ => 7 - (intOf vi).toNat)
      case atStart => exact ⟨0, rfl, Nat.zero_le _, rfl, fun j h => absurd h (Nat.not_lt_zero _)⟩
      case round =>
       obtain ⟨i, rfl, hi, rfl, HI⟩ := hrel
       by_cases hi7 : i < 7
       ·have c := HC7.out i hi7
        have HT := hid (HTL.out i hi7)
        have HO := hid (show ¬ 16384 < m.lens7.getD i 0 → ∀ j, j < i + 1 → ¬ 16384 < m.lens7.getD j 0 from fun h j hj => by
          by_cases e : j = i
          · rw [e]; exact h
          · exact HI.out j (by omega))
        obtain ⟨q, hq⟩ : ∃ q, m.lens7.getD i 0 = q := ⟨_, rfl⟩
        rw [hq] at c HT HO
        have hii : (i : Int) < 7 := by omega
        clear hq HI
        by_cases g : 16384 < q
        ·have HE := hid (HT.out g)
         have gi : (16384 : Int) < (q : Int) := by omega
         clear HT HO
         go_wp2
         go_ret
         exact ⟨ret_bool HE.out.symm, HB7.out⟩
        ·have HE := hid (HO.out g)
         have gi : ¬ (16384 : Int) < (q : Int) := by omega
         clear HT HO
         go_wp2
         go_roundw
         case rel => exact ⟨i + 1, by go_num, by omega, trivial, HE⟩
         case measure => simp [intOf]; omega
       ·obtain rfl : i = 7 := by omega
        have HE := hid (HR1.out HI.out HQ9.out)
        clear HI HR1 HTL
        go_wp2_with fail
        refine C7.out.mono ?_
        rintro e1 w1 ⟨rfl, hb1⟩
        have HZ := hid (HB7.out.trans (hb1.mono HB7.out.size))
        clear C7 hb1
        go_wp2
        go_ret
        exact ⟨ret_bool HE.out.symm, HZ.out⟩
end Go.Proofs.YtepbjkkakfpjgaaGreatDoor.Mod
namespace Go.Proofs.YtepbjkkakfpjgaaGreatDoor.Mod
open Go.RowKit Go.Proofs.YtepbjkkakfpjgaaGreatDoor.Instr
theorem flat_length {α : Type} {sz : Nat} : ∀ (rs : List (List α)) (_ : ∀ r ∈ rs, r.length = sz), rs.flatten.length = rs.length * sz
 | [], _ => by simp
 | r :: rs, h => by
  rw [List.flatten_cons, List.length_append, h r (by simp), flat_length rs (fun x hx => h x (by simp [hx])), List.length_cons, Nat.succ_mul]
  omega
theorem flat_get {α : Type} {sz : Nat} : ∀ (rs : List (List α)) (_ : ∀ r ∈ rs, r.length = sz) (i j : Nat) (_ : i < rs.length) (_ : j < sz), rs.flatten[i * sz + j]? = (rs.getD i [])[j]?
 | [], _, i, _, hi, _ => by simp at hi
 | r :: rs, h, 0, j, _, hj => by
  rw [List.flatten_cons, Nat.zero_mul, Nat.zero_add, List.getElem?_append_left (by rw [h r (by simp)]; exact hj)]
  rfl
 | r :: rs, h, i + 1, j, hi, hj => by
  have hr := h r (by simp)
  have e : (i + 1) * sz = i * sz + sz := Nat.succ_mul i sz
  rw [List.flatten_cons, List.getElem?_append_right (by rw [hr, e]; omega), hr]
  have e2 : (i + 1) * sz + j - sz = i * sz + j := by rw [e]; omega
  rw [e2, flat_get rs (fun x hx => h x (by simp [hx])) i j (by simpa using hi) hj]
  rfl
structure OwnR (e : TypeId) (sz base : Nat) (w : World) (v : Value) (rs : List (List Value)) : Prop where
 row : w.ownsRow base e sz v rs.length rs.flatten
 len : ∀ r ∈ rs, r.length = sz
theorem OwnR.start (e : TypeId) (sz base : Nat) (w : World) : OwnR e sz base w (.slice none 0 0) [] := ⟨World.ownsRow_nil _ _ _ _, by simp⟩
theorem OwnR.made (e : TypeId) (sz : Nat) (w : World) : OwnR e sz w.heap.size (w.alloc (.cells #[] e)) (.slice (some ⟨w.heap.size, 0, none⟩) 0 0) [] := ⟨World.ownsRow_made w #[] 0 (Nat.le_refl _) (by unfold maxLen; omega) (by simp), by simp⟩
theorem OwnR.below {e : TypeId} {sz base : Nat} {w w' : World} {v : Value} {rs : List (List Value)} (h : OwnR e sz base w v rs) (hb : Below w.heap.size w w') : OwnR e sz base w' v rs := by
 refine ⟨⟨h.row.1, ?_⟩, h.len⟩
 rcases h.row.2 with h0 | ⟨g, cap, cur, hv, hg, hh, rest⟩
 ·exact .inl h0
 ·exact .inr ⟨g, cap, cur, hv, hg, (hb.block g (Array.getElem?_eq_some_iff.1 hh).1).trans hh, rest⟩
theorem OwnR.mono {e : TypeId} {sz base base' : Nat} {w : World} {v : Value} {rs : List (List Value)} (h : OwnR e sz base w v rs) (hb : base' ≤ base) : OwnR e sz base' w v rs := by
 refine ⟨⟨h.row.1, ?_⟩, h.len⟩
 rcases h.row.2 with h0 | ⟨g, cap, cur, hv, hg, rest⟩
 ·exact .inl h0
 ·exact .inr ⟨g, cap, cur, hv, Nat.le_trans hb hg, rest⟩
theorem OwnR.rows {e : TypeId} {sz base : Nat} {w : World} {v : Value} {rs : List (List Value)} (h : OwnR e sz base w v rs) : ∃ a c, v = .slice a rs.length c ∧ Rows w.heap.size w a sz rs ∧ ∀ g, v.ownBlock = some g → base ≤ g := by
 have hl := World.ownsRow.lt h.row
 rcases h.row.2 with ⟨rfl, h0⟩ | ⟨g, cap, cur, rfl, hg, hh, h2, h3, h4, h5⟩
 ·exact ⟨none, 0, by rw [h0], .inl (List.eq_nil_of_length_eq_zero h0), fun g hg => (hl g hg).1⟩
 ·refine ⟨_, cap, rfl, .inr ⟨g, 0, rfl, (hl g rfl).2, fun i hi j hj u hu => ?_⟩, fun g hg => (hl g hg).1⟩
  have hf := flat_get rs h.len i j hi hj
  rw [hu] at hf
  have := World.ownsRow.cells h.row (g := g) rfl (i * sz + j) u hf
  have hplain : (⟨g, 0, none⟩ : Addr).add (i * sz + j) = ⟨g, 0 + i * sz + j, none⟩ := by unfold Addr.add; split <;> simp_all <;> omega
  rw [hplain] at this
  exact this
section
variable {ops : Array Oper} {rest : List Oper} {o : Oper} {act : Act} {Q : Exit → Act → World → Prop}
theorem append_rows {e ts : TypeId} {sz nb : Nat} {z : Value} (inf : (Tryz.prog.info? e).map (fun i => (i.zero, i.size, i.bytes)) = some (some z, sz, nb)) (hz : z.cells.size = sz) (h0 : 0 < sz) (hnb : nb ≤ 1000) (ut : Tryz.prog.underlying ts = some (.slice e))
  (hgd : o.guard = none) (s x : Operand) (ho : o.op = .call { callee := .builtin .append, args := #[s, x], argTypes := #[ts, ts] })
  {base : Nat} {w0 wr : World} {v : Value} {xs : List (List Value)} (ys : List (List Value)) (hs : act.eval s = v) (hown : OwnR e sz base wr v xs) (hb : Below base w0 wr) (hbase : base ≤ wr.heap.size)
  (ad : Addr) (m c : Nat) (hm : ys.length = m) (hx : act.eval x = .slice (some ad) m c) (hy : ∀ r ∈ ys, r.length = sz) (hnews : ∀ j u, ys.flatten[j]? = some u → wr.cell? (ad.add j) = some u) (h1 : ∀ r ∈ ys, ∀ u ∈ r, u.oneCell' = true)
  (hl : xs.length + m ≤ 1000000000)
  (h : ∀ v' w', OwnR e sz base w' v' (xs ++ ys) → Below base w0 w' → base ≤ w'.heap.size → wr.grownBy w' v.ownBlock → wpList Tryz.prog ops Q rest (act.put o.dst v') w') :
  wpList Tryz.prog ops Q (o :: rest) act wr := by
 obtain ⟨i0, hi, hz0, hz1, hz2⟩ := info_parts inf
 subst hm
 refine wpList_append_own _ hgd s x ts ho base e i0 z sz nb ut hi hz0 hz1 hz2 hz h0 v xs.length _ hs hown.row ad ys.length c ys.flatten hx (flat_length ys hy)
  hnews (fun u hu => ?_) (by unfold maxLen; omega) ?_ hbase (fun v' w' hown' hgrow _ => ?_)
 ·obtain ⟨r, hr, hur⟩ := List.mem_flatten.1 hu
  exact h1 r hr u hur
 ·calc (xs.length + ys.length) * nb ≤ 1000000000 * 1000 := Nat.mul_le_mul hl hnb
   _ ≤ _ := by omega
 ·refine h v' w' ⟨?_, ?_⟩ (hb.grown hgrow hbase (fun k hk => (World.ownsRow.lt hown.row k hk).1)) (by have := hgrow.size; omega) hgrow
  ·rw [List.length_append, List.flatten_append]; exact hown'
  ·intro r hr
   rcases List.mem_append.1 hr with hr | hr
   ·exact hown.len r hr
   ·exact hy r hr
theorem step_rows {e ts : TypeId} {sz nb : Nat} {z : Value} {E : Prop} {K : Act → World → Prop} (inf : (Tryz.prog.info? e).map (fun i => (i.zero, i.size, i.bytes)) = some (some z, sz, nb)) (hz : z.cells.size = sz) (h0 : 0 < sz) (hnb : nb ≤ 1000) (ut : Tryz.prog.underlying ts = some (.slice e))
  (hgd : o.guard = none) (s x : Operand) (ho : o.op = .call { callee := .builtin .append, args := #[s, x], argTypes := #[ts, ts] })
  {base : Nat} {w0 wr : World} {v : Value} {xs : List (List Value)} (ys : List (List Value)) (hs : act.eval s = v) (hown : OwnR e sz base wr v xs) (hb : Below base w0 wr) (hbase : base ≤ wr.heap.size)
  (ad : Addr) (m c : Nat) (hm : ys.length = m) (hx : act.eval x = .slice (some ad) m c) (hy : ∀ r ∈ ys, r.length = sz) (hnews : ∀ j u, ys.flatten[j]? = some u → wr.cell? (ad.add j) = some u) (h1 : ∀ r ∈ ys, ∀ u ∈ r, u.oneCell' = true)
  (hl : xs.length + m ≤ 1000000000)
  (h : ∀ v' w', OwnR e sz base w' v' (xs ++ ys) → Below base w0 w' → base ≤ w'.heap.size → wr.grownBy w' v.ownBlock → K (act.put o.dst v') w') :
  if Region.wanted o (yielded ops act.tmps) = true then Oper.wp Tryz.prog o act wr K Q else E := by
 obtain ⟨i0, hi, hz0, hz1, hz2⟩ := info_parts inf
 subst hm
 have hw : Region.wanted o (yielded ops act.tmps) = true := by simp [Region.wanted, hgd]
 rw [if_pos hw]
 refine wp_append_own _ s x ts ho base e i0 z sz nb ut hi hz0 hz1 hz2 hz h0 v xs.length _ hs hown.row ad ys.length c ys.flatten hx (flat_length ys hy)
  hnews (fun u hu => ?_) (by unfold maxLen; omega) ?_ hbase (fun v' w' hown' hgrow _ => ?_)
 ·obtain ⟨r, hr, hur⟩ := List.mem_flatten.1 hu
  exact h1 r hr u hur
 ·calc (xs.length + ys.length) * nb ≤ 1000000000 * 1000 := Nat.mul_le_mul hl hnb
   _ ≤ _ := by omega
 ·refine h v' w' ⟨?_, ?_⟩ (hb.grown hgrow hbase (fun k hk => (World.ownsRow.lt hown.row k hk).1)) (by have := hgrow.size; omega) hgrow
  ·rw [List.length_append, List.flatten_append]; exact hown'
  ·intro r hr
   rcases List.mem_append.1 hr with hr | hr
   ·exact hown.len r hr
   ·exact hy r hr
end
end Go.Proofs.YtepbjkkakfpjgaaGreatDoor.Mod
namespace Go.Proofs.YtepbjkkakfpjgaaGreatDoor.Mod
open Go.RowKit Go.Proofs.YtepbjkkakfpjgaaGreatDoor.Instr
def strR (s : ByteArray) : List Value := [.string s]
def twoR (l : List Imp) : List ByteArray := l.flatMap fun i => [i.mo, i.na]
def Md.names (m : Md) : List ByteArray := twoR m.im ++ m.ex.map (·.na)
theorem twoR_take {l : List Imp} {k : Nat} (hk : k < l.length) : (twoR (l.take (k + 1))).map strR = (twoR (l.take k)).map strR ++ [[.string l[k].mo], [.string l[k].na]] := by
 unfold twoR; rw [List.take_succ_eq_append_getElem hk, List.flatMap_append, List.map_append]; rfl
theorem exN_take {l : List Ex} {k : Nat} (hk : k < l.length) (xs : List (List Value)) : xs ++ ((l.take (k + 1)).map (·.na)).map strR = (xs ++ ((l.take k).map (·.na)).map strR) ++ [[.string l[k].na]] := by
 rw [List.take_succ_eq_append_getElem hk, List.map_append, List.map_append, ← List.append_assoc]; rfl
theorem twoR_len (l : List Imp) : (twoR l).length = 2 * l.length := by
 unfold twoR
 induction l with
 | nil => rfl
 | cons a l ih => rw [List.flatMap_cons, List.length_append, ih, List.length_cons]; simp; omega
theorem infoStr : (Tryz.prog.info? 9).map (fun i => (i.zero, i.size, i.bytes)) = some (some (.string ⟨#[]⟩), 1, 16) := by kernel_rfl
set_option maxHeartbeats 2000000 in
set_option maxRecDepth 100000 in
theorem refNames_any (m : Md) (w : World) (hm : ModAt w.heap.size w m) (hf : m.few) :
  Calls Tryz.prog 132 #[.agg m.v] w fun e w' => ∃ a c, e = .returned (.slice a m.names.length c) ∧ Rows w'.heap.size w' a 1 (m.names.map strR) ∧ Below w.heap.size w w' := by
 have hb0 := (Below.refl w.heap.size w).alloc (Nat.le_refl _) (.cells m.v 32)
 have HB := hid hb0
 have HM := hid (hm.on hb0)
 have HX := hid (BoxAt.made w m.v 32)
 have HF := hid hf
 unfold Md.v at HB HX HM ⊢
 clear hm hf hb0
 go_enter Tryz.func132, Tryz.ntmps132
 go_wp2
 generalize w.alloc (.cells #[.slice m.ty'.a m.ty.length m.ty'.c, .slice m.im'.a m.im.length m.im'.c, .slice m.fu'.a m.fu.length m.fu'.c, .slice m.tb'.a m.tb.length m.tb'.c, .slice m.me'.a m.me.length m.me'.c, .slice m.gl'.a m.gl.length m.gl'.c, .slice m.ex'.a m.ex.length m.ex'.c, .bool m.st, .int .u32 m.sn, .slice m.el'.a m.el.length m.el'.c, .slice m.da'.a m.da.length m.da'.c] 32) = W0 at HB HM HX ⊢
 obtain ⟨li, hli⟩ : ∃ n, m.im.length = n := ⟨_, rfl⟩
 obtain ⟨lx, hlx⟩ : ∃ n, m.ex.length = n := ⟨_, rfl⟩
 have Lli := hid hli
 have Llx := hid hlx
 have bli : li ≤ 1000000 := by have := HF.out.lens; omega
 have blx : lx ≤ 1000000 := by have := HF.out.lens; omega
 have Xim := hid (show W0.cell? ⟨w.heap.size, 1, none⟩ = some (.slice m.im'.a li m.im'.c) by rw [← hli]; exact HX.out 1 _ rfl)
 have Xex := hid (show W0.cell? ⟨w.heap.size, 6, none⟩ = some (.slice m.ex'.a lx m.ex'.c) by rw [← hlx]; exact HX.out 6 _ rfl)
 have Rim := hid HM.out.im
 have Rex := hid HM.out.ex
 clear hli hlx HX HM HF
 go_loopw [3, 4] (fun vo vi wr => ∃ k : Nat, vi = .int .i64 k ∧ k ≤ li ∧ Hid (OwnR 9 1 W0.heap.size wr vo ((twoR (m.im.take k)).map strR)) ∧ Hid (Below W0.heap.size W0 wr)) (fun _ vi _ => li - (intOf vi).toNat)
 case atStart => exact ⟨0, rfl, Nat.zero_le _, OwnR.start _ _ _ _, Below.refl _ _⟩
 case round =>
  obtain ⟨k, rfl, hk, HO, HW⟩ := hrel
  have hbx := Go.Proofs.YtepbjkkakfpjgaaGreatDoor.keep HW.out Xim.out
  by_cases hlt : k < li
  ·have hkl : k < m.im.length := by rw [Lli.out]; exact hlt
   obtain ⟨b, off, ha, hb, hc⟩ := Rows.get Rim.out hkl
   rw [ha] at hbx
   have HS := hid (twoR_take hkl)
   have HLN := hid (show ((twoR (m.im.take k)).map strR).length ≤ 4000000 by rw [List.length_map, twoR_len, List.length_take]; omega)
   obtain ⟨x, hxe⟩ : ∃ x, m.im[k] = x := ⟨_, rfl⟩
   rw [hxe] at hc HS
   have cc : ∀ j, j < 3 → ∀ v, x.v[j]? = some v → wr.cell? ⟨b, off + k * 3 + j, none⟩ = some v := fun j hj v hv => (HW.out.cell (p := ⟨b, off + k * 3 + j, none⟩) hb).trans (hc j hj v hv)
   have c0 : wr.cell? ⟨b, off + k * 3, none⟩ = some (.string x.mo) := cc 0 (by omega) _ rfl
   have c1 : wr.cell? ⟨b, off + k * 3 + 1, none⟩ = some (.string x.na) := cc 1 (by omega) _ rfl
   have hki : (k : Int) < (li : Int) := by omega
   obtain ⟨xs, hxs⟩ : ∃ xs, (twoR (m.im.take k)).map strR = xs := ⟨_, rfl⟩
   obtain ⟨ys, hys⟩ : ∃ ys, (twoR (m.im.take (k + 1))).map strR = ys := ⟨_, rfl⟩
   rw [hxs] at HO HLN HS
   rw [hys] at HS
   have HYS := hid hys
   obtain ⟨s0, hs0⟩ : ∃ s, x.mo = s := ⟨_, rfl⟩
   obtain ⟨s1, hs1⟩ : ∃ s, x.na = s := ⟨_, rfl⟩
   rw [hs0] at c0 HS
   rw [hs1] at c1 HS
   clear hc cc hb ha hkl hxe hxs hys hs0 hs1 hk
   go_wp2
   have HD := hid ((Below.refl wr.heap.size wr).drew)
   have HO2 := hid (HO.out.below HD.out)
   have HW2 := hid (HW.out.trans (HD.out.mono HW.out.size))
   go_region_law
    (first
      | (refine step_rows infoStr rfl (by omega) (by omega) Tryz.underlying149 rfl (.tmp 13) (.tmp 26) rfl [[.string s0], [.string s1]] rfl (HO2.out.below ((Below.refl _ _).alloc (Nat.le_refl _) _)) (thenA HW2.out _) (by have := HW.out.size; simp; omega)
           ⟨wr.drew.heap.size, 0, none⟩ 2 2 rfl rfl (by simp) (World.news_of_block (heap_alloc_new wr.drew _)) (by simp [Value.oneCell']) (by have := HLN.out; omega) ?_
         intro v' w' hown hbl hsz hgr))
   all_goals
    have hown1 := hid hown
    have hbl1 := hid hbl
    clear hown hbl hgr hsz HO2 HW2 HD hbx c0 c1 HO HW
    go_wp2
    go_roundw
    case rel => exact ⟨k + 1, by go_num, by omega, hid (by rw [HYS.out, HS.out]; exact hown1.out), hbl1⟩
    case measure => simp [intOf]; omega
  ·obtain rfl : k = li := by omega
   have HO1 := hid (show OwnR 9 1 W0.heap.size wr u3 ((twoR m.im).map strR) by have := HO.out; rwa [List.take_of_length_le (by rw [Lli.out]; exact Nat.le_refl _)] at this)
   have HW1 := HW
   obtain ⟨xs0, hxs0⟩ : ∃ xs, (twoR m.im).map strR = xs := ⟨_, rfl⟩
   have hxl0 : xs0.length ≤ 4000000 := by rw [← hxs0, List.length_map, twoR_len, Lli.out]; omega
   have HX0 := hid hxs0
   rw [hxs0] at HO1
   clear HO HW hk hxs0
   go_wp2
   go_loopw [3, 5] (fun vo vi wr => ∃ j : Nat, vi = .int .i64 j ∧ j ≤ lx ∧ Hid (OwnR 9 1 W0.heap.size wr vo (xs0 ++ ((m.ex.take j).map (·.na)).map strR)) ∧ Hid (Below W0.heap.size W0 wr)) (fun _ vi _ => lx - (intOf vi).toNat)
   case atStart => exact ⟨0, rfl, Nat.zero_le _, hid (by simpa using HO1.out), HW1⟩
   case round =>
    clear HO1 HW1
    obtain ⟨j, rfl, hj, HO, HW⟩ := hrel
    have hbx := Go.Proofs.YtepbjkkakfpjgaaGreatDoor.keep HW.out Xex.out
    by_cases hlt : j < lx
    ·have hkl : j < m.ex.length := by rw [Llx.out]; exact hlt
     obtain ⟨b, off, ha, hb, hc⟩ := Rows.get Rex.out hkl
     rw [ha] at hbx
     have HS := hid (exN_take hkl xs0)
     have HLN := hid (show (xs0 ++ ((m.ex.take j).map (·.na)).map strR).length ≤ 6000000 by rw [List.length_append, List.length_map, List.length_map, List.length_take]; omega)
     obtain ⟨x, hxe⟩ : ∃ x, m.ex[j] = x := ⟨_, rfl⟩
     rw [hxe] at hc HS
     have c0 : ∀ W, Below wr.heap.size wr W → W.cell? ⟨b, off + j * 3, none⟩ = some (.string x.na) := fun W hW => Go.Proofs.YtepbjkkakfpjgaaGreatDoor.keep hW ((HW.out.cell (p := ⟨b, off + j * 3 + 0, none⟩) hb).trans (hc 0 (by omega) (.string x.na) rfl))
     have c0 := c0 wr (Below.refl _ _)
     have hki : (j : Int) < (lx : Int) := by omega
     obtain ⟨xs, hxs⟩ : ∃ xs, xs0 ++ ((m.ex.take j).map (·.na)).map strR = xs := ⟨_, rfl⟩
     obtain ⟨ys, hys⟩ : ∃ ys, xs0 ++ ((m.ex.take (j + 1)).map (·.na)).map strR = ys := ⟨_, rfl⟩
     rw [hxs] at HO HLN HS
     rw [hys] at HS
     have HYS := hid hys
     obtain ⟨s0, hs0⟩ : ∃ s, x.na = s := ⟨_, rfl⟩
     rw [hs0] at c0 HS
     clear hc hb ha hkl hxe hxs hys hs0 hj
     go_wp2_with first
      | (refine append_rows infoStr rfl (by omega) (by omega) Tryz.underlying149 rfl (.tmp 35) (.tmp 42) rfl [[.string s0]] rfl (HO.out.below ((Below.refl _ _).alloc (Nat.le_refl _) _)) (thenA HW.out _) (by have := HW.out.size; simp; omega)
           ⟨wr.heap.size, 0, none⟩ 1 1 rfl rfl (by simp) (World.news_of_block (heap_alloc_new wr _)) (by simp [Value.oneCell']) (by have := HLN.out; omega) ?_
         intro v' w' hown hbl hsz hgr)
     have hown1 := hid hown
     have hbl1 := hid hbl
     clear hown hbl hgr hsz hbx c0 HO HW
     go_wp2
     go_roundw
     case rel => exact ⟨j + 1, by go_num, by omega, hid (by rw [HYS.out, HS.out]; exact hown1.out), hbl1⟩
     case measure => simp [intOf]; omega
    ·obtain rfl : j = lx := by omega
     have HO1 := hid (show OwnR 9 1 W0.heap.size wr u3 (m.names.map strR) by have := HO.out; rw [List.take_of_length_le (by rw [Llx.out]; exact Nat.le_refl _), ← HX0.out] at this; unfold Md.names; rw [List.map_append]; exact this)
     have hHO := HO1.out.rows
     rw [List.length_map] at hHO
     obtain ⟨a, c, rfl, hr, _⟩ := hHO
     have HR := hid hr
     clear HO HO1 hr
     go_wp2
     go_ret
     exact ⟨a, c, rfl, HR.out, HB.out.trans (HW.out.mono HB.out.size)⟩
end Go.Proofs.YtepbjkkakfpjgaaGreatDoor.Mod
namespace Go.Proofs.YtepbjkkakfpjgaaGreatDoor.Mod
open Go.RowKit Go.Proofs.YtepbjkkakfpjgaaGreatDoor.Instr
def Md.long (m : Md) : Bool := m.names.any longS || m.heavy
theorem long_yes {m : Md} {k : Nat} (hk : k < m.da.length) (h : 1048576 < sumB (m.da.take k) + m.da[k].bs.length) : m.long = true := by
 unfold Md.long Md.heavy
 have := sumB_step hk
 have h2 := sumB_take m.da (k + 1)
 simp only [Bool.or_eq_true, decide_eq_true_eq]
 omega
theorem names_few {m : Md} (h : m.few) : m.names.length ≤ 3000000 := by
 unfold Md.names
 have := h.lens
 rw [List.length_append, twoR_len, List.length_map]; omega
theorem names_size {m : Md} (h : m.fits) : ∀ s ∈ m.names, s.size ≤ 140737488351232 := by
 intro s hs
 unfold Md.names twoR at hs
 rcases List.mem_append.1 hs with hs | hs
 ·obtain ⟨i, hi, hs⟩ := List.mem_flatMap.1 hs
  have := h.iS i hi
  simp only [List.mem_cons, List.not_mem_nil, or_false] at hs
  rcases hs with rfl | rfl
  ·exact this.1
  ·exact this.2
 ·obtain ⟨e, he, rfl⟩ := List.mem_map.1 hs
  exact h.eS e he
theorem str_at {w : World} {a : Option Addr} {l : List ByteArray} {n : Nat} (h : Rows n w a 1 (l.map strR)) {k : Nat} (hk : k < l.length) : ∃ b off, a = some ⟨b, off, none⟩ ∧ b < n ∧ w.cell? ⟨b, off + k, none⟩ = some (.string l[k]) := by
 obtain ⟨b, off, ha, hb, hc⟩ := Rows.get h hk
 refine ⟨b, off, ha, hb, ?_⟩
 have := hc 0 (by omega) _ rfl
 rwa [Nat.mul_one, Nat.add_zero] at this
set_option maxHeartbeats 4000000 in
set_option maxRecDepth 100000 in
theorem refLong_any (m : Md) (w : World) (hm : ModAt w.heap.size w m) (hf : m.few) :
  Calls Tryz.prog 78 #[.agg m.v] w fun x w' => x = .returned (.bool m.long) ∧ Below w.heap.size w w' := by
 have hb0 := (Below.refl w.heap.size w).alloc (Nat.le_refl _) (.cells m.v 32)
 have HB := hid hb0
 have HM := hid (hm.on hb0)
 have HX := hid (BoxAt.made w m.v 32)
 have HF := hid hf
 have C := hid (refNames_any m _ (hm.on hb0) hf)
 have HLF := hid (names_few hf)
 have HLS := hid (names_size hf.fit)
 have HLD := hid (show ∀ d ∈ m.da, d.bs.length ≤ 140737488351232 from hf.fit.bs)
 have HL : Hid (m.long = (m.names.any longS || decide (1048576 < sumB m.da))) := rfl
 have hld : m.da.length ≤ 1000000 := hf.lens.2.2.2.2.2.2.2.2
 have X0 := (BoxAt.made w m.v 32)
 unfold Md.v at HB HX HM X0 C ⊢
 clear hm hf hb0
 obtain ⟨x0, x1, x2, x3, x4, x5, x6, x7, x8, x9, x10⟩ := Mod.cells11 X0
 clear X0
 go_enter Tryz.func78, Tryz.ntmps78
 go_wp2_with fail
 refine C.out.mono ?_
 rintro e w1 ⟨a, c, rfl, hr, hb1⟩
 have HX1 := hid (HX.out.keep hb1)
 have HB1 := hid (HB.out.trans (hb1.mono HB.out.size))
 have HM1 := hid (HM.out.on hb1)
 have RN := hid hr
 clear C hr hb1 HX HB HM x0 x1 x2 x3 x4 x5 x6 x7 x8 x9 x10
 obtain ⟨ln, hln⟩ : ∃ n, m.names.length = n := ⟨_, rfl⟩
 obtain ⟨ld, hldd⟩ : ∃ n, m.da.length = n := ⟨_, rfl⟩
 have Lln := hid hln
 have Lld := hid hldd
 have bln : ln ≤ 3000000 := by have := HLF.out; omega
 rw [hldd] at hld
 have k10 : w1.cell? ⟨w.heap.size, 10, none⟩ = some (.slice m.da'.a ld m.da'.c) := by rw [← hldd]; exact HX1.out 10 _ rfl
 have RD := hid HM1.out.da
 rw [hln]
 clear HX1 HM1 HLF hln hldd HF
 go_wp2
 go_loopw [4] (fun vi wr => ∃ k : Nat, vi = .int .i64 k ∧ k ≤ ln ∧ wr = w1 ∧ Hid (∀ j (hj : j < m.names.length), j < k → longS m.names[j] = false)) (fun vi _ => ln - (intOf vi).toNat)
 case atStart => exact ⟨0, rfl, Nat.zero_le _, rfl, none_upto _ _⟩
 case round =>
  obtain ⟨k, rfl, hk, rfl, HQ⟩ := hrel
  by_cases hlt : k < ln
  ·have hkl : k < m.names.length := by rw [Lln.out]; exact hlt
   obtain ⟨b, off, rfl, hb, hc⟩ := str_at RN.out hkl
   have HT := hid (fun (h : longS m.names[k] = true) => show m.long = true by rw [HL.out, any_some hkl h]; rfl)
   have HO := hid (fun (h : longS m.names[k] = false) => any_take hkl HQ.out h)
   have hsz := HLS.out m.names[k] (List.getElem_mem hkl)
   have HWT : Hid (longS m.names[k] = decide (1000 < m.names[k].size)) := rfl
   obtain ⟨s, hs⟩ : ∃ s, m.names[k] = s := ⟨_, rfl⟩
   rw [hs] at hc hsz HWT HT
   have HO1 : Hid (longS s = false → ∀ j (hj : j < m.names.length), j < k + 1 → longS m.names[j] = false) := by rw [← hs]; exact HO
   have hki : (k : Int) < (ln : Int) := by omega
   clear hs hb hkl HO HQ
   by_cases g : 1000 < s.size
   ·have HE := hid (HT.out (by rw [HWT.out]; simp [g]))
    have gi : (1000 : Int) < (s.size : Int) := by omega
    clear HT HO1 HWT
    go_wp2
    go_ret
    exact ⟨ret_bool HE.out.symm, HB1.out⟩
   ·have HE := hid (HO1.out (by rw [HWT.out]; simp [g]))
    have gi : ¬ (1000 : Int) < (s.size : Int) := by omega
    clear HT HO1 HWT
    go_wp2
    go_roundw
    case rel => exact ⟨k + 1, by go_num, by omega, trivial, HE⟩
    case measure => simp [intOf]; omega
  ·obtain rfl : k = ln := by omega
   have HN := hid (any_none (p := longS) (l := m.names) (fun j hj => HQ.out j hj (by rw [← Lln.out]; exact hj)))
   clear HQ
   go_wp2
   go_loopw [5, 6] (fun vn vi w9 => ∃ i N : Nat, vn = .int .i64 N ∧ vi = .int .i64 i ∧ i ≤ ld ∧ N ≤ 1048576 ∧ w9 = wr ∧ Hid (N = sumB (m.da.take i))) (fun _ vi _ => ld - (intOf vi).toNat)
   case atStart => exact ⟨0, 0, rfl, rfl, Nat.zero_le _, Nat.zero_le _, rfl, rfl⟩
   case round =>
    obtain ⟨i, N, rfl, rfl, hi, hN, rfl, HQ⟩ := hrel
    by_cases hltd : i < ld
    ·have hkl : i < m.da.length := by rw [Lld.out]; exact hltd
     obtain ⟨b, off, ha, hb, hc⟩ := Rows.get RD.out hkl
     rw [ha] at k10
     have HT := hid (fun h => long_yes (m := m) hkl h)
     have HS := hid (sumB_step hkl)
     have hsz := HLD.out m.da[i] (List.getElem_mem hkl)
     obtain ⟨x, hx⟩ : ∃ x, m.da[i] = x := ⟨_, rfl⟩
     rw [hx] at hc HT HS hsz
     have c1 := hc 1 (by omega) (.slice x.ba x.bs.length x.bc) rfl
     obtain ⟨q, hq⟩ : ∃ q, x.bs.length = q := ⟨_, rfl⟩
     rw [hq] at c1 HT HS hsz
     have hki : (i : Int) < (ld : Int) := by omega
     clear hc hx hq hb ha hkl hlt
     by_cases g : 1048576 < N + q
     ·have HE := hid (HT.out (by rw [← HQ.out]; exact g))
      have gi : (1048576 : Int) - (N : Int) < (q : Int) := by omega
      clear HT HS HQ
      go_wp2
      go_ret
      exact ⟨ret_bool HE.out.symm, HB1.out⟩
     ·have HE := hid (show N + q = sumB (m.da.take (i + 1)) by rw [HS.out, ← HQ.out])
      have gi : ¬ (1048576 : Int) - (N : Int) < (q : Int) := by omega
      clear HT HS HQ
      go_wp2
      go_roundw
      case rel => exact ⟨i + 1, N + q, by go_num, by go_num, by omega, by omega, trivial, HE⟩
      case measure => simp [intOf]; omega
    ·obtain rfl : i = ld := by omega
     have HE := hid (show m.long = false by
       rw [HL.out, HN.out]
       have := HQ.out
       rw [List.take_of_length_le (by rw [Lld.out]; exact Nat.le_refl _)] at this
       have : ¬ 1048576 < sumB m.da := by omega
       simp [this])
     clear HQ
     go_wp2
     go_ret
     exact ⟨ret_bool HE.out.symm, HB1.out⟩
end Go.Proofs.YtepbjkkakfpjgaaGreatDoor.Mod
namespace Go.Proofs.YtepbjkkakfpjgaaGreatDoor.Mod
open Go.RowKit Go.Proofs.YtepbjkkakfpjgaaGreatDoor.Instr
def Md.rest (m : Md) : Bool := !(m.names.any noText) && (!(m.tb.any (beyond 1048576)) && (!(m.me.any (beyond 65536)) && (!(m.ex.any wrongE) && ((m.st || decide (m.sn = 0)) && !m.has 2))))
theorem rest_na {m : Md} {k : Nat} (hk : k < m.names.length) (h : noText m.names[k] = true) : m.rest = false := by unfold Md.rest; rw [any_some hk h]; rfl
theorem rest_tb {m : Md} {k : Nat} (hk : k < m.tb.length) (h : beyond 1048576 m.tb[k] = true) : m.rest = false := by unfold Md.rest; rw [any_some hk h]; simp
theorem rest_me {m : Md} {k : Nat} (hk : k < m.me.length) (h : beyond 65536 m.me[k] = true) : m.rest = false := by unfold Md.rest; rw [any_some hk h]; simp
theorem rest_ex {m : Md} {k : Nat} (hk : k < m.ex.length) (h : wrongE m.ex[k] = true) : m.rest = false := by unfold Md.rest; rw [any_some hk h]; simp
theorem rest_end {m : Md} (h1 : m.names.any noText = false) (h2 : m.tb.any (beyond 1048576) = false) (h3 : m.me.any (beyond 65536) = false) (h4 : m.ex.any wrongE = false) : m.rest = ((m.st || decide (m.sn = 0)) && !m.has 2) := by unfold Md.rest; rw [h1, h2, h3, h4]; rfl
set_option maxHeartbeats 4000000 in
set_option maxRecDepth 100000 in
theorem refRest_any (m : Md) (w : World) (hm : ModAt w.heap.size w m) (hf : m.few) (hna : ∀ s ∈ m.names, s.size ≤ 1000000) :
  Calls Tryz.prog 80 #[.agg m.v] w fun x w' => x = .returned (.bool m.rest) ∧ Below w.heap.size w w' := by
 have hb0 := (Below.refl w.heap.size w).alloc (Nat.le_refl _) (.cells m.v 32)
 have HB := hid hb0
 have HM := hid (hm.on hb0)
 have HX := hid (BoxAt.made w m.v 32)
 have C := hid (refNames_any m _ (hm.on hb0) hf)
 have D := hid (fun (W : World) (h : ModAt W.heap.size W m) => refInstrs_any m 2 W h hf)
 have HLF := hid (names_few hf)
 have HLS := hid hna
 have HEND := hid (fun h1 h2 h3 h4 => rest_end (m := m) h1 h2 h3 h4)
 have TNA := hid (fun k hk h => rest_na (m := m) (k := k) hk h)
 have TTB := hid (fun k hk h => rest_tb (m := m) (k := k) hk h)
 have TME := hid (fun k hk h => rest_me (m := m) (k := k) hk h)
 have TEX := hid (fun k hk h => rest_ex (m := m) (k := k) hk h)
 have btb := hf.fit.tb
 have bme := hf.fit.me
 have bex := hf.fit.ex
 have X0 := (BoxAt.made w m.v 32)
 unfold Md.v at HB HX HM X0 C D ⊢
 clear hm hf hb0 hna
 obtain ⟨x0, x1, x2, x3, x4, x5, x6, x7, x8, x9, x10⟩ := Mod.cells11 X0
 clear X0
 go_enter Tryz.func80, Tryz.ntmps80
 go_wp2_with fail
 refine C.out.mono ?_
 rintro e w1 ⟨a, c, rfl, hr, hb1⟩
 have HX1 := hid (HX.out.keep hb1)
 have HB1 := hid (HB.out.trans (hb1.mono HB.out.size))
 have HM1 := hid (HM.out.on hb1)
 have RN := hid hr
 clear C hr hb1 HX HB HM x0 x1 x2 x3 x4 x5 x6 x7 x8 x9 x10
 obtain ⟨ln, hln⟩ : ∃ n, m.names.length = n := ⟨_, rfl⟩
 have Lln := hid hln
 have bln : ln ≤ 3000000 := by have := HLF.out; omega
 rw [hln]
 clear HLF hln
 obtain ⟨lb, hlb⟩ : ∃ n, m.tb.length = n := ⟨_, rfl⟩
 have Llb := hid hlb
 rw [hlb] at btb D HX1
 have Rtb := hid HM1.out.tb
 have Xtb := hid (HX1.out 3 _ rfl)
 clear hlb
 obtain ⟨lm, hlm⟩ : ∃ n, m.me.length = n := ⟨_, rfl⟩
 have Llm := hid hlm
 rw [hlm] at bme D HX1
 have Rme := hid HM1.out.me
 have Xme := hid (HX1.out 4 _ rfl)
 clear hlm
 obtain ⟨lx, hlx⟩ : ∃ n, m.ex.length = n := ⟨_, rfl⟩
 have Llx := hid hlx
 rw [hlx] at bex D HX1
 have Rex := hid HM1.out.ex
 have Xex := hid (HX1.out 6 _ rfl)
 clear hlx
 go_wp2
 go_loopw [4] (fun vi wr => ∃ k : Nat, vi = .int .i64 k ∧ k ≤ ln ∧ Hid (∀ j (hj : j < m.names.length), j < k → noText m.names[j] = false) ∧ Hid (Below w1.heap.size w1 wr)) (fun vi _ => ln - (intOf vi).toNat)
 case atStart => exact ⟨0, rfl, Nat.zero_le _, none_upto _ _, Below.refl _ _⟩
 case round =>
  obtain ⟨k, rfl, hk, HQ, HW⟩ := hrel
  by_cases hlt : k < ln
  ·have hkl : k < m.names.length := by rw [Lln.out]; exact hlt
   obtain ⟨b, off, rfl, hb, hc⟩ := str_at RN.out hkl
   have hsz := HLS.out m.names[k] (List.getElem_mem hkl)
   obtain ⟨x, hxe⟩ : ∃ x, m.names[k] = x := ⟨_, rfl⟩
   have HXE := hid hxe
   rw [hxe] at hc hsz
   have hki : (k : Int) < (ln : Int) := by omega
   have HT := hid (fun (h : noText x = true) => TNA.out k hkl (show noText m.names[k] = true by rw [HXE.out]; exact h))
   have HO := hid (fun (h : noText x = false) => any_take (p := noText) hkl HQ.out (show noText m.names[k] = false by rw [HXE.out]; exact h))
   have c0 := Go.Proofs.YtepbjkkakfpjgaaGreatDoor.keep HW.out hc
   obtain ⟨b2, c2, w2, e2, hz, hb2⟩ := bytes_of (numsOf x) (numsOf_bytes x) (by rw [numsOf_length]; omega) wr
   rw [str_numsOf] at e2
   have C := hid (Utf.refBad_any _ _ c2 (numsOf x) w2 rfl hz (by rw [numsOf_length]; omega))
   have HWT : Hid (noText x = decide (0 ≤ Utf.badL (numsOf x))) := rfl
   obtain ⟨q, hq⟩ : ∃ q, Utf.badL (numsOf x) = q := ⟨_, rfl⟩
   rw [hq] at C HWT
   obtain ⟨l2, hl2⟩ : ∃ n, (numsOf x).length = n := ⟨_, rfl⟩
   rw [hl2] at C e2
   have HW2 := hid (HW.out.trans (hb2.mono HW.out.size))
   clear hc hq hl2 hkl hxe HXE hz hb2 hb hsz HQ
   by_cases g : 0 ≤ q
   ·have HE := hid (HT.out (by rw [HWT.out]; simp [g]))
    clear HT HO HWT
    go_wp2_with fail
    refine C.out.mono ?_
    rintro e1 w3 ⟨rfl, hb3⟩
    have HW1 := hid (HW2.out.trans (hb3.mono HW2.out.size))
    clear C e2 hb3
    go_wp2
    go_ret
    exact ⟨ret_bool HE.out.symm, HB1.out.trans (HW1.out.mono HB1.out.size)⟩
   ·have HE := hid (HO.out (by rw [HWT.out]; simp [g]))
    clear HT HO HWT
    go_wp2_with fail
    refine C.out.mono ?_
    rintro e1 w3 ⟨rfl, hb3⟩
    have HW1 := hid (HW2.out.trans (hb3.mono HW2.out.size))
    clear C e2 hb3
    go_wp2
    go_roundw
    case rel => exact ⟨k + 1, by go_num, by omega, HE, HW1⟩
    case measure => simp [intOf]; omega
  ·obtain rfl : k = ln := by omega
   have HBL := HW
   have HAna := hid (any_none (p := noText) (l := m.names) (fun j hj => HQ.out j hj (by rw [← Lln.out]; exact hj)))
   clear HQ HW hlt hk
   go_wp2
   go_loopw [5] (fun vi wr => ∃ k : Nat, vi = .int .i64 k ∧ k ≤ lb ∧ Hid (∀ j (hj : j < m.tb.length), j < k → beyond 1048576 m.tb[j] = false) ∧ Hid (Below w1.heap.size w1 wr)) (fun vi _ => lb - (intOf vi).toNat)
   case atStart => exact ⟨0, rfl, Nat.zero_le _, none_upto _ _, HBL⟩
   case round =>
    clear HBL
    obtain ⟨k, rfl, hk, HQ, HW⟩ := hrel
    have hbx := Go.Proofs.YtepbjkkakfpjgaaGreatDoor.keep HW.out Xtb.out
    by_cases hlt : k < lb
    ·have hkl : k < m.tb.length := by rw [Llb.out]; exact hlt
     obtain ⟨b, off, ha, hb, hc⟩ := Rows.get Rtb.out hkl
     rw [ha] at hbx
     obtain ⟨x, hxe⟩ : ∃ x, m.tb[k] = x := ⟨_, rfl⟩
     have HXE := hid hxe
     rw [hxe] at hc
     have hki : (k : Int) < (lb : Int) := by omega
     have HT := hid (fun (h : beyond 1048576 x = true) => TTB.out k hkl (show beyond 1048576 m.tb[k] = true by rw [HXE.out]; exact h))
     have HO := hid (fun (h : beyond 1048576 x = false) => any_take (p := beyond 1048576) hkl HQ.out (show beyond 1048576 m.tb[k] = false by rw [HXE.out]; exact h))
     have cc : ∀ j, j < 3 → ∀ v, (x.v)[j]? = some v → wr.cell? ⟨b, off + k * 3 + j, none⟩ = some v := fun j hj v hv => (HW.out.cell (p := ⟨b, off + k * 3 + j, none⟩) hb).trans (hc j hj v hv)
     have c0 : wr.cell? ⟨b, off + k * 3, none⟩ = some (.int .u32 x.n) := cc 0 (by omega) _ rfl
     have c1 : wr.cell? ⟨b, off + k * 3 + 1, none⟩ = some (.int .u32 x.x) := cc 1 (by omega) _ rfl
     have c2 : wr.cell? ⟨b, off + k * 3 + 2, none⟩ = some (.bool x.c) := cc 2 (by omega) _ rfl
     have C := hid (Kind.refCheckLimits_any x.n x.x x.c 1048576 wr)
     have HWT : Hid (beyond 1048576 x = !Kind.okLim x.n x.x x.c 1048576) := rfl
     have HCT : Hid (Kind.codeLim x.n x.x x.c 1048576 = if Kind.okLim x.n x.x x.c 1048576 = true then 0 else 2) := rfl
     obtain ⟨q, hq⟩ : ∃ q, Kind.okLim x.n x.x x.c 1048576 = q := ⟨_, rfl⟩
     rw [hq] at HWT HCT
     clear hc cc hb ha hq hkl hxe HXE
     cases q with
     | true =>
      have HE := hid (HO.out (by rw [HWT.out]; rfl))
      have hct : Kind.codeLim x.n x.x x.c 1048576 = 0 := by rw [HCT.out]; rfl
      rw [hct] at C
      clear HT HO HWT HCT hct HQ
      go_wp2_with fail
      refine C.out.mono ?_
      rintro e1 w3 ⟨rfl, hb1⟩
      have HW1 := hid (HW.out.trans (hb1.mono HW.out.size))
      clear C hb1
      go_wp2
      go_roundw
      case rel => exact ⟨k + 1, by go_num, by omega, HE, HW1⟩
      case measure => simp [intOf]; omega
     | false =>
      have HE := hid (HT.out (by rw [HWT.out]; rfl))
      have hct : Kind.codeLim x.n x.x x.c 1048576 = 2 := by rw [HCT.out]; rfl
      rw [hct] at C
      clear HT HO HWT HCT hct HQ
      go_wp2_with fail
      refine C.out.mono ?_
      rintro e1 w3 ⟨rfl, hb1⟩
      have HW1 := hid (HW.out.trans (hb1.mono HW.out.size))
      clear C hb1
      go_wp2
      go_ret
      exact ⟨ret_bool HE.out.symm, HB1.out.trans (HW1.out.mono HB1.out.size)⟩
    ·obtain rfl : k = lb := by omega
     have HBL := HW
     have HAtb := hid (any_none (p := beyond 1048576) (l := m.tb) (fun j hj => HQ.out j hj (by rw [← Llb.out]; exact hj)))
     clear HQ HW hlt hk
     go_wp2
     clear hbx
     go_loopw [6] (fun vi wr => ∃ k : Nat, vi = .int .i64 k ∧ k ≤ lm ∧ Hid (∀ j (hj : j < m.me.length), j < k → beyond 65536 m.me[j] = false) ∧ Hid (Below w1.heap.size w1 wr)) (fun vi _ => lm - (intOf vi).toNat)
     case atStart => exact ⟨0, rfl, Nat.zero_le _, none_upto _ _, HBL⟩
     case round =>
      clear HBL
      obtain ⟨k, rfl, hk, HQ, HW⟩ := hrel
      have hbx := Go.Proofs.YtepbjkkakfpjgaaGreatDoor.keep HW.out Xme.out
      by_cases hlt : k < lm
      ·have hkl : k < m.me.length := by rw [Llm.out]; exact hlt
       obtain ⟨b, off, ha, hb, hc⟩ := Rows.get Rme.out hkl
       rw [ha] at hbx
       obtain ⟨x, hxe⟩ : ∃ x, m.me[k] = x := ⟨_, rfl⟩
       have HXE := hid hxe
       rw [hxe] at hc
       have hki : (k : Int) < (lm : Int) := by omega
       have HT := hid (fun (h : beyond 65536 x = true) => TME.out k hkl (show beyond 65536 m.me[k] = true by rw [HXE.out]; exact h))
       have HO := hid (fun (h : beyond 65536 x = false) => any_take (p := beyond 65536) hkl HQ.out (show beyond 65536 m.me[k] = false by rw [HXE.out]; exact h))
       have cc : ∀ j, j < 3 → ∀ v, (x.v)[j]? = some v → wr.cell? ⟨b, off + k * 3 + j, none⟩ = some v := fun j hj v hv => (HW.out.cell (p := ⟨b, off + k * 3 + j, none⟩) hb).trans (hc j hj v hv)
       have c0 : wr.cell? ⟨b, off + k * 3, none⟩ = some (.int .u32 x.n) := cc 0 (by omega) _ rfl
       have c1 : wr.cell? ⟨b, off + k * 3 + 1, none⟩ = some (.int .u32 x.x) := cc 1 (by omega) _ rfl
       have c2 : wr.cell? ⟨b, off + k * 3 + 2, none⟩ = some (.bool x.c) := cc 2 (by omega) _ rfl
       have C := hid (Kind.refCheckLimits_any x.n x.x x.c 65536 wr)
       have HWT : Hid (beyond 65536 x = !Kind.okLim x.n x.x x.c 65536) := rfl
       have HCT : Hid (Kind.codeLim x.n x.x x.c 65536 = if Kind.okLim x.n x.x x.c 65536 = true then 0 else 2) := rfl
       obtain ⟨q, hq⟩ : ∃ q, Kind.okLim x.n x.x x.c 65536 = q := ⟨_, rfl⟩
       rw [hq] at HWT HCT
       clear hc cc hb ha hq hkl hxe HXE
       cases q with
       | true =>
        have HE := hid (HO.out (by rw [HWT.out]; rfl))
        have hct : Kind.codeLim x.n x.x x.c 65536 = 0 := by rw [HCT.out]; rfl
        rw [hct] at C
        clear HT HO HWT HCT hct HQ
        go_wp2_with fail
        refine C.out.mono ?_
        rintro e1 w3 ⟨rfl, hb1⟩
        have HW1 := hid (HW.out.trans (hb1.mono HW.out.size))
        clear C hb1
        go_wp2
        go_roundw
        case rel => exact ⟨k + 1, by go_num, by omega, HE, HW1⟩
        case measure => simp [intOf]; omega
       | false =>
        have HE := hid (HT.out (by rw [HWT.out]; rfl))
        have hct : Kind.codeLim x.n x.x x.c 65536 = 2 := by rw [HCT.out]; rfl
        rw [hct] at C
        clear HT HO HWT HCT hct HQ
        go_wp2_with fail
        refine C.out.mono ?_
        rintro e1 w3 ⟨rfl, hb1⟩
        have HW1 := hid (HW.out.trans (hb1.mono HW.out.size))
        clear C hb1
        go_wp2
        go_ret
        exact ⟨ret_bool HE.out.symm, HB1.out.trans (HW1.out.mono HB1.out.size)⟩
      ·obtain rfl : k = lm := by omega
       have HBL := HW
       have HAme := hid (any_none (p := beyond 65536) (l := m.me) (fun j hj => HQ.out j hj (by rw [← Llm.out]; exact hj)))
       clear HQ HW hlt hk
       go_wp2
       clear hbx
       go_loopw [7] (fun vi wr => ∃ k : Nat, vi = .int .i64 k ∧ k ≤ lx ∧ Hid (∀ j (hj : j < m.ex.length), j < k → wrongE m.ex[j] = false) ∧ Hid (Below w1.heap.size w1 wr)) (fun vi _ => lx - (intOf vi).toNat)
       case atStart => exact ⟨0, rfl, Nat.zero_le _, none_upto _ _, HBL⟩
       case round =>
        clear HBL
        obtain ⟨k, rfl, hk, HQ, HW⟩ := hrel
        have hbx := Go.Proofs.YtepbjkkakfpjgaaGreatDoor.keep HW.out Xex.out
        by_cases hlt : k < lx
        ·have hkl : k < m.ex.length := by rw [Llx.out]; exact hlt
         obtain ⟨b, off, ha, hb, hc⟩ := Rows.get Rex.out hkl
         rw [ha] at hbx
         obtain ⟨x, hxe⟩ : ∃ x, m.ex[k] = x := ⟨_, rfl⟩
         have HXE := hid hxe
         rw [hxe] at hc
         have hki : (k : Int) < (lx : Int) := by omega
         have HT := hid (fun (h : wrongE x = true) => TEX.out k hkl (show wrongE m.ex[k] = true by rw [HXE.out]; exact h))
         have HO := hid (fun (h : wrongE x = false) => any_take (p := wrongE) hkl HQ.out (show wrongE m.ex[k] = false by rw [HXE.out]; exact h))
         have cc : ∀ j, j < 3 → ∀ v, (x.v)[j]? = some v → wr.cell? ⟨b, off + k * 3 + j, none⟩ = some v := fun j hj v hv => (HW.out.cell (p := ⟨b, off + k * 3 + j, none⟩) hb).trans (hc j hj v hv)
         have c1 : wr.cell? ⟨b, off + k * 3 + 1, none⟩ = some (.int .i64 x.k) := cc 1 (by omega) _ rfl
         have HWT : Hid (wrongE x = (decide (x.k < 0) || decide (3 < x.k))) := rfl
         obtain ⟨t, ht⟩ : ∃ t, x.k = t := ⟨_, rfl⟩
         rw [ht] at HWT c1
         clear hc cc hb ha ht hkl hxe HXE
         by_cases g1 : t < 0
         ·have HE := hid (HT.out (by rw [HWT.out]; simp [g1]))
          clear HT HO HWT HQ
          go_wp2
          go_ret
          exact ⟨ret_bool HE.out.symm, HB1.out.trans (HW.out.mono HB1.out.size)⟩
         ·by_cases g2 : 3 < t
          ·have HE := hid (HT.out (by rw [HWT.out]; simp [g2]))
           clear HT HO HWT HQ
           go_wp2
           go_ret
           exact ⟨ret_bool HE.out.symm, HB1.out.trans (HW.out.mono HB1.out.size)⟩
          ·have HE := hid (HO.out (by rw [HWT.out]; simp [g1, g2]))
           clear HT HO HWT HQ
           go_wp2
           go_roundw
           case rel => exact ⟨k + 1, by go_num, by omega, HE, HW⟩
           case measure => simp [intOf]; omega
        ·obtain rfl : k = lx := by omega
         have HBL := HW
         have HAex := hid (any_none (p := wrongE) (l := m.ex) (fun j hj => HQ.out j hj (by rw [← Llx.out]; exact hj)))
         clear HQ HW hlt hk
         have HE := hid (HEND.out HAna.out HAtb.out HAme.out HAex.out)
         have HX2 := hid (fun j v h => Go.Proofs.YtepbjkkakfpjgaaGreatDoor.keep HBL.out (HX1.out j v h))
         obtain ⟨y0, y1, y2, y3, y4, y5, y6, y7, y8, y9, y10⟩ := Mod.cells11 HX2.out
         have C := hid (D.out wr (HM1.out.on HBL.out))
         clear HX2 HX1 HM1 D TNA TTB TME TEX HEND hbx
         obtain ⟨st, hst⟩ : ∃ b, m.st = b := ⟨_, rfl⟩
         obtain ⟨sn, hsn⟩ : ∃ b, m.sn = b := ⟨_, rfl⟩
         rw [hst, hsn] at HE C
         rw [hst] at y7
         rw [hsn] at y8
         clear hst hsn
         cases st with
         | true =>
          go_wp2_with fail
          refine C.out.mono ?_
          rintro e1 w3 ⟨rfl, hb3⟩
          have HW1 := hid (HBL.out.trans (hb3.mono HBL.out.size))
          clear C hb3
          go_wp2
          go_ret
          exact ⟨ret_bool (by rw [HE.out]; simp), HB1.out.trans (HW1.out.mono HB1.out.size)⟩
         | false =>
          by_cases g : sn = 0
          ·subst g
           go_wp2_with fail
           refine C.out.mono ?_
           rintro e1 w3 ⟨rfl, hb3⟩
           have HW1 := hid (HBL.out.trans (hb3.mono HBL.out.size))
           clear C hb3
           go_wp2
           go_ret
           exact ⟨ret_bool (by rw [HE.out]; simp), HB1.out.trans (HW1.out.mono HB1.out.size)⟩
          ·have HE2 := hid (show m.rest = false by rw [HE.out]; simp [g])
           clear C HE
           go_wp2
           go_ret
           exact ⟨ret_bool HE2.out.symm, HB1.out.trans (HBL.out.mono HB1.out.size)⟩
end Go.Proofs.YtepbjkkakfpjgaaGreatDoor.Mod
namespace Go.Proofs.YtepbjkkakfpjgaaGreatDoor.Mod
open Go.RowKit Go.Proofs.YtepbjkkakfpjgaaGreatDoor.Instr
theorem belowF {w w' : World} (h : Below w.heap.size w w') (v : Array Value) (t : TypeId) : Below w.heap.size w (w'.alloc (.cells v t)) := thenA h _
set_option maxHeartbeats 4000000 in
set_option maxRecDepth 100000 in
theorem refNumbers_any (m : Md) (w : World) (hm : ModAt w.heap.size w m) (hf : m.fits) :
  Calls Tryz.prog 79 #[.agg m.v] w fun x w' => x = .returned (.bool m.numbers) ∧ Below w.heap.size w w' := by
 have hb0 := (Below.refl w.heap.size w).alloc (Nat.le_refl _) (.cells m.v 32)
 have HB := hid hb0
 have HM := hid (hm.on hb0)
 have HX := hid (BoxAt.made w m.v 32)
 have HF := hid hf
 unfold Md.v at HB HX HM ⊢
 clear hm hf hb0
 go_enter Tryz.func79, Tryz.ntmps79
 go_wp2
 generalize w.alloc (.cells #[.slice m.ty'.a m.ty.length m.ty'.c, .slice m.im'.a m.im.length m.im'.c, .slice m.fu'.a m.fu.length m.fu'.c, .slice m.tb'.a m.tb.length m.tb'.c, .slice m.me'.a m.me.length m.me'.c, .slice m.gl'.a m.gl.length m.gl'.c, .slice m.ex'.a m.ex.length m.ex'.c, .bool m.st, .int .u32 m.sn, .slice m.el'.a m.el.length m.el'.c, .slice m.da'.a m.da.length m.da'.c] 32) = W0 at HB HM HX ⊢
 obtain ⟨lt, hlt⟩ : ∃ n, m.ty.length = n := ⟨_, rfl⟩
 have Llt := hid hlt
 have blt : lt ≤ 140737488351232 := by have := HF.out.ty; omega
 have Xty := hid (show W0.cell? ⟨w.heap.size, 0, none⟩ = some (.slice m.ty'.a lt m.ty'.c) by rw [← hlt]; exact HX.out 0 _ rfl)
 have Rty := hid HM.out.ty
 clear hlt
 obtain ⟨li, hli⟩ : ∃ n, m.im.length = n := ⟨_, rfl⟩
 have Lli := hid hli
 have bli : li ≤ 140737488351232 := by have := HF.out.im; omega
 have Xim := hid (show W0.cell? ⟨w.heap.size, 1, none⟩ = some (.slice m.im'.a li m.im'.c) by rw [← hli]; exact HX.out 1 _ rfl)
 have Rim := hid HM.out.im
 clear hli
 obtain ⟨lf, hlf⟩ : ∃ n, m.fu.length = n := ⟨_, rfl⟩
 have Llf := hid hlf
 have blf : lf ≤ 140737488351232 := by have := HF.out.fu; omega
 have Xfu := hid (show W0.cell? ⟨w.heap.size, 2, none⟩ = some (.slice m.fu'.a lf m.fu'.c) by rw [← hlf]; exact HX.out 2 _ rfl)
 have Rfu := hid HM.out.fu
 clear hlf
 clear HX
 go_loopw [3] (fun vi wr => ∃ k : Nat, vi = .int .i64 k ∧ k ≤ lt ∧ Hid (∀ j (hj : j < m.ty.length), j < k → wrongT m.ty[j] = false) ∧ Hid (Below W0.heap.size W0 wr)) (fun vi _ => lt - (intOf vi).toNat)
 case atStart => exact ⟨0, rfl, Nat.zero_le _, none_upto _ _, Below.refl _ _⟩
 case round =>
  obtain ⟨k, rfl, hk, HQ, HW⟩ := hrel
  have hbx := Go.Proofs.YtepbjkkakfpjgaaGreatDoor.keep HW.out Xty.out
  by_cases hlt : k < lt
  ·have hkl : k < m.ty.length := by rw [Llt.out]; exact hlt
   obtain ⟨b, off, ha, hb, hc⟩ := Rows.get Rty.out hkl
   rw [ha] at hbx
   obtain ⟨x, hxe⟩ : ∃ x, m.ty[k] = x := ⟨_, rfl⟩
   have HXE := hid hxe
   rw [hxe] at hc
   have cc : ∀ j, j < 2 → ∀ v, (tyV x)[j]? = some v → wr.cell? ⟨b, off + k * 2 + j, none⟩ = some v := fun j hj v hv => (HW.out.cell (p := ⟨b, off + k * 2 + j, none⟩) hb).trans (hc j hj v hv)
   have hki : (k : Int) < (lt : Int) := by omega
   have HT := hid (fun (h : wrongT x = true) => show m.numbers = false by unfold Md.numbers; rw [any_some hkl (show wrongT m.ty[k] = true by rw [HXE.out]; exact h)]; simp)
   have HO := hid (fun (h : wrongT x = false) => any_take hkl HQ.out (show wrongT m.ty[k] = false by rw [HXE.out]; exact h))
   have c0 : wr.cell? ⟨b, off + k * 2, none⟩ = some (.int .i64 x.1) := cc 0 (by omega) _ rfl
   have c1 : wr.cell? ⟨b, off + k * 2 + 1, none⟩ = some (.int .i64 x.2) := cc 1 (by omega) _ rfl
   have C := hid (Kind.refCheck_any x.1 x.2 wr)
   have HWT : Hid (wrongT x = !Kind.okType x.1 x.2) := rfl
   have HCT : Hid (Kind.codeType x.1 x.2 = if Kind.okType x.1 x.2 = true then 0 else 2) := rfl
   obtain ⟨q, hq⟩ : ∃ q, Kind.okType x.1 x.2 = q := ⟨_, rfl⟩
   rw [hq] at HWT HCT
   clear hc cc hb ha hq hkl hxe HXE
   cases q with
   | true =>
    have HE := hid (HO.out (by rw [HWT.out]; rfl))
    have hct : Kind.codeType x.1 x.2 = 0 := by rw [HCT.out]; rfl
    rw [hct] at C
    clear HT HO HWT HCT hct HQ
    go_wp2_with fail
    refine C.out.mono ?_
    rintro e1 w1 ⟨rfl, hb1⟩
    have HW1 := hid (HW.out.trans (hb1.mono HW.out.size))
    clear C hb1
    go_wp2
    go_roundw
    case rel => exact ⟨k + 1, by go_num, by omega, HE, HW1⟩
    case measure => simp [intOf]; omega
   | false =>
    have HE := hid (HT.out (by rw [HWT.out]; rfl))
    have hct : Kind.codeType x.1 x.2 = 2 := by rw [HCT.out]; rfl
    rw [hct] at C
    clear HT HO HWT HCT hct HQ
    go_wp2_with fail
    refine C.out.mono ?_
    rintro e1 w1 ⟨rfl, hb1⟩
    have HW1 := hid (HW.out.trans (hb1.mono HW.out.size))
    clear C hb1
    go_wp2
    go_ret
    exact ⟨ret_bool HE.out.symm, HB.out.trans (HW1.out.mono HB.out.size)⟩
  ·obtain rfl : k = lt := by omega
   have HBL := HW
   have HAty := hid (any_none (p := wrongT) (l := m.ty) (fun j hj => HQ.out j hj (by rw [← Llt.out]; exact hj)))
   clear HQ HW hlt hk
   go_wp2
   clear hbx
   go_loopw [4] (fun vi wr => ∃ k : Nat, vi = .int .i64 k ∧ k ≤ li ∧ Hid (∀ j (hj : j < m.im.length), j < k → wrongI m.im[j] = false) ∧ Hid (Below W0.heap.size W0 wr)) (fun vi _ => li - (intOf vi).toNat)
   case atStart => exact ⟨0, rfl, Nat.zero_le _, none_upto _ _, HBL⟩
   case round =>
    clear HBL
    obtain ⟨k, rfl, hk, HQ, HW⟩ := hrel
    have hbx := Go.Proofs.YtepbjkkakfpjgaaGreatDoor.keep HW.out Xim.out
    by_cases hlt : k < li
    ·have hkl : k < m.im.length := by rw [Lli.out]; exact hlt
     obtain ⟨b, off, ha, hb, hc⟩ := Rows.get Rim.out hkl
     rw [ha] at hbx
     obtain ⟨x, hxe⟩ : ∃ x, m.im[k] = x := ⟨_, rfl⟩
     have HXE := hid hxe
     rw [hxe] at hc
     have cc : ∀ j, j < 3 → ∀ v, (x.v)[j]? = some v → wr.cell? ⟨b, off + k * 3 + j, none⟩ = some v := fun j hj v hv => (HW.out.cell (p := ⟨b, off + k * 3 + j, none⟩) hb).trans (hc j hj v hv)
     have hki : (k : Int) < (li : Int) := by omega
     have HT := hid (fun (h : wrongI x = true) => show m.numbers = false by unfold Md.numbers; rw [any_some hkl (show wrongI m.im[k] = true by rw [HXE.out]; exact h)]; simp)
     have HO := hid (fun (h : wrongI x = false) => any_take hkl HQ.out (show wrongI m.im[k] = false by rw [HXE.out]; exact h))
     have c2 : wr.cell? ⟨b, off + k * 3 + 2, none⟩ = some (.int .i64 x.ty) := cc 2 (by omega) _ rfl
     have HWT : Hid (wrongI x = (decide (x.ty < 0) || decide (2147483647 < x.ty))) := rfl
     obtain ⟨t, ht⟩ : ∃ t, x.ty = t := ⟨_, rfl⟩
     rw [ht] at HWT c2
     clear hc cc hb ha ht hkl hxe HXE
     by_cases g1 : t < 0
     ·have HE := hid (HT.out (by rw [HWT.out]; simp [g1]))
      clear HT HO HWT HQ
      go_wp2
      go_ret
      exact ⟨ret_bool HE.out.symm, HB.out.trans (HW.out.mono HB.out.size)⟩
     ·by_cases g2 : 2147483647 < t
      ·have HE := hid (HT.out (by rw [HWT.out]; simp [g2]))
       clear HT HO HWT HQ
       go_wp2
       go_ret
       exact ⟨ret_bool HE.out.symm, HB.out.trans (HW.out.mono HB.out.size)⟩
      ·have HE := hid (HO.out (by rw [HWT.out]; simp [g1, g2]))
       clear HT HO HWT HQ
       go_wp2
       go_roundw
       case rel => exact ⟨k + 1, by go_num, by omega, HE, HW⟩
       case measure => simp [intOf]; omega
    ·obtain rfl : k = li := by omega
     have HBL := HW
     have HAim := hid (any_none (p := wrongI) (l := m.im) (fun j hj => HQ.out j hj (by rw [← Lli.out]; exact hj)))
     clear HQ HW hlt hk
     go_wp2
     clear hbx
     go_loopw [5] (fun vi wr => ∃ k : Nat, vi = .int .i64 k ∧ k ≤ lf ∧ Hid (∀ j (hj : j < m.fu.length), j < k → wrongF m.fu[j] = false) ∧ Hid (Below W0.heap.size W0 wr)) (fun vi _ => lf - (intOf vi).toNat)
     case atStart => exact ⟨0, rfl, Nat.zero_le _, none_upto _ _, HBL⟩
     case round =>
      clear HBL
      obtain ⟨k, rfl, hk, HQ, HW⟩ := hrel
      have hbx := Go.Proofs.YtepbjkkakfpjgaaGreatDoor.keep HW.out Xfu.out
      by_cases hlt : k < lf
      ·have hkl : k < m.fu.length := by rw [Llf.out]; exact hlt
       obtain ⟨b, off, ha, hb, hc⟩ := Rows.get Rfu.out hkl
       rw [ha] at hbx
       obtain ⟨x, hxe⟩ : ∃ x, m.fu[k] = x := ⟨_, rfl⟩
       have HXE := hid hxe
       rw [hxe] at hc
       have cc : ∀ j, j < 3 → ∀ v, (x.v)[j]? = some v → wr.cell? ⟨b, off + k * 3 + j, none⟩ = some v := fun j hj v hv => (HW.out.cell (p := ⟨b, off + k * 3 + j, none⟩) hb).trans (hc j hj v hv)
       have hki : (k : Int) < (lf : Int) := by omega
       have HT := hid (fun (h : wrongF x = true) => show m.numbers = false by unfold Md.numbers; rw [any_some hkl (show wrongF m.fu[k] = true by rw [HXE.out]; exact h)]; simp)
       have HO := hid (fun (h : wrongF x = false) => any_take hkl HQ.out (show wrongF m.fu[k] = false by rw [HXE.out]; exact h))
       have c0 : wr.cell? ⟨b, off + k * 3, none⟩ = some (.int .i64 x.ty) := cc 0 (by omega) _ rfl
       have c1 : wr.cell? ⟨b, off + k * 3 + 1, none⟩ = some (.int .i64 x.lo) := cc 1 (by omega) _ rfl
       have c2 : wr.cell? ⟨b, off + k * 3 + 2, none⟩ = some (.slice x.l.a x.l.t.len x.l.c) := cc 2 (by omega) _ rfl
       have HWT : Hid (wrongF x = ((decide (x.ty < 0) || decide (2147483647 < x.ty)) || (decide (x.lo < 0) || decide (50000 < x.lo)))) := rfl
       obtain ⟨t, ht⟩ : ∃ t, x.ty = t := ⟨_, rfl⟩
       obtain ⟨u, hu⟩ : ∃ u, x.lo = u := ⟨_, rfl⟩
       rw [ht, hu] at HWT
       rw [ht] at c0
       rw [hu] at c1
       clear hc cc hb ha ht hu hkl hxe HXE
       skip
       by_cases g0 : t < 0
       ·have HE := hid (HT.out (by rw [HWT.out]; simp [g0]))
        clear HT HO HWT HQ
        go_wp2
        try go_wp2
        go_ret
        exact ⟨ret_bool HE.out.symm, HB.out.trans ((belowF HW.out _ _).mono HB.out.size)⟩
       ·skip
        by_cases g1 : 2147483647 < t
        ·have HE := hid (HT.out (by rw [HWT.out]; simp [g1]))
         clear HT HO HWT HQ
         go_wp2
         try go_wp2
         go_ret
         exact ⟨ret_bool HE.out.symm, HB.out.trans ((belowF HW.out _ _).mono HB.out.size)⟩
        ·skip
         by_cases g2 : u < 0
         ·have HE := hid (HT.out (by rw [HWT.out]; simp [g2]))
          clear HT HO HWT HQ
          go_wp2
          try go_wp2
          go_ret
          exact ⟨ret_bool HE.out.symm, HB.out.trans ((belowF HW.out _ _).mono HB.out.size)⟩
         ·skip
          by_cases g3 : 50000 < u
          ·have HE := hid (HT.out (by rw [HWT.out]; simp [g3]))
           clear HT HO HWT HQ
           go_wp2
           try go_wp2
           go_ret
           exact ⟨ret_bool HE.out.symm, HB.out.trans ((belowF HW.out _ _).mono HB.out.size)⟩
          ·have HE := hid (HO.out (by rw [HWT.out]; simp [g0, g1, g2, g3]))
           clear HT HO HWT HQ
           go_wp2
           try go_wp2
           go_roundw
           case rel => exact ⟨k + 1, by go_num, by omega, HE, belowF HW.out _ _⟩
           case measure => simp [intOf]; omega
      ·obtain rfl : k = lf := by omega
       have HBL := HW
       have HAfu := hid (any_none (p := wrongF) (l := m.fu) (fun j hj => HQ.out j hj (by rw [← Llf.out]; exact hj)))
       clear HQ HW hlt hk
       have HE := hid (show m.numbers = true by unfold Md.numbers; rw [HAty.out, HAim.out, HAfu.out]; rfl)
       go_wp2
       go_ret
       exact ⟨ret_bool HE.out.symm, HB.out.trans (HBL.out.mono HB.out.size)⟩
end Go.Proofs.YtepbjkkakfpjgaaGreatDoor.Mod
namespace Go.Proofs.YtepbjkkakfpjgaaGreatDoor.Mod
open Go.RowKit Go.Proofs.YtepbjkkakfpjgaaGreatDoor.Instr
set_option linter.unusedVariables false
structure Part where
 l : Lst
 ta : Option Addr
 ts : List Int
 ba : Option Addr
 bs : List Int
def Part.lies (p : Part) (w : World) : Prop := ListAt w.heap.size w p.l.a p.l.t.len p.l.t ∧ TagsAt w.heap.size w p.ta p.ts ∧ BytesAt w.heap.size w p.ba p.bs
def Part.foot (p : Part) : List Nat := (blkOf p.l.t.len p.l.a ++ p.l.t.foot) ++ (blkOf p.ts.length p.ta ++ blkOf p.bs.length p.ba)
def partF (x : Fn) : Part := ⟨x.l, none, [], none, []⟩
def partG (x : Gl) : Part := ⟨x.l, none, [], none, []⟩
def partE (x : El) : Part := ⟨x.l, x.fa, x.fs, none, []⟩
def partD (x : Da) : Part := ⟨x.l, none, [], x.ba, x.bs⟩
theorem BytesAt.touch {S : Nat → Prop} {n₀ : Nat} {w w' : World} {a : Option Addr} {zs : List Int} (h : BytesAt n₀ w a zs) (ht : Touch S w w') (hk : ∀ q ∈ blkOf zs.length a, ¬ S q) : BytesAt n₀ w' a zs := by
 rcases h with h | ⟨b, off, rfl, hl, hc⟩
 ·exact .inl h
 ·by_cases h0 : zs = []
  ·exact .inl h0
  ·have hne : zs.length ≠ 0 := fun h => h0 (List.eq_nil_of_length_eq_zero h)
   exact .inr ⟨b, off, rfl, hl, fun i hi => ht.cell (p := ⟨b, off + i, none⟩) (hk b (by simp [blkOf, hne])) (hc i hi)⟩
theorem Part.touch {S : Nat → Prop} {p : Part} {w w' : World} (h : p.lies w) (ht : Touch S w w') (hk : ∀ q ∈ p.foot, ¬ S q) : p.lies w' := by
 obtain ⟨h1, h2, h3⟩ := h
 have k1 : ∀ q ∈ blkOf p.l.t.len p.l.a ++ p.l.t.foot, ¬ S q := fun q hq => hk q (List.mem_append_left _ hq)
 have k2 : ∀ q ∈ blkOf p.ts.length p.ta, ¬ S q := fun q hq => hk q (List.mem_append_right _ (List.mem_append_left _ hq))
 have k3 : ∀ q ∈ blkOf p.bs.length p.ba, ¬ S q := fun q hq => hk q (List.mem_append_right _ (List.mem_append_right _ hq))
 exact ⟨(h1.touch ht k1).more ht.size, (h2.touch ht k2).more ht.size, (h3.touch ht k3).more ht.size⟩
section
variable {α : Type}
structure Got (e : TypeId) (sz base : Nat) (f : α → List Value) (p : α → Part) (W : World) (v : Value) (us : List α) : Prop where
 row : OwnR e sz base W v (us.map f)
 kids : ∀ x ∈ us, (p x).lies W
 low : ∀ x ∈ us, ∀ q ∈ (p x).foot, base ≤ q
 lt : ∀ x ∈ us, ∀ q ∈ (p x).foot, q < W.heap.size
 apart : ∀ x ∈ us, ∀ q ∈ (p x).foot, v.ownBlock ≠ some q
theorem Got.start (e : TypeId) (sz base : Nat) (f : α → List Value) (p : α → Part) (W : World) : Got e sz base f p W (.slice none 0 0) [] :=
 ⟨OwnR.start e sz base W, by simp, by simp, by simp, by simp⟩
theorem OwnR.touch {e : TypeId} {sz base : Nat} {S : Nat → Prop} {w w' : World} {v : Value} {rs : List (List Value)} (h : OwnR e sz base w v rs) (ht : Touch S w w') (hk : ∀ g, v.ownBlock = some g → ¬ S g) : OwnR e sz base w' v rs :=
 ⟨touch_row h.row ht hk, h.len⟩
theorem Got.touch {e : TypeId} {sz base : Nat} {f : α → List Value} {p : α → Part} {S : Nat → Prop} {W W' : World} {v : Value} {us : List α} (h : Got e sz base f p W v us) (ht : Touch S W W') (hs : ∀ q, base ≤ q → q < W.heap.size → ¬ S q) : Got e sz base f p W' v us :=
 ⟨h.row.touch ht (fun g hg => hs g (World.ownsRow.lt h.row.row g hg).1 (World.ownsRow.lt h.row.row g hg).2), fun x hx => Part.touch (h.kids x hx) ht (fun q hq => hs q (h.low x hx q hq) (h.lt x hx q hq)), h.low, fun x hx q hq => Nat.lt_of_lt_of_le (h.lt x hx q hq) ht.size, h.apart⟩
theorem Got.save {e : TypeId} {sz base k : Nat} {f : α → List Value} {p : α → Part} {W W' : World} {v : Value} {us : List α} (h : Got e sz base f p W v us) (hs : Save k W W') (hk : k < base) : Got e sz base f p W' v us :=
 h.touch (.of_save hs) (fun q hq _ e => by omega)
theorem Got.below {e : TypeId} {sz base : Nat} {f : α → List Value} {p : α → Part} {W W' : World} {v : Value} {us : List α} (h : Got e sz base f p W v us) (hb : Below W.heap.size W W') : Got e sz base f p W' v us :=
 h.touch (S := fun _ => False) (.of_below hb) (fun _ _ _ h => h)
theorem Got.snoc {e : TypeId} {sz base : Nat} {f : α → List Value} {p : α → Part} {W W3 : World} {v v' : Value} {us : List α} {x : α} {n0 : Nat} (h : Got e sz base f p W v us) (hx : (p x).lies W) (hlo : ∀ q ∈ (p x).foot, n0 ≤ q) (hlt : ∀ q ∈ (p x).foot, q < W.heap.size) (hb : base ≤ n0) (hv : ∀ g, v.ownBlock = some g → g < n0)
  (hown : OwnR e sz base W3 v' (us.map f ++ [f x])) (hg : W.grownBy W3 v.ownBlock) (hat : ∀ g, v'.ownBlock = some g → v.ownBlock = some g ∨ W.heap.size ≤ g) : Got e sz base f p W3 v' (us ++ [x]) := by
 have ht : Touch (fun j => v.ownBlock = some j) W W3 := Touch.of_grown hg
 have hne : ∀ q ∈ (p x).foot, v.ownBlock ≠ some q := fun q hq e => by
  have h1 := hlo q hq
  have h2 := hv q e
  omega
 refine ⟨by rw [List.map_append]; exact hown, ?_, ?_, ?_, ?_⟩
 ·intro y hy
  rcases List.mem_append.1 hy with hy | hy
  ·exact Part.touch (h.kids y hy) ht (h.apart y hy)
  ·rw [List.mem_singleton] at hy; subst hy
   exact Part.touch hx ht hne
 ·intro y hy q hq
  rcases List.mem_append.1 hy with hy | hy
  ·exact h.low y hy q hq
  ·rw [List.mem_singleton] at hy; subst hy
   exact Nat.le_trans hb (hlo q hq)
 ·intro y hy q hq
  rcases List.mem_append.1 hy with hy | hy
  ·exact Nat.lt_of_lt_of_le (h.lt y hy q hq) ht.size
  ·rw [List.mem_singleton] at hy; subst hy
   exact Nat.lt_of_lt_of_le (hlt q hq) ht.size
 ·intro y hy q hq e
  rcases List.mem_append.1 hy with hy | hy
  ·rcases hat q e with e2 | e2
   ·exact h.apart y hy q hq e2
   ·have := h.lt y hy q hq; omega
  ·rw [List.mem_singleton] at hy; subst hy
   rcases hat q e with e2 | e2
   ·exact hne q hq e2
   ·have := hlt q hq; omega
end
theorem foot_lt {p : Part} {w : World} (h : p.lies w) : ∀ q ∈ p.foot, q < w.heap.size := by
 obtain ⟨h1, h2, h3⟩ := h
 intro q hq
 rcases List.mem_append.1 hq with hq | hq
 ·exact list_lt h1 q hq
 ·rcases List.mem_append.1 hq with hq | hq
  ·rcases h2 with h2 | ⟨b, off, ha, hl, _⟩
   ·rw [h2] at hq; simp [blkOf] at hq
   ·rw [ha] at hq
    unfold blkOf at hq
    split at hq
    ·simp at hq
    ·simp at hq; subst hq; exact hl
  ·rcases h3 with h3 | ⟨b, off, ha, hl, _⟩
   ·rw [h3] at hq; simp [blkOf] at hq
   ·rw [ha] at hq
    unfold blkOf at hq
    split at hq
    ·simp at hq
    ·simp at hq; subst hq; exact hl
end Go.Proofs.YtepbjkkakfpjgaaGreatDoor.Mod
