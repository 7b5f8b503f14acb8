import Derived.Test.YtepbjkkakfpjgaaGreatDoorMc01
import Derived.Test.YtepbjkkakfpjgaaGreatDoorMc14
import Derived.Test.YtepbjkkakfpjgaaGreatDoorMc06
import Derived.Test.YtepbjkkakfpjgaaGreatDoorMc07
import Derived.Test.YtepbjkkakfpjgaaGreatDoorMc03
namespace Go.Proofs.YtepbjkkakfpjgaaGreatDoor.Mod
open Go.RowKit Go.Proofs.YtepbjkkakfpjgaaGreatDoor.Instr

theorem refCode_any (l : Lst) (e : Int) (w : World) (hl : ListAt w.heap.size w l.a l.t.len l.t) (h1 : l.t.len ≤ 140737488351232) (h2 : l.t.count ≤ 1000000) :
    Calls Tryz.prog 184 #[.slice l.a l.t.len l.c, .int .i64 e] w fun x w' => x = .returned (.bool (checkP l.t == e)) ∧ Below w.heap.size w w' := by
  have C := hid (Body.checkDoc_any l.t l.a l.t.len l.c w hl h1 (by omega))
  obtain ⟨q, hq⟩ : ∃ q, checkP l.t = q := ⟨_, rfl⟩
  rw [hq] at C ⊢
  clear hq hl
  go_enter Tryz.func184, Tryz.ntmps184
  go_wp2_with fail
  refine C.out.mono ?_
  rintro e1 w1 ⟨rfl, hb⟩
  clear C
  go_wp2
  go_ret
  exact ⟨rfl, hb⟩
def Md.has (m : Md) (e : Int) : Bool := (m.fu.any fun x => checkP x.l.t == e) || ((m.gl.any fun x => checkP x.l.t == e) || ((m.el.any fun x => checkP x.l.t == e) || (m.da.any fun x => checkP x.l.t == e)))
theorem countL_app : ∀ (l r : List Lst), countL (l ++ r) = countL l + countL r
  | [], r => by simp [countL]
  | d :: l, r => by simp only [List.cons_append, countL, countL_app l r]; omega
theorem countL_take {α : Type} (f : α → Lst) {l : List α} {k : Nat} (hk : k < l.length) : countL ((l.map f).take (k + 1)) = countL ((l.map f).take k) + (f l[k]).t.count := by
  rw [List.take_succ_eq_append_getElem (by simpa using hk), countL_app, List.getElem_map]; rfl
set_option maxHeartbeats 4000000 in
set_option maxRecDepth 100000 in
theorem refInstrs_any (m : Md) (e : Int) (w : World) (hm : ModAt w.heap.size w m) (hf : m.few) :
    Calls Tryz.prog 131 #[.agg m.v, .int .i64 e] w fun x w' => x = .returned (.bool (m.has e)) ∧ Below w.heap.size w w' := by
  have hb0 := (Below.refl w.heap.size w).alloc (Nat.le_refl _) (.cells m.v 32)
  have HB := hid hb0
  have HM := hid (hm.on hb0)
  have HX := hid (BoxAt.made w m.v 32)
  have HF := hid hf
  unfold Md.v at HB HX HM ⊢
  clear hm hf hb0
  go_enter Tryz.func131, Tryz.ntmps131
  go_wp2
  generalize w.alloc (.cells #[.slice m.ty'.a m.ty.length m.ty'.c, .slice m.im'.a m.im.length m.im'.c, .slice m.fu'.a m.fu.length m.fu'.c, .slice m.tb'.a m.tb.length m.tb'.c, .slice m.me'.a m.me.length m.me'.c, .slice m.gl'.a m.gl.length m.gl'.c, .slice m.ex'.a m.ex.length m.ex'.c, .bool m.st, .int .u32 m.sn, .slice m.el'.a m.el.length m.el'.c, .slice m.da'.a m.da.length m.da'.c] 32) = W0 at HB HM HX ⊢
  obtain ⟨lf, hlf⟩ : ∃ n, m.fu.length = n := ⟨_, rfl⟩
  have Llf := hid hlf
  have blf : lf ≤ 140737488351232 := by have := HF.out.fit.fu; omega
  have zlf : lf ≤ 1000000 := by have := HF.out.lens; omega
  have Xfu := hid (show W0.cell? ⟨w.heap.size, 2, none⟩ = some (.slice m.fu'.a lf m.fu'.c) by rw [← hlf]; exact HX.out 2 _ rfl)
  have Rfu := hid HM.out.fu
  clear hlf
  obtain ⟨lg, hlg⟩ : ∃ n, m.gl.length = n := ⟨_, rfl⟩
  have Llg := hid hlg
  have blg : lg ≤ 140737488351232 := by have := HF.out.fit.gl; omega
  have zlg : lg ≤ 1000000 := by have := HF.out.lens; omega
  have Xgl := hid (show W0.cell? ⟨w.heap.size, 5, none⟩ = some (.slice m.gl'.a lg m.gl'.c) by rw [← hlg]; exact HX.out 5 _ rfl)
  have Rgl := hid HM.out.gl
  clear hlg
  obtain ⟨le, hle⟩ : ∃ n, m.el.length = n := ⟨_, rfl⟩
  have Lle := hid hle
  have ble : le ≤ 140737488351232 := by have := HF.out.fit.el; omega
  have zle : le ≤ 1000000 := by have := HF.out.lens; omega
  have Xel := hid (show W0.cell? ⟨w.heap.size, 9, none⟩ = some (.slice m.el'.a le m.el'.c) by rw [← hle]; exact HX.out 9 _ rfl)
  have Rel := hid HM.out.el
  clear hle
  obtain ⟨ld, hld⟩ : ∃ n, m.da.length = n := ⟨_, rfl⟩
  have Lld := hid hld
  have bld : ld ≤ 140737488351232 := by have := HF.out.fit.da; omega
  have zld : ld ≤ 1000000 := by have := HF.out.lens; omega
  have Xda := hid (show W0.cell? ⟨w.heap.size, 10, none⟩ = some (.slice m.da'.a ld m.da'.c) by rw [← hld]; exact HX.out 10 _ rfl)
  have Rda := hid HM.out.da
  clear hld
  clear HX
  go_loopw [5] (fun vi wr => ∃ k : Nat, vi = .int .i64 k ∧ k ≤ lf ∧ Hid (∀ j (hj : j < m.fu.length), j < k → (checkP (m.fu[j]).l.t == e) = false) ∧ Hid (Below W0.heap.size W0 wr)) (fun vi _ => lf - (intOf vi).toNat)
  case atStart => exact ⟨0, rfl, Nat.zero_le _, fun j _ h => absurd h (Nat.not_lt_zero _), Below.refl _ _⟩
  case round =>
    obtain ⟨k, rfl, hk, HQ, HW⟩ := hrel
    have hbx := Go.Proofs.YtepbjkkakfpjgaaGreatDoor.keep HW.out Xfu.out
    by_cases hlt : k < lf
    · have hkl : k < m.fu.length := by rw [Llf.out]; exact hlt
      obtain ⟨b, off, ha, hb, hc⟩ := Rows.get Rfu.out hkl
      rw [ha] at hbx
      have hx : m.fu[k] ∈ m.fu := List.getElem_mem hkl
      have hLs := HM.out.ls m.fu[k].l (by unfold Md.codes; exact List.mem_append_left _ (List.mem_map.2 ⟨_, hx, rfl⟩))
      have hLl := HF.out.fit.ls m.fu[k].l (by unfold Md.codes; exact List.mem_append_left _ (List.mem_map.2 ⟨_, hx, rfl⟩))
      have hLc := HF.out.cs m.fu[k].l (by unfold Md.codes; exact List.mem_append_left _ (List.mem_map.2 ⟨_, hx, rfl⟩))
      obtain ⟨x, hxe⟩ : ∃ x, m.fu[k] = x := ⟨_, rfl⟩
      have HXE := hid hxe
      rw [hxe] at hc hLs hLl hLc
      have cc : ∀ j, j < 3 → ∀ v, x.v[j]? = some v → wr.cell? ⟨b, off + k * 3 + j, none⟩ = some v := fun j hj v hv => (HW.out.cell (p := ⟨b, off + k * 3 + j, none⟩) hb).trans (hc j hj v hv)
      have c2 : wr.cell? ⟨b, off + k * 3 + 2, none⟩ = some (.slice x.l.a x.l.t.len x.l.c) := cc 2 (by omega) _ rfl
      have hki : (k : Int) < (lf : Int) := by omega
      have C := hid (refCode_any x.l e wr ((hLs.below HW.out).more HW.out.size) hLl hLc)
      obtain ⟨q, hq⟩ : ∃ q, (checkP x.l.t == e) = q := ⟨_, rfl⟩
      rw [hq] at C
      have HQK := hid (show (checkP (m.fu[k]).l.t == e) = q by rw [HXE.out]; exact hq)
      clear hx hxe hc cc hb ha hLs hLl hLc hq
      cases q with
      | true =>
        have HE := hid (show m.has e = true by unfold Md.has; rw [any_some hkl HQK.out]; simp)
        go_wp2_with fail
        refine C.out.mono ?_
        rintro e1 w1 ⟨rfl, hb1⟩
        have HW1 := hid (HW.out.trans (hb1.mono HW.out.size))
        clear C hb1
        go_wp2
        go_ret
        exact ⟨ret_bool HE.out.symm, HB.out.trans (HW1.out.mono HB.out.size)⟩
      | false =>
        have HQ' := hid (any_take (p := fun x => checkP x.l.t == e) hkl HQ.out HQK.out)
        go_wp2_with fail
        refine C.out.mono ?_
        rintro e1 w1 ⟨rfl, hb1⟩
        have HW1 := hid (HW.out.trans (hb1.mono HW.out.size))
        clear C hb1 hbx c2
        go_wp2
        go_roundw
        case rel => exact ⟨k + 1, by go_num, by omega, HQ', HW1⟩
        case measure => simp [intOf]; omega
    · obtain rfl : lf = k := by omega
      have HBL := HW
      have HAfu := hid (any_none (p := fun x => checkP x.l.t == e) (l := m.fu) (fun j hj => HQ.out j hj (by rw [← Llf.out]; exact hj)))
      clear HQ HW hlt hk
      go_wp2
      clear hbx
      go_loopw [6] (fun vi wr => ∃ k : Nat, vi = .int .i64 k ∧ k ≤ lg ∧ Hid (∀ j (hj : j < m.gl.length), j < k → (checkP (m.gl[j]).l.t == e) = false) ∧ Hid (Below W0.heap.size W0 wr)) (fun vi _ => lg - (intOf vi).toNat)
      case atStart => exact ⟨0, rfl, Nat.zero_le _, fun j _ h => absurd h (Nat.not_lt_zero _), HBL⟩
      case round =>
        clear HBL
        obtain ⟨k, rfl, hk, HQ, HW⟩ := hrel
        have hbx := Go.Proofs.YtepbjkkakfpjgaaGreatDoor.keep HW.out Xgl.out
        by_cases hlt : k < lg
        · have hkl : k < m.gl.length := by rw [Llg.out]; exact hlt
          obtain ⟨b, off, ha, hb, hc⟩ := Rows.get Rgl.out hkl
          rw [ha] at hbx
          have hx : m.gl[k] ∈ m.gl := List.getElem_mem hkl
          have hLs := HM.out.ls m.gl[k].l (by unfold Md.codes; exact List.mem_append_right _ (List.mem_append_left _ (List.mem_map.2 ⟨_, hx, rfl⟩)))
          have hLl := HF.out.fit.ls m.gl[k].l (by unfold Md.codes; exact List.mem_append_right _ (List.mem_append_left _ (List.mem_map.2 ⟨_, hx, rfl⟩)))
          have hLc := HF.out.cs m.gl[k].l (by unfold Md.codes; exact List.mem_append_right _ (List.mem_append_left _ (List.mem_map.2 ⟨_, hx, rfl⟩)))
          obtain ⟨x, hxe⟩ : ∃ x, m.gl[k] = x := ⟨_, rfl⟩
          have HXE := hid hxe
          rw [hxe] at hc hLs hLl hLc
          have cc : ∀ j, j < 2 → ∀ v, x.v[j]? = some v → wr.cell? ⟨b, off + k * 2 + j, none⟩ = some v := fun j hj v hv => (HW.out.cell (p := ⟨b, off + k * 2 + j, none⟩) hb).trans (hc j hj v hv)
          have c1 : wr.cell? ⟨b, off + k * 2 + 1, none⟩ = some (.slice x.l.a x.l.t.len x.l.c) := cc 1 (by omega) _ rfl
          have hki : (k : Int) < (lg : Int) := by omega
          have C := hid (refCode_any x.l e wr ((hLs.below HW.out).more HW.out.size) hLl hLc)
          obtain ⟨q, hq⟩ : ∃ q, (checkP x.l.t == e) = q := ⟨_, rfl⟩
          rw [hq] at C
          have HQK := hid (show (checkP (m.gl[k]).l.t == e) = q by rw [HXE.out]; exact hq)
          clear hx hxe hc cc hb ha hLs hLl hLc hq
          cases q with
          | true =>
            have HE := hid (show m.has e = true by unfold Md.has; rw [any_some hkl HQK.out]; simp)
            go_wp2_with fail
            refine C.out.mono ?_
            rintro e1 w1 ⟨rfl, hb1⟩
            have HW1 := hid (HW.out.trans (hb1.mono HW.out.size))
            clear C hb1
            go_wp2
            go_ret
            exact ⟨ret_bool HE.out.symm, HB.out.trans (HW1.out.mono HB.out.size)⟩
          | false =>
            have HQ' := hid (any_take (p := fun x => checkP x.l.t == e) hkl HQ.out HQK.out)
            go_wp2_with fail
            refine C.out.mono ?_
            rintro e1 w1 ⟨rfl, hb1⟩
            have HW1 := hid (HW.out.trans (hb1.mono HW.out.size))
            clear C hb1 hbx c1
            go_wp2
            go_roundw
            case rel => exact ⟨k + 1, by go_num, by omega, HQ', HW1⟩
            case measure => simp [intOf]; omega
        · obtain rfl : lg = k := by omega
          have HBL := HW
          have HAgl := hid (any_none (p := fun x => checkP x.l.t == e) (l := m.gl) (fun j hj => HQ.out j hj (by rw [← Llg.out]; exact hj)))
          clear HQ HW hlt hk
          go_wp2
          clear hbx
          go_loopw [7] (fun vi wr => ∃ k : Nat, vi = .int .i64 k ∧ k ≤ le ∧ Hid (∀ j (hj : j < m.el.length), j < k → (checkP (m.el[j]).l.t == e) = false) ∧ Hid (Below W0.heap.size W0 wr)) (fun vi _ => le - (intOf vi).toNat)
          case atStart => exact ⟨0, rfl, Nat.zero_le _, fun j _ h => absurd h (Nat.not_lt_zero _), HBL⟩
          case round =>
            clear HBL
            obtain ⟨k, rfl, hk, HQ, HW⟩ := hrel
            have hbx := Go.Proofs.YtepbjkkakfpjgaaGreatDoor.keep HW.out Xel.out
            by_cases hlt : k < le
            · have hkl : k < m.el.length := by rw [Lle.out]; exact hlt
              obtain ⟨b, off, ha, hb, hc⟩ := Rows.get Rel.out hkl
              rw [ha] at hbx
              have hx : m.el[k] ∈ m.el := List.getElem_mem hkl
              have hLs := HM.out.ls m.el[k].l (by unfold Md.codes; exact List.mem_append_right _ (List.mem_append_right _ (List.mem_append_left _ (List.mem_map.2 ⟨_, hx, rfl⟩))))
              have hLl := HF.out.fit.ls m.el[k].l (by unfold Md.codes; exact List.mem_append_right _ (List.mem_append_right _ (List.mem_append_left _ (List.mem_map.2 ⟨_, hx, rfl⟩))))
              have hLc := HF.out.cs m.el[k].l (by unfold Md.codes; exact List.mem_append_right _ (List.mem_append_right _ (List.mem_append_left _ (List.mem_map.2 ⟨_, hx, rfl⟩))))
              obtain ⟨x, hxe⟩ : ∃ x, m.el[k] = x := ⟨_, rfl⟩
              have HXE := hid hxe
              rw [hxe] at hc hLs hLl hLc
              have cc : ∀ j, j < 2 → ∀ v, x.v[j]? = some v → wr.cell? ⟨b, off + k * 2 + j, none⟩ = some v := fun j hj v hv => (HW.out.cell (p := ⟨b, off + k * 2 + j, none⟩) hb).trans (hc j hj v hv)
              have c0 : wr.cell? ⟨b, off + k * 2, none⟩ = some (.slice x.l.a x.l.t.len x.l.c) := cc 0 (by omega) _ rfl
              have hki : (k : Int) < (le : Int) := by omega
              have C := hid (refCode_any x.l e wr ((hLs.below HW.out).more HW.out.size) hLl hLc)
              obtain ⟨q, hq⟩ : ∃ q, (checkP x.l.t == e) = q := ⟨_, rfl⟩
              rw [hq] at C
              have HQK := hid (show (checkP (m.el[k]).l.t == e) = q by rw [HXE.out]; exact hq)
              clear hx hxe hc cc hb ha hLs hLl hLc hq
              cases q with
              | true =>
                have HE := hid (show m.has e = true by unfold Md.has; rw [any_some hkl HQK.out]; simp)
                go_wp2_with fail
                refine C.out.mono ?_
                rintro e1 w1 ⟨rfl, hb1⟩
                have HW1 := hid (HW.out.trans (hb1.mono HW.out.size))
                clear C hb1
                go_wp2
                go_ret
                exact ⟨ret_bool HE.out.symm, HB.out.trans (HW1.out.mono HB.out.size)⟩
              | false =>
                have HQ' := hid (any_take (p := fun x => checkP x.l.t == e) hkl HQ.out HQK.out)
                go_wp2_with fail
                refine C.out.mono ?_
                rintro e1 w1 ⟨rfl, hb1⟩
                have HW1 := hid (HW.out.trans (hb1.mono HW.out.size))
                clear C hb1 hbx c0
                go_wp2
                go_roundw
                case rel => exact ⟨k + 1, by go_num, by omega, HQ', HW1⟩
                case measure => simp [intOf]; omega
            · obtain rfl : le = k := by omega
              have HBL := HW
              have HAel := hid (any_none (p := fun x => checkP x.l.t == e) (l := m.el) (fun j hj => HQ.out j hj (by rw [← Lle.out]; exact hj)))
              clear HQ HW hlt hk
              go_wp2
              clear hbx
              go_loopw [8] (fun vi wr => ∃ k : Nat, vi = .int .i64 k ∧ k ≤ ld ∧ Hid (∀ j (hj : j < m.da.length), j < k → (checkP (m.da[j]).l.t == e) = false) ∧ Hid (Below W0.heap.size W0 wr)) (fun vi _ => ld - (intOf vi).toNat)
              case atStart => exact ⟨0, rfl, Nat.zero_le _, fun j _ h => absurd h (Nat.not_lt_zero _), HBL⟩
              case round =>
                clear HBL
                obtain ⟨k, rfl, hk, HQ, HW⟩ := hrel
                have hbx := Go.Proofs.YtepbjkkakfpjgaaGreatDoor.keep HW.out Xda.out
                by_cases hlt : k < ld
                · have hkl : k < m.da.length := by rw [Lld.out]; exact hlt
                  obtain ⟨b, off, ha, hb, hc⟩ := Rows.get Rda.out hkl
                  rw [ha] at hbx
                  have hx : m.da[k] ∈ m.da := List.getElem_mem hkl
                  have hLs := HM.out.ls m.da[k].l (by unfold Md.codes; exact List.mem_append_right _ (List.mem_append_right _ (List.mem_append_right _ (List.mem_map.2 ⟨_, hx, rfl⟩))))
                  have hLl := HF.out.fit.ls m.da[k].l (by unfold Md.codes; exact List.mem_append_right _ (List.mem_append_right _ (List.mem_append_right _ (List.mem_map.2 ⟨_, hx, rfl⟩))))
                  have hLc := HF.out.cs m.da[k].l (by unfold Md.codes; exact List.mem_append_right _ (List.mem_append_right _ (List.mem_append_right _ (List.mem_map.2 ⟨_, hx, rfl⟩))))
                  obtain ⟨x, hxe⟩ : ∃ x, m.da[k] = x := ⟨_, rfl⟩
                  have HXE := hid hxe
                  rw [hxe] at hc hLs hLl hLc
                  have cc : ∀ j, j < 2 → ∀ v, x.v[j]? = some v → wr.cell? ⟨b, off + k * 2 + j, none⟩ = some v := fun j hj v hv => (HW.out.cell (p := ⟨b, off + k * 2 + j, none⟩) hb).trans (hc j hj v hv)
                  have c0 : wr.cell? ⟨b, off + k * 2, none⟩ = some (.slice x.l.a x.l.t.len x.l.c) := cc 0 (by omega) _ rfl
                  have hki : (k : Int) < (ld : Int) := by omega
                  have C := hid (refCode_any x.l e wr ((hLs.below HW.out).more HW.out.size) hLl hLc)
                  obtain ⟨q, hq⟩ : ∃ q, (checkP x.l.t == e) = q := ⟨_, rfl⟩
                  rw [hq] at C
                  have HQK := hid (show (checkP (m.da[k]).l.t == e) = q by rw [HXE.out]; exact hq)
                  clear hx hxe hc cc hb ha hLs hLl hLc hq
                  cases q with
                  | true =>
                    have HE := hid (show m.has e = true by unfold Md.has; rw [any_some hkl HQK.out]; simp)
                    go_wp2_with fail
                    refine C.out.mono ?_
                    rintro e1 w1 ⟨rfl, hb1⟩
                    have HW1 := hid (HW.out.trans (hb1.mono HW.out.size))
                    clear C hb1
                    go_wp2
                    go_ret
                    exact ⟨ret_bool HE.out.symm, HB.out.trans (HW1.out.mono HB.out.size)⟩
                  | false =>
                    have HQ' := hid (any_take (p := fun x => checkP x.l.t == e) hkl HQ.out HQK.out)
                    go_wp2_with fail
                    refine C.out.mono ?_
                    rintro e1 w1 ⟨rfl, hb1⟩
                    have HW1 := hid (HW.out.trans (hb1.mono HW.out.size))
                    clear C hb1 hbx c0
                    go_wp2
                    go_roundw
                    case rel => exact ⟨k + 1, by go_num, by omega, HQ', HW1⟩
                    case measure => simp [intOf]; omega
                · obtain rfl : ld = k := by omega
                  have HBL := HW
                  have HAda := hid (any_none (p := fun x => checkP x.l.t == e) (l := m.da) (fun j hj => HQ.out j hj (by rw [← Lld.out]; exact hj)))
                  clear HQ HW hlt hk
                  have HE := hid (show m.has e = false by unfold Md.has; rw [HAfu.out, HAgl.out, HAel.out, HAda.out]; rfl)
                  go_wp2
                  go_ret
                  exact ⟨ret_bool HE.out.symm, HB.out.trans (HBL.out.mono HB.out.size)⟩
set_option maxHeartbeats 4000000 in
set_option maxRecDepth 100000 in
theorem refSize_any (m : Md) (w : World) (hm : ModAt w.heap.size w m) (hf : m.few) :
    Calls Tryz.prog 26 #[.agg m.v] w fun x w' => x = .returned (.int .i64 m.size) ∧ Below w.heap.size w w' := by
  have hb0 := (Below.refl w.heap.size w).alloc (Nat.le_refl _) (.cells m.v 32)
  have HB := hid hb0
  have HM := hid (hm.on hb0)
  have HX := hid (BoxAt.made w m.v 32)
  have HF := hid hf
  unfold Md.v at HB HX HM ⊢
  clear hm hf hb0
  go_enter Tryz.func26, Tryz.ntmps26
  go_wp2
  generalize w.alloc (.cells #[.slice m.ty'.a m.ty.length m.ty'.c, .slice m.im'.a m.im.length m.im'.c, .slice m.fu'.a m.fu.length m.fu'.c, .slice m.tb'.a m.tb.length m.tb'.c, .slice m.me'.a m.me.length m.me'.c, .slice m.gl'.a m.gl.length m.gl'.c, .slice m.ex'.a m.ex.length m.ex'.c, .bool m.st, .int .u32 m.sn, .slice m.el'.a m.el.length m.el'.c, .slice m.da'.a m.da.length m.da'.c] 32) = W0 at HB HM HX ⊢
  obtain ⟨lf, hlf⟩ : ∃ n, m.fu.length = n := ⟨_, rfl⟩
  have Llf := hid hlf
  have blf : lf ≤ 140737488351232 := by have := HF.out.fit.fu; omega
  have zlf : lf ≤ 1000000 := by have := HF.out.lens; omega
  have Xfu := hid (show W0.cell? ⟨w.heap.size, 2, none⟩ = some (.slice m.fu'.a lf m.fu'.c) by rw [← hlf]; exact HX.out 2 _ rfl)
  have Rfu := hid HM.out.fu
  clear hlf
  obtain ⟨lg, hlg⟩ : ∃ n, m.gl.length = n := ⟨_, rfl⟩
  have Llg := hid hlg
  have blg : lg ≤ 140737488351232 := by have := HF.out.fit.gl; omega
  have zlg : lg ≤ 1000000 := by have := HF.out.lens; omega
  have Xgl := hid (show W0.cell? ⟨w.heap.size, 5, none⟩ = some (.slice m.gl'.a lg m.gl'.c) by rw [← hlg]; exact HX.out 5 _ rfl)
  have Rgl := hid HM.out.gl
  clear hlg
  obtain ⟨le, hle⟩ : ∃ n, m.el.length = n := ⟨_, rfl⟩
  have Lle := hid hle
  have ble : le ≤ 140737488351232 := by have := HF.out.fit.el; omega
  have zle : le ≤ 1000000 := by have := HF.out.lens; omega
  have Xel := hid (show W0.cell? ⟨w.heap.size, 9, none⟩ = some (.slice m.el'.a le m.el'.c) by rw [← hle]; exact HX.out 9 _ rfl)
  have Rel := hid HM.out.el
  clear hle
  obtain ⟨ld, hld⟩ : ∃ n, m.da.length = n := ⟨_, rfl⟩
  have Lld := hid hld
  have bld : ld ≤ 140737488351232 := by have := HF.out.fit.da; omega
  have zld : ld ≤ 1000000 := by have := HF.out.lens; omega
  have Xda := hid (show W0.cell? ⟨w.heap.size, 10, none⟩ = some (.slice m.da'.a ld m.da'.c) by rw [← hld]; exact HX.out 10 _ rfl)
  have Rda := hid HM.out.da
  clear hld
  clear HX
  go_loopw [3, 4] (fun vn vi wr => ∃ (k N : Nat), vn = .int .i64 (N : Int) ∧ vi = .int .i64 k ∧ k ≤ lf ∧ N ≤ 1000000 * (k) ∧ Hid (N = (0) + countL ((m.fu.map (·.l)).take k)) ∧ Hid (Below W0.heap.size W0 wr)) (fun _ vi _ => lf - (intOf vi).toNat)
  case atStart => exact ⟨0, 0, rfl, rfl, Nat.zero_le _, Nat.zero_le _, hid (by simp [countL]), Below.refl _ _⟩
  case round =>
    obtain ⟨k, N, rfl, rfl, hk, hN, HN, HW⟩ := hrel
    have hbx := Go.Proofs.YtepbjkkakfpjgaaGreatDoor.keep HW.out Xfu.out
    by_cases hlt : k < lf
    · have hkl : k < m.fu.length := by rw [Llf.out]; exact hlt
      obtain ⟨b, off, ha, hb, hc⟩ := Rows.get Rfu.out hkl
      rw [ha] at hbx
      have hx : m.fu[k] ∈ m.fu := List.getElem_mem hkl
      have hLs := HM.out.ls m.fu[k].l (by unfold Md.codes; exact List.mem_append_left _ (List.mem_map.2 ⟨_, hx, rfl⟩))
      have hLl := HF.out.fit.ls m.fu[k].l (by unfold Md.codes; exact List.mem_append_left _ (List.mem_map.2 ⟨_, hx, rfl⟩))
      have hLc := HF.out.cs m.fu[k].l (by unfold Md.codes; exact List.mem_append_left _ (List.mem_map.2 ⟨_, hx, rfl⟩))
      have HS := hid (countL_take (fun x => x.l) hkl)
      obtain ⟨x, hxe⟩ : ∃ x, m.fu[k] = x := ⟨_, rfl⟩
      have HXE := hid hxe
      rw [hxe] at hc hLs hLl hLc HS
      have cc : ∀ j, j < 3 → ∀ v, x.v[j]? = some v → wr.cell? ⟨b, off + k * 3 + j, none⟩ = some v := fun j hj v hv => (HW.out.cell (p := ⟨b, off + k * 3 + j, none⟩) hb).trans (hc j hj v hv)
      have c2 : wr.cell? ⟨b, off + k * 3 + 2, none⟩ = some (.slice x.l.a x.l.t.len x.l.c) := cc 2 (by omega) _ rfl
      have hki : (k : Int) < (lf : Int) := by omega
      have C := hid (fun (w9 : World) (hb9 : Below W0.heap.size W0 w9) => refCount_any x.l.t.count x.l.t x.l.a x.l.t.len x.l.c w9 (Nat.le_refl _) ((hLs.below hb9).more hb9.size) hLl (by omega))
      obtain ⟨q, hq⟩ : ∃ q, x.l.t.count = q := ⟨_, rfl⟩
      rw [hq] at C HS hLc
      have HN' := hid (show N + q = (0) + countL ((m.fu.map (·.l)).take (k + 1)) by rw [HS.out]; have := HN.out; omega)
      have hB9 : (N : Int) ≤ 4611686018427387904 := by omega
      have hq9 : (q : Int) ≤ 1000000 := by omega
      have C1 := hid (C.out wr HW.out)
      clear hx hxe HXE hc cc hb ha hLs hLl hq hkl HS HN C
      go_wp2_with fail
      refine C1.out.mono ?_
      rintro e1 w1 ⟨rfl, hb1⟩
      have HW1 := hid (HW.out.trans (hb1.mono HW.out.size))
      clear C1 hb1 hbx c2
      go_wp2
      go_roundw
      case rel => exact ⟨k + 1, N + q, by go_num, by go_num, by omega, by omega, HN', HW1⟩
      case measure => simp [intOf]; omega
    · obtain rfl : lf = k := by omega
      have HBL := HW
      have HP := hid (show N = (0) + countL (m.fu.map (·.l)) by rw [HN.out, List.take_of_length_le (by rw [List.length_map, Llf.out]; exact Nat.le_refl _)])
      have hNN := hN
      clear HN hN HW hlt hk
      go_wp2
      clear hbx
      go_loopw [3, 5] (fun vn vi wr => ∃ (k N : Nat), vn = .int .i64 (N : Int) ∧ vi = .int .i64 k ∧ k ≤ lg ∧ N ≤ 1000000 * (k+lf) ∧ Hid (N = (0 + countL (m.fu.map (·.l))) + countL ((m.gl.map (·.l)).take k)) ∧ Hid (Below W0.heap.size W0 wr)) (fun _ vi _ => lg - (intOf vi).toNat)
      case atStart => exact ⟨0, _, rfl, rfl, Nat.zero_le _, by omega, hid (by rw [HP.out]; simp [countL]), HBL⟩
      case round =>
        clear HBL HP hNN
        obtain ⟨k, N, rfl, rfl, hk, hN, HN, HW⟩ := hrel
        have hbx := Go.Proofs.YtepbjkkakfpjgaaGreatDoor.keep HW.out Xgl.out
        by_cases hlt : k < lg
        · have hkl : k < m.gl.length := by rw [Llg.out]; exact hlt
          obtain ⟨b, off, ha, hb, hc⟩ := Rows.get Rgl.out hkl
          rw [ha] at hbx
          have hx : m.gl[k] ∈ m.gl := List.getElem_mem hkl
          have hLs := HM.out.ls m.gl[k].l (by unfold Md.codes; exact List.mem_append_right _ (List.mem_append_left _ (List.mem_map.2 ⟨_, hx, rfl⟩)))
          have hLl := HF.out.fit.ls m.gl[k].l (by unfold Md.codes; exact List.mem_append_right _ (List.mem_append_left _ (List.mem_map.2 ⟨_, hx, rfl⟩)))
          have hLc := HF.out.cs m.gl[k].l (by unfold Md.codes; exact List.mem_append_right _ (List.mem_append_left _ (List.mem_map.2 ⟨_, hx, rfl⟩)))
          have HS := hid (countL_take (fun x => x.l) hkl)
          obtain ⟨x, hxe⟩ : ∃ x, m.gl[k] = x := ⟨_, rfl⟩
          have HXE := hid hxe
          rw [hxe] at hc hLs hLl hLc HS
          have cc : ∀ j, j < 2 → ∀ v, x.v[j]? = some v → wr.cell? ⟨b, off + k * 2 + j, none⟩ = some v := fun j hj v hv => (HW.out.cell (p := ⟨b, off + k * 2 + j, none⟩) hb).trans (hc j hj v hv)
          have c1 : wr.cell? ⟨b, off + k * 2 + 1, none⟩ = some (.slice x.l.a x.l.t.len x.l.c) := cc 1 (by omega) _ rfl
          have hki : (k : Int) < (lg : Int) := by omega
          have C := hid (fun (w9 : World) (hb9 : Below W0.heap.size W0 w9) => refCount_any x.l.t.count x.l.t x.l.a x.l.t.len x.l.c w9 (Nat.le_refl _) ((hLs.below hb9).more hb9.size) hLl (by omega))
          obtain ⟨q, hq⟩ : ∃ q, x.l.t.count = q := ⟨_, rfl⟩
          rw [hq] at C HS hLc
          have HN' := hid (show N + q = (0 + countL (m.fu.map (·.l))) + countL ((m.gl.map (·.l)).take (k + 1)) by rw [HS.out]; have := HN.out; omega)
          have hB9 : (N : Int) ≤ 4611686018427387904 := by omega
          have hq9 : (q : Int) ≤ 1000000 := by omega
          have C1 := hid (C.out wr HW.out)
          clear hx hxe HXE hc cc hb ha hLs hLl hq hkl HS HN C
          go_wp2_with fail
          refine C1.out.mono ?_
          rintro e1 w1 ⟨rfl, hb1⟩
          have HW1 := hid (HW.out.trans (hb1.mono HW.out.size))
          clear C1 hb1 hbx c1
          go_wp2
          go_roundw
          case rel => exact ⟨k + 1, N + q, by go_num, by go_num, by omega, by omega, HN', HW1⟩
          case measure => simp [intOf]; omega
        · obtain rfl : lg = k := by omega
          have HBL := HW
          have HP := hid (show N = (0 + countL (m.fu.map (·.l))) + countL (m.gl.map (·.l)) by rw [HN.out, List.take_of_length_le (by rw [List.length_map, Llg.out]; exact Nat.le_refl _)])
          have hNN := hN
          clear HN hN HW hlt hk
          go_wp2
          clear hbx
          go_loopw [3, 6] (fun vn vi wr => ∃ (k N : Nat), vn = .int .i64 (N : Int) ∧ vi = .int .i64 k ∧ k ≤ le ∧ N ≤ 1000000 * (k+lf+lg) ∧ Hid (N = (0 + countL (m.fu.map (·.l)) + countL (m.gl.map (·.l))) + countL ((m.el.map (·.l)).take k)) ∧ Hid (Below W0.heap.size W0 wr)) (fun _ vi _ => le - (intOf vi).toNat)
          case atStart => exact ⟨0, _, rfl, rfl, Nat.zero_le _, by omega, hid (by rw [HP.out]; simp [countL]), HBL⟩
          case round =>
            clear HBL HP hNN
            obtain ⟨k, N, rfl, rfl, hk, hN, HN, HW⟩ := hrel
            have hbx := Go.Proofs.YtepbjkkakfpjgaaGreatDoor.keep HW.out Xel.out
            by_cases hlt : k < le
            · have hkl : k < m.el.length := by rw [Lle.out]; exact hlt
              obtain ⟨b, off, ha, hb, hc⟩ := Rows.get Rel.out hkl
              rw [ha] at hbx
              have hx : m.el[k] ∈ m.el := List.getElem_mem hkl
              have hLs := HM.out.ls m.el[k].l (by unfold Md.codes; exact List.mem_append_right _ (List.mem_append_right _ (List.mem_append_left _ (List.mem_map.2 ⟨_, hx, rfl⟩))))
              have hLl := HF.out.fit.ls m.el[k].l (by unfold Md.codes; exact List.mem_append_right _ (List.mem_append_right _ (List.mem_append_left _ (List.mem_map.2 ⟨_, hx, rfl⟩))))
              have hLc := HF.out.cs m.el[k].l (by unfold Md.codes; exact List.mem_append_right _ (List.mem_append_right _ (List.mem_append_left _ (List.mem_map.2 ⟨_, hx, rfl⟩))))
              have HS := hid (countL_take (fun x => x.l) hkl)
              obtain ⟨x, hxe⟩ : ∃ x, m.el[k] = x := ⟨_, rfl⟩
              have HXE := hid hxe
              rw [hxe] at hc hLs hLl hLc HS
              have cc : ∀ j, j < 2 → ∀ v, x.v[j]? = some v → wr.cell? ⟨b, off + k * 2 + j, none⟩ = some v := fun j hj v hv => (HW.out.cell (p := ⟨b, off + k * 2 + j, none⟩) hb).trans (hc j hj v hv)
              have c0 : wr.cell? ⟨b, off + k * 2, none⟩ = some (.slice x.l.a x.l.t.len x.l.c) := cc 0 (by omega) _ rfl
              have hki : (k : Int) < (le : Int) := by omega
              have C := hid (fun (w9 : World) (hb9 : Below W0.heap.size W0 w9) => refCount_any x.l.t.count x.l.t x.l.a x.l.t.len x.l.c w9 (Nat.le_refl _) ((hLs.below hb9).more hb9.size) hLl (by omega))
              obtain ⟨q, hq⟩ : ∃ q, x.l.t.count = q := ⟨_, rfl⟩
              rw [hq] at C HS hLc
              have HN' := hid (show N + q = (0 + countL (m.fu.map (·.l)) + countL (m.gl.map (·.l))) + countL ((m.el.map (·.l)).take (k + 1)) by rw [HS.out]; have := HN.out; omega)
              have hB9 : (N : Int) ≤ 4611686018427387904 := by omega
              have hq9 : (q : Int) ≤ 1000000 := by omega
              have C1 := hid (C.out wr HW.out)
              clear hx hxe HXE hc cc hb ha hLs hLl hq hkl HS HN C
              go_wp2_with fail
              refine C1.out.mono ?_
              rintro e1 w1 ⟨rfl, hb1⟩
              have HW1 := hid (HW.out.trans (hb1.mono HW.out.size))
              clear C1 hb1 hbx c0
              go_wp2
              go_roundw
              case rel => exact ⟨k + 1, N + q, by go_num, by go_num, by omega, by omega, HN', HW1⟩
              case measure => simp [intOf]; omega
            · obtain rfl : le = k := by omega
              have HBL := HW
              have HP := hid (show N = (0 + countL (m.fu.map (·.l)) + countL (m.gl.map (·.l))) + countL (m.el.map (·.l)) by rw [HN.out, List.take_of_length_le (by rw [List.length_map, Lle.out]; exact Nat.le_refl _)])
              have hNN := hN
              clear HN hN HW hlt hk
              go_wp2
              clear hbx
              go_loopw [3, 7] (fun vn vi wr => ∃ (k N : Nat), vn = .int .i64 (N : Int) ∧ vi = .int .i64 k ∧ k ≤ ld ∧ N ≤ 1000000 * (k+lf+lg+le) ∧ Hid (N = (0 + countL (m.fu.map (·.l)) + countL (m.gl.map (·.l)) + countL (m.el.map (·.l))) + countL ((m.da.map (·.l)).take k)) ∧ Hid (Below W0.heap.size W0 wr)) (fun _ vi _ => ld - (intOf vi).toNat)
              case atStart => exact ⟨0, _, rfl, rfl, Nat.zero_le _, by omega, hid (by rw [HP.out]; simp [countL]), HBL⟩
              case round =>
                clear HBL HP hNN
                obtain ⟨k, N, rfl, rfl, hk, hN, HN, HW⟩ := hrel
                have hbx := Go.Proofs.YtepbjkkakfpjgaaGreatDoor.keep HW.out Xda.out
                by_cases hlt : k < ld
                · have hkl : k < m.da.length := by rw [Lld.out]; exact hlt
                  obtain ⟨b, off, ha, hb, hc⟩ := Rows.get Rda.out hkl
                  rw [ha] at hbx
                  have hx : m.da[k] ∈ m.da := List.getElem_mem hkl
                  have hLs := HM.out.ls m.da[k].l (by unfold Md.codes; exact List.mem_append_right _ (List.mem_append_right _ (List.mem_append_right _ (List.mem_map.2 ⟨_, hx, rfl⟩))))
                  have hLl := HF.out.fit.ls m.da[k].l (by unfold Md.codes; exact List.mem_append_right _ (List.mem_append_right _ (List.mem_append_right _ (List.mem_map.2 ⟨_, hx, rfl⟩))))
                  have hLc := HF.out.cs m.da[k].l (by unfold Md.codes; exact List.mem_append_right _ (List.mem_append_right _ (List.mem_append_right _ (List.mem_map.2 ⟨_, hx, rfl⟩))))
                  have HS := hid (countL_take (fun x => x.l) hkl)
                  obtain ⟨x, hxe⟩ : ∃ x, m.da[k] = x := ⟨_, rfl⟩
                  have HXE := hid hxe
                  rw [hxe] at hc hLs hLl hLc HS
                  have cc : ∀ j, j < 2 → ∀ v, x.v[j]? = some v → wr.cell? ⟨b, off + k * 2 + j, none⟩ = some v := fun j hj v hv => (HW.out.cell (p := ⟨b, off + k * 2 + j, none⟩) hb).trans (hc j hj v hv)
                  have c0 : wr.cell? ⟨b, off + k * 2, none⟩ = some (.slice x.l.a x.l.t.len x.l.c) := cc 0 (by omega) _ rfl
                  have hki : (k : Int) < (ld : Int) := by omega
                  have C := hid (fun (w9 : World) (hb9 : Below W0.heap.size W0 w9) => refCount_any x.l.t.count x.l.t x.l.a x.l.t.len x.l.c w9 (Nat.le_refl _) ((hLs.below hb9).more hb9.size) hLl (by omega))
                  obtain ⟨q, hq⟩ : ∃ q, x.l.t.count = q := ⟨_, rfl⟩
                  rw [hq] at C HS hLc
                  have HN' := hid (show N + q = (0 + countL (m.fu.map (·.l)) + countL (m.gl.map (·.l)) + countL (m.el.map (·.l))) + countL ((m.da.map (·.l)).take (k + 1)) by rw [HS.out]; have := HN.out; omega)
                  have hB9 : (N : Int) ≤ 4611686018427387904 := by omega
                  have hq9 : (q : Int) ≤ 1000000 := by omega
                  have C1 := hid (C.out wr HW.out)
                  clear hx hxe HXE hc cc hb ha hLs hLl hq hkl HS HN C
                  go_wp2_with fail
                  refine C1.out.mono ?_
                  rintro e1 w1 ⟨rfl, hb1⟩
                  have HW1 := hid (HW.out.trans (hb1.mono HW.out.size))
                  clear C1 hb1 hbx c0
                  go_wp2
                  go_roundw
                  case rel => exact ⟨k + 1, N + q, by go_num, by go_num, by omega, by omega, HN', HW1⟩
                  case measure => simp [intOf]; omega
                · obtain rfl : ld = k := by omega
                  have HBL := HW
                  have HP := hid (show N = (0 + countL (m.fu.map (·.l)) + countL (m.gl.map (·.l)) + countL (m.el.map (·.l))) + countL (m.da.map (·.l)) by rw [HN.out, List.take_of_length_le (by rw [List.length_map, Lld.out]; exact Nat.le_refl _)])
                  have hNN := hN
                  clear HN hN HW hlt hk
                  have HE := hid (show N = m.size by rw [HP.out]; unfold Md.size Md.codes; rw [countL_app, countL_app, countL_app]; omega)
                  go_wp2
                  go_ret
                  exact ⟨by rw [← HE.out]; rfl, HB.out.trans (HBL.out.mono HB.out.size)⟩
end Go.Proofs.YtepbjkkakfpjgaaGreatDoor.Mod

namespace Go.Proofs.YtepbjkkakfpjgaaGreatDoor.Mod
open Go.RowKit Go.Proofs.YtepbjkkakfpjgaaGreatDoor.Instr

/-- A list has too many items. -/
def Md.many (m : Md) : Bool := m.crowded || m.has 141
def Md.lens7 (m : Md) : List Nat := [m.ty.length, m.im.length, m.fu.length, m.gl.length, m.ex.length, m.el.length, m.da.length]
def longF (e : El) : Bool := decide (16384 < e.fs.length)
theorem many_two {m : Md} (h : 1 < m.tb.length ∨ 1 < m.me.length) : m.many = true := by
  unfold Md.many Md.crowded; simp only [Bool.or_eq_true, decide_eq_true_eq]; rcases h with h | h <;> simp [h]
theorem many_el {m : Md} {k : Nat} (hk : k < m.el.length) (h : longF m.el[k] = true) : m.many = true := by
  have : (m.el.any fun e => decide (16384 < e.fs.length)) = true := any_some (p := longF) hk h
  unfold Md.many Md.crowded; rw [this]; simp
theorem many_len {m : Md} {k : Nat} (hk : k < 7) (h : 16384 < m.lens7.getD k 0) : m.many = true := by
  unfold Md.many Md.crowded
  unfold Md.lens7 at h
  match k, hk with
  | 0, _ => simp only [List.getD_cons_zero] at h; simp [h]
  | 1, _ => simp only [List.getD_cons_zero, List.getD_cons_succ] at h; simp [h]
  | 2, _ => simp only [List.getD_cons_zero, List.getD_cons_succ] at h; simp [h]
  | 3, _ => simp only [List.getD_cons_zero, List.getD_cons_succ] at h; simp [h]
  | 4, _ => simp only [List.getD_cons_zero, List.getD_cons_succ] at h; simp [h]
  | 5, _ => simp only [List.getD_cons_zero, List.getD_cons_succ] at h; simp [h]
  | 6, _ => simp only [List.getD_cons_zero, List.getD_cons_succ] at h; simp [h]
theorem many_rest {m : Md} (h1 : ¬ 1 < m.tb.length) (h2 : ¬ 1 < m.me.length) (h3 : ∀ k, k < 7 → ¬ 16384 < m.lens7.getD k 0) (h4 : ∀ j (hj : j < m.el.length), j < 16385 → longF m.el[j] = false) : m.many = m.has 141 := by
  have a0 := h3 0 (by omega)
  have a1 := h3 1 (by omega)
  have a2 := h3 2 (by omega)
  have a3 := h3 3 (by omega)
  have a4 := h3 4 (by omega)
  have a5 := h3 5 (by omega)
  have a6 := h3 6 (by omega)
  unfold Md.lens7 at a0 a1 a2 a3 a4 a5 a6
  simp only [List.getD_cons_zero, List.getD_cons_succ] at a0 a1 a2 a3 a4 a5 a6
  have : (m.el.any fun e => decide (16384 < e.fs.length)) = false := any_none (p := longF) (fun j hj => h4 j hj (by omega))
  unfold Md.many Md.crowded
  rw [this]
  simp [a0, a1, a2, a3, a4, a5, a6, h1, h2]
theorem cell7 (w : World) (a b c d e f g : Int) (t : TypeId) {k : Nat} (hk : k < 7) : (w.alloc (.cells #[.int .i64 a, .int .i64 b, .int .i64 c, .int .i64 d, .int .i64 e, .int .i64 f, .int .i64 g] t)).cell? ⟨w.heap.size, k, none⟩ = some (.int .i64 ([a, b, c, d, e, f, g].getD k 0)) := by
  match k, hk with
  | 0, _ => simp [go_sem]
  | 1, _ => simp [go_sem]
  | 2, _ => simp [go_sem]
  | 3, _ => simp [go_sem]
  | 4, _ => simp [go_sem]
  | 5, _ => simp [go_sem]
  | 6, _ => simp [go_sem]
theorem getD7 (a b c d e f g : Nat) (k : Nat) : [(a : Int), b, c, d, e, f, g].getD k 0 = (([a, b, c, d, e, f, g].getD k 0 : Nat) : Int) := by
  match k with
  | 0 => rfl
  | 1 => rfl
  | 2 => rfl
  | 3 => rfl
  | 4 => rfl
  | 5 => rfl
  | 6 => rfl
  | k + 7 => simp
set_option maxHeartbeats 4000000 in
set_option maxRecDepth 100000 in
theorem refMany_any (m : Md) (w : World) (hm : ModAt w.heap.size w m) (hf : m.few) :
    Calls Tryz.prog 77 #[.agg m.v] w fun x w' => x = .returned (.bool m.many) ∧ Below w.heap.size w w' := by
  have hb0 := (Below.refl w.heap.size w).alloc (Nat.le_refl _) (.cells m.v 32)
  have HB := hid hb0
  have HM := hid (hm.on hb0)
  have X0 := (BoxAt.made w m.v 32)
  have HX := hid X0
  have HF := hid hf
  have HLF := hid (show ∀ e ∈ m.el, e.fs.length ≤ 140737488351232 from hf.fit.fs)
  have hle : m.el.length ≤ 1000000 := hf.lens.2.2.2.2.2.2.2.1
  have b0 := hf.fit.ty
  have b1 := hf.fit.im
  have b2 := hf.fit.fu
  have b3 := hf.fit.tb
  have b4 := hf.fit.me
  have b5 := hf.fit.gl
  have b6 := hf.fit.ex
  have b10 := hf.fit.da
  have HT2 := hid (fun h => many_two (m := m) h)
  have HTL := hid (fun k (hk : k < 7) h => many_len (m := m) hk h)
  have HRR := hid (fun h1 h2 h3 h4 => many_rest (m := m) h1 h2 h3 h4)
  have H7 : Hid (m.lens7 = [m.ty.length, m.im.length, m.fu.length, m.gl.length, m.ex.length, m.el.length, m.da.length]) := rfl
  unfold Md.v at HB HX HM X0 ⊢
  clear hm hf hb0
  have x0 := X0 0 _ rfl
  have x1 := X0 1 _ rfl
  have x2 := X0 2 _ rfl
  have x3 := X0 3 _ rfl
  have x4 := X0 4 _ rfl
  have x5 := X0 5 _ rfl
  have x6 := X0 6 _ rfl
  have x7 := X0 7 _ rfl
  have x8 := X0 8 _ rfl
  have x9 := X0 9 _ rfl
  have x10 := X0 10 _ rfl
  clear X0
  go_enter Tryz.func77, Tryz.ntmps77
  by_cases g1 : 1 < m.tb.length
  · have HE := hid (HT2.out (.inl g1))
    have g1i : (1 : Int) < (m.tb.length : Int) := by omega
    clear HT2 HTL HRR HX HM
    go_wp2
    go_ret
    exact ⟨ret_bool HE.out.symm, HB.out⟩
  · have g1i : ¬ (1 : Int) < (m.tb.length : Int) := by omega
    by_cases g2 : 1 < m.me.length
    · have HE := hid (HT2.out (.inr g2))
      have g2i : (1 : Int) < (m.me.length : Int) := by omega
      clear HT2 HTL HRR HX HM
      go_wp2
      go_ret
      exact ⟨ret_bool HE.out.symm, HB.out⟩
    · have g2i : ¬ (1 : Int) < (m.me.length : Int) := by omega
      have HR1 := hid (HRR.out g1 g2)
      clear HT2 HRR g1 g2
      have C := hid (fun (W : World) (h : ModAt W.heap.size W m) => refInstrs_any m 141 W h HF.out)
      unfold Md.v at C
      go_wp2
      generalize w.alloc (.cells #[.slice m.ty'.a m.ty.length m.ty'.c, .slice m.im'.a m.im.length m.im'.c, .slice m.fu'.a m.fu.length m.fu'.c, .slice m.tb'.a m.tb.length m.tb'.c, .slice m.me'.a m.me.length m.me'.c, .slice m.gl'.a m.gl.length m.gl'.c, .slice m.ex'.a m.ex.length m.ex'.c, .bool m.st, .int .u32 m.sn, .slice m.el'.a m.el.length m.el'.c, .slice m.da'.a m.da.length m.da'.c] 32) = W0 at *
      obtain ⟨le, hle0⟩ : ∃ n, m.el.length = n := ⟨_, rfl⟩
      have Lle := hid hle0
      rw [hle0] at x9 hle H7 C
      have RE := hid HM.out.el
      clear hle0
      go_loopw [3] (fun vi wr => ∃ k : Nat, vi = .int .i64 k ∧ k ≤ le ∧ k ≤ 16385 ∧ wr = W0 ∧ Hid (∀ j (hj : j < m.el.length), j < k → longF m.el[j] = false)) (fun vi _ => le - (intOf vi).toNat)
      case atStart => exact ⟨0, rfl, Nat.zero_le _, Nat.zero_le _, rfl, none_upto _ _⟩
      case round =>
        obtain ⟨k, rfl, hk, hk2, rfl, HQ⟩ := hrel
        by_cases hlt : k < le ∧ k < 16385
        · obtain ⟨l1, l2⟩ := hlt
          have hkl : k < m.el.length := by rw [Lle.out]; exact l1
          obtain ⟨b, off, ha, hb, hc⟩ := Rows.get RE.out hkl
          rw [ha] at x9
          have HT := hid (fun (h : longF m.el[k] = true) => many_el hkl h)
          have HO := hid (fun (h : longF m.el[k] = false) => any_take hkl HQ.out h)
          have hsz := HLF.out m.el[k] (List.getElem_mem hkl)
          have HWT : Hid (longF m.el[k] = decide (16384 < m.el[k].fs.length)) := rfl
          obtain ⟨x, hx⟩ : ∃ x, m.el[k] = x := ⟨_, rfl⟩
          rw [hx] at hc HT hsz HWT
          have HO1 : Hid (longF x = false → ∀ j (hj : j < m.el.length), j < k + 1 → longF m.el[j] = false) := by rw [← hx]; exact HO
          have c1 := hc 1 (by omega) (.slice x.fa x.fs.length x.fc) rfl
          obtain ⟨q, hq⟩ : ∃ q, x.fs.length = q := ⟨_, rfl⟩
          rw [hq] at c1 HWT hsz
          have hki : (k : Int) < (le : Int) := by omega
          have hki2 : (k : Int) ≤ 16384 := by omega
          clear hc hx hq hb ha hkl HO HQ
          by_cases g : 16384 < q
          · have HE := hid (HT.out (by rw [HWT.out]; simp [g]))
            have gi : (16384 : Int) < (q : Int) := by omega
            clear HT HO1 HWT
            go_wp2
            go_ret
            exact ⟨ret_bool HE.out.symm, HB.out⟩
          · have HE := hid (HO1.out (by rw [HWT.out]; simp [g]))
            have gi : ¬ (16384 : Int) < (q : Int) := by omega
            clear HT HO1 HWT
            go_wp2
            go_roundw
            case rel => exact ⟨k + 1, by go_num, by omega, by omega, trivial, HE⟩
            case measure => simp [intOf]; omega
        · have HQ9 := hid (show ∀ j (hj : j < m.el.length), j < 16385 → longF m.el[j] = false from fun j hj hj2 => HQ.out j hj (by have := Lle.out; omega))
          clear HQ
          by_cases l1 : k < le
          · have l2 : k = 16385 := by omega
            subst l2
            have l1i : (16385 : Int) < (le : Int) := by omega
            go_wp2
            have hbA := (Below.refl wr.heap.size wr).alloc (Nat.le_refl _) (.cells #[.int .i64 m.ty.length, .int .i64 m.im.length, .int .i64 m.fu.length, .int .i64 m.gl.length, .int .i64 m.ex.length, .int .i64 le, .int .i64 m.da.length] 3)
            have HC7 := hid (show ∀ j, j < 7 → (wr.alloc (.cells #[.int .i64 m.ty.length, .int .i64 m.im.length, .int .i64 m.fu.length, .int .i64 m.gl.length, .int .i64 m.ex.length, .int .i64 le, .int .i64 m.da.length] 3)).cell? ⟨wr.heap.size, j, none⟩ = some (.int .i64 ((m.lens7.getD j 0 : Nat) : Int)) from fun j hj => by rw [cell7 wr _ _ _ _ _ _ _ _ hj, getD7, H7.out])
            have HB7 := hid (HB.out.trans (hbA.mono HB.out.size))
            have C7 := hid (C.out _ (HM.out.on hbA))
            have y0 := Go.Proofs.YtepbjkkakfpjgaaGreatDoor.keep hbA x0
            have y1 := Go.Proofs.YtepbjkkakfpjgaaGreatDoor.keep hbA x1
            have y2 := Go.Proofs.YtepbjkkakfpjgaaGreatDoor.keep hbA x2
            have y3 := Go.Proofs.YtepbjkkakfpjgaaGreatDoor.keep hbA x3
            have y4 := Go.Proofs.YtepbjkkakfpjgaaGreatDoor.keep hbA x4
            have y5 := Go.Proofs.YtepbjkkakfpjgaaGreatDoor.keep hbA x5
            have y6 := Go.Proofs.YtepbjkkakfpjgaaGreatDoor.keep hbA x6
            have y7 := Go.Proofs.YtepbjkkakfpjgaaGreatDoor.keep hbA x7
            have y8 := Go.Proofs.YtepbjkkakfpjgaaGreatDoor.keep hbA x8
            have y9 := Go.Proofs.YtepbjkkakfpjgaaGreatDoor.keep hbA x9
            have y10 := Go.Proofs.YtepbjkkakfpjgaaGreatDoor.keep hbA x10
            clear C HM HX hbA HB RE x0 x1 x2 x3 x4 x5 x6 x7 x8 x9 x10
            generalize wr.alloc (.cells #[.int .i64 m.ty.length, .int .i64 m.im.length, .int .i64 m.fu.length, .int .i64 m.gl.length, .int .i64 m.ex.length, .int .i64 le, .int .i64 m.da.length] 3) = W1 at *
            go_loopw [5] (fun vi w9 => ∃ i : Nat, vi = .int .i64 i ∧ i ≤ 7 ∧ w9 = W1 ∧ Hid (∀ j, j < i → ¬ 16384 < m.lens7.getD j 0)) (fun vi _ => 7 - (intOf vi).toNat)
            case atStart => exact ⟨0, rfl, Nat.zero_le _, rfl, fun j h => absurd h (Nat.not_lt_zero _)⟩
            case round =>
              obtain ⟨i, rfl, hi, rfl, HI⟩ := hrel
              by_cases hi7 : i < 7
              · have c := HC7.out i hi7
                have HT := hid (HTL.out i hi7)
                have HO := hid (show ¬ 16384 < m.lens7.getD i 0 → ∀ j, j < i + 1 → ¬ 16384 < m.lens7.getD j 0 from fun h j hj => by
                  by_cases e : j = i
                  · rw [e]; exact h
                  · exact HI.out j (by omega))
                obtain ⟨q, hq⟩ : ∃ q, m.lens7.getD i 0 = q := ⟨_, rfl⟩
                rw [hq] at c HT HO
                have hii : (i : Int) < 7 := by omega
                clear hq HI
                by_cases g : 16384 < q
                · have HE := hid (HT.out g)
                  have gi : (16384 : Int) < (q : Int) := by omega
                  clear HT HO
                  go_wp2
                  go_ret
                  exact ⟨ret_bool HE.out.symm, HB7.out⟩
                · have HE := hid (HO.out g)
                  have gi : ¬ (16384 : Int) < (q : Int) := by omega
                  clear HT HO
                  go_wp2
                  go_roundw
                  case rel => exact ⟨i + 1, by go_num, by omega, trivial, HE⟩
                  case measure => simp [intOf]; omega
              · obtain rfl : i = 7 := by omega
                have HE := hid (HR1.out HI.out HQ9.out)
                clear HI HR1 HTL
                go_wp2_with fail
                refine C7.out.mono ?_
                rintro e1 w1 ⟨rfl, hb1⟩
                have HZ := hid (HB7.out.trans (hb1.mono HB7.out.size))
                clear C7 hb1
                go_wp2
                go_ret
                exact ⟨ret_bool HE.out.symm, HZ.out⟩
          · obtain rfl : le = k := by omega
            go_wp2
            have hbA := (Below.refl wr.heap.size wr).alloc (Nat.le_refl _) (.cells #[.int .i64 m.ty.length, .int .i64 m.im.length, .int .i64 m.fu.length, .int .i64 m.gl.length, .int .i64 m.ex.length, .int .i64 le, .int .i64 m.da.length] 3)
            have HC7 := hid (show ∀ j, j < 7 → (wr.alloc (.cells #[.int .i64 m.ty.length, .int .i64 m.im.length, .int .i64 m.fu.length, .int .i64 m.gl.length, .int .i64 m.ex.length, .int .i64 le, .int .i64 m.da.length] 3)).cell? ⟨wr.heap.size, j, none⟩ = some (.int .i64 ((m.lens7.getD j 0 : Nat) : Int)) from fun j hj => by rw [cell7 wr _ _ _ _ _ _ _ _ hj, getD7, H7.out])
            have HB7 := hid (HB.out.trans (hbA.mono HB.out.size))
            have C7 := hid (C.out _ (HM.out.on hbA))
            have y0 := Go.Proofs.YtepbjkkakfpjgaaGreatDoor.keep hbA x0
            have y1 := Go.Proofs.YtepbjkkakfpjgaaGreatDoor.keep hbA x1
            have y2 := Go.Proofs.YtepbjkkakfpjgaaGreatDoor.keep hbA x2
            have y3 := Go.Proofs.YtepbjkkakfpjgaaGreatDoor.keep hbA x3
            have y4 := Go.Proofs.YtepbjkkakfpjgaaGreatDoor.keep hbA x4
            have y5 := Go.Proofs.YtepbjkkakfpjgaaGreatDoor.keep hbA x5
            have y6 := Go.Proofs.YtepbjkkakfpjgaaGreatDoor.keep hbA x6
            have y7 := Go.Proofs.YtepbjkkakfpjgaaGreatDoor.keep hbA x7
            have y8 := Go.Proofs.YtepbjkkakfpjgaaGreatDoor.keep hbA x8
            have y9 := Go.Proofs.YtepbjkkakfpjgaaGreatDoor.keep hbA x9
            have y10 := Go.Proofs.YtepbjkkakfpjgaaGreatDoor.keep hbA x10
            clear C HM HX hbA HB RE x0 x1 x2 x3 x4 x5 x6 x7 x8 x9 x10
            generalize wr.alloc (.cells #[.int .i64 m.ty.length, .int .i64 m.im.length, .int .i64 m.fu.length, .int .i64 m.gl.length, .int .i64 m.ex.length, .int .i64 le, .int .i64 m.da.length] 3) = W1 at *
            go_loopw [5] (fun vi w9 => ∃ i : Nat, vi = .int .i64 i ∧ i ≤ 7 ∧ w9 = W1 ∧ Hid (∀ j, j < i → ¬ 16384 < m.lens7.getD j 0)) (fun vi _ => 7 - (intOf vi).toNat)
            case atStart => exact ⟨0, rfl, Nat.zero_le _, rfl, fun j h => absurd h (Nat.not_lt_zero _)⟩
            case round =>
              obtain ⟨i, rfl, hi, rfl, HI⟩ := hrel
              by_cases hi7 : i < 7
              · have c := HC7.out i hi7
                have HT := hid (HTL.out i hi7)
                have HO := hid (show ¬ 16384 < m.lens7.getD i 0 → ∀ j, j < i + 1 → ¬ 16384 < m.lens7.getD j 0 from fun h j hj => by
                  by_cases e : j = i
                  · rw [e]; exact h
                  · exact HI.out j (by omega))
                obtain ⟨q, hq⟩ : ∃ q, m.lens7.getD i 0 = q := ⟨_, rfl⟩
                rw [hq] at c HT HO
                have hii : (i : Int) < 7 := by omega
                clear hq HI
                by_cases g : 16384 < q
                · have HE := hid (HT.out g)
                  have gi : (16384 : Int) < (q : Int) := by omega
                  clear HT HO
                  go_wp2
                  go_ret
                  exact ⟨ret_bool HE.out.symm, HB7.out⟩
                · have HE := hid (HO.out g)
                  have gi : ¬ (16384 : Int) < (q : Int) := by omega
                  clear HT HO
                  go_wp2
                  go_roundw
                  case rel => exact ⟨i + 1, by go_num, by omega, trivial, HE⟩
                  case measure => simp [intOf]; omega
              · obtain rfl : i = 7 := by omega
                have HE := hid (HR1.out HI.out HQ9.out)
                clear HI HR1 HTL
                go_wp2_with fail
                refine C7.out.mono ?_
                rintro e1 w1 ⟨rfl, hb1⟩
                have HZ := hid (HB7.out.trans (hb1.mono HB7.out.size))
                clear C7 hb1
                go_wp2
                go_ret
                exact ⟨ret_bool HE.out.symm, HZ.out⟩
end Go.Proofs.YtepbjkkakfpjgaaGreatDoor.Mod

namespace Go.Proofs.YtepbjkkakfpjgaaGreatDoor.Utf
open Go.RowKit

theorem Rune_any (n : Int) (w : World) : Calls Tryz.prog 225 #[.int .i64 n] w fun e w' => e = .returned (.bool (decide (Rune n))) ∧ w' = w := by
  by_cases h : Rune n
  · have hd : decide (Rune n) = true := decide_eq_true h
    rw [hd]
    obtain ⟨h0, h1, h2⟩ := h
    by_cases h3 : n < 55296
    · go_enter Tryz.func225, Tryz.ntmps225
      go_wp2
      go_ret
      exact ⟨rfl, rfl⟩
    · have h4 : 57343 < n := by omega
      go_enter Tryz.func225, Tryz.ntmps225
      go_wp2
      go_ret
      exact ⟨rfl, rfl⟩
  · have hd : decide (Rune n) = false := decide_eq_false h
    rw [hd]
    unfold Rune at h
    by_cases h0 : n < 0
    · clear h hd
      go_enter Tryz.func225, Tryz.ntmps225
      go_wp2
      go_ret
      exact ⟨rfl, rfl⟩
    by_cases h1 : 1114111 < n
    · clear h hd
      go_enter Tryz.func225, Tryz.ntmps225
      go_wp2
      go_ret
      exact ⟨rfl, rfl⟩
    · have h2 : ¬ n < 55296 := by omega
      have h3 : ¬ 57343 < n := by omega
      clear h hd
      go_enter Tryz.func225, Tryz.ntmps225
      go_wp2
      go_ret
      exact ⟨rfl, rfl⟩

/-- A list written out, in new memory. -/
theorem own_made (w : World) (zs : List Int) (hl : zs.length ≤ 140737488355328) : Own w.heap.size (w.alloc (.cells (zs.map (Value.int .u8)).toArray 5)) (.slice (some ⟨w.heap.size, 0, none⟩) zs.length zs.length) zs := by
  refine ⟨by simp, .inr ⟨w.heap.size, zs.length, (zs.map (Value.int .u8)).toArray, rfl, Nat.le_refl _, ?_, Nat.le_refl _, by unfold maxLen; omega, by simp, ?_⟩⟩
  · simp [World.alloc, -World.alloc_eq]
  · rw [List.take_of_length_le (by simp)]
theorem gives_made (w : World) (zs : List Int) (n : Nat) (hn : zs.length = n) (hl : n ≤ 1000) (cs : Array Value) (hc : cs = (zs.map (Value.int .u8)).toArray) : Gives w zs (.returned (.slice (some ⟨w.heap.size, 0, none⟩) n n)) (w.alloc (.cells cs 5)) := by
  subst hn; subst hc
  exact ⟨_, rfl, own_made w zs (by omega), (Below.refl _ _).alloc (Nat.le_refl _) _⟩

theorem one_any (n : Int) (w : World) (h : Rune n) : Calls Tryz.prog 226 #[.int .i64 n] w (Gives w (oneL n)) := by
  obtain ⟨h0, h1, _⟩ := h
  have e1 : Int.tdiv n 64 = n / 64 := Int.tdiv_eq_ediv_of_nonneg h0
  have e2 : Int.tdiv n 4096 = n / 4096 := Int.tdiv_eq_ediv_of_nonneg h0
  have e3 : Int.tdiv n 262144 = n / 262144 := Int.tdiv_eq_ediv_of_nonneg h0
  have e4 : Int.tmod n 64 = n % 64 := Int.tmod_eq_emod_of_nonneg h0
  have e5 : Int.tmod (n / 64) 64 = n / 64 % 64 := Int.tmod_eq_emod_of_nonneg (by omega)
  have e6 : Int.tmod (n / 4096) 64 = n / 4096 % 64 := Int.tmod_eq_emod_of_nonneg (by omega)
  by_cases a : n < 128
  · have e : oneL n = [n] := by simp [oneL, a]
    rw [e]
    clear e
    go_enter Tryz.func226, Tryz.ntmps226
    go_wp2
    go_ret
    exact gives_made w [n] 1 rfl (by omega) _ rfl
  by_cases b : n < 2048
  · have e : oneL n = [192 + n / 64, 128 + n % 64] := by simp [oneL, a, b]
    rw [e]
    clear e
    go_enter Tryz.func226, Tryz.ntmps226
    go_wp2
    go_ret
    exact gives_made w [192 + n / 64, 128 + n % 64] 2 rfl (by omega) _ rfl
  by_cases d : n < 65536
  · have e : oneL n = [224 + n / 4096, 128 + n / 64 % 64, 128 + n % 64] := by simp [oneL, a, b, d]
    rw [e]
    clear e
    go_enter Tryz.func226, Tryz.ntmps226
    go_wp2
    go_ret
    exact gives_made w [224 + n / 4096, 128 + n / 64 % 64, 128 + n % 64] 3 rfl (by omega) _ rfl
  · have e : oneL n = [240 + n / 262144, 128 + n / 4096 % 64, 128 + n / 64 % 64, 128 + n % 64] := by simp [oneL, a, b, d]
    rw [e]
    clear e
    go_enter Tryz.func226, Tryz.ntmps226
    go_wp2
    go_ret
    exact gives_made w [240 + n / 262144, 128 + n / 4096 % 64, 128 + n / 64 % 64, 128 + n % 64] 4 rfl (by omega) _ rfl

/-- The part of a byte that goes on. -/
def tailR : List Int → Int × Bool
  | [] => (0, false)
  | c :: _ => if 128 ≤ c ∧ c < 192 then (c - 128, true) else (0, false)

set_option maxHeartbeats 800000 in
theorem tail_any (a : Option Addr) (len cap : Nat) (zs : List Int) (p : Int) (w : World) (hlen : zs.length = len) (hz : Bytes w a zs) (hp : 0 ≤ p) :
    Calls Tryz.prog 224 #[.slice a len cap, .int .i64 p] w fun e w' => e = .returned (.tuple #[.int .i64 (tailR (zs.drop p.toNat)).1, .bool (tailR (zs.drop p.toNat)).2]) ∧ Below w.heap.size w w' := by
  by_cases hl : (len : Int) ≤ p
  · have : zs.drop p.toNat = [] := List.drop_eq_nil_of_le (by omega)
    rw [this]
    clear hlen this hz
    go_enter Tryz.func224, Tryz.ntmps224
    go_wp2
    exact bodyPost_ret (v := .tuple #[.int .i64 0, .bool false]) (by simp [results, Tryz.results224, go_sem]) rfl ⟨rfl, Below.refl _ _⟩
  obtain ⟨i, rfl⟩ := Int.eq_ofNat_of_zero_le hp
  have hi : i < zs.length := by omega
  obtain ⟨b, off, rfl, hcell⟩ := hz.at (by omega)
  have hc := hcell i hi
  obtain ⟨c0, c1⟩ := hz.get hi
  rw [Int.toNat_natCast, drop_at hi]
  generalize zs.getD i 0 = c at *
  have hil : i < len := by omega
  clear hcell hlen hi hz hp
  by_cases h1 : 128 ≤ c
  · by_cases h2 : c < 192
    · have e : tailR (c :: zs.drop (i + 1)) = (c - 128, true) := if_pos ⟨h1, h2⟩
      rw [e]
      clear e
      go_enter Tryz.func224, Tryz.ntmps224
      go_wp2
      exact bodyPost_ret (v := .tuple #[.int .i64 (c - 128), .bool true]) (by simp [results, Tryz.results224, go_sem]) rfl ⟨rfl, Below.refl _ _⟩
    · have e : tailR (c :: zs.drop (i + 1)) = (0, false) := if_neg (by omega)
      rw [e]
      clear e
      go_enter Tryz.func224, Tryz.ntmps224
      go_wp2
      exact bodyPost_ret (v := .tuple #[.int .i64 0, .bool false]) (by simp [results, Tryz.results224, go_sem]) rfl ⟨rfl, Below.refl _ _⟩
  · have e : tailR (c :: zs.drop (i + 1)) = (0, false) := if_neg (by omega)
    rw [e]
    clear e
    go_enter Tryz.func224, Tryz.ntmps224
    go_wp2
    exact bodyPost_ret (v := .tuple #[.int .i64 0, .bool false]) (by simp [results, Tryz.results224, go_sem]) rfl ⟨rfl, Below.refl _ _⟩

/-- The part of a first byte, how many go on, and whether it is one. -/
def firstR (c : Int) : Int × Int × Bool := match firstL c with
  | some (n, k) => (n, k, true)
  | none => (0, 0, false)
theorem first_any (c : Int) (w : World) (c0 : 0 ≤ c) (c1 : c < 256) :
    Calls Tryz.prog 223 #[.int .u8 c] w fun e w' => e = .returned (.tuple #[.int .i64 (firstR c).1, .int .i64 (firstR c).2.1, .bool (firstR c).2.2]) ∧ w' = w := by
  by_cases h1 : c < 128
  · have e : firstR c = (c, 0, true) := by unfold firstR firstL; rw [if_pos h1]; rfl
    rw [e]; clear e
    go_enter Tryz.func223, Tryz.ntmps223
    go_wp2
    exact bodyPost_ret (v := .tuple #[.int .i64 (c), .int .i64 0, .bool true]) (by simp [results, Tryz.results223, go_sem]) rfl ⟨rfl, rfl⟩
  by_cases h2 : c < 192
  · have e : firstR c = (0, 0, false) := by unfold firstR firstL; rw [if_neg h1, if_neg (by omega), if_neg (by omega), if_neg (by omega)]
    rw [e]; clear e
    go_enter Tryz.func223, Tryz.ntmps223
    go_wp2
    exact bodyPost_ret (v := .tuple #[.int .i64 (0), .int .i64 0, .bool false]) (by simp [results, Tryz.results223, go_sem]) rfl ⟨rfl, rfl⟩
  by_cases h3 : c < 224
  · have e : firstR c = (c - 192, 1, true) := by unfold firstR firstL; rw [if_neg h1, if_pos (by omega)]; rfl
    rw [e]; clear e
    go_enter Tryz.func223, Tryz.ntmps223
    go_wp2
    exact bodyPost_ret (v := .tuple #[.int .i64 (c - 192), .int .i64 1, .bool true]) (by simp [results, Tryz.results223, go_sem]) rfl ⟨rfl, rfl⟩
  by_cases h4 : c < 240
  · have e : firstR c = (c - 224, 2, true) := by unfold firstR firstL; rw [if_neg h1, if_neg (by omega), if_pos (by omega)]; rfl
    rw [e]; clear e
    go_enter Tryz.func223, Tryz.ntmps223
    go_wp2
    exact bodyPost_ret (v := .tuple #[.int .i64 (c - 224), .int .i64 2, .bool true]) (by simp [results, Tryz.results223, go_sem]) rfl ⟨rfl, rfl⟩
  by_cases h5 : c < 248
  · have e : firstR c = (c - 240, 3, true) := by unfold firstR firstL; rw [if_neg h1, if_neg (by omega), if_neg (by omega), if_pos (by omega)]; rfl
    rw [e]; clear e
    go_enter Tryz.func223, Tryz.ntmps223
    go_wp2
    exact bodyPost_ret (v := .tuple #[.int .i64 (c - 240), .int .i64 3, .bool true]) (by simp [results, Tryz.results223, go_sem]) rfl ⟨rfl, rfl⟩
  · have e : firstR c = (0, 0, false) := by unfold firstR firstL; rw [if_neg h1, if_neg (by omega), if_neg (by omega), if_neg (by omega)]
    rw [e]; clear e
    go_enter Tryz.func223, Tryz.ntmps223
    go_wp2
    exact bodyPost_ret (v := .tuple #[.int .i64 (0), .int .i64 0, .bool false]) (by simp [results, Tryz.results223, go_sem]) rfl ⟨rfl, rfl⟩
end Go.Proofs.YtepbjkkakfpjgaaGreatDoor.Utf

namespace Go.Proofs.YtepbjkkakfpjgaaGreatDoor.Utf
open Go.RowKit

/-- What 'at' hands back. -/
def atR : List Int → Int × Int × Bool
  | [] => (0, 0, false)
  | c :: t => match firstL c with
    | none => (0, 0, false)
    | some (n0, more) => match tailsL more n0 t with
      | none => (0, 0, false)
      | some n => (n, (more + 1 : Nat), decide (Rune n ∧ (oneL n).length = more + 1))
theorem atR_some {l : List Int} {n : Int} {k : Nat} (h : atL l = some (n, k)) : atR l = (n, (k : Int), true) := by
  cases l with
  | nil => cases h
  | cons c t =>
    simp only [atL] at h
    simp only [atR]
    cases hf : firstL c with
    | none => rw [hf] at h; cases h
    | some q =>
      obtain ⟨n0, more⟩ := q
      rw [hf] at h
      simp only at h ⊢
      cases ht : tailsL more n0 t with
      | none => rw [ht] at h; cases h
      | some m =>
        rw [ht] at h
        simp only at h ⊢
        split at h
        · rename_i hr
          cases h
          rw [decide_eq_true hr]
        · cases h
theorem atR_none {l : List Int} (h : atL l = none) : (atR l).2.2 = false := by
  cases l with
  | nil => rfl
  | cons c t =>
    simp only [atL] at h
    simp only [atR]
    cases hf : firstL c with
    | none => rfl
    | some q =>
      obtain ⟨n0, more⟩ := q
      rw [hf] at h
      simp only at h ⊢
      cases ht : tailsL more n0 t with
      | none => rfl
      | some m =>
        rw [ht] at h
        simp only at h ⊢
        split at h
        · cases h
        · rename_i hr
          exact decide_eq_false hr
theorem firstL_some {c n : Int} {k : Nat} (h0 : 0 ≤ c) (h : firstL c = some (n, k)) : 0 ≤ n ∧ n < 128 ∧ k ≤ 3 ∧ firstR c = (n, (k : Int), true) := by
  have hr : firstR c = (n, (k : Int), true) := by unfold firstR; rw [h]
  refine ⟨?_, ?_, ?_, hr⟩
  all_goals
    unfold firstL at h
    repeat' split at h
    all_goals first | (cases h; omega) | (cases h)
theorem firstL_none {c : Int} (h : firstL c = none) : firstR c = (0, 0, false) := by unfold firstR; rw [h]
/-- One more byte that goes on. -/
theorem tailsL_step {m : Nat} {n : Int} {l : List Int} (h : (tailR l).2 = true) : tailsL (m + 1) n l = tailsL m (64 * n + (tailR l).1) (l.drop 1) ∧ 0 ≤ (tailR l).1 ∧ (tailR l).1 < 64 := by
  cases l with
  | nil => cases h
  | cons c t =>
    unfold tailR at h ⊢
    by_cases hc : 128 ≤ c ∧ c < 192
    · simp only [if_pos hc, tailsL, List.drop_one, List.tail_cons]
      exact ⟨trivial, by omega, by omega⟩
    · simp [if_neg hc] at h
theorem tailsL_stop {m : Nat} {n : Int} {l : List Int} (h : (tailR l).2 = false) : tailsL (m + 1) n l = none := by
  cases l with
  | nil => rfl
  | cons c t =>
    unfold tailR at h
    by_cases hc : 128 ≤ c ∧ c < 192
    · simp [if_pos hc] at h
    · simp only [tailsL, if_neg hc]

set_option maxHeartbeats 1600000 in
theorem at_any (a : Option Addr) (len cap : Nat) (zs : List Int) (i : Nat) (w : World) (hlen : zs.length = len) (hz : Bytes w a zs) (hi : i < len) :
    Calls Tryz.prog 207 #[.slice a len cap, .int .i64 i] w fun e w' => e = .returned (.tuple #[.int .i64 (atR (zs.drop i)).1, .int .i64 (atR (zs.drop i)).2.1, .bool (atR (zs.drop i)).2.2]) ∧ Below w.heap.size w w' := by
  have hil : i < zs.length := by omega
  have hz0 := hz
  obtain ⟨b, off, rfl, hcell⟩ := hz.at (by omega)
  have hc := hcell i hil
  obtain ⟨c0, c1⟩ := hz.get hil
  have hmax := hz.size
  rw [hlen] at hmax
  have HD := hid (drop_at hil)
  generalize zs.getD i 0 = c at *
  have HL := hid hlen
  clear hcell hlen hil hz
  cases hf : firstL c with
  | none =>
    have HR : Hid (atR (zs.drop i) = (0, 0, false)) := by
      show _ = _
      rw [HD.out]; simp only [atR, hf]
    have hfr := hid (firstL_none hf)
    clear hf
    go_enter Tryz.func207, Tryz.ntmps207
    go_wp2_with fail
    refine (first_any c _ c0 c1).mono ?_
    rw [hfr.out]
    rintro e w1 ⟨rfl, rfl⟩
    go_wp2
    exact bodyPost_ret (v := .tuple #[.int .i64 0, .int .i64 0, .bool false]) (by simp [results, Tryz.results207, go_sem]) rfl ⟨by rw [HR.out], Below.refl _ _⟩
  | some q =>
    obtain ⟨n0, more⟩ := q
    obtain ⟨hn0, hn1, hm3, hfr⟩ := firstL_some c0 hf
    have HF := hid hfr
    have HA : Hid (atR (zs.drop i) = match tailsL more n0 (zs.drop (i + 1)) with
      | none => (0, 0, false)
      | some n => (n, (more + 1 : Nat), decide (Rune n ∧ (oneL n).length = more + 1))) := by
      show _ = _
      rw [HD.out]; simp only [atR, hf]
    clear hf hfr
    go_enter Tryz.func207, Tryz.ntmps207
    go_wp2_with fail
    refine (first_any c _ c0 c1).mono ?_
    rw [HF.out]
    rintro e w1 ⟨rfl, rfl⟩
    clear HF
    go_wp2
    go_loopw [7, 10] (fun vn vi wr => ∃ (j : Nat) (acc : Int), vi = .int .i64 (j + 1 : Nat) ∧ vn = .int .i64 acc ∧ j ≤ more ∧ 0 ≤ acc ∧ acc < 128 * 64 ^ j ∧ tailsL more n0 (zs.drop (i + 1)) = tailsL (more - j) acc (zs.drop (i + 1 + j)) ∧ Below w1.heap.size w1 wr)
      (fun _ vi _ => more + 1 - (intOf vi).toNat)
    case atStart => exact ⟨0, n0, rfl, rfl, Nat.zero_le _, hn0, by simpa using hn1, rfl, Below.refl _ _⟩
    case round =>
      obtain ⟨j, acc, rfl, rfl, hj, ha0, ha1, hT, hb⟩ := hrel
      have HT := hid hT
      clear hT
      have ha2 : acc < 33554432 := by
        have h4 : j = 0 ∨ j = 1 ∨ j = 2 ∨ j = 3 := by omega
        rcases h4 with rfl | rfl | rfl | rfl <;> simp at ha1 <;> omega
      have HP := hid ha1
      clear ha1
      by_cases hjm : j < more
      · go_wp2_with fail
        refine (tail_any _ len cap zs _ _ HL.out (hz0.below hb) (by omega)).mono ?_
        have hX : ((i : Int) + ((j : Int) + 1)).toNat = i + 1 + j := by omega
        rw [hX]
        rintro e w2 ⟨rfl, hb2⟩
        have hb' := thenB hb hb2
        obtain ⟨k, hk⟩ : ∃ k, more - j = k + 1 := ⟨more - j - 1, by omega⟩
        cases ht : (tailR (zs.drop (i + 1 + j))).2 with
        | false =>
          have HN : Hid (tailsL more n0 (zs.drop (i + 1)) = none) := by
            show _ = _
            rw [HT.out, hk]; exact tailsL_stop ht
          clear HT hb2 hX hk
          generalize (tailR (zs.drop (i + 1 + j))).1 = t1 at *
          generalize (tailR (zs.drop (i + 1 + j))).2 = t2 at *
          subst ht
          go_wp2
          exact bodyPost_ret (v := .tuple #[.int .i64 0, .int .i64 0, .bool false]) (by simp [results, Tryz.results207, go_sem]) rfl ⟨by rw [HA.out, HN.out], hb'⟩
        | true =>
          obtain ⟨hs1, hs2, hs3⟩ := tailsL_step (m := k) (n := acc) ht
          have HN : Hid (tailsL more n0 (zs.drop (i + 1)) = tailsL (more - (j + 1)) (64 * acc + (tailR (zs.drop (i + 1 + j))).1) (zs.drop (i + 1 + (j + 1)))) := by
            show _ = _
            rw [HT.out, hk, hs1, List.drop_drop]
            exact congr (congr (congrArg tailsL (by omega)) rfl) rfl
          clear HT hb2 hX hk hs1
          generalize (tailR (zs.drop (i + 1 + j))).1 = t1 at *
          generalize (tailR (zs.drop (i + 1 + j))).2 = t2 at *
          subst ht
          have hpw : 64 * acc + t1 < 128 * 64 ^ (j + 1) := by
            have := HP.out
            rw [Int.pow_succ]
            omega
          have HPW := hid hpw
          clear hpw
          go_wp2
          go_roundw
          case rel => exact ⟨j + 1, 64 * acc + t1, by go_num, rfl, by omega, by omega, HPW.out, HN.out, hb'⟩
          case measure => simp [intOf]; omega
      · obtain rfl : j = more := by omega
        have HN : Hid (tailsL j n0 (zs.drop (i + 1)) = some acc) := by
          show _ = _
          rw [HT.out, Nat.sub_self]; rfl
        clear HT
        go_wp2_with fail
        refine (Rune_any acc _).mono ?_
        by_cases hr : Rune acc
        · rw [decide_eq_true hr]
          rintro e w2 ⟨rfl, rfl⟩
          have HR := hid hr
          go_wp2_with fail
          refine (one_any acc _ HR.out).mono ?_
          rintro e w3 ⟨v, rfl, ho, hb3⟩
          obtain ⟨a4, c4, rfl⟩ := ho.slice
          have hb' := thenB hb hb3
          have hol := oneL_length acc
          clear ho hb3 hr
          by_cases hm : (oneL acc).length = j + 1
          · have HO : Hid (atR (zs.drop i) = (acc, (j : Int) + 1, true)) := by
              show _ = _
              rw [HA.out, HN.out]
              simp only [Prod.mk.injEq, true_and, decide_eq_true_eq]
              exact ⟨by omega, HR.out, hm⟩
            generalize (oneL acc).length = m at *
            subst hm
            go_wp2
            exact bodyPost_ret (v := .tuple #[.int .i64 acc, .int .i64 ((j : Int) + 1), .bool true]) (by simp [results, Tryz.results207, go_sem]) rfl ⟨by rw [HO.out], hb'⟩
          · have HO : Hid (atR (zs.drop i) = (acc, (j : Int) + 1, false)) := by
              show _ = _
              rw [HA.out, HN.out]
              simp only [Prod.mk.injEq, true_and, decide_eq_false_iff_not]
              exact ⟨by omega, fun h => hm h.2⟩
            have hm' : ¬ ((oneL acc).length : Int) = (j : Int) + 1 := by omega
            generalize (oneL acc).length = m at *
            go_wp2
            exact bodyPost_ret (v := .tuple #[.int .i64 acc, .int .i64 ((j : Int) + 1), .bool false]) (by simp [results, Tryz.results207, go_sem, hm']) rfl ⟨by rw [HO.out], hb'⟩
        · rw [decide_eq_false hr]
          rintro e w2 ⟨rfl, rfl⟩
          have HO : Hid (atR (zs.drop i) = (acc, (j : Int) + 1, false)) := by
            show _ = _
            rw [HA.out, HN.out]
            simp only [Prod.mk.injEq, true_and, decide_eq_false_iff_not]
            exact ⟨by omega, fun h => hr h.1⟩
          clear hr
          go_wp2
          exact bodyPost_ret (v := .tuple #[.int .i64 acc, .int .i64 ((j : Int) + 1), .bool false]) (by simp [results, Tryz.results207, go_sem]) rfl ⟨by rw [HO.out], hb⟩
end Go.Proofs.YtepbjkkakfpjgaaGreatDoor.Utf

namespace Go.Proofs.YtepbjkkakfpjgaaGreatDoor.Utf
open Go.RowKit

set_option maxHeartbeats 3200000 in
theorem refRunes_any (a : Option Addr) (len cap : Nat) (zs : List Int) (w : World) (hlen : zs.length = len) (hz : Bytes w a zs) (hbig : zs.length ≤ 8796093022208) :
    Calls Tryz.prog 185 #[.slice a len cap] w (GotRunes w zs) := by
  have HL := hid hlen
  have hz1 := hz.alloc (.cells #[.int .i64 0, .int .i64 0] 198)
  have c0 : (w.alloc (.cells #[.int .i64 0, .int .i64 0] 198)).cell? ⟨w.heap.size, 0, none⟩ = some (.int .i64 0) := by go_simp
  have c1 : (w.alloc (.cells #[.int .i64 0, .int .i64 0] 198)).cell? ⟨w.heap.size, 1, none⟩ = some (.int .i64 0) := by go_simp
  have f0 : (w.alloc (.cells #[.int .i64 0, .int .i64 0] 198)).frozen? ⟨w.heap.size, 0, none⟩ = false := by go_simp
  have f1 : (w.alloc (.cells #[.int .i64 0, .int .i64 0] 198)).frozen? ⟨w.heap.size, 1, none⟩ = false := by go_simp
  have hA : Below w.heap.size w (w.alloc (.cells #[.int .i64 0, .int .i64 0] 198)) := (Below.refl _ _).alloc (Nat.le_refl _) _
  have hlt : w.heap.size < (w.alloc (.cells #[.int .i64 0, .int .i64 0] 198)).heap.size := by simp
  rw [hlen] at hbig
  clear hlen hz
  go_enter Tryz.func185, Tryz.ntmps185
  go_wp2
  generalize w.alloc (.cells #[.int .i64 0, .int .i64 0] 198) = wa at *
  go_loopw [4, 5] (fun v vi wr => ∃ (pos : Nat) (acc : List Int), vi = .int .i64 pos ∧ OwnK 3 .i64 wa.heap.size wr v acc ∧ Below wa.heap.size wa wr ∧ wa.heap.size ≤ wr.heap.size ∧ pos ≤ len ∧ acc.length ≤ pos ∧
      scan zs = (acc ++ (scan (zs.drop pos)).1, pos + (scan (zs.drop pos)).2)) (fun _ vi _ => len - (intOf vi).toNat)
  case atStart => exact ⟨0, [], rfl, own_nothing _ _ _ _, Below.refl _ _, Nat.le_refl _, Nat.zero_le _, by simp, by simp⟩
  case round =>
    obtain ⟨pos, acc, rfl, hown, hbw, hsw, hpos, hacc, hsc⟩ := hrel
    have HS := hid hsc
    clear hsc
    obtain ⟨av, cv, rfl⟩ := hown.sliceN rfl
    have hAw := hA.trans (hbw.mono (by omega))
    by_cases hp : pos < len
    · cases ha : atL (zs.drop pos) with
      | none =>
        have HF : Hid (faultL zs = (4, (pos : Int))) := by
          have h := congrArg Prod.snd HS.out
          rw [scan_none ha] at h
          simp only [Nat.add_zero] at h
          show _ = _
          unfold faultL
          rw [h, if_neg (by have := HL.out; omega)]
        have HR : Hid (runesL zs = []) := by
          have h := congrArg Prod.snd HS.out
          rw [scan_none ha] at h
          simp only [Nat.add_zero] at h
          show _ = _
          unfold runesL
          rw [h, if_neg (by have := HL.out; omega)]
        have hr := hid (atR_none ha)
        clear ha HS
        go_wp2_with fail
        refine (at_any a len cap zs pos _ HL.out (hz1.below hbw) hp).mono ?_
        generalize atR (zs.drop pos) = r at *
        obtain ⟨r1, r2, r3⟩ := r
        obtain rfl : r3 = false := hr.out
        rintro e w2 ⟨rfl, hb2⟩
        have c0 := keep hb2 ((hbw.cell (p := ⟨w.heap.size, 0, none⟩) hlt).trans c0)
        have c1 := keep hb2 ((hbw.cell (p := ⟨w.heap.size, 1, none⟩) hlt).trans c1)
        have f0 := (hb2.frozen (p := ⟨w.heap.size, 0, none⟩) (by show w.heap.size < _; omega)).trans ((hbw.frozen (p := ⟨w.heap.size, 0, none⟩) hlt).trans f0)
        have f1 := (hb2.frozen (p := ⟨w.heap.size, 1, none⟩) (by show w.heap.size < _; omega)).trans ((hbw.frozen (p := ⟨w.heap.size, 1, none⟩) hlt).trans f1)
        have hA2 := thenB hAw hb2
        clear hA hAw hbw hb2 hown hz1
        go_wp2
        refine bodyPost_ret (v := .tuple #[.slice none 0 0, .agg #[.int .i64 4, .int .i64 pos]]) (by simp [results, Tryz.results185, go_sem, c0, c1]) rfl ⟨_, by rw [HF.out], ?_, ?_⟩
        · rw [HR.out]; exact own_nothing _ _ _ _
        · exact (hA2.setCell (Nat.le_refl _) _).setCell (Nat.le_refl _) _
      | some q =>
        obtain ⟨n, k⟩ := q
        obtain ⟨hn, _, _, hk1, hk4, hkl⟩ := atL_some ha
        have HF : Hid (scan zs = ((acc ++ [n]) ++ (scan (zs.drop (pos + k))).1, (pos + k) + (scan (zs.drop (pos + k))).2)) := by
          have h := HS.out
          rw [scan_some ha, List.drop_drop] at h
          show _ = _
          rw [h]
          simp [Nat.add_assoc]
        have hlk : pos + k ≤ len := by simp at hkl; have := HL.out; omega
        have HLL : Hid ((acc ++ [n]).length ≤ pos + k) := by show _ ≤ _; simp; omega
        have hr := hid (atR_some ha)
        obtain ⟨h0, h1, _⟩ := hn
        clear ha HS hkl
        go_wp2_with fail
        refine (at_any a len cap zs pos _ HL.out (hz1.below hbw) hp).mono ?_
        rw [hr.out]
        rintro e w2 ⟨rfl, hb2⟩
        have hown2 := hown.below hb2
        have hbw2 := hbw.trans (hb2.mono hsw)
        have hsw2 : wa.heap.size ≤ w2.heap.size := by have := hb2.size; omega
        clear hr hAw hbw hb2 hown
        go_wp2_with (first | (at_builtin; refine append_num infoInt Tryz.underlying131 rfl (.tmp 24) (.tmp 26) rfl n rfl hown2 hbw2 hsw2 rfl (by omega) (by omega) ?_; intro v' w5 hown5 hb5 hs5 _))
        go_roundw
        case rel => exact ⟨pos + k, acc ++ [n], by go_num, hown5, hb5, hs5, hlk, HLL.out, HF.out⟩
        case measure => simp [intOf]; omega
    · have HF : Hid (faultL zs = (0, 0)) := by
        have h := congrArg Prod.snd HS.out
        rw [List.drop_eq_nil_of_le (by have := HL.out; omega), scan_nil] at h
        simp only [Nat.add_zero] at h
        show _ = _
        unfold faultL
        rw [h, if_pos (by have := HL.out; omega)]
      have HR : Hid (runesL zs = acc) := by
        have h := HS.out
        rw [List.drop_eq_nil_of_le (by have := HL.out; omega), scan_nil] at h
        simp only [Nat.add_zero, List.append_nil] at h
        show _ = _
        unfold runesL
        rw [h, if_pos (by have := HL.out; omega)]
      have c0 := (hbw.cell (p := ⟨w.heap.size, 0, none⟩) hlt).trans c0
      have c1 := (hbw.cell (p := ⟨w.heap.size, 1, none⟩) hlt).trans c1
      have f0 := (hbw.frozen (p := ⟨w.heap.size, 0, none⟩) hlt).trans f0
      have f1 := (hbw.frozen (p := ⟨w.heap.size, 1, none⟩) hlt).trans f1
      clear hA hbw hz1 HS
      go_wp2
      refine bodyPost_ret (v := .tuple #[.slice av acc.length cv, .agg #[.int .i64 0, .int .i64 0]]) (by simp [results, Tryz.results185, go_sem, c0, c1]) rfl ⟨_, by rw [HF.out], ?_, ?_⟩
      · rw [HR.out]
        exact ((hown.setCell (p := ⟨w.heap.size, 0, none⟩) hlt _).setCell (p := ⟨w.heap.size, 1, none⟩) hlt _).mono (by omega)
      · exact (hAw.setCell (Nat.le_refl _) _).setCell (Nat.le_refl _) _
end Go.Proofs.YtepbjkkakfpjgaaGreatDoor.Utf

namespace Go.Proofs.YtepbjkkakfpjgaaGreatDoor.Utf
open Go.RowKit

theorem badL_fault (zs : List Int) : badL zs = if (faultL zs).1 ≠ 0 then (faultL zs).2 else -1 := by
  unfold badL faultL
  by_cases h : (scan zs).2 = zs.length
  · simp [h]
  · simp [h]

set_option maxHeartbeats 800000 in
theorem refBad_any (a : Option Addr) (len cap : Nat) (zs : List Int) (w : World) (hlen : zs.length = len) (hz : Bytes w a zs) (hbig : zs.length ≤ 8796093022208) :
    Calls Tryz.prog 134 #[.slice a len cap] w fun e w' => e = .returned (.int .i64 (badL zs)) ∧ Below w.heap.size w w' := by
  have HB := hid (badL_fault zs)
  have HL := hid hlen
  clear hlen
  go_enter Tryz.func134, Tryz.ntmps134
  go_wp2_with fail
  refine (refRunes_any a len cap zs _ HL.out hz hbig).mono ?_
  rintro e w1 ⟨v, rfl, _, hb⟩
  generalize faultL zs = r at *
  obtain ⟨r1, r2⟩ := r
  clear hz hbig
  by_cases h : r1 = 0
  · subst h
    go_wp2
    go_ret
    exact ⟨ret_int (by rw [HB.out]; simp), thenA hb _⟩
  · go_wp2
    go_ret
    exact ⟨ret_int (by rw [HB.out]; simp [h]), thenA hb _⟩

end Go.Proofs.YtepbjkkakfpjgaaGreatDoor.Utf

namespace Go.Proofs.YtepbjkkakfpjgaaGreatDoor.Mod
open Go.RowKit Go.Shelf Go.Proofs.YtepbjkkakfpjgaaGreatDoor.Instr

/-- What is asked of a name: by function g, in whatever world. -/
def Asks (w : World) (g : Nat) (p : ByteArray → Bool) : Prop :=
  (∀ args w, (callFunc g args).run Tryz.prog w = .ok (.enter g args) w) ∧
    ∀ (W : World) (s : ByteArray), s.size ≤ 140737488351232 → Below w.heap.size w W → Calls Tryz.prog g #[.string s] W fun e w' => e = .returned (.bool (p s)) ∧ Below W.heap.size W w'
theorem Asks.on {w w' : World} {g : Nat} {p : ByteArray → Bool} (h : Asks w g p) (hb : Below w.heap.size w w') : Asks w' g p := ⟨h.1, fun W s hs hW => h.2 W s hs (hb.trans (hW.mono hb.size))⟩

set_option maxHeartbeats 400000 in
theorem anyName1_any (x : Imp) (b g : Nat) (p : ByteArray → Bool) (w : World) (hc : w.cell? ⟨b, 0, none⟩ = some (.func (.func g) #[] #[])) (hp : Asks w g p) (h1 : x.mo.size ≤ 140737488351232) (h2 : x.na.size ≤ 140737488351232) :
    Calls Tryz.prog 120 #[.agg #[.string x.mo, .string x.na, .int .i64 x.ty], .pointer (some ⟨b, 0, none⟩)] w fun e w' => e = .returned (.bool (p x.mo || p x.na)) ∧ Below w.heap.size w w' := by
  have eg := hp.1
  have C1 := hid (hp.2 (w.alloc (.cells #[.string x.mo, .string x.na, .int .i64 x.ty] 73)) x.mo h1 ((Below.refl _ _).alloc (Nat.le_refl _) _))
  have C2 := hid (fun W (hb : Below w.heap.size w W) => hp.2 W x.na h2 hb)
  have HC := hid (show ∀ w1, Below w.heap.size w w1 → w1.cell? ⟨b, 0, none⟩ = some (.func (.func g) #[] #[]) from fun w1 hb => Go.Proofs.YtepbjkkakfpjgaaGreatDoor.keep hb hc)
  have hbl := World.block_lt_of_cell? w _ hc
  obtain ⟨q, hq⟩ : ∃ q, p x.mo = q := ⟨_, rfl⟩
  rw [hq] at C1 ⊢
  clear hq hp h1 h2
  cases q with
  | true =>
    go_enter Tryz.func120, Tryz.ntmps120
    go_wp2_with (go_at_fn g; refine C1.out.mono ?_; rintro e w1 ⟨rfl, hb1⟩)
    go_ret
    exact ⟨rfl, thenB ((Below.refl _ _).alloc (Nat.le_refl _) _) hb1⟩
  | false =>
    rw [Bool.false_or]
    obtain ⟨r, hr⟩ : ∃ r, p x.na = r := ⟨_, rfl⟩
    rw [hr] at C2 ⊢
    clear hr
    go_enter Tryz.func120, Tryz.ntmps120
    go_wp2_with fail
    refine (Calls.mono (R' := fun e w1 => (e = .returned (.bool false) ∧ Below w.heap.size w w1) ∧ w1.cell? ⟨b, 0, none⟩ = some (.func (.func g) #[] #[]) ∧ w1.cell? ⟨w.heap.size, 1, none⟩ = some (.string x.na)) C1.out ?_).mono ?_
    · rintro e w1 ⟨rfl, hb1⟩
      have hB := thenB ((Below.refl _ _).alloc (Nat.le_refl _) _) hb1
      exact ⟨⟨rfl, hB⟩, HC.out _ hB, Go.Proofs.YtepbjkkakfpjgaaGreatDoor.keep hb1 (by go_simp)⟩
    rintro e w1 ⟨⟨rfl, hb1⟩, hc1, hc2⟩
    have C3 := hid (C2.out w1 hb1)
    clear hc C2
    go_wp2_with (go_at_fn g; refine C3.out.mono ?_; rintro e w2 ⟨rfl, hb2⟩)
    go_ret
    exact ⟨rfl, thenB hb1 hb2⟩
set_option maxHeartbeats 400000 in
theorem anyName2_any (x : Ex) (b g : Nat) (p : ByteArray → Bool) (w : World) (hc : w.cell? ⟨b, 0, none⟩ = some (.func (.func g) #[] #[])) (hp : Asks w g p) (h1 : x.na.size ≤ 140737488351232) :
    Calls Tryz.prog 121 #[.agg #[.string x.na, .int .i64 x.k, .int .u32 x.i], .pointer (some ⟨b, 0, none⟩)] w fun e w' => e = .returned (.bool (p x.na)) ∧ Below w.heap.size w w' := by
  have eg := hp.1
  have C1 := hid (hp.2 (w.alloc (.cells #[.string x.na, .int .i64 x.k, .int .u32 x.i] 75)) x.na h1 ((Below.refl _ _).alloc (Nat.le_refl _) _))
  have hbl := World.block_lt_of_cell? w _ hc
  clear hp h1
  go_enter Tryz.func121, Tryz.ntmps121
  go_wp2_with (go_at_fn g; refine C1.out.mono ?_; rintro e w1 ⟨rfl, hb1⟩)
  go_ret
  exact ⟨rfl, thenB ((Below.refl _ _).alloc (Nat.le_refl _) _) hb1⟩

theorem enters1 : ∀ args w, (callFunc 120 args).run Tryz.prog w = .ok (.enter 120 args) w := enters_of Tryz.func120 (by kernel_rfl) rfl
theorem enters2 : ∀ args w, (callFunc 121 args).run Tryz.prog w = .ok (.enter 121 args) w := enters_of Tryz.func121 (by kernel_rfl) rfl
set_option maxHeartbeats 1000000 in
theorem anyName_any (m : Md) (g : Nat) (p : ByteArray → Bool) (w : World) (hm : ModAt w.heap.size w m) (hf : m.fits) (hp : Asks w g p) :
    Calls Tryz.prog 54 #[.agg m.v, .func (.func g) #[] #[]] w fun e w' => e = .returned (.bool (m.anyName p)) ∧ Below w.heap.size w w' := by
  have B1 := hid (((Below.refl w.heap.size w).alloc (Nat.le_refl _) (.cells m.v 32)).alloc (by simp) (.cells #[.func (.func g) #[] #[]] 94))
  have hbx : BoxAt ((w.alloc (.cells m.v 32)).alloc (.cells #[.func (.func g) #[] #[]] 94)) w.heap.size m.v := (BoxAt.made w m.v _).keep ((Below.refl _ _).alloc (Nat.le_refl _) _)
  have hcb : ((w.alloc (.cells m.v 32)).alloc (.cells #[.func (.func g) #[] #[]] 94)).cell? ⟨w.heap.size + 1, 0, none⟩ = some (.func (.func g) #[] #[]) := by go_simp
  have C1 := hid (any_im m.im m.im'.a m.im.length m.im'.c ((w.alloc (.cells m.v 32)).alloc (.cells #[.func (.func g) #[] #[]] 94)) rfl (hm.on B1.out).im hf.im
    120 #[.pointer (some ⟨w.heap.size + 1, 0, none⟩)] enters1 (fun x => p x.mo || p x.na) (fun W x hx hW => anyName1_any x _ g p W (Go.Proofs.YtepbjkkakfpjgaaGreatDoor.keep hW hcb) ((hp.on B1.out).on hW) (hf.iS x hx).1 (hf.iS x hx).2))
  have C2 := hid (fun (W : World) (hW : Below ((w.alloc (.cells m.v 32)).alloc (.cells #[.func (.func g) #[] #[]] 94)).heap.size ((w.alloc (.cells m.v 32)).alloc (.cells #[.func (.func g) #[] #[]] 94)) W) =>
    any_ex m.ex m.ex'.a m.ex.length m.ex'.c W rfl ((hm.on B1.out).on hW).ex hf.ex
      121 #[.pointer (some ⟨w.heap.size + 1, 0, none⟩)] enters2 (fun x => p x.na) (fun W' x hx hW' => anyName2_any x _ g p W' (Go.Proofs.YtepbjkkakfpjgaaGreatDoor.keep hW' (Go.Proofs.YtepbjkkakfpjgaaGreatDoor.keep hW hcb)) (((hp.on B1.out).on hW).on hW') (hf.eS x hx)))
  have HX := hid (fun (W : World) (hW : Below ((w.alloc (.cells m.v 32)).alloc (.cells #[.func (.func g) #[] #[]] 94)).heap.size ((w.alloc (.cells m.v 32)).alloc (.cells #[.func (.func g) #[] #[]] 94)) W) => (hbx.keep hW) 6 _ rfl)
  have HE : Hid (m.anyName p = ((m.im.any fun i => p i.mo || p i.na) || (m.ex.any fun e => p e.na))) := rfl
  obtain ⟨q, hq⟩ : ∃ q, (m.im.any fun x => p x.mo || p x.na) = q := ⟨_, rfl⟩
  rw [hq] at C1 HE
  unfold Md.v at C1 C2 B1 HX ⊢
  clear hq hcb hbx hm hf hp
  cases q with
  | true =>
    have HE' : Hid (m.anyName p = true) := by show _ = _; rw [HE.out, Bool.true_or]
    clear HE
    go_enter Tryz.func54, Tryz.ntmps54
    go_wp2_with fail
    refine C1.out.mono ?_
    rintro e w1 ⟨rfl, hb1⟩
    clear C1 C2 HX
    go_wp2
    go_ret
    exact ⟨ret_bool HE'.out.symm, B1.out.trans (hb1.mono B1.out.size)⟩
  | false =>
    obtain ⟨r, hr⟩ : ∃ r, (m.ex.any fun x => p x.na) = r := ⟨_, rfl⟩
    have HE' : Hid (m.anyName p = r) := by show _ = _; rw [HE.out, Bool.false_or]; exact hr
    rw [hr] at C2
    clear HE hr
    go_enter Tryz.func54, Tryz.ntmps54
    go_wp2_with fail
    refine C1.out.mono ?_
    rintro e w1 ⟨rfl, hb1⟩
    have hx := HX.out w1 hb1
    have C3 := hid (C2.out w1 hb1)
    clear C1 C2 HX
    go_wp2_with fail
    refine C3.out.mono ?_
    rintro e w2 ⟨rfl, hb2⟩
    clear C3 hx
    go_wp2
    go_ret
    exact ⟨ret_bool HE'.out.symm, B1.out.trans ((thenB hb1 hb2).mono B1.out.size)⟩
end Go.Proofs.YtepbjkkakfpjgaaGreatDoor.Mod

namespace Go.Proofs.YtepbjkkakfpjgaaGreatDoor.Mod
open Go.RowKit Go.Proofs.YtepbjkkakfpjgaaGreatDoor.Instr

theorem wrongN_any (n : Int) (w : World) : Calls Tryz.prog 126 #[.int .i64 n] w fun e w' => e = .returned (.bool (wrongN n)) ∧ w = w' := by
  have H : Hid (wrongN n = (decide (n < 0) || decide (2147483647 < n))) := rfl
  by_cases h : n < 0
  · have HE : Hid (wrongN n = true) := by show _ = _; rw [H.out]; simp [h]
    go_enter Tryz.func126, Tryz.ntmps126
    go_wp2
    go_ret
    exact ⟨ret_bool HE.out.symm, rfl⟩
  · have h' : decide (n < 0) = false := by simpa using h
    have HE : Hid (wrongN n = decide (2147483647 < n)) := by show _ = _; rw [H.out, h', Bool.false_or]
    clear H
    go_enter Tryz.func126, Tryz.ntmps126
    go_wp2
    go_ret
    exact ⟨ret_bool HE.out.symm, rfl⟩
theorem wrongI_any (x : Imp) (w : World) : Calls Tryz.prog 66 #[.agg #[.string x.mo, .string x.na, .int .i64 x.ty]] w fun e w' => e = .returned (.bool (wrongI x)) ∧ Below w.heap.size w w' := by
  unfold wrongI
  obtain ⟨q, hq⟩ : ∃ q, wrongN x.ty = q := ⟨_, rfl⟩
  have C := hid (fun w => wrongN_any x.ty w)
  rw [hq] at C ⊢
  clear hq
  go_enter Tryz.func66, Tryz.ntmps66
  go_wp2_with fail
  refine (C.out _).mono ?_
  rintro e w1 ⟨rfl, rfl⟩
  go_wp2
  go_ret
  exact ⟨rfl, (Below.refl _ _).alloc (Nat.le_refl _) _⟩
set_option maxHeartbeats 800000 in
theorem wrongF_any (x : Fn) (w : World) : Calls Tryz.prog 69 #[.agg #[.int .i64 x.ty, .int .i64 x.lo, .slice x.l.a x.l.t.len x.l.c]] w fun e w' => e = .returned (.bool (wrongF x)) ∧ Below w.heap.size w w' := by
  have H : Hid (wrongF x = (wrongN x.ty || (decide (x.lo < 0) || decide (50000 < x.lo)))) := rfl
  obtain ⟨q, hq⟩ : ∃ q, wrongN x.ty = q := ⟨_, rfl⟩
  have C := hid (fun w => wrongN_any x.ty w)
  rw [hq] at C H
  clear hq
  obtain ⟨lo, hlo⟩ : ∃ lo, x.lo = lo := ⟨_, rfl⟩
  rw [hlo] at H ⊢
  clear hlo
  cases q with
  | true =>
    have HE : Hid (wrongF x = true) := by show _ = _; rw [H.out]; rfl
    go_enter Tryz.func69, Tryz.ntmps69
    go_wp2_with fail
    refine (C.out _).mono ?_
    rintro e w1 ⟨rfl, rfl⟩
    go_wp2
    go_ret
    exact ⟨ret_bool HE.out.symm, (Below.refl _ _).alloc (Nat.le_refl _) _⟩
  | false =>
    by_cases h : lo < 0
    · have HE : Hid (wrongF x = true) := by show _ = _; rw [H.out]; simp [h]
      go_enter Tryz.func69, Tryz.ntmps69
      go_wp2_with fail
      refine (C.out _).mono ?_
      rintro e w1 ⟨rfl, rfl⟩
      go_wp2
      go_ret
      exact ⟨ret_bool HE.out.symm, (Below.refl _ _).alloc (Nat.le_refl _) _⟩
    · have h' : decide (lo < 0) = false := by simpa using h
      have HE : Hid (wrongF x = decide (50000 < lo)) := by show _ = _; rw [H.out, h', Bool.false_or, Bool.false_or]
      go_enter Tryz.func69, Tryz.ntmps69
      go_wp2_with fail
      refine (C.out _).mono ?_
      rintro e w1 ⟨rfl, rfl⟩
      go_wp2
      go_ret
      exact ⟨ret_bool HE.out.symm, (Below.refl _ _).alloc (Nat.le_refl _) _⟩
theorem wrongE_any (x : Ex) (w : World) : Calls Tryz.prog 72 #[.agg #[.string x.na, .int .i64 x.k, .int .u32 x.i]] w fun e w' => e = .returned (.bool (wrongE x)) ∧ Below w.heap.size w w' := by
  have H : Hid (wrongE x = (decide (x.k < 0) || decide (3 < x.k))) := rfl
  obtain ⟨lo, hlo⟩ : ∃ lo, x.k = lo := ⟨_, rfl⟩
  rw [hlo] at H ⊢
  clear hlo
  by_cases h : lo < 0
  · have HE : Hid (wrongE x = true) := by show _ = _; rw [H.out]; simp [h]
    go_enter Tryz.func72, Tryz.ntmps72
    go_wp2
    go_ret
    exact ⟨ret_bool HE.out.symm, (Below.refl _ _).alloc (Nat.le_refl _) _⟩
  · have h' : decide (lo < 0) = false := by simpa using h
    have HE : Hid (wrongE x = decide (3 < lo)) := by show _ = _; rw [H.out, h', Bool.false_or]
    go_enter Tryz.func72, Tryz.ntmps72
    go_wp2
    go_ret
    exact ⟨ret_bool HE.out.symm, (Below.refl _ _).alloc (Nat.le_refl _) _⟩
theorem isLong_any (s : ByteArray) (w : World) : Calls Tryz.prog 55 #[.string s] w fun e w' => e = .returned (.bool (longS s)) ∧ Below w.heap.size w w' := by
  have HE : Hid (longS s = decide (1000 < s.size)) := rfl
  go_enter Tryz.func55, Tryz.ntmps55
  go_wp2
  go_ret
  exact ⟨ret_bool (by rw [HE.out]; simp; omega), Below.refl _ _⟩
theorem wrongT_any (x : Int × Int) (w : World) : Calls Tryz.prog 63 #[.agg #[.int .i64 x.1, .int .i64 x.2]] w fun e w' => e = .returned (.bool (wrongT x)) ∧ Below w.heap.size w w' := by
  have C := hid (fun w => Kind.check_any x.1 x.2 w)
  unfold Kind.codeType at C
  unfold wrongT
  obtain ⟨q, hq⟩ : ∃ q, Kind.okType x.1 x.2 = q := ⟨_, rfl⟩
  rw [hq] at C ⊢
  clear hq
  cases q
  all_goals
    simp only [Bool.false_eq_true, if_true, if_false] at C
    go_enter Tryz.func63, Tryz.ntmps63
    go_wp2_with fail
    refine (C.out _).mono ?_
    rintro e w1 ⟨rfl, hb1⟩
    go_wp2
    go_ret
    exact ⟨rfl, thenB ((Below.refl _ _).alloc (Nat.le_refl _) _) hb1⟩
theorem beyond_any (x : Li) (g : Nat) (most : Int) (w : World) (hc : w.cell? ⟨g, 0, none⟩ = some (.int .u32 most)) :
    Calls Tryz.prog 129 #[.agg #[.int .u32 x.n, .int .u32 x.x, .bool x.c], .pointer (some ⟨g, 0, none⟩)] w fun e w' => e = .returned (.bool (beyond most x)) ∧ Below w.heap.size w w' := by
  have C := hid (fun w => Kind.checkLimits_any x.n x.x x.c most w)
  unfold Kind.codeLim at C
  unfold beyond
  obtain ⟨q, hq⟩ : ∃ q, Kind.okLim x.n x.x x.c most = q := ⟨_, rfl⟩
  rw [hq] at C ⊢
  clear hq
  have hg := World.block_lt_of_cell? w _ hc
  cases q
  all_goals
    simp only [Bool.false_eq_true, if_true, if_false] at C
    go_enter Tryz.func129, Tryz.ntmps129
    go_wp2_with fail
    refine (C.out _).mono ?_
    rintro e w1 ⟨rfl, hb1⟩
    go_wp2
    go_ret
    exact ⟨rfl, thenB ((Below.refl _ _).alloc (Nat.le_refl _) _) hb1⟩
end Go.Proofs.YtepbjkkakfpjgaaGreatDoor.Mod
