import Derived.Test.YtepbjkkakfpjgaaGreatDoorMc17
import Derived.Test.YtepbjkkakfpjgaaGreatDoorMc05
import Derived.Test.YtepbjkkakfpjgaaGreatDoorMc14
import Derived.Test.YtepbjkkakfpjgaaGreatDoorMc01
import Derived.Test.YtepbjkkakfpjgaaGreatDoorMc07
import Derived.Test.YtepbjkkakfpjgaaGreatDoorMc04
namespace Go.Proofs.YtepbjkkakfpjgaaGreatDoor.Mod
open Go.RowKit Go.Shelf Go.Proofs.YtepbjkkakfpjgaaGreatDoor.Instr

theorem entersB : ∀ args w, (callFunc 129 args).run Tryz.prog w = .ok (.enter 129 args) w := enters_of Tryz.func129 (by kernel_rfl) rfl
set_option maxHeartbeats 1000000 in
theorem anyBeyond_any (l : List Li) (a : Option Addr) (n c : Nat) (most : Int) (w : World) (hn : l.length = n) (hr : Rows w.heap.size w a 3 (l.map Li.v)) (hl : n ≤ 140737488351232) :
    Calls Tryz.prog 74 #[.slice a n c, .int .u32 most] w fun e w' => e = .returned (.bool (l.any (beyond most))) ∧ Below w.heap.size w w' := by
  have hB := (Below.refl w.heap.size w).alloc (Nat.le_refl _) (.cells #[.int .u32 most] 28)
  have hc : (w.alloc (.cells #[.int .u32 most] 28)).cell? ⟨w.heap.size, 0, none⟩ = some (.int .u32 most) := by go_simp
  have C := hid (any_li l a n c (w.alloc (.cells #[.int .u32 most] 28)) hn ((hr.below hB).more hB.size) hl 129 #[.pointer (some ⟨w.heap.size, 0, none⟩)] entersB (beyond most)
    (fun W x _ hW => beyond_any x _ most W (Go.Proofs.YtepbjkkakfpjgaaGreatDoor.keep hW hc)))
  have HB := hid hB
  clear hB hc hn hr
  go_enter Tryz.func74, Tryz.ntmps74
  go_wp2_with fail
  refine C.out.mono ?_
  rintro e w1 ⟨rfl, hb1⟩
  clear C
  go_wp2
  go_ret
  exact ⟨rfl, HB.out.trans (hb1.mono HB.out.size)⟩

theorem Bad_any (zs : List Int) (a : Option Addr) (n c : Nat) (w : World) (hT : Utf.Tabs w) (hn : zs.length = n) (hz : Bytes w a zs) :
    Calls Tryz.prog 122 #[.slice a n c] w fun e w' => e = .returned (.int .i64 (Utf.badL zs)) ∧ Below w.heap.size w w' := by
  have e1 := str_of hz n c hn
  have C := hid (Utf.bad_any zs hz.byte w hT)
  clear hn hz
  go_enter Tryz.func122, Tryz.ntmps122
  go_wp2_with fail
  refine C.out.mono ?_
  rintro e w1 ⟨rfl, hb1⟩
  clear C
  go_wp2
  go_ret
  exact ⟨rfl, hb1⟩
set_option maxHeartbeats 400000 in
theorem isNoText_any (s : ByteArray) (w : World) (hT : Utf.Tabs w) (hs : s.size ≤ 140737488351232) : Calls Tryz.prog 60 #[.string s] w fun e w' => e = .returned (.bool (noText s)) ∧ Below w.heap.size w w' := by
  unfold noText
  obtain ⟨b, c, w1, e1, hz, hb1⟩ := bytes_of (numsOf s) (numsOf_bytes s) (by rw [numsOf_length]; exact hs) w
  rw [str_numsOf] at e1
  have C := hid (Bad_any (numsOf s) _ _ c w1 (hT.below hb1) rfl hz)
  obtain ⟨q, hq⟩ : ∃ q, Utf.badL (numsOf s) = q := ⟨_, rfl⟩
  rw [hq] at C ⊢
  obtain ⟨n, hn⟩ : ∃ n, (numsOf s).length = n := ⟨_, rfl⟩
  rw [hn] at C e1
  have HB := hid hb1
  clear hq hn hz hb1 hT
  go_enter Tryz.func60, Tryz.ntmps60
  go_wp2_with fail
  refine C.out.mono ?_
  rintro e w2 ⟨rfl, hb2⟩
  clear C e1
  go_wp2
  go_ret
  exact ⟨rfl, thenB HB.out hb2⟩
theorem asks_long (w : World) : Asks w 55 longS := ⟨enters_of Tryz.func55 (by kernel_rfl) rfl, fun W s _ _ => isLong_any s W⟩
theorem asks_text (w : World) (hT : Utf.Tabs w) : Asks w 60 noText := ⟨enters_of Tryz.func60 (by kernel_rfl) rfl, fun W s hs hW => isNoText_any s W (hT.below hW) hs⟩
end Go.Proofs.YtepbjkkakfpjgaaGreatDoor.Mod

namespace Go.Proofs.YtepbjkkakfpjgaaGreatDoor.Mod
open Go.RowKit Go.Proofs.YtepbjkkakfpjgaaGreatDoor.Instr

/-- All else is as it may be. -/
def Md.rest (m : Md) : Bool := !(m.names.any noText) && (!(m.tb.any (beyond 1048576)) && (!(m.me.any (beyond 65536)) && (!(m.ex.any wrongE) && ((m.st || decide (m.sn = 0)) && !m.has 2))))
theorem rest_na {m : Md} {k : Nat} (hk : k < m.names.length) (h : noText m.names[k] = true) : m.rest = false := by unfold Md.rest; rw [any_some hk h]; rfl
theorem rest_tb {m : Md} {k : Nat} (hk : k < m.tb.length) (h : beyond 1048576 m.tb[k] = true) : m.rest = false := by unfold Md.rest; rw [any_some hk h]; simp
theorem rest_me {m : Md} {k : Nat} (hk : k < m.me.length) (h : beyond 65536 m.me[k] = true) : m.rest = false := by unfold Md.rest; rw [any_some hk h]; simp
theorem rest_ex {m : Md} {k : Nat} (hk : k < m.ex.length) (h : wrongE m.ex[k] = true) : m.rest = false := by unfold Md.rest; rw [any_some hk h]; simp
theorem rest_end {m : Md} (h1 : m.names.any noText = false) (h2 : m.tb.any (beyond 1048576) = false) (h3 : m.me.any (beyond 65536) = false) (h4 : m.ex.any wrongE = false) : m.rest = ((m.st || decide (m.sn = 0)) && !m.has 2) := by unfold Md.rest; rw [h1, h2, h3, h4]; rfl
set_option maxHeartbeats 4000000 in
set_option maxRecDepth 100000 in
theorem refRest_any (m : Md) (w : World) (hm : ModAt w.heap.size w m) (hf : m.few) (hna : ∀ s ∈ m.names, s.size ≤ 1000000) :
    Calls Tryz.prog 80 #[.agg m.v] w fun x w' => x = .returned (.bool m.rest) ∧ Below w.heap.size w w' := by
  have hb0 := (Below.refl w.heap.size w).alloc (Nat.le_refl _) (.cells m.v 32)
  have HB := hid hb0
  have HM := hid (hm.on hb0)
  have HX := hid (BoxAt.made w m.v 32)
  have C := hid (refNames_any m _ (hm.on hb0) hf)
  have D := hid (fun (W : World) (h : ModAt W.heap.size W m) => refInstrs_any m 2 W h hf)
  have HLF := hid (names_few hf)
  have HLS := hid hna
  have HEND := hid (fun h1 h2 h3 h4 => rest_end (m := m) h1 h2 h3 h4)
  have TNA := hid (fun k hk h => rest_na (m := m) (k := k) hk h)
  have TTB := hid (fun k hk h => rest_tb (m := m) (k := k) hk h)
  have TME := hid (fun k hk h => rest_me (m := m) (k := k) hk h)
  have TEX := hid (fun k hk h => rest_ex (m := m) (k := k) hk h)
  have btb := hf.fit.tb
  have bme := hf.fit.me
  have bex := hf.fit.ex
  have X0 := (BoxAt.made w m.v 32)
  unfold Md.v at HB HX HM X0 C D ⊢
  clear hm hf hb0 hna
  have x0 := X0 0 _ rfl
  have x1 := X0 1 _ rfl
  have x2 := X0 2 _ rfl
  have x3 := X0 3 _ rfl
  have x4 := X0 4 _ rfl
  have x5 := X0 5 _ rfl
  have x6 := X0 6 _ rfl
  have x7 := X0 7 _ rfl
  have x8 := X0 8 _ rfl
  have x9 := X0 9 _ rfl
  have x10 := X0 10 _ rfl
  clear X0
  go_enter Tryz.func80, Tryz.ntmps80
  go_wp2_with fail
  refine C.out.mono ?_
  rintro e w1 ⟨a, c, rfl, hr, hb1⟩
  have HX1 := hid (HX.out.keep hb1)
  have HB1 := hid (HB.out.trans (hb1.mono HB.out.size))
  have HM1 := hid (HM.out.on hb1)
  have RN := hid hr
  clear C hr hb1 HX HB HM x0 x1 x2 x3 x4 x5 x6 x7 x8 x9 x10
  obtain ⟨ln, hln⟩ : ∃ n, m.names.length = n := ⟨_, rfl⟩
  have Lln := hid hln
  have bln : ln ≤ 3000000 := by have := HLF.out; omega
  rw [hln]
  clear HLF hln
  obtain ⟨lb, hlb⟩ : ∃ n, m.tb.length = n := ⟨_, rfl⟩
  have Llb := hid hlb
  rw [hlb] at btb D HX1
  have Rtb := hid HM1.out.tb
  have Xtb := hid (HX1.out 3 _ rfl)
  clear hlb
  obtain ⟨lm, hlm⟩ : ∃ n, m.me.length = n := ⟨_, rfl⟩
  have Llm := hid hlm
  rw [hlm] at bme D HX1
  have Rme := hid HM1.out.me
  have Xme := hid (HX1.out 4 _ rfl)
  clear hlm
  obtain ⟨lx, hlx⟩ : ∃ n, m.ex.length = n := ⟨_, rfl⟩
  have Llx := hid hlx
  rw [hlx] at bex D HX1
  have Rex := hid HM1.out.ex
  have Xex := hid (HX1.out 6 _ rfl)
  clear hlx
  go_wp2
  go_loopw [4] (fun vi wr => ∃ k : Nat, vi = .int .i64 k ∧ k ≤ ln ∧ Hid (∀ j (hj : j < m.names.length), j < k → noText m.names[j] = false) ∧ Hid (Below w1.heap.size w1 wr)) (fun vi _ => ln - (intOf vi).toNat)
  case atStart => exact ⟨0, rfl, Nat.zero_le _, none_upto _ _, Below.refl _ _⟩
  case round =>
    obtain ⟨k, rfl, hk, HQ, HW⟩ := hrel
    by_cases hlt : k < ln
    · have hkl : k < m.names.length := by rw [Lln.out]; exact hlt
      obtain ⟨b, off, rfl, hb, hc⟩ := str_at RN.out hkl
      have hsz := HLS.out m.names[k] (List.getElem_mem hkl)
      obtain ⟨x, hxe⟩ : ∃ x, m.names[k] = x := ⟨_, rfl⟩
      have HXE := hid hxe
      rw [hxe] at hc hsz
      have hki : (k : Int) < (ln : Int) := by omega
      have HT := hid (fun (h : noText x = true) => TNA.out k hkl (show noText m.names[k] = true by rw [HXE.out]; exact h))
      have HO := hid (fun (h : noText x = false) => any_take (p := noText) hkl HQ.out (show noText m.names[k] = false by rw [HXE.out]; exact h))
      have c0 := Go.Proofs.YtepbjkkakfpjgaaGreatDoor.keep HW.out hc
      obtain ⟨b2, c2, w2, e2, hz, hb2⟩ := bytes_of (numsOf x) (numsOf_bytes x) (by rw [numsOf_length]; omega) wr
      rw [str_numsOf] at e2
      have C := hid (Utf.refBad_any _ _ c2 (numsOf x) w2 rfl hz (by rw [numsOf_length]; omega))
      have HWT : Hid (noText x = decide (0 ≤ Utf.badL (numsOf x))) := rfl
      obtain ⟨q, hq⟩ : ∃ q, Utf.badL (numsOf x) = q := ⟨_, rfl⟩
      rw [hq] at C HWT
      obtain ⟨l2, hl2⟩ : ∃ n, (numsOf x).length = n := ⟨_, rfl⟩
      rw [hl2] at C e2
      have HW2 := hid (HW.out.trans (hb2.mono HW.out.size))
      clear hc hq hl2 hkl hxe HXE hz hb2 hb hsz HQ
      by_cases g : 0 ≤ q
      · have HE := hid (HT.out (by rw [HWT.out]; simp [g]))
        clear HT HO HWT
        go_wp2_with fail
        refine C.out.mono ?_
        rintro e1 w3 ⟨rfl, hb3⟩
        have HW1 := hid (HW2.out.trans (hb3.mono HW2.out.size))
        clear C e2 hb3
        go_wp2
        go_ret
        exact ⟨ret_bool HE.out.symm, HB1.out.trans (HW1.out.mono HB1.out.size)⟩
      · have HE := hid (HO.out (by rw [HWT.out]; simp [g]))
        clear HT HO HWT
        go_wp2_with fail
        refine C.out.mono ?_
        rintro e1 w3 ⟨rfl, hb3⟩
        have HW1 := hid (HW2.out.trans (hb3.mono HW2.out.size))
        clear C e2 hb3
        go_wp2
        go_roundw
        case rel => exact ⟨k + 1, by go_num, by omega, HE, HW1⟩
        case measure => simp [intOf]; omega
    · obtain rfl : k = ln := by omega
      have HBL := HW
      have HAna := hid (any_none (p := noText) (l := m.names) (fun j hj => HQ.out j hj (by rw [← Lln.out]; exact hj)))
      clear HQ HW hlt hk
      go_wp2
      go_loopw [5] (fun vi wr => ∃ k : Nat, vi = .int .i64 k ∧ k ≤ lb ∧ Hid (∀ j (hj : j < m.tb.length), j < k → beyond 1048576 m.tb[j] = false) ∧ Hid (Below w1.heap.size w1 wr)) (fun vi _ => lb - (intOf vi).toNat)
      case atStart => exact ⟨0, rfl, Nat.zero_le _, none_upto _ _, HBL⟩
      case round =>
        clear HBL
        obtain ⟨k, rfl, hk, HQ, HW⟩ := hrel
        have hbx := Go.Proofs.YtepbjkkakfpjgaaGreatDoor.keep HW.out Xtb.out
        by_cases hlt : k < lb
        · have hkl : k < m.tb.length := by rw [Llb.out]; exact hlt
          obtain ⟨b, off, ha, hb, hc⟩ := Rows.get Rtb.out hkl
          rw [ha] at hbx
          obtain ⟨x, hxe⟩ : ∃ x, m.tb[k] = x := ⟨_, rfl⟩
          have HXE := hid hxe
          rw [hxe] at hc
          have hki : (k : Int) < (lb : Int) := by omega
          have HT := hid (fun (h : beyond 1048576 x = true) => TTB.out k hkl (show beyond 1048576 m.tb[k] = true by rw [HXE.out]; exact h))
          have HO := hid (fun (h : beyond 1048576 x = false) => any_take (p := beyond 1048576) hkl HQ.out (show beyond 1048576 m.tb[k] = false by rw [HXE.out]; exact h))
          have cc : ∀ j, j < 3 → ∀ v, (x.v)[j]? = some v → wr.cell? ⟨b, off + k * 3 + j, none⟩ = some v := fun j hj v hv => (HW.out.cell (p := ⟨b, off + k * 3 + j, none⟩) hb).trans (hc j hj v hv)
          have c0 : wr.cell? ⟨b, off + k * 3, none⟩ = some (.int .u32 x.n) := cc 0 (by omega) _ rfl
          have c1 : wr.cell? ⟨b, off + k * 3 + 1, none⟩ = some (.int .u32 x.x) := cc 1 (by omega) _ rfl
          have c2 : wr.cell? ⟨b, off + k * 3 + 2, none⟩ = some (.bool x.c) := cc 2 (by omega) _ rfl
          have C := hid (Kind.refCheckLimits_any x.n x.x x.c 1048576 wr)
          have HWT : Hid (beyond 1048576 x = !Kind.okLim x.n x.x x.c 1048576) := rfl
          have HCT : Hid (Kind.codeLim x.n x.x x.c 1048576 = if Kind.okLim x.n x.x x.c 1048576 = true then 0 else 2) := rfl
          obtain ⟨q, hq⟩ : ∃ q, Kind.okLim x.n x.x x.c 1048576 = q := ⟨_, rfl⟩
          rw [hq] at HWT HCT
          clear hc cc hb ha hq hkl hxe HXE
          cases q with
          | true =>
            have HE := hid (HO.out (by rw [HWT.out]; rfl))
            have hct : Kind.codeLim x.n x.x x.c 1048576 = 0 := by rw [HCT.out]; rfl
            rw [hct] at C
            clear HT HO HWT HCT hct HQ
            go_wp2_with fail
            refine C.out.mono ?_
            rintro e1 w3 ⟨rfl, hb1⟩
            have HW1 := hid (HW.out.trans (hb1.mono HW.out.size))
            clear C hb1
            go_wp2
            go_roundw
            case rel => exact ⟨k + 1, by go_num, by omega, HE, HW1⟩
            case measure => simp [intOf]; omega
          | false =>
            have HE := hid (HT.out (by rw [HWT.out]; rfl))
            have hct : Kind.codeLim x.n x.x x.c 1048576 = 2 := by rw [HCT.out]; rfl
            rw [hct] at C
            clear HT HO HWT HCT hct HQ
            go_wp2_with fail
            refine C.out.mono ?_
            rintro e1 w3 ⟨rfl, hb1⟩
            have HW1 := hid (HW.out.trans (hb1.mono HW.out.size))
            clear C hb1
            go_wp2
            go_ret
            exact ⟨ret_bool HE.out.symm, HB1.out.trans (HW1.out.mono HB1.out.size)⟩
        · obtain rfl : k = lb := by omega
          have HBL := HW
          have HAtb := hid (any_none (p := beyond 1048576) (l := m.tb) (fun j hj => HQ.out j hj (by rw [← Llb.out]; exact hj)))
          clear HQ HW hlt hk
          go_wp2
          clear hbx
          go_loopw [6] (fun vi wr => ∃ k : Nat, vi = .int .i64 k ∧ k ≤ lm ∧ Hid (∀ j (hj : j < m.me.length), j < k → beyond 65536 m.me[j] = false) ∧ Hid (Below w1.heap.size w1 wr)) (fun vi _ => lm - (intOf vi).toNat)
          case atStart => exact ⟨0, rfl, Nat.zero_le _, none_upto _ _, HBL⟩
          case round =>
            clear HBL
            obtain ⟨k, rfl, hk, HQ, HW⟩ := hrel
            have hbx := Go.Proofs.YtepbjkkakfpjgaaGreatDoor.keep HW.out Xme.out
            by_cases hlt : k < lm
            · have hkl : k < m.me.length := by rw [Llm.out]; exact hlt
              obtain ⟨b, off, ha, hb, hc⟩ := Rows.get Rme.out hkl
              rw [ha] at hbx
              obtain ⟨x, hxe⟩ : ∃ x, m.me[k] = x := ⟨_, rfl⟩
              have HXE := hid hxe
              rw [hxe] at hc
              have hki : (k : Int) < (lm : Int) := by omega
              have HT := hid (fun (h : beyond 65536 x = true) => TME.out k hkl (show beyond 65536 m.me[k] = true by rw [HXE.out]; exact h))
              have HO := hid (fun (h : beyond 65536 x = false) => any_take (p := beyond 65536) hkl HQ.out (show beyond 65536 m.me[k] = false by rw [HXE.out]; exact h))
              have cc : ∀ j, j < 3 → ∀ v, (x.v)[j]? = some v → wr.cell? ⟨b, off + k * 3 + j, none⟩ = some v := fun j hj v hv => (HW.out.cell (p := ⟨b, off + k * 3 + j, none⟩) hb).trans (hc j hj v hv)
              have c0 : wr.cell? ⟨b, off + k * 3, none⟩ = some (.int .u32 x.n) := cc 0 (by omega) _ rfl
              have c1 : wr.cell? ⟨b, off + k * 3 + 1, none⟩ = some (.int .u32 x.x) := cc 1 (by omega) _ rfl
              have c2 : wr.cell? ⟨b, off + k * 3 + 2, none⟩ = some (.bool x.c) := cc 2 (by omega) _ rfl
              have C := hid (Kind.refCheckLimits_any x.n x.x x.c 65536 wr)
              have HWT : Hid (beyond 65536 x = !Kind.okLim x.n x.x x.c 65536) := rfl
              have HCT : Hid (Kind.codeLim x.n x.x x.c 65536 = if Kind.okLim x.n x.x x.c 65536 = true then 0 else 2) := rfl
              obtain ⟨q, hq⟩ : ∃ q, Kind.okLim x.n x.x x.c 65536 = q := ⟨_, rfl⟩
              rw [hq] at HWT HCT
              clear hc cc hb ha hq hkl hxe HXE
              cases q with
              | true =>
                have HE := hid (HO.out (by rw [HWT.out]; rfl))
                have hct : Kind.codeLim x.n x.x x.c 65536 = 0 := by rw [HCT.out]; rfl
                rw [hct] at C
                clear HT HO HWT HCT hct HQ
                go_wp2_with fail
                refine C.out.mono ?_
                rintro e1 w3 ⟨rfl, hb1⟩
                have HW1 := hid (HW.out.trans (hb1.mono HW.out.size))
                clear C hb1
                go_wp2
                go_roundw
                case rel => exact ⟨k + 1, by go_num, by omega, HE, HW1⟩
                case measure => simp [intOf]; omega
              | false =>
                have HE := hid (HT.out (by rw [HWT.out]; rfl))
                have hct : Kind.codeLim x.n x.x x.c 65536 = 2 := by rw [HCT.out]; rfl
                rw [hct] at C
                clear HT HO HWT HCT hct HQ
                go_wp2_with fail
                refine C.out.mono ?_
                rintro e1 w3 ⟨rfl, hb1⟩
                have HW1 := hid (HW.out.trans (hb1.mono HW.out.size))
                clear C hb1
                go_wp2
                go_ret
                exact ⟨ret_bool HE.out.symm, HB1.out.trans (HW1.out.mono HB1.out.size)⟩
            · obtain rfl : k = lm := by omega
              have HBL := HW
              have HAme := hid (any_none (p := beyond 65536) (l := m.me) (fun j hj => HQ.out j hj (by rw [← Llm.out]; exact hj)))
              clear HQ HW hlt hk
              go_wp2
              clear hbx
              go_loopw [7] (fun vi wr => ∃ k : Nat, vi = .int .i64 k ∧ k ≤ lx ∧ Hid (∀ j (hj : j < m.ex.length), j < k → wrongE m.ex[j] = false) ∧ Hid (Below w1.heap.size w1 wr)) (fun vi _ => lx - (intOf vi).toNat)
              case atStart => exact ⟨0, rfl, Nat.zero_le _, none_upto _ _, HBL⟩
              case round =>
                clear HBL
                obtain ⟨k, rfl, hk, HQ, HW⟩ := hrel
                have hbx := Go.Proofs.YtepbjkkakfpjgaaGreatDoor.keep HW.out Xex.out
                by_cases hlt : k < lx
                · have hkl : k < m.ex.length := by rw [Llx.out]; exact hlt
                  obtain ⟨b, off, ha, hb, hc⟩ := Rows.get Rex.out hkl
                  rw [ha] at hbx
                  obtain ⟨x, hxe⟩ : ∃ x, m.ex[k] = x := ⟨_, rfl⟩
                  have HXE := hid hxe
                  rw [hxe] at hc
                  have hki : (k : Int) < (lx : Int) := by omega
                  have HT := hid (fun (h : wrongE x = true) => TEX.out k hkl (show wrongE m.ex[k] = true by rw [HXE.out]; exact h))
                  have HO := hid (fun (h : wrongE x = false) => any_take (p := wrongE) hkl HQ.out (show wrongE m.ex[k] = false by rw [HXE.out]; exact h))
                  have cc : ∀ j, j < 3 → ∀ v, (x.v)[j]? = some v → wr.cell? ⟨b, off + k * 3 + j, none⟩ = some v := fun j hj v hv => (HW.out.cell (p := ⟨b, off + k * 3 + j, none⟩) hb).trans (hc j hj v hv)
                  have c1 : wr.cell? ⟨b, off + k * 3 + 1, none⟩ = some (.int .i64 x.k) := cc 1 (by omega) _ rfl
                  have HWT : Hid (wrongE x = (decide (x.k < 0) || decide (3 < x.k))) := rfl
                  obtain ⟨t, ht⟩ : ∃ t, x.k = t := ⟨_, rfl⟩
                  rw [ht] at HWT c1
                  clear hc cc hb ha ht hkl hxe HXE
                  by_cases g1 : t < 0
                  · have HE := hid (HT.out (by rw [HWT.out]; simp [g1]))
                    clear HT HO HWT HQ
                    go_wp2
                    go_ret
                    exact ⟨ret_bool HE.out.symm, HB1.out.trans (HW.out.mono HB1.out.size)⟩
                  · by_cases g2 : 3 < t
                    · have HE := hid (HT.out (by rw [HWT.out]; simp [g2]))
                      clear HT HO HWT HQ
                      go_wp2
                      go_ret
                      exact ⟨ret_bool HE.out.symm, HB1.out.trans (HW.out.mono HB1.out.size)⟩
                    · have HE := hid (HO.out (by rw [HWT.out]; simp [g1, g2]))
                      clear HT HO HWT HQ
                      go_wp2
                      go_roundw
                      case rel => exact ⟨k + 1, by go_num, by omega, HE, HW⟩
                      case measure => simp [intOf]; omega
                · obtain rfl : k = lx := by omega
                  have HBL := HW
                  have HAex := hid (any_none (p := wrongE) (l := m.ex) (fun j hj => HQ.out j hj (by rw [← Llx.out]; exact hj)))
                  clear HQ HW hlt hk
                  have HE := hid (HEND.out HAna.out HAtb.out HAme.out HAex.out)
                  have HX2 := hid (fun j v h => Go.Proofs.YtepbjkkakfpjgaaGreatDoor.keep HBL.out (HX1.out j v h))
                  have y0 := HX2.out 0 _ rfl
                  have y1 := HX2.out 1 _ rfl
                  have y2 := HX2.out 2 _ rfl
                  have y3 := HX2.out 3 _ rfl
                  have y4 := HX2.out 4 _ rfl
                  have y5 := HX2.out 5 _ rfl
                  have y6 := HX2.out 6 _ rfl
                  have y7 := HX2.out 7 _ rfl
                  have y8 := HX2.out 8 _ rfl
                  have y9 := HX2.out 9 _ rfl
                  have y10 := HX2.out 10 _ rfl
                  have C := hid (D.out wr (HM1.out.on HBL.out))
                  clear HX2 HX1 HM1 D TNA TTB TME TEX HEND hbx
                  obtain ⟨st, hst⟩ : ∃ b, m.st = b := ⟨_, rfl⟩
                  obtain ⟨sn, hsn⟩ : ∃ b, m.sn = b := ⟨_, rfl⟩
                  rw [hst, hsn] at HE C
                  rw [hst] at y7
                  rw [hsn] at y8
                  clear hst hsn
                  cases st with
                  | true =>
                    go_wp2_with fail
                    refine C.out.mono ?_
                    rintro e1 w3 ⟨rfl, hb3⟩
                    have HW1 := hid (HBL.out.trans (hb3.mono HBL.out.size))
                    clear C hb3
                    go_wp2
                    go_ret
                    exact ⟨ret_bool (by rw [HE.out]; simp), HB1.out.trans (HW1.out.mono HB1.out.size)⟩
                  | false =>
                    by_cases g : sn = 0
                    · subst g
                      go_wp2_with fail
                      refine C.out.mono ?_
                      rintro e1 w3 ⟨rfl, hb3⟩
                      have HW1 := hid (HBL.out.trans (hb3.mono HBL.out.size))
                      clear C hb3
                      go_wp2
                      go_ret
                      exact ⟨ret_bool (by rw [HE.out]; simp), HB1.out.trans (HW1.out.mono HB1.out.size)⟩
                    · have HE2 := hid (show m.rest = false by rw [HE.out]; simp [g])
                      clear C HE
                      go_wp2
                      go_ret
                      exact ⟨ret_bool HE2.out.symm, HB1.out.trans (HBL.out.mono HB1.out.size)⟩
end Go.Proofs.YtepbjkkakfpjgaaGreatDoor.Mod

namespace Go.Proofs.YtepbjkkakfpjgaaGreatDoor.Mod
open Go.RowKit Go.Proofs.YtepbjkkakfpjgaaGreatDoor.Instr

theorem belowF {w w' : World} (h : Below w.heap.size w w') (v : Array Value) (t : TypeId) : Below w.heap.size w (w'.alloc (.cells v t)) := thenA h _
set_option maxHeartbeats 4000000 in
set_option maxRecDepth 100000 in
theorem refNumbers_any (m : Md) (w : World) (hm : ModAt w.heap.size w m) (hf : m.fits) :
    Calls Tryz.prog 79 #[.agg m.v] w fun x w' => x = .returned (.bool m.numbers) ∧ Below w.heap.size w w' := by
  have hb0 := (Below.refl w.heap.size w).alloc (Nat.le_refl _) (.cells m.v 32)
  have HB := hid hb0
  have HM := hid (hm.on hb0)
  have HX := hid (BoxAt.made w m.v 32)
  have HF := hid hf
  unfold Md.v at HB HX HM ⊢
  clear hm hf hb0
  go_enter Tryz.func79, Tryz.ntmps79
  go_wp2
  generalize w.alloc (.cells #[.slice m.ty'.a m.ty.length m.ty'.c, .slice m.im'.a m.im.length m.im'.c, .slice m.fu'.a m.fu.length m.fu'.c, .slice m.tb'.a m.tb.length m.tb'.c, .slice m.me'.a m.me.length m.me'.c, .slice m.gl'.a m.gl.length m.gl'.c, .slice m.ex'.a m.ex.length m.ex'.c, .bool m.st, .int .u32 m.sn, .slice m.el'.a m.el.length m.el'.c, .slice m.da'.a m.da.length m.da'.c] 32) = W0 at HB HM HX ⊢
  obtain ⟨lt, hlt⟩ : ∃ n, m.ty.length = n := ⟨_, rfl⟩
  have Llt := hid hlt
  have blt : lt ≤ 140737488351232 := by have := HF.out.ty; omega
  have Xty := hid (show W0.cell? ⟨w.heap.size, 0, none⟩ = some (.slice m.ty'.a lt m.ty'.c) by rw [← hlt]; exact HX.out 0 _ rfl)
  have Rty := hid HM.out.ty
  clear hlt
  obtain ⟨li, hli⟩ : ∃ n, m.im.length = n := ⟨_, rfl⟩
  have Lli := hid hli
  have bli : li ≤ 140737488351232 := by have := HF.out.im; omega
  have Xim := hid (show W0.cell? ⟨w.heap.size, 1, none⟩ = some (.slice m.im'.a li m.im'.c) by rw [← hli]; exact HX.out 1 _ rfl)
  have Rim := hid HM.out.im
  clear hli
  obtain ⟨lf, hlf⟩ : ∃ n, m.fu.length = n := ⟨_, rfl⟩
  have Llf := hid hlf
  have blf : lf ≤ 140737488351232 := by have := HF.out.fu; omega
  have Xfu := hid (show W0.cell? ⟨w.heap.size, 2, none⟩ = some (.slice m.fu'.a lf m.fu'.c) by rw [← hlf]; exact HX.out 2 _ rfl)
  have Rfu := hid HM.out.fu
  clear hlf
  clear HX
  go_loopw [3] (fun vi wr => ∃ k : Nat, vi = .int .i64 k ∧ k ≤ lt ∧ Hid (∀ j (hj : j < m.ty.length), j < k → wrongT m.ty[j] = false) ∧ Hid (Below W0.heap.size W0 wr)) (fun vi _ => lt - (intOf vi).toNat)
  case atStart => exact ⟨0, rfl, Nat.zero_le _, none_upto _ _, Below.refl _ _⟩
  case round =>
    obtain ⟨k, rfl, hk, HQ, HW⟩ := hrel
    have hbx := Go.Proofs.YtepbjkkakfpjgaaGreatDoor.keep HW.out Xty.out
    by_cases hlt : k < lt
    · have hkl : k < m.ty.length := by rw [Llt.out]; exact hlt
      obtain ⟨b, off, ha, hb, hc⟩ := Rows.get Rty.out hkl
      rw [ha] at hbx
      obtain ⟨x, hxe⟩ : ∃ x, m.ty[k] = x := ⟨_, rfl⟩
      have HXE := hid hxe
      rw [hxe] at hc
      have cc : ∀ j, j < 2 → ∀ v, (tyV x)[j]? = some v → wr.cell? ⟨b, off + k * 2 + j, none⟩ = some v := fun j hj v hv => (HW.out.cell (p := ⟨b, off + k * 2 + j, none⟩) hb).trans (hc j hj v hv)
      have hki : (k : Int) < (lt : Int) := by omega
      have HT := hid (fun (h : wrongT x = true) => show m.numbers = false by unfold Md.numbers; rw [any_some hkl (show wrongT m.ty[k] = true by rw [HXE.out]; exact h)]; simp)
      have HO := hid (fun (h : wrongT x = false) => any_take hkl HQ.out (show wrongT m.ty[k] = false by rw [HXE.out]; exact h))
      have c0 : wr.cell? ⟨b, off + k * 2, none⟩ = some (.int .i64 x.1) := cc 0 (by omega) _ rfl
      have c1 : wr.cell? ⟨b, off + k * 2 + 1, none⟩ = some (.int .i64 x.2) := cc 1 (by omega) _ rfl
      have C := hid (Kind.refCheck_any x.1 x.2 wr)
      have HWT : Hid (wrongT x = !Kind.okType x.1 x.2) := rfl
      have HCT : Hid (Kind.codeType x.1 x.2 = if Kind.okType x.1 x.2 = true then 0 else 2) := rfl
      obtain ⟨q, hq⟩ : ∃ q, Kind.okType x.1 x.2 = q := ⟨_, rfl⟩
      rw [hq] at HWT HCT
      clear hc cc hb ha hq hkl hxe HXE
      cases q with
      | true =>
        have HE := hid (HO.out (by rw [HWT.out]; rfl))
        have hct : Kind.codeType x.1 x.2 = 0 := by rw [HCT.out]; rfl
        rw [hct] at C
        clear HT HO HWT HCT hct HQ
        go_wp2_with fail
        refine C.out.mono ?_
        rintro e1 w1 ⟨rfl, hb1⟩
        have HW1 := hid (HW.out.trans (hb1.mono HW.out.size))
        clear C hb1
        go_wp2
        go_roundw
        case rel => exact ⟨k + 1, by go_num, by omega, HE, HW1⟩
        case measure => simp [intOf]; omega
      | false =>
        have HE := hid (HT.out (by rw [HWT.out]; rfl))
        have hct : Kind.codeType x.1 x.2 = 2 := by rw [HCT.out]; rfl
        rw [hct] at C
        clear HT HO HWT HCT hct HQ
        go_wp2_with fail
        refine C.out.mono ?_
        rintro e1 w1 ⟨rfl, hb1⟩
        have HW1 := hid (HW.out.trans (hb1.mono HW.out.size))
        clear C hb1
        go_wp2
        go_ret
        exact ⟨ret_bool HE.out.symm, HB.out.trans (HW1.out.mono HB.out.size)⟩
    · obtain rfl : k = lt := by omega
      have HBL := HW
      have HAty := hid (any_none (p := wrongT) (l := m.ty) (fun j hj => HQ.out j hj (by rw [← Llt.out]; exact hj)))
      clear HQ HW hlt hk
      go_wp2
      clear hbx
      go_loopw [4] (fun vi wr => ∃ k : Nat, vi = .int .i64 k ∧ k ≤ li ∧ Hid (∀ j (hj : j < m.im.length), j < k → wrongI m.im[j] = false) ∧ Hid (Below W0.heap.size W0 wr)) (fun vi _ => li - (intOf vi).toNat)
      case atStart => exact ⟨0, rfl, Nat.zero_le _, none_upto _ _, HBL⟩
      case round =>
        clear HBL
        obtain ⟨k, rfl, hk, HQ, HW⟩ := hrel
        have hbx := Go.Proofs.YtepbjkkakfpjgaaGreatDoor.keep HW.out Xim.out
        by_cases hlt : k < li
        · have hkl : k < m.im.length := by rw [Lli.out]; exact hlt
          obtain ⟨b, off, ha, hb, hc⟩ := Rows.get Rim.out hkl
          rw [ha] at hbx
          obtain ⟨x, hxe⟩ : ∃ x, m.im[k] = x := ⟨_, rfl⟩
          have HXE := hid hxe
          rw [hxe] at hc
          have cc : ∀ j, j < 3 → ∀ v, (x.v)[j]? = some v → wr.cell? ⟨b, off + k * 3 + j, none⟩ = some v := fun j hj v hv => (HW.out.cell (p := ⟨b, off + k * 3 + j, none⟩) hb).trans (hc j hj v hv)
          have hki : (k : Int) < (li : Int) := by omega
          have HT := hid (fun (h : wrongI x = true) => show m.numbers = false by unfold Md.numbers; rw [any_some hkl (show wrongI m.im[k] = true by rw [HXE.out]; exact h)]; simp)
          have HO := hid (fun (h : wrongI x = false) => any_take hkl HQ.out (show wrongI m.im[k] = false by rw [HXE.out]; exact h))
          have c2 : wr.cell? ⟨b, off + k * 3 + 2, none⟩ = some (.int .i64 x.ty) := cc 2 (by omega) _ rfl
          have HWT : Hid (wrongI x = (decide (x.ty < 0) || decide (2147483647 < x.ty))) := rfl
          obtain ⟨t, ht⟩ : ∃ t, x.ty = t := ⟨_, rfl⟩
          rw [ht] at HWT c2
          clear hc cc hb ha ht hkl hxe HXE
          by_cases g1 : t < 0
          · have HE := hid (HT.out (by rw [HWT.out]; simp [g1]))
            clear HT HO HWT HQ
            go_wp2
            go_ret
            exact ⟨ret_bool HE.out.symm, HB.out.trans (HW.out.mono HB.out.size)⟩
          · by_cases g2 : 2147483647 < t
            · have HE := hid (HT.out (by rw [HWT.out]; simp [g2]))
              clear HT HO HWT HQ
              go_wp2
              go_ret
              exact ⟨ret_bool HE.out.symm, HB.out.trans (HW.out.mono HB.out.size)⟩
            · have HE := hid (HO.out (by rw [HWT.out]; simp [g1, g2]))
              clear HT HO HWT HQ
              go_wp2
              go_roundw
              case rel => exact ⟨k + 1, by go_num, by omega, HE, HW⟩
              case measure => simp [intOf]; omega
        · obtain rfl : k = li := by omega
          have HBL := HW
          have HAim := hid (any_none (p := wrongI) (l := m.im) (fun j hj => HQ.out j hj (by rw [← Lli.out]; exact hj)))
          clear HQ HW hlt hk
          go_wp2
          clear hbx
          go_loopw [5] (fun vi wr => ∃ k : Nat, vi = .int .i64 k ∧ k ≤ lf ∧ Hid (∀ j (hj : j < m.fu.length), j < k → wrongF m.fu[j] = false) ∧ Hid (Below W0.heap.size W0 wr)) (fun vi _ => lf - (intOf vi).toNat)
          case atStart => exact ⟨0, rfl, Nat.zero_le _, none_upto _ _, HBL⟩
          case round =>
            clear HBL
            obtain ⟨k, rfl, hk, HQ, HW⟩ := hrel
            have hbx := Go.Proofs.YtepbjkkakfpjgaaGreatDoor.keep HW.out Xfu.out
            by_cases hlt : k < lf
            · have hkl : k < m.fu.length := by rw [Llf.out]; exact hlt
              obtain ⟨b, off, ha, hb, hc⟩ := Rows.get Rfu.out hkl
              rw [ha] at hbx
              obtain ⟨x, hxe⟩ : ∃ x, m.fu[k] = x := ⟨_, rfl⟩
              have HXE := hid hxe
              rw [hxe] at hc
              have cc : ∀ j, j < 3 → ∀ v, (x.v)[j]? = some v → wr.cell? ⟨b, off + k * 3 + j, none⟩ = some v := fun j hj v hv => (HW.out.cell (p := ⟨b, off + k * 3 + j, none⟩) hb).trans (hc j hj v hv)
              have hki : (k : Int) < (lf : Int) := by omega
              have HT := hid (fun (h : wrongF x = true) => show m.numbers = false by unfold Md.numbers; rw [any_some hkl (show wrongF m.fu[k] = true by rw [HXE.out]; exact h)]; simp)
              have HO := hid (fun (h : wrongF x = false) => any_take hkl HQ.out (show wrongF m.fu[k] = false by rw [HXE.out]; exact h))
              have c0 : wr.cell? ⟨b, off + k * 3, none⟩ = some (.int .i64 x.ty) := cc 0 (by omega) _ rfl
              have c1 : wr.cell? ⟨b, off + k * 3 + 1, none⟩ = some (.int .i64 x.lo) := cc 1 (by omega) _ rfl
              have c2 : wr.cell? ⟨b, off + k * 3 + 2, none⟩ = some (.slice x.l.a x.l.t.len x.l.c) := cc 2 (by omega) _ rfl
              have HWT : Hid (wrongF x = ((decide (x.ty < 0) || decide (2147483647 < x.ty)) || (decide (x.lo < 0) || decide (50000 < x.lo)))) := rfl
              obtain ⟨t, ht⟩ : ∃ t, x.ty = t := ⟨_, rfl⟩
              obtain ⟨u, hu⟩ : ∃ u, x.lo = u := ⟨_, rfl⟩
              rw [ht, hu] at HWT
              rw [ht] at c0
              rw [hu] at c1
              clear hc cc hb ha ht hu hkl hxe HXE
              skip
              by_cases g0 : t < 0
              · have HE := hid (HT.out (by rw [HWT.out]; simp [g0]))
                clear HT HO HWT HQ
                go_wp2
                try go_wp2
                go_ret
                exact ⟨ret_bool HE.out.symm, HB.out.trans ((belowF HW.out _ _).mono HB.out.size)⟩
              · skip
                by_cases g1 : 2147483647 < t
                · have HE := hid (HT.out (by rw [HWT.out]; simp [g1]))
                  clear HT HO HWT HQ
                  go_wp2
                  try go_wp2
                  go_ret
                  exact ⟨ret_bool HE.out.symm, HB.out.trans ((belowF HW.out _ _).mono HB.out.size)⟩
                · skip
                  by_cases g2 : u < 0
                  · have HE := hid (HT.out (by rw [HWT.out]; simp [g2]))
                    clear HT HO HWT HQ
                    go_wp2
                    try go_wp2
                    go_ret
                    exact ⟨ret_bool HE.out.symm, HB.out.trans ((belowF HW.out _ _).mono HB.out.size)⟩
                  · skip
                    by_cases g3 : 50000 < u
                    · have HE := hid (HT.out (by rw [HWT.out]; simp [g3]))
                      clear HT HO HWT HQ
                      go_wp2
                      try go_wp2
                      go_ret
                      exact ⟨ret_bool HE.out.symm, HB.out.trans ((belowF HW.out _ _).mono HB.out.size)⟩
                    · have HE := hid (HO.out (by rw [HWT.out]; simp [g0, g1, g2, g3]))
                      clear HT HO HWT HQ
                      go_wp2
                      try go_wp2
                      go_roundw
                      case rel => exact ⟨k + 1, by go_num, by omega, HE, belowF HW.out _ _⟩
                      case measure => simp [intOf]; omega
            · obtain rfl : k = lf := by omega
              have HBL := HW
              have HAfu := hid (any_none (p := wrongF) (l := m.fu) (fun j hj => HQ.out j hj (by rw [← Llf.out]; exact hj)))
              clear HQ HW hlt hk
              have HE := hid (show m.numbers = true by unfold Md.numbers; rw [HAty.out, HAim.out, HAfu.out]; rfl)
              go_wp2
              go_ret
              exact ⟨ret_bool HE.out.symm, HB.out.trans (HBL.out.mono HB.out.size)⟩
end Go.Proofs.YtepbjkkakfpjgaaGreatDoor.Mod

namespace Go.Proofs.YtepbjkkakfpjgaaGreatDoor.Mod
open Go.RowKit Go.Proofs.YtepbjkkakfpjgaaGreatDoor.Instr

theorem has_codes (m : Md) (e : Int) : m.has e = m.codes.any (fun l => checkP l.t == e) := by
  unfold Md.has Md.codes
  simp [List.any_append, List.any_map, Function.comp_def]
theorem has_many (m : Md) : m.has 141 = decide (codeP m.codes = 141) := by
  rw [has_codes]
  by_cases h : codeP m.codes = 141
  · obtain ⟨y, hy, h1⟩ := codeP_of_many _ h
    rw [List.any_eq_true.2 ⟨y, hy, by simp [h1]⟩]; simp [h]
  · have : (m.codes.any fun l => checkP l.t == 141) = false := by
      rw [List.any_eq_false]
      intro y hy hh
      exact h (codeP_many _ y hy (by simpa using hh))
    rw [this]; simp [h]
theorem has_two (m : Md) (h : codeP m.codes ≠ 141) : m.has 2 = decide (codeP m.codes = 2) := by
  rw [has_codes]
  by_cases h0 : codeP m.codes = 0
  · have hz := (codeP_zero _).1 h0
    have : (m.codes.any fun l => checkP l.t == 2) = false := by
      rw [List.any_eq_false]
      intro y hy hh
      rw [hz y hy] at hh
      simp at hh
    rw [this]; simp [h0]
  · have h2 : codeP m.codes = 2 := by have := codeP_cases m.codes; omega
    have : (m.codes.any fun l => checkP l.t == 2) = true := by
      cases hh : (m.codes.any fun l => checkP l.t == 2)
      · exfalso
        refine h0 ((codeP_zero _).2 fun y hy => ?_)
        rw [List.any_eq_false] at hh
        have n2 := hh y hy
        have n1 : checkP y.t ≠ 141 := fun e => h (codeP_many _ y hy e)
        have := checkP_cases y.t
        have n3 : checkP y.t ≠ 2 := by simpa using n2
        omega
      · rfl
    rw [this]; simp [h2]
theorem names_any (m : Md) (p : ByteArray → Bool) : m.names.any p = m.anyName p := by
  unfold Md.names Md.anyName twoR
  rw [List.any_append, List.any_flatMap, List.any_map]
  simp [Function.comp_def]
def docCheck (m : Md) : Int := if m.many = true then 141 else if m.long = true then 3 else if m.numbers = true then (if m.rest = true then 0 else 2) else 2
theorem check_doc (m : Md) : docCheck m = m.check := by
  unfold docCheck Md.check Md.many Md.long
  rw [has_many, names_any]
  by_cases h1 : m.crowded = true
  · simp [h1]
  by_cases h2 : codeP m.codes = 141
  · simp [h2]
  have h1' : m.crowded = false := by simpa using h1
  rw [h1', decide_eq_false h2]
  simp only [Bool.or_self, Bool.false_eq_true, if_false, h2]
  by_cases h3 : m.anyName longS = true
  · simp [h3]
  have h3' : m.anyName longS = false := by simpa using h3
  by_cases h4 : m.heavy = true
  · simp [h4]
  have h4' : m.heavy = false := by simpa using h4
  rw [h3', h4']
  simp only [Bool.or_self, Bool.false_eq_true, if_false]
  unfold Md.numbers Md.rest Md.wrong
  rw [has_two m h2, names_any]
  by_cases h5 : codeP m.codes = 2
  · simp [h5]
  rw [decide_eq_false h5, if_neg h5]
  by_cases h6 : m.sn = 0
  · rw [decide_eq_true h6]
    cases m.anyName noText <;> cases m.ty.any wrongT <;> cases m.im.any wrongI <;> cases m.fu.any wrongF <;> cases m.ex.any wrongE <;> cases m.tb.any (beyond 1048576) <;> cases m.me.any (beyond 65536) <;> cases m.st <;> simp [h6]
  · rw [decide_eq_false h6]
    cases m.anyName noText <;> cases m.ty.any wrongT <;> cases m.im.any wrongI <;> cases m.fu.any wrongF <;> cases m.ex.any wrongE <;> cases m.tb.any (beyond 1048576) <;> cases m.me.any (beyond 65536) <;> cases m.st <;> simp [h6]
set_option maxHeartbeats 4000000 in
set_option maxRecDepth 100000 in
theorem refChk_any (m : Md) (w : World) (hm : ModAt w.heap.size w m) (hf : m.few) (hna : ∀ s ∈ m.names, s.size ≤ 1000000) :
    Calls Tryz.prog 24 #[.agg m.v] w fun x w' => x = .returned (.int .i64 m.check) ∧ Below w.heap.size w w' := by
  have hb0 := (Below.refl w.heap.size w).alloc (Nat.le_refl _) (.cells m.v 32)
  have HB := hid hb0
  have HM := hid (hm.on hb0)
  have HX := hid (BoxAt.made w m.v 32)
  have HD := hid (check_doc m)
  have HDD : Hid (docCheck m = if m.many = true then 141 else if m.long = true then 3 else if m.numbers = true then (if m.rest = true then 0 else 2) else 2) := rfl
  have K1 := hid (fun (W : World) (h : ModAt W.heap.size W m) => refMany_any m W h hf)
  have K2 := hid (fun (W : World) (h : ModAt W.heap.size W m) => refLong_any m W h hf)
  have K3 := hid (fun (W : World) (h : ModAt W.heap.size W m) => refNumbers_any m W h hf.fit)
  have K4 := hid (fun (W : World) (h : ModAt W.heap.size W m) => refRest_any m W h hf hna)
  have X0 := (BoxAt.made w m.v 32)
  have C := hid (K1.out _ HM.out)
  obtain ⟨q1, h1⟩ : ∃ q, m.many = q := ⟨_, rfl⟩
  obtain ⟨q2, h2⟩ : ∃ q, m.long = q := ⟨_, rfl⟩
  obtain ⟨q3, h3⟩ : ∃ q, m.numbers = q := ⟨_, rfl⟩
  obtain ⟨q4, h4⟩ : ∃ q, m.rest = q := ⟨_, rfl⟩
  obtain ⟨z, hz⟩ : ∃ z, m.check = z := ⟨_, rfl⟩
  rw [hz]
  rw [h1, h2, h3, h4] at HDD
  rw [hz] at HD
  rw [h1] at C
  rw [h2] at K2
  rw [h3] at K3
  rw [h4] at K4
  unfold Md.v at HB HX HM X0 C K2 K3 K4 ⊢
  clear hm hf hb0 hna K1 h1 h2 h3 h4 hz
  have x0 := X0 0 _ rfl
  have x1 := X0 1 _ rfl
  have x2 := X0 2 _ rfl
  have x3 := X0 3 _ rfl
  have x4 := X0 4 _ rfl
  have x5 := X0 5 _ rfl
  have x6 := X0 6 _ rfl
  have x7 := X0 7 _ rfl
  have x8 := X0 8 _ rfl
  have x9 := X0 9 _ rfl
  have x10 := X0 10 _ rfl
  clear X0
  go_enter Tryz.func24, Tryz.ntmps24
  cases q1 with
  | true =>
    go_wp2_with fail
    refine C.out.mono ?_
    rintro e1 w1 ⟨rfl, hb1⟩
    have HB1 := hid (HB.out.trans (hb1.mono HB.out.size))
    have HM1 := hid (HM.out.on hb1)
    have HX1 := hid (HX.out.keep hb1)
    clear C hb1 x0 x1 x2 x3 x4 x5 x6 x7 x8 x9 x10
    have HE := hid (show z = 141 by rw [← HD.out, HDD.out]; rfl)
    go_wp2
    go_ret
    exact ⟨ret_int HE.out.symm, HB1.out⟩
  | false =>
    go_wp2_with fail
    refine C.out.mono ?_
    rintro e1 w1 ⟨rfl, hb1⟩
    have HB1 := hid (HB.out.trans (hb1.mono HB.out.size))
    have HM1 := hid (HM.out.on hb1)
    have HX1 := hid (HX.out.keep hb1)
    clear C hb1 x0 x1 x2 x3 x4 x5 x6 x7 x8 x9 x10
    have C := hid (K2.out _ HM1.out)
    have x0 := HX1.out 0 _ rfl
    have x1 := HX1.out 1 _ rfl
    have x2 := HX1.out 2 _ rfl
    have x3 := HX1.out 3 _ rfl
    have x4 := HX1.out 4 _ rfl
    have x5 := HX1.out 5 _ rfl
    have x6 := HX1.out 6 _ rfl
    have x7 := HX1.out 7 _ rfl
    have x8 := HX1.out 8 _ rfl
    have x9 := HX1.out 9 _ rfl
    have x10 := HX1.out 10 _ rfl
    cases q2 with
    | true =>
      go_wp2_with fail
      refine C.out.mono ?_
      rintro e2 w2 ⟨rfl, hb2⟩
      have HB2 := hid (HB1.out.trans (hb2.mono HB1.out.size))
      have HM2 := hid (HM1.out.on hb2)
      have HX2 := hid (HX1.out.keep hb2)
      clear C hb2 x0 x1 x2 x3 x4 x5 x6 x7 x8 x9 x10
      have HE := hid (show z = 3 by rw [← HD.out, HDD.out]; rfl)
      go_wp2
      go_ret
      exact ⟨ret_int HE.out.symm, HB2.out⟩
    | false =>
      go_wp2_with fail
      refine C.out.mono ?_
      rintro e2 w2 ⟨rfl, hb2⟩
      have HB2 := hid (HB1.out.trans (hb2.mono HB1.out.size))
      have HM2 := hid (HM1.out.on hb2)
      have HX2 := hid (HX1.out.keep hb2)
      clear C hb2 x0 x1 x2 x3 x4 x5 x6 x7 x8 x9 x10
      have C := hid (K3.out _ HM2.out)
      have x0 := HX2.out 0 _ rfl
      have x1 := HX2.out 1 _ rfl
      have x2 := HX2.out 2 _ rfl
      have x3 := HX2.out 3 _ rfl
      have x4 := HX2.out 4 _ rfl
      have x5 := HX2.out 5 _ rfl
      have x6 := HX2.out 6 _ rfl
      have x7 := HX2.out 7 _ rfl
      have x8 := HX2.out 8 _ rfl
      have x9 := HX2.out 9 _ rfl
      have x10 := HX2.out 10 _ rfl
      cases q3 with
      | false =>
        go_wp2_with fail
        refine C.out.mono ?_
        rintro e3 w3 ⟨rfl, hb3⟩
        have HB3 := hid (HB2.out.trans (hb3.mono HB2.out.size))
        have HM3 := hid (HM2.out.on hb3)
        have HX3 := hid (HX2.out.keep hb3)
        clear C hb3 x0 x1 x2 x3 x4 x5 x6 x7 x8 x9 x10
        have HE := hid (show z = 2 by rw [← HD.out, HDD.out]; rfl)
        go_wp2
        go_ret
        exact ⟨ret_int HE.out.symm, HB3.out⟩
      | true =>
        go_wp2_with fail
        refine C.out.mono ?_
        rintro e3 w3 ⟨rfl, hb3⟩
        have HB3 := hid (HB2.out.trans (hb3.mono HB2.out.size))
        have HM3 := hid (HM2.out.on hb3)
        have HX3 := hid (HX2.out.keep hb3)
        clear C hb3 x0 x1 x2 x3 x4 x5 x6 x7 x8 x9 x10
        have C := hid (K4.out _ HM3.out)
        have x0 := HX3.out 0 _ rfl
        have x1 := HX3.out 1 _ rfl
        have x2 := HX3.out 2 _ rfl
        have x3 := HX3.out 3 _ rfl
        have x4 := HX3.out 4 _ rfl
        have x5 := HX3.out 5 _ rfl
        have x6 := HX3.out 6 _ rfl
        have x7 := HX3.out 7 _ rfl
        have x8 := HX3.out 8 _ rfl
        have x9 := HX3.out 9 _ rfl
        have x10 := HX3.out 10 _ rfl
        cases q4 with
        | false =>
          go_wp2_with fail
          refine C.out.mono ?_
          rintro e4 w4 ⟨rfl, hb4⟩
          have HB4 := hid (HB3.out.trans (hb4.mono HB3.out.size))
          have HM4 := hid (HM3.out.on hb4)
          have HX4 := hid (HX3.out.keep hb4)
          clear C hb4 x0 x1 x2 x3 x4 x5 x6 x7 x8 x9 x10
          have HE := hid (show z = 2 by rw [← HD.out, HDD.out]; rfl)
          go_wp2
          go_ret
          exact ⟨ret_int HE.out.symm, HB4.out⟩
        | true =>
          go_wp2_with fail
          refine C.out.mono ?_
          rintro e4 w4 ⟨rfl, hb4⟩
          have HB4 := hid (HB3.out.trans (hb4.mono HB3.out.size))
          have HM4 := hid (HM3.out.on hb4)
          have HX4 := hid (HX3.out.keep hb4)
          clear C hb4 x0 x1 x2 x3 x4 x5 x6 x7 x8 x9 x10
          have HE := hid (show z = 0 by rw [← HD.out, HDD.out]; rfl)
          go_wp2
          go_ret
          exact ⟨ret_int HE.out.symm, HB4.out⟩
end Go.Proofs.YtepbjkkakfpjgaaGreatDoor.Mod

namespace Go.Proofs.YtepbjkkakfpjgaaGreatDoor.Mod
open Go.RowKit Go.Proofs.YtepbjkkakfpjgaaGreatDoor.Instr

def errI (b : Bool) (e : Int) : Int := if b then e else 0
theorem errIf_any (b : Bool) (e : Int) (w : World) : Calls Tryz.prog 49 #[.bool b, .int .i64 e] w fun x w' => x = .returned (.int .i64 (errI b e)) ∧ w = w' := by
  cases b
  all_goals
    go_enter Tryz.func49, Tryz.ntmps49
    go_wp2
    go_ret
    exact ⟨rfl, rfl⟩
theorem max_two (x y : Int) : max x y = if y > x then y else x := by split <;> omega
set_option maxHeartbeats 1000000 in
theorem crowded_any (m : Md) (w : World) (hm : ModAt w.heap.size w m) (hf : m.fits) :
    Calls Tryz.prog 50 #[.agg m.v] w fun e w' => e = .returned (.bool m.crowded) ∧ Below w.heap.size w w' := by
  have hb0 := (Below.refl w.heap.size w).alloc (Nat.le_refl _) (.cells m.v 32)
  have HE := hid (crowded_eq m)
  have HR := hid (hm.on hb0).el
  have HB := hid hb0
  have HX := hid (BoxAt.made w m.v 32)
  have hl := hf.el
  have hmx : ∀ (ts : Array TypeId) (t : TypeId) (w : World), Sem.run Tryz.prog (Builtin.max_ ts t #[.int .i64 (m.ty.length : Int), .int .i64 (m.im.length : Int), .int .i64 (m.fu.length : Int), .int .i64 (m.gl.length : Int), .int .i64 (m.ex.length : Int), .int .i64 (m.el.length : Int), .int .i64 (m.da.length : Int)]) w = .ok (.int .i64 m.max7) w := by
    intro ts t w
    unfold Md.max7
    simp only [max_two]
    simp [Builtin.max_, Builtin.max2]
  obtain ⟨L0, hL0⟩ : ∃ L0, m.max7 = L0 := ⟨_, rfl⟩
  rw [hL0] at HE hmx
  unfold Md.v at HR HB HX ⊢
  clear hm hf hb0 hL0
  generalize m.el'.a = a at HR HB HX ⊢
  go_enter Tryz.func50, Tryz.ntmps50
  go_wp2
  clear hmx
  obtain ⟨n, hn⟩ : ∃ n, m.el.length = n := ⟨_, rfl⟩
  have HN := hid hn
  rw [hn] at HX HB HR hl ⊢
  clear hn
  generalize w.alloc (.cells #[.slice m.ty'.a m.ty.length m.ty'.c, .slice m.im'.a m.im.length m.im'.c, .slice m.fu'.a m.fu.length m.fu'.c, .slice m.tb'.a m.tb.length m.tb'.c, .slice m.me'.a m.me.length m.me'.c, .slice m.gl'.a m.gl.length m.gl'.c, .slice m.ex'.a m.ex.length m.ex'.c, .bool m.st, .int .u32 m.sn, .slice a n m.el'.c, .slice m.da'.a m.da.length m.da'.c] 32) = W0 at HX HB HR ⊢
  go_loopw [3, 31] (fun vl vi wr => ∃ (k : Nat) (L : Int), vl = .int .i64 L ∧ vi = .int .i64 k ∧ k ≤ n ∧ Hid (L = longP (m.el.take k) L0) ∧ Hid (Below W0.heap.size W0 wr)) (fun _ vi _ => n - (intOf vi).toNat)
  case atStart => exact ⟨0, L0, rfl, rfl, Nat.zero_le _, rfl, Below.refl _ _⟩
  case round =>
    obtain ⟨k, L, rfl, rfl, hk, HL, HW⟩ := hrel
    by_cases hlt : k < n
    · have hkl : k < m.el.length := by rw [HN.out]; exact hlt
      obtain ⟨b, off, rfl, hb, hc⟩ := Rows.get HR.out hkl
      have HS := hid (show longP (m.el.take (k + 1)) L0 = max L (m.el[k].fs.length : Int) by rw [List.take_succ_eq_append_getElem hkl, longP_snoc, ← HL.out])
      obtain ⟨x, hxe⟩ : ∃ x, m.el[k] = x := ⟨_, rfl⟩
      rw [hxe] at hc HS
      have cc : ∀ j, j < 2 → ∀ v, x.v[j]? = some v → wr.cell? ⟨b, off + k * 2 + j, none⟩ = some v := fun j hj v hv => (HW.out.cell (p := ⟨b, off + k * 2 + j, none⟩) hb).trans (hc j hj v hv)
      have c0 : wr.cell? ⟨b, off + k * 2, none⟩ = some x.l.val := cc 0 (by omega) _ rfl
      have c1 : wr.cell? ⟨b, off + k * 2 + 1, none⟩ = some (.slice x.fa x.fs.length x.fc) := cc 1 (by omega) _ rfl
      have hki : (k : Int) < (n : Int) := by omega
      unfold Lst.val at c0
      have HW' := hid (show Below W0.heap.size W0 (wr.alloc (.cells #[.slice x.l.a x.l.t.len x.l.c, .slice x.fa x.fs.length x.fc] 71)) from HW.out.alloc HW.out.size _)
      clear hxe hc cc hb
      by_cases hgt : (x.fs.length : Int) > L
      · have HS' := hid (show (x.fs.length : Int) = longP (m.el.take (k + 1)) L0 by rw [HS.out]; omega)
        go_wp2
        go_roundw
        case rel => first | exact ⟨k + 1, _, rfl, by go_num, by omega, HS', HW'⟩ | exact ⟨k + 1, _, rfl, by go_num, by omega, hid HS.out.symm, HW'⟩
        case measure => simp [intOf]; omega
      · have HS' := hid (show L = longP (m.el.take (k + 1)) L0 by rw [HS.out]; omega)
        go_wp2
        go_roundw
        case rel => first | exact ⟨k + 1, _, rfl, by go_num, by omega, HS', HW'⟩ | exact ⟨k + 1, _, rfl, by go_num, by omega, hid HS.out.symm, HW'⟩
        case measure => simp [intOf]; omega
    · obtain rfl : k = n := by omega
      have HE' := hid (show m.crowded = (decide (16384 < L) || (decide (1 < m.tb.length) || decide (1 < m.me.length))) by rw [HE.out, HL.out, ← HN.out, List.take_length])
      have x3 := Go.Proofs.YtepbjkkakfpjgaaGreatDoor.keep HW.out (HX.out 3 _ rfl)
      have x4 := Go.Proofs.YtepbjkkakfpjgaaGreatDoor.keep HW.out (HX.out 4 _ rfl)
      have HF := hid (HB.out.trans (HW.out.mono HB.out.size))
      clear HR HL HX HE HW HB
      by_cases h1 : 16384 < L
      · have HC := hid (show m.crowded = true by rw [HE'.out, decide_eq_true h1, Bool.true_or])
        clear HE'
        go_wp2
        go_ret
        exact ⟨ret_bool HC.out.symm, HF.out⟩
      · by_cases h2 : (1 : Int) < (m.tb.length : Int)
        · have HC := hid (show m.crowded = true by rw [HE'.out, decide_eq_true (show 1 < m.tb.length by omega), Bool.true_or, Bool.or_true])
          clear HE'
          go_wp2
          go_ret
          exact ⟨ret_bool HC.out.symm, HF.out⟩
        · have HC := hid (show m.crowded = decide (1 < m.me.length) by rw [HE'.out, decide_eq_false h1, decide_eq_false (show ¬ 1 < m.tb.length by omega), Bool.false_or, Bool.false_or])
          clear HE'
          go_wp2
          go_ret
          exact ⟨ret_bool (by rw [HC.out]; simp; omega), HF.out⟩

set_option maxHeartbeats 1000000 in
theorem heavy_any (l : List Da) (a : Option Addr) (n c : Nat) (w : World) (hn : l.length = n) (hr : Rows w.heap.size w a 2 (l.map Da.v)) (hl : n ≤ 140737488351232) :
    Calls Tryz.prog 57 #[.slice a n c] w fun e w' => e = .returned (.bool (decide (1048576 < sumB l))) ∧ Below w.heap.size w w' := by
  have HR := hid hr
  have HN := hid hn
  clear hr hn
  go_enter Tryz.func57, Tryz.ntmps57
  go_wp2
  go_loopw [3, 8] (fun vl vi wr => ∃ (k : Nat) (L : Int), vl = .int .i64 L ∧ vi = .int .i64 k ∧ k ≤ n ∧ 0 ≤ L ∧ L ≤ 1048576 ∧ Hid (L = 1048576 - (sumB (l.take k) : Int)) ∧ Hid (Below w.heap.size w wr)) (fun _ vi _ => n - (intOf vi).toNat)
  case atStart => exact ⟨0, 1048576, rfl, rfl, Nat.zero_le _, by omega, by omega, rfl, Below.refl _ _⟩
  case round =>
    obtain ⟨k, L, rfl, rfl, hk, h0, h1, HL, HW⟩ := hrel
    by_cases hlt : k < n
    · have hkl : k < l.length := by rw [HN.out]; exact hlt
      obtain ⟨b, off, rfl, hb, hc⟩ := Rows.get HR.out hkl
      have HS := hid (sumB_step hkl)
      have HT := hid (sumB_take l (k + 1))
      obtain ⟨x, hxe⟩ : ∃ x, l[k] = x := ⟨_, rfl⟩
      rw [hxe] at hc HS
      have cc : ∀ j, j < 2 → ∀ v, x.v[j]? = some v → wr.cell? ⟨b, off + k * 2 + j, none⟩ = some v := fun j hj v hv => (HW.out.cell (p := ⟨b, off + k * 2 + j, none⟩) hb).trans (hc j hj v hv)
      have c0 : wr.cell? ⟨b, off + k * 2, none⟩ = some x.l.val := cc 0 (by omega) _ rfl
      have c1 : wr.cell? ⟨b, off + k * 2 + 1, none⟩ = some (.slice x.ba x.bs.length x.bc) := cc 1 (by omega) _ rfl
      have hki : (k : Int) < (n : Int) := by omega
      unfold Lst.val at c0
      have HW' := hid (show Below w.heap.size w (wr.alloc (.cells #[.slice x.l.a x.l.t.len x.l.c, .slice x.ba x.bs.length x.bc] 47)) from HW.out.alloc HW.out.size _)
      clear hxe hc cc hb
      by_cases hgt : L < (x.bs.length : Int)
      · have HC := hid (show decide (1048576 < sumB l) = true by rw [decide_eq_true_eq]; have := HS.out; have := HT.out; have := HL.out; omega)
        go_wp2
        go_ret
        exact ⟨ret_bool HC.out.symm, HW'.out⟩
      · have HL' := hid (show L - (x.bs.length : Int) = 1048576 - (sumB (l.take (k + 1)) : Int) by rw [HS.out]; have := HL.out; omega)
        go_wp2
        go_roundw
        case rel => exact ⟨k + 1, _, rfl, by go_num, by omega, by omega, by omega, HL', HW'⟩
        case measure => simp [intOf]; omega
    · obtain rfl : k = n := by omega
      have HC := hid (show decide (1048576 < sumB l) = false by rw [decide_eq_false_iff_not]; have := HL.out; rw [← HN.out, List.take_length] at this; omega)
      go_wp2
      go_ret
      exact ⟨ret_bool HC.out.symm, HW.out⟩
end Go.Proofs.YtepbjkkakfpjgaaGreatDoor.Mod

namespace Go.Proofs.YtepbjkkakfpjgaaGreatDoor.Instr
open Go.RowKit Go.Shelf

attribute [local go_sem] Oper.semAt_some

set_option maxRecDepth 100000 in
set_option maxHeartbeats 2000000 in
theorem Count_any (a : Option Addr) (len cap : Nat) (t : Il) (w : World) (hl : ListAt w.heap.size w a len t) (hc : t.count ≤ 4611686018427387900) (hlen : len ≤ 140737488351232) :
    Calls Tryz.prog 82 #[.slice a len cap] w fun e w' => e = .returned (.int .i64 t.count) ∧ Below w.heap.size w w' := by
  have HC := hid hc
  clear hc
  refine (callsIn_wide (n := 3)).1 ?_
  refine callsIn_of_wp_marks Tryz.func82 rfl trivial ?_ rfl
  simp only [Tryz.ntmps82, List.size_toArray, List.length_cons, List.length_nil, Nat.reduceAdd, Nat.reduceSub, Array.replicate_succ, Array.replicate_zero, List.push_toArray, List.append_toArray, List.nil_append, List.cons_append]
  gi_wp2_with (refine ⟨trivial, ?_⟩; refine (within_in _ _ _ _ _).mono ?_; rintro e w' ⟨rfl, rfl⟩)
  have hs := cell_new w (.int .i64 0) 3
  have hb := cell_new (w.alloc (.cells #[.int .i64 0] 3)) (.slice a len cap) 45
  rw [World.size_alloc] at hb
  have hB0 : Below w.heap.size w ((w.alloc (.cells #[.int .i64 0] 3)).alloc (.cells #[.slice a len cap] 45)) := thenA (thenA (Below.refl _ _) _) _
  refine wpIn_rangeFunc_ownF rfl (by omega) (gf := 186) (lb := #[.pointer (some ⟨w.heap.size + 1, 0, none⟩)]) rfl trivial (enters_of Tryz.func186 (by kernel_rfl) rfl)
    (within_stops _ w.heap.size (w.heap.size + 2) (w.heap.size + 1) a len cap t _ (by simp) (by omega) (by simp) hb.1 (hl.below hB0) (by have := HC.out; have := deep_le_count t; omega) hlen) (fun h k => h.trans k) (kept_b (by simp; omega)) (Below.refl _ _) (fun _ => rfl)
    (fun pre W => (W.cell? ⟨w.heap.size, 0, none⟩ = some (.int .i64 pre.length) ∧ W.frozen? ⟨w.heap.size, 0, none⟩ = false) ∧ Below w.heap.size w W)
    (fun _ _ _ => False)
    (OwnFrom.and (Own.from (fun s A B row hs hg hr => ⟨cell_kept hs.1 hg hr, (frozen_kept hs.1 hg hr).trans hs.2⟩) _) (ownFrom_below (Nat.le_refl _) (by simp; omega)))
    (fun _ _ _ _ _ hs _ _ => hs)
    ⟨⟨cell_alloc' _ hs.1, frozen_alloc' _ hs.1 hs.2⟩, hB0⟩
    (fun x => { tmps := #[.slice a len cap, undef, .int .i64 0, .pointer (some ⟨w.heap.size, 0, none⟩), .slice a len cap, .func (.func 186) #[] #[.pointer (some ⟨w.heap.size + 1, 0, none⟩)], .int .i64 x.1, .agg x.2.vals, undef, undef, undef], defers := [] }) ?assign ?body ?done ?stop
  case assign =>
    intro l x W K hK
    gi_wp2
    simpa [encs] using hK
  case body =>
    rintro l pre x W ⟨⟨hc, hf⟩, hB⟩ hlt
    have hw1 : IntKind.i64.wrap ((pre.length : Int) + 1) = ((pre ++ [x]).length : Int) := by have := HC.out; rw [IntKind.wrap_i64]; simp; omega
    gi_wp2
    exact ⟨KeepsOthers.setCell _ _ _, (Kept.refl _ _ W).setCell (p := ⟨w.heap.size, 0, none⟩) (Nat.le_refl _) (by simp) _, ⟨by rw [show (((pre ++ [x]).length : Nat) : Int) = (pre.length : Int) + 1 by simp]; exact World.cell?_setCell_same' _ _ _ (by rw [hc]; rfl), by rw [World.frozen?_setCell]; exact hf⟩, hB.setCell (p := ⟨w.heap.size, 0, none⟩) (Nat.le_refl _) _⟩
  case done =>
    rintro D ys W hD rfl ⟨⟨hc, _⟩, hB⟩ hK
    rw [walk_length] at hc
    gi_wp2
    refine ⟨by simp, .inl ⟨_, _, rfl, run_takeDeferred hK, ?_⟩⟩
    exact ⟨_, results_tmp rfl _ _ _, rfl, hB.trans (belowK_b (w := w) (Nat.le_refl _) W D _ _ (by simp at hD; omega) hK rfl rfl)⟩
  case stop =>
    rintro D c pre W _ _ h _
    exact h.elim
end Go.Proofs.YtepbjkkakfpjgaaGreatDoor.Instr

namespace Go.Proofs.YtepbjkkakfpjgaaGreatDoor.Instr
open Go.RowKit Go.Shelf

attribute [local go_sem] Oper.semAt_some

theorem lawful_any (x : Ix) (w : World) (hT : Nams w) : Calls Tryz.prog 179 #[.agg x.vals] w fun e w' => e = .returned (.bool (lawfulP x)) ∧ Below w.heap.size w w' := by
  by_cases h : nameL x.op = []
  · have : lawfulP x = false := by simp [lawfulP, h]
    rw [this]
    exact lawful_noname x w hT h
  · have : lawfulP x = (decide (overP x = 0) && (decide (x.res = 0) || decide (x.res = 1))) := by simp [lawfulP, h]
    rw [this]
    exact lawful_name x w hT h
def manyP (l : List (Int × Ix)) : Bool := decide (262144 < l.length) || (l.any fun p => decide (16384 < p.2.tags.length)) || decide (900 < deepest l)
theorem manyP_snoc (l : List (Int × Ix)) (p : Int × Ix) : manyP (l ++ [p]) = (manyP l || (decide (262144 < l.length + 1) || (decide (16384 < p.2.tags.length) || decide (900 < p.1)))) := by
  unfold manyP
  rw [deepest_snoc]
  simp only [List.length_append, List.length_cons, List.length_nil, List.any_append, List.any_cons, List.any_nil, Bool.or_false]
  rw [Bool.eq_iff_iff]
  simp only [Bool.or_eq_true, decide_eq_true_eq]
  constructor
  · rintro ((h | h | h) | h)
    · right; left; omega
    · left; left; right; exact h
    · right; right; left; exact h
    · rcases Int.le_total (deepest l) p.1 with h1 | h1
      · right; right; right; omega
      · left; right; omega
  · rintro (((h | h) | h) | h | h | h)
    · left; left; omega
    · left; right; left; exact h
    · right; omega
    · left; left; omega
    · left; right; right; exact h
    · right; omega
theorem manyP_walk (t : Il) : manyP (t.walk 1) = decide (262144 < t.count ∨ 900 < t.deep ∨ t.tags = true) := by
  unfold manyP
  rw [walk_length, walk_tags, deepest_walk, Bool.eq_iff_iff]
  simp only [Bool.or_eq_true, decide_eq_true_eq]
  constructor
  · rintro ((h | h) | h)
    · exact .inl h
    · exact .inr (.inr h)
    · exact .inr (.inl (by omega))
  · rintro (h | h | h)
    · exact .inl (.inl h)
    · exact .inr (by omega)
    · exact .inl (.inr h)

def allP (l : List (Int × Ix)) : Bool := l.all fun p => lawfulP p.2
theorem allP_snoc (l : List (Int × Ix)) (p : Int × Ix) : allP (l ++ [p]) = (allP l && lawfulP p.2) := by simp [allP, List.all_append]
theorem allP_walk (t : Il) (d : Int) : allP (t.walk d) = t.all := walk_all t d
theorem keepsFrom_below {B : Nat} {w w' : World} (h : Below w.heap.size w w') : KeepsFrom B w w' := ⟨h.size, fun k _ _ hk _ => (h.block k (Array.getElem?_eq_some_iff.1 hk).1).trans hk⟩
theorem At.own {x : Ix} {g : Nat} {A B : World} {row : Option Nat} (h : At x g A) (hg : A.grownBy B row) (hr : ∀ r, row = some r → ∃ o : Obj, A.heap[r]? = some o ∧ o.isCells = false) : At x g B :=
  ⟨cell_kept h.c0 hg hr, cell_kept h.c1 hg hr, cell_kept h.c2 hg hr, cell_kept h.c3 hg hr, cell_kept h.c4 hg hr, cell_kept h.c5 hg hr, cell_kept h.c6 hg hr, cell_kept h.c7 hg hr⟩

/-- What the loop of Check holds in its own cells: result, count, many. -/
structure Chk (g : Nat) (r : Int) (n : Int) (m : Bool) (W : World) : Prop where
  res : W.cell? ⟨g, 0, none⟩ = some (.int .i64 r)
  num : W.cell? ⟨g + 1, 0, none⟩ = some (.int .i64 n)
  many : W.cell? ⟨g + 2, 0, none⟩ = some (.bool m)
  fres : W.frozen? ⟨g, 0, none⟩ = false
  fnum : W.frozen? ⟨g + 1, 0, none⟩ = false
  fmany : W.frozen? ⟨g + 2, 0, none⟩ = false
theorem Chk.own {g : Nat} {r n : Int} {m : Bool} {A B : World} {row : Option Nat} (h : Chk g r n m A) (hg : A.grownBy B row) (hr : ∀ r, row = some r → ∃ o : Obj, A.heap[r]? = some o ∧ o.isCells = false) : Chk g r n m B :=
  ⟨cell_kept h.res hg hr, cell_kept h.num hg hr, cell_kept h.many hg hr, (frozen_kept h.res hg hr).trans h.fres, (frozen_kept h.num hg hr).trans h.fnum, (frozen_kept h.many hg hr).trans h.fmany⟩
theorem Chk.below {g : Nat} {r n : Int} {m : Bool} {A B : World} (h : Chk g r n m A) (hb : Below A.heap.size A B) : Chk g r n m B :=
  have f : ∀ p v, A.cell? p = some v → A.frozen? p = false → B.frozen? p = false := fun p _ hc hf => (hb.frozen (World.block_lt_of_cell? A p hc)).trans hf
  ⟨keep hb h.res, keep hb h.num, keep hb h.many, f _ _ h.res h.fres, f _ _ h.num h.fnum, f _ _ h.many h.fmany⟩

theorem Chk.next {g : Nat} {r n n' n2 : Int} {m m' m2 : Bool} {A : World} (h : Chk g r n m A) (hn : n' = n2) (hm : m' = m2) : Chk g r n' m' ((A.setCell ⟨g + 1, 0, none⟩ (.int .i64 n2)).setCell ⟨g + 1 + 1, 0, none⟩ (.bool m2)) := by
  obtain ⟨r1, r2, r3, f1, f2, f3⟩ := h
  subst hn hm
  constructor <;> simp [go_sem, *]

set_option maxRecDepth 100000 in
set_option maxHeartbeats 4000000 in
theorem Check_any (a : Option Addr) (len cap : Nat) (t : Il) (w : World) (hT : Nams w) (hl : ListAt w.heap.size w a len t) (hc : t.count ≤ 4611686018427387900) (hlen : len ≤ 140737488351232) :
    Calls Tryz.prog 119 #[.slice a len cap] w fun e w' => e = .returned (.int .i64 (checkP t)) ∧ Below w.heap.size w w' := by
  have HC := hid hc
  clear hc
  refine (callsIn_wide (n := 3)).1 ?_
  refine callsIn_of_wp_marks Tryz.func119 rfl trivial ?_ rfl
  simp only [Tryz.ntmps119, List.size_toArray, List.length_cons, List.length_nil, Nat.reduceAdd, Nat.reduceSub, Array.replicate_succ, Array.replicate_zero, List.push_toArray, List.append_toArray, List.nil_append, List.cons_append]
  gi_wp2_with (refine ⟨trivial, ?_⟩; refine (within_in _ _ _ _ _).mono ?_; rintro e w' ⟨rfl, rfl⟩)
  have hS0 : Chk w.heap.size 0 0 false (((w.alloc (.cells #[.int .i64 0] 36)).alloc (.cells #[.int .i64 0] 3)).alloc (.cells #[.bool false] 4)) := by constructor <;> go_simp
  have hb := cell_new (((w.alloc (.cells #[.int .i64 0] 36)).alloc (.cells #[.int .i64 0] 3)).alloc (.cells #[.bool false] 4)) (.slice a len cap) 45
  have hS1 := hS0.below ((Below.refl _ _).alloc (Nat.le_refl _) (.cells #[.slice a len cap] 45))
  have hB0 : Below w.heap.size w ((((w.alloc (.cells #[.int .i64 0] 36)).alloc (.cells #[.int .i64 0] 3)).alloc (.cells #[.bool false] 4)).alloc (.cells #[.slice a len cap] 45)) := thenA (thenA (thenA (thenA (Below.refl _ _) _) _) _) _
  have hsz : ((((w.alloc (.cells #[.int .i64 0] 36)).alloc (.cells #[.int .i64 0] 3)).alloc (.cells #[.bool false] 4)).alloc (.cells #[.slice a len cap] 45)).heap.size = w.heap.size + 4 := by simp
  have hsz3 : (((w.alloc (.cells #[.int .i64 0] 36)).alloc (.cells #[.int .i64 0] 3)).alloc (.cells #[.bool false] 4)).heap.size = w.heap.size + 1 + 1 + 1 := by simp
  rw [hsz3] at hb
  clear hS0 hsz3
  obtain ⟨W0, hW0⟩ : ∃ W0, (((w.alloc (.cells #[.int .i64 0] 36)).alloc (.cells #[.int .i64 0] 3)).alloc (.cells #[.bool false] 4)).alloc (.cells #[.slice a len cap] 45) = W0 := ⟨_, rfl⟩
  rw [hW0] at hb hS1 hB0 hsz ⊢
  clear hW0
  refine wpIn_rangeFunc_ownH rfl (by omega) (gf := 186) (lb := #[.pointer (some ⟨w.heap.size + 1 + 1 + 1, 0, none⟩)]) rfl trivial (enters_of Tryz.func186 (by kernel_rfl) rfl)
    (within_stops _ w.heap.size (w.heap.size + 4) (w.heap.size + 1 + 1 + 1) a len cap t W0 (by omega) (by omega) (by omega) hb.1 (hl.below hB0) (by have := HC.out; have := deep_le_count t; omega) hlen) (fun h k => h.trans k) (kept_b (by omega)) (Below.refl _ _) (fun _ => rfl)
    (fun pre W => (allP pre = true ∧ Chk w.heap.size 0 pre.length (manyP pre) W ∧ w.heap.size + 4 ≤ W.heap.size) ∧ Below w.heap.size w W)
    (fun c pre W => (c = .ret ∧ allP pre = false ∧ W.cell? ⟨w.heap.size, 0, none⟩ = some (.int .i64 2)) ∧ Below w.heap.size w W)
    (OwnFrom.and (Own.from (fun s A B row hs hg hr => ⟨hs.1, hs.2.1.own hg hr, Nat.le_trans hs.2.2 hg.size⟩) _) (ownFrom_below (Nat.le_refl _) (by omega)))
    (fun c => OwnFrom.and (Own.from (fun s A B row hs hg hr => ⟨hs.1, hs.2.1, cell_kept hs.2.2 hg hr⟩) _) (ownFrom_below (Nat.le_refl _) (by omega)))
    ⟨⟨rfl, by simpa [manyP, deepest] using hS1, by omega⟩, hB0⟩
    (fun x a' W => ∃ Bx, w.heap.size + 4 ≤ Bx ∧ At x.2 Bx W ∧ a' = { tmps := #[.slice a len cap, undef, .pointer (some ⟨w.heap.size, 0, none⟩), .pointer (some ⟨w.heap.size + 1, 0, none⟩), .pointer (some ⟨w.heap.size + 1 + 1, 0, none⟩), .int .i64 x.1, .pointer (some ⟨Bx, 0, none⟩), .slice a len cap, .func (.func 186) #[] #[.pointer (some ⟨w.heap.size + 1 + 1 + 1, 0, none⟩)], .int .i64 x.1, .agg x.2.vals, undef, undef, undef, undef, undef, undef, undef, undef, undef, undef, undef, undef, undef, undef, undef, undef, undef, undef, undef, undef, undef], defers := [] })
    (fun x a' _ X Y row hs hg hr => by obtain ⟨Bx, h1, h2, h3⟩ := hs; exact ⟨Bx, h1, h2.own hg (fun r e => (hr r e).2), h3⟩)
    ?assign ?body ?done ?stop
  case assign =>
    rintro l pre ⟨d, x⟩ W K ⟨⟨hla, hch, hz⟩, hB1⟩ hK
    simp only [encs, Ix.vals] at hK ⊢
    gi_wp2
    exact hK _ _ ((KeepsOthers.alloc _ _).from _) ((Kept.refl _ _ W).alloc _ (by omega)) ⟨⟨hla, hch.below ((Below.refl _ _).alloc (Nat.le_refl _) _), by simp; omega⟩, thenA hB1 _⟩ ⟨W.heap.size, hz, At.made x W, rfl⟩
  case body =>
    rintro l pre ⟨d, x⟩ a' W hl' ⟨r, hr⟩ ⟨⟨hla, hch, hz⟩, hB1⟩ ⟨Bx, hBx, bX, rfl⟩ hlt
    clear hsz hl'
    have CL := callsIn_wide (n := 3 - 1 - 1 - 1) |>.2 (lawful_any x W (hT.below hB1))
    obtain ⟨q, hq⟩ : ∃ q, lawfulP x = q := ⟨_, rfl⟩
    rw [hq] at CL
    obtain ⟨cnt, hcnt⟩ : ∃ cnt : Int, (pre.length : Int) = cnt := ⟨_, rfl⟩
    have hcb : 0 ≤ cnt ∧ cnt + 1 ≤ 4611686018427387900 := by have := HC.out; omega
    obtain ⟨m, hm⟩ : ∃ m, manyP pre = m := ⟨_, rfl⟩
    have hsn := manyP_snoc pre (d, x)
    have HSN := hid hsn
    have HQ := hid hq
    have HM := hid hm
    have HCN := hid hcnt
    have HLA := hid hla
    rw [hcnt, hm] at hch
    clear hsn hq hm hcnt hla hlt
    unfold Ix.vals at CL
    simp only [Ix.vals]
    obtain ⟨hc0, hc1⟩ := hcb
    have hch' := hch
    have bX' := bX
    obtain ⟨b0, b1, b2, b3, b4, b5, b6, b7⟩ := bX
    obtain ⟨r1, r2, r3, f1, f2, f3⟩ := hch
    gi_wp2_with fail
    refine ⟨trivial, ?_⟩
    refine (CallsIn.inRound l CL).mono ?_
    rintro e W3 ⟨rfl, hb3⟩
    clear CL b0 b1 b2 b3 b4 b5 b6 b7 r1 r2 r3 f1 f2 f3
    have hch3 := hch'.below hb3
    obtain ⟨r1, r2, r3, f1, f2, f3⟩ := hch3
    have bX3 := bX'.below hb3
    obtain ⟨b0, b1, b2, b3, b4, b5, b6, b7⟩ := bX3
    have hkf : KeepsFrom W0.heap.size W W3 := keepsFrom_below hb3
    have hkp : Kept w.heap.size (w.heap.size + 4) W W3 := Kept.of_below hb3 (by omega)
    cases q
    · gi_wp2
      exact ⟨hkf.trans ((KeepsOthers.setCell _ _ _).from _), ⟨rfl, by rw [allP_snoc, HQ.out, Bool.and_false], World.cell?_setCell_same' _ _ _ (by rw [r1]; rfl)⟩, (thenB hB1 hb3).setCell (p := ⟨w.heap.size, 0, none⟩) (Nat.le_refl _) _⟩
    · have hch3 : Chk w.heap.size 0 cnt m W3 := hch'.below hb3
      have hln : (((pre ++ [(d, x)]).length : Nat) : Int) = cnt + 1 := by rw [← HCN.out]; simp
      have HLN := hid hln
      clear hln
      gi_wp2
      all_goals
        refine ⟨hkf.trans (((KeepsOthers.setCell _ _ _).trans (KeepsOthers.setCell _ _ _)).from _), (hkp.setCell (p := ⟨w.heap.size + 1, 0, none⟩) (by simp) (by simp) _).setCell (p := ⟨w.heap.size + 1 + 1, 0, none⟩) (by simp; omega) (by simp) _,
          ⟨by rw [allP_snoc, HLA.out, HQ.out]; rfl, hch3.next HLN.out ?_, by have := hb3.size; simp [World.setCell]; omega⟩, ((thenB hB1 hb3).setCell (p := ⟨w.heap.size + 1, 0, none⟩) (by simp) _).setCell (p := ⟨w.heap.size + 1 + 1, 0, none⟩) (by simp; omega) _⟩
        rw [HSN.out, HM.out]
        have hcn := HCN.out
        cases m
        · simp only [Bool.false_or]
          rw [Bool.eq_iff_iff]
          simp only [Bool.or_eq_true, decide_eq_true_eq]
          constructor <;> intro hh <;> first | rfl | trivial | contradiction | omega | trace_state
        · simp_all
  case done =>
    rintro D ys W hD rfl ⟨⟨hla, hch, hz⟩, hB⟩ hK
    rw [allP_walk] at hla
    rw [manyP_walk] at hch
    obtain ⟨m, hm⟩ : ∃ m, decide (262144 < t.count ∨ 900 < t.deep ∨ t.tags = true) = m := ⟨_, rfl⟩
    rw [hm] at hch
    have HR : Hid (checkP t = if m then 141 else 0) := by show _ = _; unfold checkP; rw [if_pos hla, ← hm]; simp
    clear hm hla
    obtain ⟨r1, r2, r3, f1, f2, f3⟩ := hch
    cases m
    · gi_wp2
      have hK' := (KeepsOthers.setCell W ⟨w.heap.size, 0, none⟩ (.int .i64 0)).same D _ hK rfl
      refine ⟨by simp, .inl ⟨_, _, rfl, run_takeDeferred hK', ?_⟩⟩
      have hc5 := cell_kept (World.cell?_setCell_same' W ⟨w.heap.size, 0, none⟩ (.int .i64 0) (by rw [r1]; rfl)) (grownBy_putObj' _ D (.deferred none)) (fun r e => by cases e; exact ⟨_, hK', rfl⟩)
      refine ⟨.int .i64 0, ?_, by rw [HR.out]; rfl, (hB.setCell (p := ⟨w.heap.size, 0, none⟩) (Nat.le_refl _) _).trans (belowK_b (w := w) (Nat.le_refl _) _ D _ _ (by omega) hK' rfl rfl)⟩
      simp [results, Tryz.f119, go_sem, hc5]
    · gi_wp2
      have hK' := (KeepsOthers.setCell W ⟨w.heap.size, 0, none⟩ (.int .i64 141)).same D _ hK rfl
      refine ⟨by simp, .inl ⟨_, _, rfl, run_takeDeferred hK', ?_⟩⟩
      have hc5 := cell_kept (World.cell?_setCell_same' W ⟨w.heap.size, 0, none⟩ (.int .i64 141) (by rw [r1]; rfl)) (grownBy_putObj' _ D (.deferred none)) (fun r e => by cases e; exact ⟨_, hK', rfl⟩)
      refine ⟨.int .i64 141, ?_, by rw [HR.out]; rfl, (hB.setCell (p := ⟨w.heap.size, 0, none⟩) (Nat.le_refl _) _).trans (belowK_b (w := w) (Nat.le_refl _) _ D _ _ (by omega) hK' rfl rfl)⟩
      simp [results, Tryz.f119, go_sem, hc5]
  case stop =>
    rintro D c pre W hD hpre ⟨⟨rfl, hla, hc2⟩, hB⟩ hK
    have hall : t.all = false := by
      rw [← allP_walk t 1]
      obtain ⟨z, hz⟩ := hpre
      unfold allP at hla ⊢
      rw [← hz, List.all_append, hla]
      rfl
    have HR : Hid (checkP t = 2) := by show _ = _; unfold checkP; rw [hall]; rfl
    clear hall hla hpre
    gi_wp2
    refine ⟨by simp, .inl ⟨_, _, rfl, run_takeDeferred hK, ?_⟩⟩
    have hc5 := cell_kept hc2 (grownBy_putObj' _ D (.deferred none)) (fun r e => by cases e; exact ⟨_, hK, rfl⟩)
    refine ⟨.int .i64 2, ?_, by rw [HR.out], hB.trans (belowK_b (w := w) (Nat.le_refl _) W D _ _ (by omega) hK rfl rfl)⟩
    simp [results, Tryz.f119, go_sem, hc5]
end Go.Proofs.YtepbjkkakfpjgaaGreatDoor.Instr

namespace Go.Proofs.YtepbjkkakfpjgaaGreatDoor.Mod
open Go.RowKit Go.Proofs.YtepbjkkakfpjgaaGreatDoor.Instr

def smallI : Ix := ⟨65, 0, 0, 0, 1, [], none, 0, none, 0, 0, none, 0, 0⟩
def sHost : ByteArray := ⟨#[104, 111, 115, 116]⟩
def sF : ByteArray := ⟨#[102]⟩
def sRun : ByteArray := ⟨#[114, 117, 110]⟩
def smallL (g : Nat) : Lst := ⟨some ⟨g + 1 + 1 + 1, 0, none⟩, 1, .cons smallI .nil .nil .nil⟩
def smallM (g : Nat) : Md where
  ty := [(0, 1), (2, 0)]
  im := [⟨sHost, sF, 1⟩]
  fu := [⟨0, 0, smallL g⟩]
  tb := []
  me := []
  gl := []
  ex := [⟨sRun, 0, 1⟩]
  st := false
  sn := 0
  el := []
  da := []
  ty' := ⟨some ⟨g + 1, 0, none⟩, 2⟩
  im' := ⟨some ⟨g + 1 + 1, 0, none⟩, 1⟩
  fu' := ⟨some ⟨g + 1 + 1 + 1 + 1, 0, none⟩, 1⟩
  tb' := ⟨none, 0⟩
  me' := ⟨none, 0⟩
  gl' := ⟨none, 0⟩
  ex' := ⟨some ⟨g + 1 + 1 + 1 + 1 + 1, 0, none⟩, 1⟩
  el' := ⟨none, 0⟩
  da' := ⟨none, 0⟩
theorem small_few (g : Nat) : (smallM g).few := by
  have hc : ∀ l ∈ (smallM g).codes, l = smallL g := by simp [smallM, Md.codes]
  refine ⟨⟨by simp [smallM], by simp [smallM], by simp [smallM], by simp [smallM], by simp [smallM], by simp [smallM], by simp [smallM], by simp [smallM], by simp [smallM], fun l hl => by rw [hc l hl]; simp [smallL, Il.len], by simp [smallM], by simp [smallM], fun i hi => ?_, fun e he => ?_⟩, fun l hl => by rw [hc l hl]; simp [smallL, Il.count], by simp [smallM]⟩
  · simp only [smallM, List.mem_singleton] at hi; subst hi; decide
  · simp only [smallM, List.mem_singleton] at he; subst he; decide
theorem small_at {g : Nat} {W : World} (h1 : ∀ (j : Nat) (v : Value), (#[.int .i64 0, .int .i64 1, .int .i64 2, .int .i64 0] : Array Value)[j]? = some v → W.cell? ⟨g + 1, j, none⟩ = some v)
    (h2 : ∀ (j : Nat) (v : Value), (#[.string sHost, .string sF, .int .i64 1] : Array Value)[j]? = some v → W.cell? ⟨g + 1 + 1, j, none⟩ = some v)
    (h3 : ∀ (j : Nat) (v : Value), (#[.int .i64 65, .int .i64 0, .int .u32 0, .int .u32 0, .int .i32 1, .slice none 0 0, .slice none 0 0, .slice none 0 0] : Array Value)[j]? = some v → W.cell? ⟨g + 1 + 1 + 1, j, none⟩ = some v)
    (h4 : ∀ (j : Nat) (v : Value), (#[.int .i64 0, .int .i64 0, .slice (some ⟨g + 1 + 1 + 1, 0, none⟩) 1 1] : Array Value)[j]? = some v → W.cell? ⟨g + 1 + 1 + 1 + 1, j, none⟩ = some v)
    (h5 : ∀ (j : Nat) (v : Value), (#[.string sRun, .int .i64 0, .int .u32 1] : Array Value)[j]? = some v → W.cell? ⟨g + 1 + 1 + 1 + 1 + 1, j, none⟩ = some v) (hs : g + 6 ≤ W.heap.size) : ModAt W.heap.size W (smallM g) := by
  have one : ∀ (b sz : Nat) (l : List Value), b < W.heap.size → (∀ (j : Nat) (v : Value), l[j]? = some v → W.cell? ⟨b, j, none⟩ = some v) → Rows W.heap.size W (some ⟨b, 0, none⟩) sz [l] := fun b sz l hb h =>
    .inr ⟨b, 0, rfl, hb, fun i hi j hj v hv => by
      obtain rfl : i = 0 := by simpa using hi
      have := h j v (by simpa using hv)
      simpa using this⟩
  have hc : ∀ l ∈ (smallM g).codes, l = smallL g := by simp [smallM, Md.codes]
  refine ⟨.inr ⟨g + 1, 0, rfl, by omega, fun i hi j hj v hv => ?_⟩, one _ 3 _ (by omega) (fun j v hv => h2 j v (by simpa [Imp.v] using hv)), one _ 3 _ (by omega) (fun j v hv => h4 j v (by simpa [Fn.v, Lst.val, smallL, Il.len] using hv)), .inl rfl, .inl rfl, .inl rfl, one _ 3 _ (by omega) (fun j v hv => h5 j v (by simpa [Ex.v] using hv)), .inl rfl, .inl rfl,
    fun l hl => ?_, by simp [smallM], by simp [smallM]⟩
  · simp only [smallM, List.map_cons, List.map_nil, List.length_cons, List.length_nil] at hi hv
    have hi' : i = 0 ∨ i = 1 := by omega
    have hj' : j = 0 ∨ j = 1 := by omega
    rcases hi' with rfl | rfl <;> rcases hj' with rfl | rfl <;> simp [tyV] at hv <;> subst hv
    · exact h1 0 _ rfl
    · exact h1 1 _ rfl
    · exact h1 2 _ rfl
    · exact h1 3 _ rfl
  · rw [hc l hl]
    refine ⟨rfl, .inr ⟨g + 1 + 1 + 1, 0, rfl, by omega, ?_, ⟨h3 0 _ rfl, h3 1 _ rfl, h3 2 _ rfl, h3 3 _ rfl, h3 4 _ rfl, h3 5 _ rfl, h3 6 _ rfl, h3 7 _ rfl⟩, .inl rfl, ⟨rfl, .inl rfl⟩, ⟨rfl, .inl rfl⟩, trivial⟩⟩
    constructor <;> simp [smallI]
theorem chain6 (w : World) (A B C D E F : Array Value) (a b c d e f : TypeId) :
    (BoxAt ((((((w.alloc (.cells A a)).alloc (.cells B b)).alloc (.cells C c)).alloc (.cells D d)).alloc (.cells E e)).alloc (.cells F f)) w.heap.size A ∧ BoxAt ((((((w.alloc (.cells A a)).alloc (.cells B b)).alloc (.cells C c)).alloc (.cells D d)).alloc (.cells E e)).alloc (.cells F f)) (w.heap.size + 1) B ∧
      BoxAt ((((((w.alloc (.cells A a)).alloc (.cells B b)).alloc (.cells C c)).alloc (.cells D d)).alloc (.cells E e)).alloc (.cells F f)) (w.heap.size + 1 + 1) C ∧ BoxAt ((((((w.alloc (.cells A a)).alloc (.cells B b)).alloc (.cells C c)).alloc (.cells D d)).alloc (.cells E e)).alloc (.cells F f)) (w.heap.size + 1 + 1 + 1) D ∧
      BoxAt ((((((w.alloc (.cells A a)).alloc (.cells B b)).alloc (.cells C c)).alloc (.cells D d)).alloc (.cells E e)).alloc (.cells F f)) (w.heap.size + 1 + 1 + 1 + 1) E ∧ BoxAt ((((((w.alloc (.cells A a)).alloc (.cells B b)).alloc (.cells C c)).alloc (.cells D d)).alloc (.cells E e)).alloc (.cells F f)) (w.heap.size + 1 + 1 + 1 + 1 + 1) F) ∧
    ((((((w.alloc (.cells A a)).alloc (.cells B b)).alloc (.cells C c)).alloc (.cells D d)).alloc (.cells E e)).alloc (.cells F f)).heap.size = w.heap.size + 6 ∧
    Below w.heap.size w ((((((w.alloc (.cells A a)).alloc (.cells B b)).alloc (.cells C c)).alloc (.cells D d)).alloc (.cells E e)).alloc (.cells F f)) := by
  refine ⟨⟨?_, ?_, ?_, ?_, ?_, ?_⟩, by simp, thenA (thenA (thenA (thenA (thenA (thenA (Below.refl _ _) _) _) _) _) _) _⟩ <;> (intro j x h; simp [go_sem, h])
set_option maxHeartbeats 1000000 in
theorem small_any (w : World) : Calls Tryz.prog 84 #[] w fun e w' => e = .returned (.agg (smallM w.heap.size).v) ∧ ModAt w'.heap.size w' (smallM w.heap.size) ∧ Below w.heap.size w w' := by
  go_enter Tryz.func84, Tryz.ntmps84
  go_wp2
  obtain ⟨⟨b0, b1, b2, b3, b4, b5⟩, hs, hB⟩ := chain6 w #[.slice (some ⟨w.heap.size + 1, 0, none⟩) 2 2, .slice (some ⟨w.heap.size + 1 + 1, 0, none⟩) 1 1, .slice (some ⟨w.heap.size + 1 + 1 + 1 + 1, 0, none⟩) 1 1, .slice none 0 0, .slice none 0 0, .slice none 0 0, .slice (some ⟨w.heap.size + 1 + 1 + 1 + 1 + 1, 0, none⟩) 1 1, .bool false, .int .u32 0, .slice none 0 0, .slice none 0 0]
    #[.int .i64 0, .int .i64 1, .int .i64 2, .int .i64 0] #[.string ⟨#[104, 111, 115, 116]⟩, .string ⟨#[102]⟩, .int .i64 1] #[.int .i64 65, .int .i64 0, .int .u32 0, .int .u32 0, .int .i32 1, .slice none 0 0, .slice none 0 0, .slice none 0 0]
    #[.int .i64 0, .int .i64 0, .slice (some ⟨w.heap.size + 1 + 1 + 1, 0, none⟩) 1 1] #[.string ⟨#[114, 117, 110]⟩, .int .i64 0, .int .u32 1] 32 50 73 126 66 75
  have A := small_at b1 b2 b3 b4 b5 (by omega)
  refine bodyPost_ret (v := .agg (smallM w.heap.size).v) (by simp [results, Tryz.results84, go_sem, smallM, Md.v, smallL]) rfl ⟨rfl, A, hB⟩
end Go.Proofs.YtepbjkkakfpjgaaGreatDoor.Mod
