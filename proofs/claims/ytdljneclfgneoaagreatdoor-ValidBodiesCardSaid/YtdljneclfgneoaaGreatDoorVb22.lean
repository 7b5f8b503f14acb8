import Derived.Test.YtdljneclfgneoaaGreatDoorVb21
namespace Go.Proofs.YtdljneclfgneoaaGreatDoor.Instr
end Go.Proofs.YtdljneclfgneoaaGreatDoor.Instr
namespace Go.Proofs.YtdljneclfgneoaaGreatDoor.Mod
end Go.Proofs.YtdljneclfgneoaaGreatDoor.Mod
namespace Go.Proofs.YtdljneclfgneoaaGreatDoor.Val
open Go.RowKit Go.Shelf Go.Proofs.YtdljneclfgneoaaGreatDoor.Instr Go.Proofs.YtdljneclfgneoaaGreatDoor.Mod
set_option linter.unusedVariables false

/-- A function's own two boxes: the module, and what it tells. -/
structure SX (m : Md) (w wr : World) : Prop where
  bx : BoxAt wr w.heap.size m.v
  rs : Bx4 wr (w.heap.size + 1) ⟨0, 0, 0, 0⟩
  bl : Below w.heap.size w wr
theorem SX.on {m : Md} {w wr w2 : World} (h : SX m w wr) (hb : Below wr.heap.size wr w2) : SX m w w2 := ⟨h.bx.keep hb, h.rs.on hb, thenB h.bl hb⟩
theorem SX.dr {m : Md} {w wr : World} (h : SX m w wr) : SX m w wr.drew := ⟨h.bx, h.rs, ⟨h.bl.os, h.bl.tape, h.bl.output, h.bl.size, h.bl.block⟩⟩
theorem SX.drN {m : Md} {w wr : World} (h : SX m w wr) (n : Nat) : SX m w (wr.drewN n) := ⟨h.bx, h.rs, ⟨h.bl.os, h.bl.tape, h.bl.output, h.bl.size, h.bl.block⟩⟩
theorem SX.start (m : Md) (w : World) : SX m w ((w.alloc (.cells m.v 40)).alloc (.cells #[.int .i64 0, .int .i64 0, .int .i64 0, .int .i64 0] 120)) := by
  refine ⟨(BoxAt.made w m.v _).keep (belowAlloc _ _), ?_, thenA (belowAlloc w _) _⟩
  have := heap_alloc_new (w.alloc (.cells m.v 40)) (.cells #[.int .i64 0, .int .i64 0, .int .i64 0, .int .i64 0] 120)
  rw [World.size_alloc] at this
  exact this
theorem SX.tell {m : Md} {w wr : World} (h : SX m w wr) (x y z t : Int) : Bx4 ((((wr.setCell ⟨w.heap.size + 1, 0, none⟩ (.int .i64 x)).setCell ⟨w.heap.size + 1, 1, none⟩ (.int .i64 y)).setCell ⟨w.heap.size + 1, 2, none⟩ (.int .i64 z)).setCell ⟨w.heap.size + 1, 3, none⟩ (.int .i64 t)) (w.heap.size + 1) ⟨x, y, z, t⟩ ∧
    Below w.heap.size w ((((wr.setCell ⟨w.heap.size + 1, 0, none⟩ (.int .i64 x)).setCell ⟨w.heap.size + 1, 1, none⟩ (.int .i64 y)).setCell ⟨w.heap.size + 1, 2, none⟩ (.int .i64 z)).setCell ⟨w.heap.size + 1, 3, none⟩ (.int .i64 t)) :=
  ⟨h.rs.set x y z t, (((h.bl.setCell (p := ⟨w.heap.size + 1, 0, none⟩) (by simp) _).setCell (p := ⟨w.heap.size + 1, 1, none⟩) (by simp) _).setCell (p := ⟨w.heap.size + 1, 2, none⟩) (by simp) _).setCell (p := ⟨w.heap.size + 1, 3, none⟩) (by simp) _⟩
theorem scanI_at {m : Md} {j k n : Nat} (h : k < n) : scanI m j k (n - k) = if (secE m j k).1 = 0 then scanI m j (k + 1) (n - (k + 1)) else some ⟨(secE m j k).1, secN j, k, (secE m j k).2⟩ := by
  have e : n - k = (n - (k + 1)) + 1 := by omega
  rw [e, scanI]
set_option maxHeartbeats 1000000 in
theorem wrong_R (e s i a : Int) (w : World) : Calls Tryz.prog 198 #[.int .i64 e, .int .i64 s, .int .i64 i, .int .i64 a] w fun en w' => en = .returned (.agg #[.int .i64 e, .int .i64 s, .int .i64 i, .int .i64 a]) ∧ Below w.heap.size w w' := by
  have hb := belowAlloc w (.cells #[.int .i64 e, .int .i64 s, .int .i64 i, .int .i64 a] 120)
  have hr := heap_alloc_new w (.cells #[.int .i64 e, .int .i64 s, .int .i64 i, .int .i64 a] 120)
  have HB := hid hb
  have HR := hid (show Bx4 (w.alloc (.cells #[.int .i64 e, .int .i64 s, .int .i64 i, .int .i64 a] 120)) w.heap.size ⟨e, s, i, a⟩ from hr)
  clear hb hr
  go_enter Tryz.func198, Tryz.ntmps198
  go_wp2
  exact bodyPost_ret (results_w Tryz.results198 _ _ w.heap.size rfl HR.out) rfl ⟨rfl, HB.out⟩
set_option maxHeartbeats 1000000 in
theorem typed_R (m : Md) (n : Int) (w : World) (hn : 0 ≤ n) : Calls Tryz.prog 95 #[.agg m.v, .int .i64 n] w fun e w' => e = .returned (.bool (decide (n < (m.ty.length : Int)))) ∧ Below w.heap.size w w' := by
  have HB := hid (belowAlloc w (.cells m.v 40))
  have hx := BoxAt.made w m.v 40
  unfold Md.v at hx HB ⊢
  have c0 := hx 0 _ rfl
  clear hx
  generalize m.ty.length = N at *
  by_cases h : n < (N : Int)
  · rw [decide_eq_true h]
    go_enter Tryz.func95, Tryz.ntmps95
    go_wp2
    go_ret
    exact ⟨rfl, HB.out⟩
  · rw [decide_eq_false h]
    go_enter Tryz.func95, Tryz.ntmps95
    go_wp2
    go_ret
    exact ⟨rfl, HB.out⟩
set_option maxRecDepth 100000 in
set_option maxHeartbeats 8000000 in
theorem heads_R (m : Md) (w : World) (hm : ModAt w.heap.size w m) (hf : m.few) (hF : Fine m) : Calls Tryz.prog 98 #[.agg m.v] w fun e w' => e = .returned (.agg ((scanS m 0 3).getD ⟨0, 0, 0, 0⟩).v) ∧ Below w.heap.size w w' := by
  have HM := hid hm
  have HF := hid hf
  have HFI := hid hF
  obtain ⟨W0, hW0⟩ : ∃ W0, W0 = ((w.alloc (.cells m.v 40)).alloc (.cells #[.int .i64 0, .int .i64 0, .int .i64 0, .int .i64 0] 120)) := ⟨_, rfl⟩
  have HX : Hid (SX m w W0) := hid (by rw [hW0]; exact SX.start m w)
  have HW := hid hW0
  obtain ⟨RV, hRV⟩ : ∃ r, (scanS m 0 3).getD ⟨0, 0, 0, 0⟩ = r := ⟨_, rfl⟩
  rw [hRV]
  have HSEC := hid hRV.symm
  have hfim := hf.fit.im
  have hffu := hf.fit.fu
  have hfgl := hf.fit.gl
  have hfda := hf.fit.da
  clear hm hf hF hW0 hRV
  unfold Md.v at HW
  have hxx := HX.out.bx
  unfold Md.v at hxx ⊢
  obtain ⟨n0, n1, n2, n3, n4, n5, n6, n7, n8, n9, n10⟩ := BoxAt.mod hxx
  clear hxx
  go_enter Tryz.func98, Tryz.ntmps98
  go_upto_region 1 with fail
  rw [← HW.out]
  clear HW
  go_wp2
  go_loopw [3] (fun vi wr => ∃ k : Nat, vi = .int .i64 k ∧ k ≤ m.im.length ∧ Hid (SX m w wr) ∧ Hid (scanI m 0 0 m.im.length = scanI m 0 k (m.im.length - k))) (fun vi _ => m.im.length - (intOf vi).toNat)
  case atStart => exact ⟨0, rfl, Nat.zero_le _, HX, rfl⟩
  case round =>
    clear HX n0 n1 n2 n3 n4 n5 n6 n7 n8 n9 n10
    obtain ⟨k, rfl, hk, HX, HS⟩ := hrel
    have hxx := HX.out.bx
    unfold Md.v at hxx
    obtain ⟨n0, n1, n2, n3, n4, n5, n6, n7, n8, n9, n10⟩ := BoxAt.mod hxx
    clear hxx
    by_cases hlt : k < m.im.length
    · have hki : (k : Int) < (m.im.length : Int) := by omega
      have hfl := HF.out.fit.im
      obtain ⟨b, off, ha, hbn, hc⟩ := Rows.get (HM.out.below HX.out.bl).im hlt
      have hat : imAt m k = m.im[k] := by unfold imAt; simp [hlt]
      have c2 : wr.cell? ⟨b, off + k * 3 + 2, none⟩ = some (.int .i64 (imAt m k).ty) := by rw [hat]; exact hc 2 (by omega) _ rfl
      have hty : 0 ≤ (imAt m k).ty := by rw [hat]; exact HFI.out.imt _ (List.getElem_mem hlt)
      have CC := hid (typed_R m (imAt m k).ty wr.drew hty)
      unfold Md.v at CC
      rw [ha] at n1 CC
      have HSK := hid (scanI_at (m := m) (j := 0) hlt)
      have HSE := hid (show (secE m 0 k).1 = typeEP m (imAt m k).ty ∧ (secE m 0 k).2 = 0 from ⟨rfl, rfl⟩)
      unfold typeEP at HSE
      generalize (imAt m k).ty = ty at *
      have HX1 := hid HX.out.dr
      clear hc hat hbn ha hty hlt hk
      by_cases ht : ty < (m.ty.length : Int)
      · rw [decide_eq_true ht] at CC
        have HSN := hid (show scanI m 0 0 m.im.length = scanI m 0 (k + 1) (m.im.length - (k + 1)) by rw [HS.out, HSK.out, if_pos (by rw [HSE.out.1, if_neg (by omega)])])
        clear ht HSE HSK HS
        go_upto_region 4 with fail
        go_still_tail 7, (by kernel_rfl)
        change wpList _ _ _ _ _ wr.drew
        go_wp2_with fail
        refine CC.out.mono ?_
        rintro e w1 ⟨rfl, hb1⟩
        have HX2 := hid (HX1.out.on hb1)
        clear CC HX HX1 hb1 c2 n0 n1 n2 n3 n4 n5 n6 n7 n8 n9 n10
        go_wp2
        go_roundw
        case rel => exact ⟨k + 1, by go_num, by omega, HX2, HSN⟩
        case measure => simp [intOf]; omega
      · rw [decide_eq_false ht] at CC
        have HSN := hid (show scanI m 0 0 m.im.length = some ⟨6, 2, k, 0⟩ by rw [HS.out, HSK.out, if_neg (by rw [HSE.out.1, if_pos (by omega)]; decide), HSE.out.1, HSE.out.2, if_pos (by omega)]; rfl)
        have HRV := hid (show RV = ⟨6, 2, k, 0⟩ by rw [HSEC.out, scanS_hit (show scanI m 0 0 (secL m 0) = some ⟨6, 2, k, 0⟩ from HSN.out)]; rfl)
        clear ht HSE HSK HS
        go_upto_region 4 with fail
        go_still_tail 7, (by kernel_rfl)
        change wpList _ _ _ _ _ wr.drew
        go_wp2_with fail
        refine CC.out.mono ?_
        rintro e w1 ⟨rfl, hb1⟩
        have HX2 := hid (HX1.out.on hb1)
        clear CC HX HX1 hb1 c2 n0 n1 n2 n3 n4 n5 n6 n7 n8 n9 n10
        go_wp2_with fail
        refine (wrong_R 6 2 k 0 w1).mono ?_
        rintro e w2 ⟨rfl, hb2⟩
        have HX3 := hid (HX2.out.on hb2)
        clear HX2 hb2
        obtain ⟨r0, r1, r2, r3, s0, s1, s2, s3⟩ := HX3.out.rs.c
        go_wp2
        obtain ⟨q1, q2⟩ := HX3.out.tell 6 2 k 0
        exact bodyPost_ret (results_w Tryz.results98 _ _ (w.heap.size + 1) rfl q1) rfl ⟨by rw [HRV.out], q2⟩
    · have hkn : k = m.im.length := by omega
      subst hkn
      have HSN := hid (show scanI m 0 0 m.im.length = none by rw [HS.out, Nat.sub_self]; rfl)
      have HSEC := hid (show RV = (scanS m 1 2).getD ⟨0, 0, 0, 0⟩ by rw [HSEC.out, scanS_miss (show scanI m 0 0 (secL m 0) = none from HSN.out)])
      clear HS HSN hk hlt
      go_wp2
      go_loopw [4] (fun vi wr => ∃ k : Nat, vi = .int .i64 k ∧ k ≤ m.fu.length ∧ Hid (SX m w wr) ∧ Hid (scanI m 1 0 m.fu.length = scanI m 1 k (m.fu.length - k))) (fun vi _ => m.fu.length - (intOf vi).toNat)
      case atStart => exact ⟨0, rfl, Nat.zero_le _, HX, rfl⟩
      case round =>
        clear HX n0 n1 n2 n3 n4 n5 n6 n7 n8 n9 n10
        obtain ⟨k, rfl, hk, HX, HS⟩ := hrel
        have hxx := HX.out.bx
        unfold Md.v at hxx
        obtain ⟨n0, n1, n2, n3, n4, n5, n6, n7, n8, n9, n10⟩ := BoxAt.mod hxx
        clear hxx
        by_cases hlt : k < m.fu.length
        · have hki : (k : Int) < (m.fu.length : Int) := by omega
          have hfl := HF.out.fit.fu
          obtain ⟨b, off, ha, hbn, hc⟩ := Rows.get (HM.out.below HX.out.bl).fu hlt
          have hat : fuAt m k = m.fu[k] := by unfold fuAt; simp [hlt]
          have c2 : wr.cell? ⟨b, off + k * 3, none⟩ = some (.int .i64 (fuAt m k).ty) := by rw [hat]; exact hc 0 (by omega) _ rfl
          have hty : 0 ≤ (fuAt m k).ty := by rw [hat]; exact HFI.out.ty _ (List.getElem_mem hlt)
          have CC := hid (typed_R m (fuAt m k).ty wr.drew hty)
          unfold Md.v at CC
          rw [ha] at n2 CC
          have HSK := hid (scanI_at (m := m) (j := 1) hlt)
          have HSE := hid (show (secE m 1 k).1 = typeEP m (fuAt m k).ty ∧ (secE m 1 k).2 = 0 from ⟨rfl, rfl⟩)
          unfold typeEP at HSE
          generalize (fuAt m k).ty = ty at *
          have HX1 := hid HX.out.dr
          clear hc hat hbn ha hty hlt hk
          by_cases ht : ty < (m.ty.length : Int)
          · rw [decide_eq_true ht] at CC
            have HSN := hid (show scanI m 1 0 m.fu.length = scanI m 1 (k + 1) (m.fu.length - (k + 1)) by rw [HS.out, HSK.out, if_pos (by rw [HSE.out.1, if_neg (by omega)])])
            clear ht HSE HSK HS
            go_upto_region 9 with fail
            go_still_tail 7, (by kernel_rfl)
            change wpList _ _ _ _ _ wr.drew
            go_wp2_with fail
            refine CC.out.mono ?_
            rintro e w1 ⟨rfl, hb1⟩
            have HX2 := hid (HX1.out.on hb1)
            clear CC HX HX1 hb1 c2 n0 n1 n2 n3 n4 n5 n6 n7 n8 n9 n10
            go_wp2
            go_roundw
            case rel => exact ⟨k + 1, by go_num, by omega, HX2, HSN⟩
            case measure => simp [intOf]; omega
          · rw [decide_eq_false ht] at CC
            have HSN := hid (show scanI m 1 0 m.fu.length = some ⟨6, 3, k, 0⟩ by rw [HS.out, HSK.out, if_neg (by rw [HSE.out.1, if_pos (by omega)]; decide), HSE.out.1, HSE.out.2, if_pos (by omega)]; rfl)
            have HRV := hid (show RV = ⟨6, 3, k, 0⟩ by rw [HSEC.out, scanS_hit (show scanI m 1 0 (secL m 1) = some ⟨6, 3, k, 0⟩ from HSN.out)]; rfl)
            clear ht HSE HSK HS
            go_upto_region 9 with fail
            go_still_tail 7, (by kernel_rfl)
            change wpList _ _ _ _ _ wr.drew
            go_wp2_with fail
            refine CC.out.mono ?_
            rintro e w1 ⟨rfl, hb1⟩
            have HX2 := hid (HX1.out.on hb1)
            clear CC HX HX1 hb1 c2 n0 n1 n2 n3 n4 n5 n6 n7 n8 n9 n10
            go_wp2_with fail
            refine (wrong_R 6 3 k 0 w1).mono ?_
            rintro e w2 ⟨rfl, hb2⟩
            have HX3 := hid (HX2.out.on hb2)
            clear HX2 hb2
            obtain ⟨r0, r1, r2, r3, s0, s1, s2, s3⟩ := HX3.out.rs.c
            go_wp2
            obtain ⟨q1, q2⟩ := HX3.out.tell 6 3 k 0
            exact bodyPost_ret (results_w Tryz.results98 _ _ (w.heap.size + 1) rfl q1) rfl ⟨by rw [HRV.out], q2⟩
        · have hkn : k = m.fu.length := by omega
          subst hkn
          have HSN := hid (show scanI m 1 0 m.fu.length = none by rw [HS.out, Nat.sub_self]; rfl)
          have HSEC := hid (show RV = (scanS m 2 1).getD ⟨0, 0, 0, 0⟩ by rw [HSEC.out, scanS_miss (show scanI m 1 0 (secL m 1) = none from HSN.out)])
          clear HS HSN hk hlt
          go_wp2
          go_loopw [5] (fun vi wr => ∃ k : Nat, vi = .int .i64 k ∧ k ≤ m.gl.length ∧ Hid (SX m w wr) ∧ Hid (scanI m 2 0 m.gl.length = scanI m 2 k (m.gl.length - k))) (fun vi _ => m.gl.length - (intOf vi).toNat)
          case atStart => exact ⟨0, rfl, Nat.zero_le _, HX, rfl⟩
          case round =>
            clear HX n0 n1 n2 n3 n4 n5 n6 n7 n8 n9 n10
            obtain ⟨k, rfl, hk, HX, HS⟩ := hrel
            have hxx := HX.out.bx
            unfold Md.v at hxx
            obtain ⟨n0, n1, n2, n3, n4, n5, n6, n7, n8, n9, n10⟩ := BoxAt.mod hxx
            clear hxx
            by_cases hlt : k < m.gl.length
            · have hki : (k : Int) < (m.gl.length : Int) := by omega
              have hfl := HF.out.fit.gl
              obtain ⟨b, off, ha, hbn, hc⟩ := Rows.get (HM.out.below HX.out.bl).gl hlt
              have hat : glAt m k = m.gl[k] := by unfold glAt; simp [hlt]
              have c2 : wr.cell? ⟨b, off + k * 2 + 1, none⟩ = some (glAt m k).l.val := by rw [hat]; exact hc 1 (by omega) _ rfl
              have hcs : (glAt m k).l ∈ m.codes := by rw [hat]; unfold Md.codes; exact List.mem_append_right _ (List.mem_append_left _ (List.mem_map.2 ⟨_, List.getElem_mem hlt, rfl⟩))
              have hls := HM.out.ls _ hcs
              rw [ha] at n5
              have CC := hid (refConst_m (glAt m k).l.t (glAt m k).l.a (glAt m k).l.t.len (glAt m k).l.c wr ((hls.below HX.out.bl).more HX.out.bl.size) (HF.out.fit.ls _ hcs) (by have := HF.out.cs _ hcs; omega))
              have HSK := hid (scanI_at (m := m) (j := 2) hlt)
              have HSE := hid (show (secE m 2 k).1 = (constP (glAt m k).l.t).2 ∧ (secE m 2 k).2 = 0 from ⟨rfl, rfl⟩)
              generalize (glAt m k).l = L at *
              obtain ⟨la, lc, lt⟩ := L
              dsimp only [Lst.val] at c2 CC HSE
              obtain ⟨⟨cv, ce⟩, hcv⟩ : ∃ q, constP lt = q := ⟨_, rfl⟩
              rw [hcv] at CC HSE
              dsimp only at CC HSE
              generalize lt.len = N at *
              clear hc hat hbn ha hcs hls hcv hlt hk
              by_cases hz : ce = 0
              · subst hz
                have HSN := hid (show scanI m 2 0 m.gl.length = scanI m 2 (k + 1) (m.gl.length - (k + 1)) by rw [HS.out, HSK.out, if_pos HSE.out.1])
                clear HSE HSK HS
                go_wp2_with fail
                refine CC.out.mono ?_
                rintro e w1 ⟨rfl, hb1⟩
                have HX2 := hid (HX.out.on hb1)
                clear CC HX hb1 c2 n0 n1 n2 n3 n4 n5 n6 n7 n8 n9 n10
                go_wp2
                go_roundw
                case rel => exact ⟨k + 1, by go_num, by omega, HX2, HSN⟩
                case measure => simp [intOf]; omega
              · have HSN := hid (show scanI m 2 0 m.gl.length = some ⟨ce, 6, k, 0⟩ by rw [HS.out, HSK.out, if_neg (by rw [HSE.out.1]; exact hz), HSE.out.1, HSE.out.2]; rfl)
                have HRV := hid (show RV = ⟨ce, 6, k, 0⟩ by rw [HSEC.out, scanS_hit (show scanI m 2 0 (secL m 2) = some ⟨ce, 6, k, 0⟩ from HSN.out)]; rfl)
                have hne : (ce != 0) = true := by simpa using hz
                clear HSE HSK HS hz
                go_wp2_with fail
                refine CC.out.mono ?_
                rintro e w1 ⟨rfl, hb1⟩
                have HX2 := hid (HX.out.on hb1)
                clear CC HX hb1 c2 n0 n1 n2 n3 n4 n5 n6 n7 n8 n9 n10
                go_wp2_with fail
                refine (wrong_R ce 6 k 0 w1).mono ?_
                rintro e w2 ⟨rfl, hb2⟩
                have HX3 := hid (HX2.out.on hb2)
                clear HX2 hb2
                obtain ⟨r0, r1, r2, r3, s0, s1, s2, s3⟩ := HX3.out.rs.c
                go_wp2
                obtain ⟨q1, q2⟩ := HX3.out.tell ce 6 k 0
                exact bodyPost_ret (results_w Tryz.results98 _ _ (w.heap.size + 1) rfl q1) rfl ⟨by rw [HRV.out], q2⟩
            · have hkn : k = m.gl.length := by omega
              subst hkn
              have HSN := hid (show scanI m 2 0 m.gl.length = none by rw [HS.out, Nat.sub_self]; rfl)
              have HRV := hid (show RV = ⟨0, 0, 0, 0⟩ by rw [HSEC.out, scanS_miss (show scanI m 2 0 (secL m 2) = none from HSN.out)]; rfl)
              clear HS HSN hk hlt
              obtain ⟨r0, r1, r2, r3, s0, s1, s2, s3⟩ := HX.out.rs.c
              go_wp2
              obtain ⟨q1, q2⟩ := HX.out.tell 0 0 0 0
              exact bodyPost_ret (results_w Tryz.results98 _ _ (w.heap.size + 1) rfl q1) rfl ⟨by rw [HRV.out], q2⟩
set_option maxRecDepth 100000 in
set_option maxHeartbeats 8000000 in
theorem rest_R (m : Md) (w : World) (hm : ModAt w.heap.size w m) (hf : m.few) (hF : Fine m) (hnn : ∀ l ∈ m.codes, nonneg l.t) (hty : ∀ k, k < m.fu.length → (fuAt m k).ty < (m.ty.length : Int)) : Calls Tryz.prog 101 #[.agg m.v] w fun e w' => e = .returned (.agg ((scanS m 6 2).getD ⟨0, 0, 0, 0⟩).v) ∧ Below w.heap.size w w' := by
  have HM := hid hm
  have HF := hid hf
  have HFI := hid hF
  have HNN := hid hnn
  have HTY := hid hty
  obtain ⟨W0, hW0⟩ : ∃ W0, W0 = ((w.alloc (.cells m.v 40)).alloc (.cells #[.int .i64 0, .int .i64 0, .int .i64 0, .int .i64 0] 120)) := ⟨_, rfl⟩
  have HX : Hid (SX m w W0) := hid (by rw [hW0]; exact SX.start m w)
  have HW := hid hW0
  obtain ⟨RV, hRV⟩ : ∃ r, (scanS m 6 2).getD ⟨0, 0, 0, 0⟩ = r := ⟨_, rfl⟩
  rw [hRV]
  have HSEC := hid hRV.symm
  have hfim := hf.fit.im
  have hffu := hf.fit.fu
  have hfgl := hf.fit.gl
  have hfda := hf.fit.da
  clear hm hf hF hW0 hRV
  unfold Md.v at HW
  have hxx := HX.out.bx
  unfold Md.v at hxx ⊢
  obtain ⟨n0, n1, n2, n3, n4, n5, n6, n7, n8, n9, n10⟩ := BoxAt.mod hxx
  clear hxx
  go_enter Tryz.func101, Tryz.ntmps101
  go_upto_region 1 with fail
  rw [← HW.out]
  clear HW
  go_wp2
  go_loopw [3] (fun vi wr => ∃ k : Nat, vi = .int .i64 k ∧ k ≤ m.fu.length ∧ Hid (SX m w wr) ∧ Hid (scanI m 6 0 m.fu.length = scanI m 6 k (m.fu.length - k))) (fun vi _ => m.fu.length - (intOf vi).toNat)
  case atStart => exact ⟨0, rfl, Nat.zero_le _, HX, rfl⟩
  case round =>
    clear HX n0 n1 n2 n3 n4 n5 n6 n7 n8 n9 n10
    obtain ⟨k, rfl, hk, HX, HS⟩ := hrel
    have hxx := HX.out.bx
    unfold Md.v at hxx
    obtain ⟨n0, n1, n2, n3, n4, n5, n6, n7, n8, n9, n10⟩ := BoxAt.mod hxx
    clear hxx
    by_cases hlt : k < m.fu.length
    · have hki : (k : Int) < (m.fu.length : Int) := by omega
      have hfl := HF.out.fit.fu
      have CC := hid (bodyR_any m wr k (HM.out.on HX.out.bl) HF.out.fit HFI.out hlt (HTY.out k hlt))
      have hbp := bodyP_J HFI.out HNN.out hlt (HTY.out k hlt)
      have HSK := hid (scanI_at (m := m) (j := 6) hlt)
      have HSE := hid (show (secE m 6 k).1 = (Md.bodyJ m k).1 ∧ (secE m 6 k).2 = (Md.bodyJ m k).2 from ⟨congrArg Prod.fst hbp, congrArg Prod.snd hbp⟩)
      clear hbp
      obtain ⟨⟨ce, cv⟩, hcv⟩ : ∃ q, Md.bodyJ m k = q := ⟨_, rfl⟩
      rw [hcv] at CC HSE
      dsimp only at CC HSE
      unfold Md.v at CC
      clear hcv hlt hk
      by_cases hz : ce = 0
      · subst hz
        have HSN := hid (show scanI m 6 0 m.fu.length = scanI m 6 (k + 1) (m.fu.length - (k + 1)) by rw [HS.out, HSK.out, if_pos HSE.out.1])
        clear HSE HSK HS
        go_wp2_with fail
        refine CC.out.mono ?_
        rintro e w1 ⟨rfl, hb1⟩
        have HX2 := hid (HX.out.on hb1)
        clear CC HX hb1  n0 n1 n2 n3 n4 n5 n6 n7 n8 n9 n10
        go_wp2
        go_roundw
        case rel => exact ⟨k + 1, by go_num, by omega, HX2, HSN⟩
        case measure => simp [intOf]; omega
      · have HSN := hid (show scanI m 6 0 m.fu.length = some ⟨ce, 10, k, cv⟩ by rw [HS.out, HSK.out, if_neg (by rw [HSE.out.1]; exact hz), HSE.out.1, HSE.out.2]; rfl)
        have HRV := hid (show RV = ⟨ce, 10, k, cv⟩ by rw [HSEC.out, scanS_hit (show scanI m 6 0 (secL m 6) = some ⟨ce, 10, k, cv⟩ from HSN.out)]; rfl)
        have hne : (ce != 0) = true := by simpa using hz
        clear HSE HSK HS hz
        go_wp2_with fail
        refine CC.out.mono ?_
        rintro e w1 ⟨rfl, hb1⟩
        have HX2 := hid (HX.out.on hb1)
        clear CC HX hb1  n0 n1 n2 n3 n4 n5 n6 n7 n8 n9 n10
        go_wp2_with fail
        refine (wrong_R ce 10 k cv w1).mono ?_
        rintro e w2 ⟨rfl, hb2⟩
        have HX3 := hid (HX2.out.on hb2)
        clear HX2 hb2
        obtain ⟨r0, r1, r2, r3, s0, s1, s2, s3⟩ := HX3.out.rs.c
        go_wp2
        obtain ⟨q1, q2⟩ := HX3.out.tell ce 10 k cv
        exact bodyPost_ret (results_w Tryz.results101 _ _ (w.heap.size + 1) rfl q1) rfl ⟨by rw [HRV.out], q2⟩
    · have hkn : k = m.fu.length := by omega
      subst hkn
      have HSN := hid (show scanI m 6 0 m.fu.length = none by rw [HS.out, Nat.sub_self]; rfl)
      have HSEC := hid (show RV = (scanS m 7 1).getD ⟨0, 0, 0, 0⟩ by rw [HSEC.out, scanS_miss (show scanI m 6 0 (secL m 6) = none from HSN.out)])
      clear HS HSN hk hlt
      go_wp2
      go_loopw [6] (fun vi wr => ∃ k : Nat, vi = .int .i64 k ∧ k ≤ m.da.length ∧ Hid (SX m w wr) ∧ Hid (scanI m 7 0 m.da.length = scanI m 7 k (m.da.length - k))) (fun vi _ => m.da.length - (intOf vi).toNat)
      case atStart => exact ⟨0, rfl, Nat.zero_le _, HX, rfl⟩
      case round =>
        clear HX n0 n1 n2 n3 n4 n5 n6 n7 n8 n9 n10
        obtain ⟨k, rfl, hk, HX, HS⟩ := hrel
        have hxx := HX.out.bx
        unfold Md.v at hxx
        obtain ⟨n0, n1, n2, n3, n4, n5, n6, n7, n8, n9, n10⟩ := BoxAt.mod hxx
        clear hxx
        by_cases hlt : k < m.da.length
        · by_cases hme : m.me.length = 0
          · have HSK := hid (scanI_at (m := m) (j := 7) hlt)
            have HSE := hid (show (secE m 7 k).1 = 6 ∧ (secE m 7 k).2 = 0 from ⟨by show dataEP m (daAt m k).l.t = _; unfold dataEP; rw [if_pos hme], rfl⟩)
            have HSN := hid (show scanI m 7 0 m.da.length = some ⟨6, 11, k, 0⟩ by rw [HS.out, HSK.out, if_neg (by rw [HSE.out.1]; decide), HSE.out.1, HSE.out.2]; rfl)
            have HRV := hid (show RV = ⟨6, 11, k, 0⟩ by rw [HSEC.out, scanS_hit (show scanI m 7 0 (secL m 7) = some ⟨6, 11, k, 0⟩ from HSN.out)]; rfl)
            have hki : (k : Int) < (m.da.length : Int) := by omega
            rw [hme] at n4
            clear HSE HSK HS hme hlt hk
            go_wp2_with fail
            refine (wrong_R 6 11 k 0 wr).mono ?_
            rintro e w2 ⟨rfl, hb2⟩
            have HX3 := hid (HX.out.on hb2)
            clear HX hb2 n0 n1 n2 n3 n4 n5 n6 n7 n8 n9 n10
            obtain ⟨r0, r1, r2, r3, s0, s1, s2, s3⟩ := HX3.out.rs.c
            go_wp2
            obtain ⟨q1, q2⟩ := HX3.out.tell 6 11 k 0
            exact bodyPost_ret (results_w Tryz.results101 _ _ (w.heap.size + 1) rfl q1) rfl ⟨by rw [HRV.out], q2⟩
          · have hmi : ((m.me.length : Int) == 0) = false := by rw [beq_eq_false_iff_ne]; omega
            have hki : (k : Int) < (m.da.length : Int) := by omega
            have hfl := HF.out.fit.da
            obtain ⟨b, off, ha, hbn, hc⟩ := Rows.get (HM.out.below HX.out.bl).da hlt
            have hat : daAt m k = m.da[k] := by unfold daAt; simp [hlt]
            have c2 : wr.cell? ⟨b, off + k * 2, none⟩ = some (daAt m k).l.val := by rw [hat]; exact hc 0 (by omega) _ rfl
            have hcs : (daAt m k).l ∈ m.codes := by rw [hat]; unfold Md.codes; exact List.mem_append_right _ (List.mem_append_right _ (List.mem_append_right _ (List.mem_map.2 ⟨_, List.getElem_mem hlt, rfl⟩)))
            have hls := HM.out.ls _ hcs
            rw [ha] at n10
            have CC := hid (refConst_m (daAt m k).l.t (daAt m k).l.a (daAt m k).l.t.len (daAt m k).l.c wr ((hls.below HX.out.bl).more HX.out.bl.size) (HF.out.fit.ls _ hcs) (by have := HF.out.cs _ hcs; omega))
            have HSK := hid (scanI_at (m := m) (j := 7) hlt)
            have HSE := hid (show (secE m 7 k).1 = (constP (daAt m k).l.t).2 ∧ (secE m 7 k).2 = 0 from ⟨by show dataEP m (daAt m k).l.t = _; unfold dataEP; rw [if_neg hme], rfl⟩)
            generalize (daAt m k).l = L at *
            obtain ⟨la, lc, lt⟩ := L
            dsimp only [Lst.val] at c2 CC HSE
            obtain ⟨⟨cv, ce⟩, hcv⟩ : ∃ q, constP lt = q := ⟨_, rfl⟩
            rw [hcv] at CC HSE
            dsimp only at CC HSE
            generalize lt.len = N at *
            clear hc hat hbn ha hcs hls hcv hlt hk
            by_cases hz : ce = 0
            · subst hz
              have HSN := hid (show scanI m 7 0 m.da.length = scanI m 7 (k + 1) (m.da.length - (k + 1)) by rw [HS.out, HSK.out, if_pos HSE.out.1])
              clear HSE HSK HS
              go_wp2_with fail
              refine CC.out.mono ?_
              rintro e w1 ⟨rfl, hb1⟩
              have HX2 := hid (HX.out.on hb1)
              clear CC HX hb1 c2 n0 n1 n2 n3 n4 n5 n6 n7 n8 n9 n10
              go_wp2
              go_roundw
              case rel => exact ⟨k + 1, by go_num, by omega, HX2, HSN⟩
              case measure => simp [intOf]; omega
            · have HSN := hid (show scanI m 7 0 m.da.length = some ⟨ce, 11, k, 0⟩ by rw [HS.out, HSK.out, if_neg (by rw [HSE.out.1]; exact hz), HSE.out.1, HSE.out.2]; rfl)
              have HRV := hid (show RV = ⟨ce, 11, k, 0⟩ by rw [HSEC.out, scanS_hit (show scanI m 7 0 (secL m 7) = some ⟨ce, 11, k, 0⟩ from HSN.out)]; rfl)
              have hne : (ce != 0) = true := by simpa using hz
              clear HSE HSK HS hz
              go_wp2_with fail
              refine CC.out.mono ?_
              rintro e w1 ⟨rfl, hb1⟩
              have HX2 := hid (HX.out.on hb1)
              clear CC HX hb1 c2 n0 n1 n2 n3 n4 n5 n6 n7 n8 n9 n10
              go_wp2_with fail
              refine (wrong_R ce 11 k 0 w1).mono ?_
              rintro e w2 ⟨rfl, hb2⟩
              have HX3 := hid (HX2.out.on hb2)
              clear HX2 hb2
              obtain ⟨r0, r1, r2, r3, s0, s1, s2, s3⟩ := HX3.out.rs.c
              go_wp2
              obtain ⟨q1, q2⟩ := HX3.out.tell ce 11 k 0
              exact bodyPost_ret (results_w Tryz.results101 _ _ (w.heap.size + 1) rfl q1) rfl ⟨by rw [HRV.out], q2⟩
        · have hkn : k = m.da.length := by omega
          subst hkn
          have HSN := hid (show scanI m 7 0 m.da.length = none by rw [HS.out, Nat.sub_self]; rfl)
          have HRV := hid (show RV = ⟨0, 0, 0, 0⟩ by rw [HSEC.out, scanS_miss (show scanI m 7 0 (secL m 7) = none from HSN.out)]; rfl)
          clear HS HSN hk hlt
          obtain ⟨r0, r1, r2, r3, s0, s1, s2, s3⟩ := HX.out.rs.c
          go_wp2
          obtain ⟨q1, q2⟩ := HX.out.tell 0 0 0 0
          exact bodyPost_ret (results_w Tryz.results101 _ _ (w.heap.size + 1) rfl q1) rfl ⟨by rw [HRV.out], q2⟩
end Go.Proofs.YtdljneclfgneoaaGreatDoor.Val

namespace Go.Proofs.YtdljneclfgneoaaGreatDoor.Val
open Go.RowKit Go.Shelf Go.Proofs.YtdljneclfgneoaaGreatDoor.Instr Go.Proofs.YtdljneclfgneoaaGreatDoor.Mod
set_option linter.unusedVariables false

set_option maxHeartbeats 1000000 in
theorem funcs_R (m : Md) (w : World) (h1 : m.im.length ≤ 16384) (h2 : m.fu.length ≤ 16384) : Calls Tryz.prog 200 #[.agg m.v] w fun e w' => e = .returned (.int .i64 ((m.im.length : Int) + (m.fu.length : Int))) ∧ Below w.heap.size w w' := by
  have HB := hid (belowAlloc w (.cells m.v 40))
  have hx := BoxAt.made w m.v 40
  unfold Md.v at hx HB ⊢
  have c1 := hx 1 _ rfl
  have c2 := hx 2 _ rfl
  clear hx
  generalize m.im.length = N at *
  generalize m.fu.length = M at *
  go_enter Tryz.func200, Tryz.ntmps200
  go_wp2
  go_ret
  exact ⟨rfl, HB.out⟩
theorem held_kp11 {w w1 w2 : World} {p0 p1 p2 p3 p4 p5 p6 p7 p8 p9 p10 : Addr} {v0 v1 v2 v3 v4 v5 v6 v7 v8 v9 v10 : Value} (h : Below w.heap.size w w1 ∧ w1.cell? p0 = some v0 ∧ w1.cell? p1 = some v1 ∧ w1.cell? p2 = some v2 ∧ w1.cell? p3 = some v3 ∧ w1.cell? p4 = some v4 ∧ w1.cell? p5 = some v5 ∧ w1.cell? p6 = some v6 ∧ w1.cell? p7 = some v7 ∧ w1.cell? p8 = some v8 ∧ w1.cell? p9 = some v9 ∧ w1.cell? p10 = some v10) (hb : Below w1.heap.size w1 w2) :
    Below w.heap.size w w2 ∧ w2.cell? p0 = some v0 ∧ w2.cell? p1 = some v1 ∧ w2.cell? p2 = some v2 ∧ w2.cell? p3 = some v3 ∧ w2.cell? p4 = some v4 ∧ w2.cell? p5 = some v5 ∧ w2.cell? p6 = some v6 ∧ w2.cell? p7 = some v7 ∧ w2.cell? p8 = some v8 ∧ w2.cell? p9 = some v9 ∧ w2.cell? p10 = some v10 :=
  ⟨thenB h.1 hb, Go.Proofs.YtdljneclfgneoaaGreatDoor.keep hb h.2.1, Go.Proofs.YtdljneclfgneoaaGreatDoor.keep hb h.2.2.1, Go.Proofs.YtdljneclfgneoaaGreatDoor.keep hb h.2.2.2.1, Go.Proofs.YtdljneclfgneoaaGreatDoor.keep hb h.2.2.2.2.1, Go.Proofs.YtdljneclfgneoaaGreatDoor.keep hb h.2.2.2.2.2.1, Go.Proofs.YtdljneclfgneoaaGreatDoor.keep hb h.2.2.2.2.2.2.1, Go.Proofs.YtdljneclfgneoaaGreatDoor.keep hb h.2.2.2.2.2.2.2.1, Go.Proofs.YtdljneclfgneoaaGreatDoor.keep hb h.2.2.2.2.2.2.2.2.1, Go.Proofs.YtdljneclfgneoaaGreatDoor.keep hb h.2.2.2.2.2.2.2.2.2.1, Go.Proofs.YtdljneclfgneoaaGreatDoor.keep hb h.2.2.2.2.2.2.2.2.2.2.1, Go.Proofs.YtdljneclfgneoaaGreatDoor.keep hb h.2.2.2.2.2.2.2.2.2.2.2⟩
set_option maxRecDepth 100000 in
set_option maxHeartbeats 4000000 in
theorem there_R (m : Md) (x : Ex) (w : World) (hf : m.fits) (h1 : m.im.length ≤ 16384) (h2 : m.fu.length ≤ 16384) (hk : 0 ≤ x.k ∧ x.k ≤ 3) (hi : 0 ≤ x.i ∧ x.i < 4294967296) :
    Calls Tryz.prog 199 #[.agg m.v, .agg #[.string x.na, .int .i64 x.k, .int .u32 x.i]] w fun e w' => e = .returned (.bool (decide (x.i < countP m x.k))) ∧ Below w.heap.size w w' := by
  obtain ⟨na, k, i⟩ := x
  dsimp only at hk hi ⊢
  obtain ⟨W0, hW0⟩ : ∃ W0, W0 = (w.alloc (.cells m.v 40)).alloc (.cells #[.string na, .int .i64 k, .int .u32 i] 45) := ⟨_, rfl⟩
  have hb0 : Below w.heap.size w W0 := by rw [hW0]; exact thenA (belowAlloc w _) _
  have hx0 : BoxAt W0 w.heap.size m.v := by rw [hW0]; exact (BoxAt.made w m.v _).keep (belowAlloc _ _)
  have hx1 : BoxAt W0 (w.heap.size + 1) #[.string na, .int .i64 k, .int .u32 i] := by
    rw [hW0]
    have := BoxAt.made (w.alloc (.cells m.v 40)) #[.string na, .int .i64 k, .int .u32 i] 45
    rw [World.size_alloc] at this
    exact this
  have HW := hid hW0
  have HB := hid hb0
  have HX1 := hid hx1
  have CF := hid (fun (W' : World) => funcs_R m W' h1 h2)
  have hC : countP m k = if k = 0 then (m.im.length : Int) + (m.fu.length : Int) else if k = 1 then (m.tb.length : Int) else if k = 2 then (m.me.length : Int) else (m.gl.length : Int) := by
    obtain ⟨k0, k1⟩ := hk
    have hh : k = 0 ∨ k = 1 ∨ k = 2 ∨ k = 3 := by omega
    rcases hh with rfl | rfl | rfl | rfl <;> rfl
  rw [hC]
  unfold Md.v at hx0 HW CF ⊢
  obtain ⟨n0, n1, n2, n3, n4, n5, n6, n7, n8, n9, n10⟩ := BoxAt.mod hx0
  have htb := hf.tb
  have hme := hf.me
  have hgl := hf.gl
  have hS0 : Below W0.heap.size W0 W0.drew ∧ W0.drew.cell? ⟨w.heap.size, 0, none⟩ = some (.slice m.ty'.a m.ty.length m.ty'.c) ∧ W0.drew.cell? ⟨w.heap.size, 1, none⟩ = some (.slice m.im'.a m.im.length m.im'.c) ∧ W0.drew.cell? ⟨w.heap.size, 2, none⟩ = some (.slice m.fu'.a m.fu.length m.fu'.c) ∧ W0.drew.cell? ⟨w.heap.size, 3, none⟩ = some (.slice m.tb'.a m.tb.length m.tb'.c) ∧ W0.drew.cell? ⟨w.heap.size, 4, none⟩ = some (.slice m.me'.a m.me.length m.me'.c) ∧ W0.drew.cell? ⟨w.heap.size, 5, none⟩ = some (.slice m.gl'.a m.gl.length m.gl'.c) ∧ W0.drew.cell? ⟨w.heap.size, 6, none⟩ = some (.slice m.ex'.a m.ex.length m.ex'.c) ∧ W0.drew.cell? ⟨w.heap.size, 7, none⟩ = some (.bool m.st) ∧ W0.drew.cell? ⟨w.heap.size, 8, none⟩ = some (.int .u32 m.sn) ∧ W0.drew.cell? ⟨w.heap.size, 9, none⟩ = some (.slice m.el'.a m.el.length m.el'.c) ∧ W0.drew.cell? ⟨w.heap.size, 10, none⟩ = some (.slice m.da'.a m.da.length m.da'.c) := ⟨(Below.refl _ _).drew, n0, n1, n2, n3, n4, n5, n6, n7, n8, n9, n10⟩
  clear hf hC hb0 hx0 hx1 hW0 n0 n1 n2 n3 n4 n5 n6 n7 n8 n9 n10
  have hS : ∀ w1, Below W0.drew.heap.size W0.drew w1 → Below w.heap.size w w1 ∧ BoxAt w1 (w.heap.size + 1) #[.string na, .int .i64 k, .int .u32 i] := fun w1 hb => by
    have hb' : Below W0.heap.size W0 w1 := ⟨hb.os, hb.tape, hb.output, hb.size, hb.block⟩
    exact ⟨thenB HB.out hb', HX1.out.keep hb'⟩
  have HS := hid hS
  clear hS
  go_enter Tryz.func199, Tryz.ntmps199
  go_upto_region 1 with fail
  rw [← HW.out]
  clear HW
  (go_region_held3 (fun w' => Below W0.heap.size W0 w' ∧ w'.cell? ⟨w.heap.size, 0, none⟩ = some (.slice m.ty'.a m.ty.length m.ty'.c) ∧ w'.cell? ⟨w.heap.size, 1, none⟩ = some (.slice m.im'.a m.im.length m.im'.c) ∧ w'.cell? ⟨w.heap.size, 2, none⟩ = some (.slice m.fu'.a m.fu.length m.fu'.c) ∧ w'.cell? ⟨w.heap.size, 3, none⟩ = some (.slice m.tb'.a m.tb.length m.tb'.c) ∧ w'.cell? ⟨w.heap.size, 4, none⟩ = some (.slice m.me'.a m.me.length m.me'.c) ∧ w'.cell? ⟨w.heap.size, 5, none⟩ = some (.slice m.gl'.a m.gl.length m.gl'.c) ∧ w'.cell? ⟨w.heap.size, 6, none⟩ = some (.slice m.ex'.a m.ex.length m.ex'.c) ∧ w'.cell? ⟨w.heap.size, 7, none⟩ = some (.bool m.st) ∧ w'.cell? ⟨w.heap.size, 8, none⟩ = some (.int .u32 m.sn) ∧ w'.cell? ⟨w.heap.size, 9, none⟩ = some (.slice m.el'.a m.el.length m.el'.c) ∧ w'.cell? ⟨w.heap.size, 10, none⟩ = some (.slice m.da'.a m.da.length m.da'.c))
    (first | assumption | exact held_kp11 (by assumption) (by assumption) | exact held_kp11 (by assumption) (belowAlloc _ _))
    (first | (go_at_call 200; (with_reducible refine (CF.out _).mono ?_); rintro e7 w7 ⟨rfl, hb7⟩)))
  obtain ⟨hbw, hxx⟩ := HS.out w7 hb7
  obtain ⟨W8, hW8⟩ : ∃ W8, W8 = w7.alloc (.cells #[.int .i64 ((m.im.length : Int) + (m.fu.length : Int)), .int .i64 (m.tb.length : Int), .int .i64 (m.me.length : Int), .int .i64 (m.gl.length : Int)] 2) := ⟨_, rfl⟩
  have hxl : BoxAt W8 w7.heap.size #[.int .i64 ((m.im.length : Int) + (m.fu.length : Int)), .int .i64 (m.tb.length : Int), .int .i64 (m.me.length : Int), .int .i64 (m.gl.length : Int)] := by rw [hW8]; exact BoxAt.made w7 _ _
  have hb8 : Below w7.heap.size w7 W8 := by rw [hW8]; exact belowAlloc _ _
  have hx8 := hxx.keep hb8
  have HBB := hid (thenB hbw hb8)
  have l0 := hxl 0 _ rfl
  have l1 := hxl 1 _ rfl
  have l2 := hxl 2 _ rfl
  have l3 := hxl 3 _ rfl
  have x1 := hx8 1 _ rfl
  have x2 := hx8 2 _ rfl
  rw [← hW8]
  clear hbw hxx hxl hb8 hx8 hW8 hb7 HS CF hS0 HX1 HB
  obtain ⟨k0, k1⟩ := hk
  have hh : k = 0 ∨ k = 1 ∨ k = 2 ∨ k = 3 := by omega
  generalize w7.heap.size = g7 at *
  clear k0 k1
  rcases hh with rfl | rfl | rfl | rfl
  all_goals
    go_upto_region 2 with fail
    go_quiet (fail)
    go_wp2
    go_ret
    refine ⟨?_, by have := HBB.out; exact ⟨this.os, this.tape, this.output, this.size, this.block⟩⟩
    first | rfl | simp
set_option maxRecDepth 100000 in
set_option maxHeartbeats 8000000 in
theorem exports_R (m : Md) (w : World) (hm : ModAt w.heap.size w m) (hf : m.few) (hF : Fine m) (hrg : Rg m) : Calls Tryz.prog 99 #[.agg m.v] w fun e w' => e = .returned (.agg ((scanS m 3 2).getD ⟨0, 0, 0, 0⟩).v) ∧ Below w.heap.size w w' := by
  have HM := hid hm
  have HF := hid hf
  have HFI := hid hF
  have HRG := hid hrg
  obtain ⟨W0, hW0⟩ : ∃ W0, W0 = ((w.alloc (.cells m.v 40)).alloc (.cells #[.int .i64 0, .int .i64 0, .int .i64 0, .int .i64 0] 120)) := ⟨_, rfl⟩
  have HX : Hid (SX m w W0) := hid (by rw [hW0]; exact SX.start m w)
  have HW := hid hW0
  obtain ⟨RV, hRV⟩ : ∃ r, (scanS m 3 2).getD ⟨0, 0, 0, 0⟩ = r := ⟨_, rfl⟩
  rw [hRV]
  have HSEC := hid hRV.symm
  have hfex := hf.fit.ex
  have hfel := hf.fit.el
  have hftb := hf.fit.tb
  clear hm hf hF hrg hW0 hRV
  unfold Md.v at HW
  have hxx := HX.out.bx
  unfold Md.v at hxx ⊢
  obtain ⟨n0, n1, n2, n3, n4, n5, n6, n7, n8, n9, n10⟩ := BoxAt.mod hxx
  clear hxx
  go_enter Tryz.func99, Tryz.ntmps99
  go_upto_region 1 with fail
  rw [← HW.out]
  clear HW
  go_wp2
  go_loopw [3] (fun vi wr => ∃ k : Nat, vi = .int .i64 k ∧ k ≤ m.ex.length ∧ Hid (SX m w wr) ∧ Hid (scanI m 3 0 m.ex.length = scanI m 3 k (m.ex.length - k))) (fun vi _ => m.ex.length - (intOf vi).toNat)
  case atStart => exact ⟨0, rfl, Nat.zero_le _, HX, rfl⟩
  case round =>
    clear HX n0 n1 n2 n3 n4 n5 n6 n7 n8 n9 n10
    obtain ⟨k, rfl, hk, HX, HS⟩ := hrel
    have hxx := HX.out.bx
    unfold Md.v at hxx
    obtain ⟨n0, n1, n2, n3, n4, n5, n6, n7, n8, n9, n10⟩ := BoxAt.mod hxx
    clear hxx
    by_cases hlt : k < m.ex.length
    · have hki : (k : Int) < (m.ex.length : Int) := by omega
      obtain ⟨b, off, ha, hbn, hc⟩ := Rows.get (HM.out.below HX.out.bl).ex hlt
      have hat : exAt m k = m.ex[k] := by unfold exAt; simp [hlt]
      have hmem := List.getElem_mem hlt
      have c0 : wr.cell? ⟨b, off + k * 3, none⟩ = some (.string (m.ex[k]).na) := hc 0 (by omega) _ rfl
      have c1 : wr.cell? ⟨b, off + k * 3 + 1, none⟩ = some (.int .i64 (m.ex[k]).k) := hc 1 (by omega) _ rfl
      have c2 : wr.cell? ⟨b, off + k * 3 + 2, none⟩ = some (.int .u32 (m.ex[k]).i) := hc 2 (by omega) _ rfl
      have CC := hid (there_R m m.ex[k] wr.drew HF.out.fit HFI.out.im HFI.out.fu (HFI.out.kinds _ hmem) (HRG.out.ei _ hmem))
      have HSK := hid (scanI_at (m := m) (j := 3) hlt)
      have HSE := hid (show (secE m 3 k).1 = exportEP m k ∧ (secE m 3 k).2 = 0 from ⟨rfl, rfl⟩)
      unfold exportEP at HSE
      rw [hat] at HSE
      unfold Md.v at CC
      rw [ha] at n6 CC
      obtain ⟨x, hx⟩ : ∃ x, m.ex[k] = x := ⟨_, rfl⟩
      have HXK := hid (fun (h : k < m.ex.length) => (show m.ex[k] = x from hx))
      rw [hx] at c0 c1 c2 CC HSE
      obtain ⟨na, xk, xi⟩ := x
      dsimp only at c0 c1 c2 CC HSE
      have HX1 := hid HX.out.dr
      have HLT := hid hlt
      have HHA := hid ha
      clear hc hat hbn hmem ha hlt hk hx
      by_cases ht : xi < countP m xk
      · rw [decide_eq_true ht] at CC
        rw [if_pos ht] at HSE
        clear ht
        go_upto_region 4 with fail
        go_still_tail 6, (by kernel_rfl)
        change wpList _ _ _ _ _ wr.drew
        go_wp2_with fail
        refine CC.out.mono ?_
        rintro e w1 ⟨rfl, hb1⟩
        have HX2 := hid (HX1.out.on hb1)
        clear CC HX HX1 hb1 c0 c1 c2 n0 n1 n2 n3 n4 n5 n6 n7 n8 n9 n10
        go_wp2
        go_loopw [4] (fun vi wr => ∃ q : Nat, vi = .int .i64 q ∧ q ≤ k ∧ Hid (SX m w wr) ∧ Hid (∀ e ∈ m.ex.take q, e.na ≠ na)) (fun vi _ => k - (intOf vi).toNat)
        case atStart => exact ⟨0, rfl, Nat.zero_le _, HX2, hid (by simp)⟩
        case round =>
          clear HX2
          obtain ⟨q, rfl, hq, HX, HQ⟩ := hrel
          have hxx := HX.out.bx
          unfold Md.v at hxx
          obtain ⟨n0, n1, n2, n3, n4, n5, n6, n7, n8, n9, n10⟩ := BoxAt.mod hxx
          clear hxx
          by_cases hlt : q < k
          · have hlt' : q < m.ex.length := by have := HLT.out; omega
            obtain ⟨b', off', ha, hbn, hc⟩ := Rows.get (HM.out.below HX.out.bl).ex hlt'
            obtain ⟨b2, off2, ha2, hbn2, hc2⟩ := Rows.get (HM.out.below HX.out.bl).ex HLT.out
            have c0 : wr.cell? ⟨b', off' + q * 3, none⟩ = some (.string (m.ex[q]).na) := hc 0 (by omega) _ rfl
            have d0 : wr.cell? ⟨b2, off2 + k * 3, none⟩ = some (.string (m.ex[k]'HLT.out).na) := hc2 0 (by omega) _ rfl
            rw [HXK.out HLT.out] at d0
            rw [ha2] at ha
            simp only [Option.some.injEq, Addr.mk.injEq, and_true] at ha
            obtain ⟨rfl, rfl⟩ := ha
            rw [ha2] at n6
            have hqi : (q : Int) < (k : Int) := by omega
            have hqe : (q : Int) < (m.ex.length : Int) := by omega
            have hke : (k : Int) < (m.ex.length : Int) := by have := HLT.out; omega
            have HMEX := hid (show ∃ e ∈ m.ex.take k, e.na = (m.ex[q]).na from ⟨m.ex[q], List.mem_take_iff_getElem.2 ⟨q, by omega, rfl⟩, rfl⟩)
            have HTK := hid (show ∀ e ∈ m.ex.take (q + 1), e ∈ m.ex.take q ∨ e.na = (m.ex[q]).na from fun e he => by
              rw [List.take_succ_eq_append_getElem hlt'] at he
              rcases List.mem_append.1 he with he | he
              · exact .inl he
              · exact .inr (by rw [List.mem_singleton.1 he]))
            obtain ⟨nq, hnq⟩ : ∃ z, (m.ex[q]).na = z := ⟨_, rfl⟩
            rw [hnq] at c0 HMEX HTK
            dsimp only at d0
            clear hc hc2 hbn hbn2 ha2 hlt hlt' hq hnq
            by_cases hn : nq = na
            · subst hn
              have HSN := hid (show scanI m 3 0 m.ex.length = some ⟨7, 7, k, 0⟩ by
                have h7 : (secE m 3 k).1 = 7 := by rw [HSE.out.1, if_pos (by obtain ⟨e, he, h2⟩ := HMEX.out; exact List.any_eq_true.2 ⟨e, he, by simpa using h2⟩)]
                rw [HS.out, HSK.out, if_neg (by rw [h7]; decide), h7, HSE.out.2]; rfl)
              have HRV := hid (show RV = ⟨7, 7, k, 0⟩ by rw [HSEC.out, scanS_hit (show scanI m 3 0 (secL m 3) = some ⟨7, 7, k, 0⟩ from HSN.out)]; rfl)
              have HXd := hid (fun n => HX.out.drN n)
              go_upto_region 9 with fail
              go_quiet (fail)
              clear c0 d0 n0 n1 n2 n3 n4 n5 n6 n7 n8 n9 n10
              go_wp2_with fail
              refine (wrong_R 7 7 k 0 _).mono ?_
              rintro e w2 ⟨rfl, hb2⟩
              have HX3 := hid ((HXd.out _).on hb2)
              clear hb2 HXd HX
              obtain ⟨r0, r1, r2, r3, s0, s1, s2, s3⟩ := HX3.out.rs.c
              go_wp2
              obtain ⟨q1, q2⟩ := HX3.out.tell 7 7 k 0
              exact bodyPost_ret (results_w Tryz.results99 _ _ (w.heap.size + 1) rfl q1) rfl ⟨by rw [HRV.out], q2⟩
            · have HQ1 := hid (show ∀ e ∈ m.ex.take (q + 1), e.na ≠ na by
                intro e he
                rcases HTK.out e he with he | he
                · exact HQ.out e he
                · rw [he]; exact hn)
              have hs := bytes_ne hn
              have HXd := hid (fun n => HX.out.drN n)
              clear hn
              go_upto_region 9 with fail
              go_quiet (fail)
              clear c0 d0 n0 n1 n2 n3 n4 n5 n6 n7 n8 n9 n10
              go_wp2
              go_roundw
              case rel => exact ⟨q + 1, by go_num, by omega, hid (HXd.out _), HQ1⟩
              case measure => simp [intOf]; omega
          · have hqk : q = k := by omega
            subst hqk
            have HSN := hid (show scanI m 3 0 m.ex.length = scanI m 3 (q + 1) (m.ex.length - (q + 1)) by
              have h0 : (secE m 3 q).1 = 0 := by rw [HSE.out.1, if_neg (by intro h; obtain ⟨e, he, h2⟩ := List.any_eq_true.1 h; exact HQ.out e he (by simpa using h2))]
              rw [HS.out, HSK.out, if_pos h0])
            have hqe : q < m.ex.length := HLT.out
            clear hlt hq HQ HSE HSK HS n0 n1 n2 n3 n4 n5 n6 n7 n8 n9 n10
            go_wp2
            go_roundw
            case rel => exact ⟨q + 1, by go_num, by omega, HX, HSN⟩
            case measure => simp [intOf]; omega
      · rw [decide_eq_false ht] at CC
        rw [if_neg ht] at HSE
        have HSN := hid (show scanI m 3 0 m.ex.length = some ⟨6, 7, k, 0⟩ by rw [HS.out, HSK.out, if_neg (by rw [HSE.out.1]; decide), HSE.out.1, HSE.out.2]; rfl)
        have HRV := hid (show RV = ⟨6, 7, k, 0⟩ by rw [HSEC.out, scanS_hit (show scanI m 3 0 (secL m 3) = some ⟨6, 7, k, 0⟩ from HSN.out)]; rfl)
        clear ht HSE HSK HS
        go_upto_region 4 with fail
        go_still_tail 6, (by kernel_rfl)
        change wpList _ _ _ _ _ wr.drew
        go_wp2_with fail
        refine CC.out.mono ?_
        rintro e w1 ⟨rfl, hb1⟩
        have HX2 := hid (HX1.out.on hb1)
        clear CC HX HX1 hb1 c0 c1 c2 n0 n1 n2 n3 n4 n5 n6 n7 n8 n9 n10
        go_wp2_with fail
        refine (wrong_R 6 7 k 0 w1).mono ?_
        rintro e w2 ⟨rfl, hb2⟩
        have HX3 := hid (HX2.out.on hb2)
        clear hb2
        obtain ⟨r0, r1, r2, r3, s0, s1, s2, s3⟩ := HX3.out.rs.c
        go_wp2
        obtain ⟨q1, q2⟩ := HX3.out.tell 6 7 k 0
        exact bodyPost_ret (results_w Tryz.results99 _ _ (w.heap.size + 1) rfl q1) rfl ⟨by rw [HRV.out], q2⟩
    · have hkn : k = m.ex.length := by omega
      subst hkn
      have HSN := hid (show scanI m 3 0 m.ex.length = none by rw [HS.out, Nat.sub_self]; rfl)
      have HSEC := hid (show RV = (scanS m 4 1).getD ⟨0, 0, 0, 0⟩ by rw [HSEC.out, scanS_miss (show scanI m 3 0 (secL m 3) = none from HSN.out)])
      clear HS HSN hk hlt
      have HS1 := hid (scanS_one m 4)
      by_cases hst : m.st = true
      · have HS2 := hid (show scanI m 4 0 (secL m 4) = if startEP m = 0 then none else some ⟨startEP m, 8, 0, 0⟩ by show scanI m 4 0 (if m.st then 1 else 0) = _; rw [if_pos hst]; rfl)
        have HST := hid (show startEP m = if (m.typeOf m.sn.toNat).2 = false then 6 else if (m.typeOf m.sn.toNat).1.1 = 0 ∧ (m.typeOf m.sn.toNat).1.2 = 0 then 0 else 213 from rfl)
        obtain ⟨N, hN⟩ : ∃ N : Nat, m.sn = (N : Int) := ⟨m.sn.toNat, by have := HRG.out.sn; omega⟩
        have CT := hid (refTypeOf_any m N wr (HM.out.on HX.out.bl) HF.out.fit (by have := HRG.out.sn; omega))
        unfold Md.v at CT
        rw [hst] at n7 CT
        rw [hN] at n8 CT HST
        rw [Int.toNat_natCast] at HST
        obtain ⟨⟨⟨p, r⟩, is⟩, hty⟩ : ∃ q, m.typeOf N = q := ⟨_, rfl⟩
        rw [hty] at CT HST
        dsimp only at CT HST
        clear hty hst hN
        go_wp2_with fail
        refine CT.out.mono ?_
        rintro e w1 ⟨rfl, hb1⟩
        have HX2 := hid (HX.out.on hb1)
        clear CT hb1 HX n0 n1 n2 n3 n4 n5 n6 n7 n8 n9 n10
        have hbt := belowAlloc w1 (.cells #[.int .i64 p, .int .i64 r] 26)
        have HX3 := hid (HX2.out.on hbt)
        have hxt := BoxAt.made w1 #[.int .i64 p, .int .i64 r] 26
        have t0 := hxt 0 _ rfl
        have t1 := hxt 1 _ rfl
        obtain ⟨W9, hW9⟩ : ∃ W9, W9 = w1.alloc (.cells #[.int .i64 p, .int .i64 r] 26) := ⟨_, rfl⟩
        rw [← hW9] at HX3 t0 t1
        have HW9 := hid hW9
        clear hbt hxt HX2 hW9
        cases is with
        | false =>
          have HRV := hid (show RV = ⟨6, 8, 0, 0⟩ by rw [HSEC.out, HS1.out, HS2.out, HST.out]; rfl)
          go_upto_region 14 with fail
          rw [← HW9.out]
          clear HW9
          go_wp2_with fail
          refine (wrong_R 6 8 0 0 W9).mono ?_
          rintro e w2 ⟨rfl, hb2⟩
          have HX3 := hid (HX3.out.on hb2)
          clear hb2
          obtain ⟨r0, r1, r2, r3, s0, s1, s2, s3⟩ := HX3.out.rs.c
          go_wp2
          obtain ⟨q1, q2⟩ := HX3.out.tell 6 8 0 0
          exact bodyPost_ret (results_w Tryz.results99 _ _ (w.heap.size + 1) rfl q1) rfl ⟨by rw [HRV.out], q2⟩
        | true =>
          rw [if_neg (by simp)] at HST
          go_upto_region 14 with fail
          rw [← HW9.out]
          clear HW9
          by_cases hp : p = 0
          · by_cases hr : r = 0
            · rw [if_pos ⟨hp, hr⟩] at HST
              have HRV := hid (show RV = ⟨0, 0, 0, 0⟩ by rw [HSEC.out, HS1.out, HS2.out, HST.out]; rfl)
              subst hp hr
              obtain ⟨r0, r1, r2, r3, s0, s1, s2, s3⟩ := HX3.out.rs.c
              go_wp2
              obtain ⟨q1, q2⟩ := HX3.out.tell 0 0 0 0
              exact bodyPost_ret (results_w Tryz.results99 _ _ (w.heap.size + 1) rfl q1) rfl ⟨by rw [HRV.out], q2⟩
            · rw [if_neg (fun h => hr h.2)] at HST
              have HRV := hid (show RV = ⟨213, 8, 0, 0⟩ by rw [HSEC.out, HS1.out, HS2.out, HST.out]; rfl)
              have hrr : (r != 0) = true := by simpa using hr
              clear hr
              subst hp
              go_wp2_with fail
              refine (wrong_R 213 8 0 0 W9).mono ?_
              rintro e w2 ⟨rfl, hb2⟩
              have HX3 := hid (HX3.out.on hb2)
              clear hb2
              obtain ⟨r0, r1, r2, r3, s0, s1, s2, s3⟩ := HX3.out.rs.c
              go_wp2
              obtain ⟨q1, q2⟩ := HX3.out.tell 213 8 0 0
              exact bodyPost_ret (results_w Tryz.results99 _ _ (w.heap.size + 1) rfl q1) rfl ⟨by rw [HRV.out], q2⟩
          · rw [if_neg (fun h => hp h.1)] at HST
            have HRV := hid (show RV = ⟨213, 8, 0, 0⟩ by rw [HSEC.out, HS1.out, HS2.out, HST.out]; rfl)
            have hpp : (p != 0) = true := by simpa using hp
            clear hp
            go_wp2_with fail
            refine (wrong_R 213 8 0 0 W9).mono ?_
            rintro e w2 ⟨rfl, hb2⟩
            have HX3 := hid (HX3.out.on hb2)
            clear hb2
            obtain ⟨r0, r1, r2, r3, s0, s1, s2, s3⟩ := HX3.out.rs.c
            go_wp2
            obtain ⟨q1, q2⟩ := HX3.out.tell 213 8 0 0
            exact bodyPost_ret (results_w Tryz.results99 _ _ (w.heap.size + 1) rfl q1) rfl ⟨by rw [HRV.out], q2⟩
      · have hst' : m.st = false := by simpa using hst
        have HS2 := hid (show scanI m 4 0 (secL m 4) = none by show scanI m 4 0 (if m.st then 1 else 0) = _; rw [if_neg hst]; rfl)
        have HRV := hid (show RV = ⟨0, 0, 0, 0⟩ by rw [HSEC.out, HS1.out, HS2.out]; rfl)
        rw [hst'] at n7
        clear hst hst'
        obtain ⟨r0, r1, r2, r3, s0, s1, s2, s3⟩ := HX.out.rs.c
        go_wp2
        obtain ⟨q1, q2⟩ := HX.out.tell 0 0 0 0
        exact bodyPost_ret (results_w Tryz.results99 _ _ (w.heap.size + 1) rfl q1) rfl ⟨by rw [HRV.out], q2⟩
end Go.Proofs.YtdljneclfgneoaaGreatDoor.Val

namespace Go.Proofs.YtdljneclfgneoaaGreatDoor.Val
open Go.RowKit Go.Shelf Go.Proofs.YtdljneclfgneoaaGreatDoor.Instr Go.Proofs.YtdljneclfgneoaaGreatDoor.Mod
set_option linter.unusedVariables false

set_option maxRecDepth 100000 in
set_option maxHeartbeats 8000000 in
theorem elems_R (m : Md) (w : World) (hm : ModAt w.heap.size w m) (hf : m.few) (hF : Fine m) (hrg : Rg m) : Calls Tryz.prog 100 #[.agg m.v] w fun e w' => e = .returned (.agg ((scanS m 5 1).getD ⟨0, 0, 0, 0⟩).v) ∧ Below w.heap.size w w' := by
  have HM := hid hm
  have HF := hid hf
  have HFI := hid hF
  have HRG := hid hrg
  obtain ⟨W0, hW0⟩ : ∃ W0, W0 = ((w.alloc (.cells m.v 40)).alloc (.cells #[.int .i64 0, .int .i64 0, .int .i64 0, .int .i64 0] 120)) := ⟨_, rfl⟩
  have HX : Hid (SX m w W0) := hid (by rw [hW0]; exact SX.start m w)
  have HW := hid hW0
  obtain ⟨RV, hRV⟩ : ∃ r, (scanS m 5 1).getD ⟨0, 0, 0, 0⟩ = r := ⟨_, rfl⟩
  rw [hRV]
  have HSEC := hid hRV.symm
  have hfex := hf.fit.ex
  have hfel := hf.fit.el
  have hftb := hf.fit.tb
  clear hm hf hF hrg hW0 hRV
  unfold Md.v at HW
  have hxx := HX.out.bx
  unfold Md.v at hxx ⊢
  obtain ⟨n0, n1, n2, n3, n4, n5, n6, n7, n8, n9, n10⟩ := BoxAt.mod hxx
  clear hxx
  go_enter Tryz.func100, Tryz.ntmps100
  go_upto_region 1 with fail
  rw [← HW.out]
  clear HW
  go_wp2
  go_loopw [3] (fun vi wr => ∃ k : Nat, vi = .int .i64 k ∧ k ≤ m.el.length ∧ Hid (SX m w wr) ∧ Hid (scanI m 5 0 m.el.length = scanI m 5 k (m.el.length - k))) (fun vi _ => m.el.length - (intOf vi).toNat)
  case atStart => exact ⟨0, rfl, Nat.zero_le _, HX, rfl⟩
  case round =>
    clear HX n0 n1 n2 n3 n4 n5 n6 n7 n8 n9 n10
    obtain ⟨k, rfl, hk, HX, HS⟩ := hrel
    have hxx := HX.out.bx
    unfold Md.v at hxx
    obtain ⟨n0, n1, n2, n3, n4, n5, n6, n7, n8, n9, n10⟩ := BoxAt.mod hxx
    clear hxx
    by_cases hlt : k < m.el.length
    · have hki : (k : Int) < (m.el.length : Int) := by omega
      have hat : elAt m k = m.el[k] := by unfold elAt; simp [hlt]
      have hmem := List.getElem_mem hlt
      have HSK := hid (scanI_at (m := m) (j := 5) hlt)
      have HSE := hid (show (secE m 5 k).1 = elemEP m (elAt m k) ∧ (secE m 5 k).2 = 0 from ⟨rfl, rfl⟩)
      unfold elemEP at HSE
      rw [hat] at HSE
      by_cases htb : m.tb.length = 0
      · have HS6 := hid (show (secE m 5 k).1 = 6 by rw [HSE.out.1, if_pos htb])
        have HSN := hid (show scanI m 5 0 m.el.length = some ⟨6, 9, k, 0⟩ by rw [HS.out, HSK.out, if_neg (by rw [HS6.out]; decide), HS6.out, HSE.out.2]; rfl)
        have HRV := hid (show RV = ⟨6, 9, k, 0⟩ by rw [HSEC.out, scanS_hit (show scanI m 5 0 (secL m 5) = some ⟨6, 9, k, 0⟩ from HSN.out)]; rfl)
        rw [htb] at n3
        clear HS6 HSE HSK HS htb hlt hk hat hmem hftb
        go_wp2_with fail
        refine (wrong_R 6 9 k 0 wr).mono ?_
        rintro e w2 ⟨rfl, hb2⟩
        have HX3 := hid (HX.out.on hb2)
        clear hb2
        obtain ⟨r0, r1, r2, r3, s0, s1, s2, s3⟩ := HX3.out.rs.c
        go_wp2
        obtain ⟨q1, q2⟩ := HX3.out.tell 6 9 k 0
        exact bodyPost_ret (results_w Tryz.results100 _ _ (w.heap.size + 1) rfl q1) rfl ⟨by rw [HRV.out], q2⟩
      · have htn : ((m.tb.length : Int) == 0) = false := by rw [beq_eq_false_iff_ne]; omega
        rw [if_neg htb] at HSE
        obtain ⟨b, off, ha, hbn, hc⟩ := Rows.get (HM.out.below HX.out.bl).el hlt
        have hcs : m.el[k].l ∈ m.codes := by unfold Md.codes; exact List.mem_append_right _ (List.mem_append_right _ (List.mem_append_left _ (List.mem_map.2 ⟨_, hmem, rfl⟩)))
        have hls := HM.out.ls _ hcs
        have c0 : wr.cell? ⟨b, off + k * 2, none⟩ = some (m.el[k]).l.val := hc 0 (by omega) _ rfl
        have CC := hid (refConst_m m.el[k].l.t m.el[k].l.a m.el[k].l.t.len m.el[k].l.c wr ((hls.below HX.out.bl).more HX.out.bl.size) (HF.out.fit.ls _ hcs) (by have := HF.out.cs _ hcs; omega))
        have HFS := hid (fun (W' : World) (hX : SX m w W') => (show (∃ b off, m.el'.a = some ⟨b, off, none⟩ ∧ W'.cell? ⟨b, off + k * 2 + 1, none⟩ = some (.slice m.el[k].fa m.el[k].fs.length m.el[k].fc)) ∧ TagsAt w.heap.size W' m.el[k].fa m.el[k].fs from by
          obtain ⟨b, off, ha, hbn, hc⟩ := Rows.get (HM.out.below hX.bl).el hlt
          exact ⟨⟨b, off, ha, hc 1 (by omega) _ rfl⟩, (HM.out.fs _ hmem).below hX.bl⟩))
        have HFR := hid (HRG.out.ef _ hmem)
        have HFL := hid (HF.out.fit.fs _ hmem)
        rw [ha] at n9
        obtain ⟨⟨⟨la, lc, lt⟩, fa, fc, fs⟩, hx⟩ : ∃ x, m.el[k] = x := ⟨_, rfl⟩
        rw [hx] at c0 CC HSE HFS HFR HFL
        dsimp only [Lst.val] at c0 CC HSE HFS HFR HFL
        obtain ⟨⟨cv, ce⟩, hcv⟩ : ∃ q, constP lt = q := ⟨_, rfl⟩
        rw [hcv] at CC HSE
        dsimp only at CC HSE
        generalize lt.len = N at *
        clear hc hat hbn hmem ha hlt hk hx hcs hls hcv htb
        by_cases hz : ce = 0
        · subst hz
          rw [if_neg (by simp)] at HSE
          go_wp2_with fail
          refine CC.out.mono ?_
          rintro e w1 ⟨rfl, hb1⟩
          have HX2 := hid (HX.out.on hb1)
          clear CC HX hb1 c0 n0 n1 n2 n3 n4 n5 n6 n7 n8 n9 n10
          have HCP := hid (show countP m 0 = (m.im.length : Int) + (m.fu.length : Int) from rfl)
          have HFU := hid (fun (W' : World) => funcs_R m W' HFI.out.im HFI.out.fu)
          unfold Md.v at HFU
          go_wp2
          go_loopw [6] (fun vi wr => ∃ q : Nat, vi = .int .i64 q ∧ q ≤ fs.length ∧ Hid (SX m w wr) ∧ Hid (∀ z ∈ fs.take q, z < countP m 0)) (fun vi _ => fs.length - (intOf vi).toNat)
          case atStart => exact ⟨0, rfl, Nat.zero_le _, HX2, hid (by simp)⟩
          case round =>
            clear HX2
            obtain ⟨q, rfl, hq, HX, HQ⟩ := hrel
            have hxx := HX.out.bx
            unfold Md.v at hxx
            obtain ⟨n0, n1, n2, n3, n4, n5, n6, n7, n8, n9, n10⟩ := BoxAt.mod hxx
            clear hxx
            obtain ⟨⟨b, off, ha, c1⟩, htg⟩ := HFS.out wr HX.out
            rw [ha] at n9
            have hfln := HFL.out
            by_cases hlt : q < fs.length
            · have hqi : (q : Int) < (fs.length : Int) := by omega
              obtain ⟨b', off', hfa, hbn, hcell⟩ := htg.resolve_left (by intro e; rw [e] at hlt; simp at hlt)
              have cv0 := hcell q hlt
              have HTK := hid (show fs.take (q + 1) = fs.take q ++ [fs.getD q 0] by rw [List.take_succ_eq_append_getElem hlt]; simp [hlt])
              have HZM := hid (show fs.getD q 0 ∈ fs by simp [hlt])
              have hzr := HFR.out _ HZM.out
              have HAA := hid ha
              rw [hfa] at c1
              obtain ⟨z, hzz⟩ : ∃ z, fs.getD q 0 = z := ⟨_, rfl⟩
              rw [hzz] at cv0 HTK HZM hzr
              obtain ⟨Z, rfl⟩ : ∃ Z : Nat, z = (Z : Int) := ⟨z.toNat, by omega⟩
              have HX1 := hid HX.out.dr
              have hz1 : Z ≤ 4294967295 := by omega
              have hwz : IntKind.i64.wrap (Z : Int) = (Z : Int) := by rw [IntKind.wrap_i64]; omega
              have him := hid HFI.out.im
              have hfu := hid HFI.out.fu
              have HFUA := hid (fun W' => HFU.out W')
              rw [ha] at HFUA
              clear htg hcell hbn hfa hzz ha hlt hq hzr
              by_cases hge : m.im.length + m.fu.length ≤ Z
              · have hg2 : (m.im.length : Int) + (m.fu.length : Int) ≤ (Z : Int) := by omega
                have hd1 : decide (m.im.length + m.fu.length ≤ Z) = true := decide_eq_true hge
                have hd2 : decide ((m.im.length : Int) + (m.fu.length : Int) ≤ (Z : Int)) = true := decide_eq_true hg2
                have HS6 := hid (show (secE m 5 k).1 = 6 by rw [HSE.out.1, if_pos (List.any_eq_true.2 ⟨(Z : Int), HZM.out, by rw [HCP.out]; simp; omega⟩)])
                have HSN := hid (show scanI m 5 0 m.el.length = some ⟨6, 9, k, 0⟩ by rw [HS.out, HSK.out, if_neg (by rw [HS6.out]; decide), HS6.out, HSE.out.2]; rfl)
                have HRV := hid (show RV = ⟨6, 9, k, 0⟩ by rw [HSEC.out, scanS_hit (show scanI m 5 0 (secL m 5) = some ⟨6, 9, k, 0⟩ from HSN.out)]; rfl)
                have hS0 : Below wr.heap.size wr wr.drew ∧ wr.drew.cell? ⟨w.heap.size, 0, none⟩ = some (.slice m.ty'.a m.ty.length m.ty'.c) ∧ wr.drew.cell? ⟨w.heap.size, 1, none⟩ = some (.slice m.im'.a m.im.length m.im'.c) ∧ wr.drew.cell? ⟨w.heap.size, 2, none⟩ = some (.slice m.fu'.a m.fu.length m.fu'.c) ∧ wr.drew.cell? ⟨w.heap.size, 3, none⟩ = some (.slice m.tb'.a m.tb.length m.tb'.c) ∧ wr.drew.cell? ⟨w.heap.size, 4, none⟩ = some (.slice m.me'.a m.me.length m.me'.c) ∧ wr.drew.cell? ⟨w.heap.size, 5, none⟩ = some (.slice m.gl'.a m.gl.length m.gl'.c) ∧ wr.drew.cell? ⟨w.heap.size, 6, none⟩ = some (.slice m.ex'.a m.ex.length m.ex'.c) ∧ wr.drew.cell? ⟨w.heap.size, 7, none⟩ = some (.bool m.st) ∧ wr.drew.cell? ⟨w.heap.size, 8, none⟩ = some (.int .u32 m.sn) ∧ wr.drew.cell? ⟨w.heap.size, 9, none⟩ = some (.slice (some ⟨b, off, none⟩) m.el.length m.el'.c) ∧ wr.drew.cell? ⟨w.heap.size, 10, none⟩ = some (.slice m.da'.a m.da.length m.da'.c) ∧ wr.drew.cell? ⟨b, off + k * 2 + 1, none⟩ = some (.slice (some ⟨b', off', none⟩) fs.length fc) ∧ wr.drew.cell? ⟨b', off' + q, none⟩ = some (.int .u32 (Z : Int)) := ⟨(Below.refl _ _).drew, n0, n1, n2, n3, n4, n5, n6, n7, n8, n9, n10, c1, cv0⟩
                go_upto_region 12 with fail
                (go_region_held3 (fun w' => Below wr.heap.size wr w' ∧ w'.cell? ⟨w.heap.size, 0, none⟩ = some (.slice m.ty'.a m.ty.length m.ty'.c) ∧ w'.cell? ⟨w.heap.size, 1, none⟩ = some (.slice m.im'.a m.im.length m.im'.c) ∧ w'.cell? ⟨w.heap.size, 2, none⟩ = some (.slice m.fu'.a m.fu.length m.fu'.c) ∧ w'.cell? ⟨w.heap.size, 3, none⟩ = some (.slice m.tb'.a m.tb.length m.tb'.c) ∧ w'.cell? ⟨w.heap.size, 4, none⟩ = some (.slice m.me'.a m.me.length m.me'.c) ∧ w'.cell? ⟨w.heap.size, 5, none⟩ = some (.slice m.gl'.a m.gl.length m.gl'.c) ∧ w'.cell? ⟨w.heap.size, 6, none⟩ = some (.slice m.ex'.a m.ex.length m.ex'.c) ∧ w'.cell? ⟨w.heap.size, 7, none⟩ = some (.bool m.st) ∧ w'.cell? ⟨w.heap.size, 8, none⟩ = some (.int .u32 m.sn) ∧ w'.cell? ⟨w.heap.size, 9, none⟩ = some (.slice (some ⟨b, off, none⟩) m.el.length m.el'.c) ∧ w'.cell? ⟨w.heap.size, 10, none⟩ = some (.slice m.da'.a m.da.length m.da'.c) ∧ w'.cell? ⟨b, off + k * 2 + 1, none⟩ = some (.slice (some ⟨b', off', none⟩) fs.length fc) ∧ w'.cell? ⟨b', off' + q, none⟩ = some (.int .u32 (Z : Int)))
                  (first | assumption | exact held_keep13 (by assumption) (by assumption))
                  (first | (go_at_call 200; (with_reducible refine (HFUA.out _).mono ?_); rintro e7 w1 ⟨rfl, hb1⟩)))
                clear hS0
                have HX4 := hid (HX1.out.on hb1)
                clear hb1 HX1 HX c1 cv0 HFUA n0 n1 n2 n3 n4 n5 n6 n7 n8 n9 n10
                go_wp2_with fail
                refine (wrong_R 6 9 k 0 w1).mono ?_
                rintro e w2 ⟨rfl, hb2⟩
                have HX3 := hid (HX4.out.on hb2)
                clear hb2
                obtain ⟨r0, r1, r2, r3, s0, s1, s2, s3⟩ := HX3.out.rs.c
                go_wp2
                obtain ⟨q1, q2⟩ := HX3.out.tell 6 9 k 0
                exact bodyPost_ret (results_w Tryz.results100 _ _ (w.heap.size + 1) rfl q1) rfl ⟨by rw [HRV.out], q2⟩
              · have hg2 : ¬ ((m.im.length : Int) + (m.fu.length : Int) ≤ (Z : Int)) := by omega
                have hd1 : decide (m.im.length + m.fu.length ≤ Z) = false := decide_eq_false hge
                have hd2 : decide ((m.im.length : Int) + (m.fu.length : Int) ≤ (Z : Int)) = false := decide_eq_false hg2
                have HQ1 := hid (show ∀ z ∈ fs.take (q + 1), z < countP m 0 by
                  intro z hz
                  rw [HTK.out] at hz
                  rcases List.mem_append.1 hz with hz | hz
                  · exact HQ.out z hz
                  · rw [List.mem_singleton.1 hz, HCP.out]; omega)
                have hS0 : Below wr.heap.size wr wr.drew ∧ wr.drew.cell? ⟨w.heap.size, 0, none⟩ = some (.slice m.ty'.a m.ty.length m.ty'.c) ∧ wr.drew.cell? ⟨w.heap.size, 1, none⟩ = some (.slice m.im'.a m.im.length m.im'.c) ∧ wr.drew.cell? ⟨w.heap.size, 2, none⟩ = some (.slice m.fu'.a m.fu.length m.fu'.c) ∧ wr.drew.cell? ⟨w.heap.size, 3, none⟩ = some (.slice m.tb'.a m.tb.length m.tb'.c) ∧ wr.drew.cell? ⟨w.heap.size, 4, none⟩ = some (.slice m.me'.a m.me.length m.me'.c) ∧ wr.drew.cell? ⟨w.heap.size, 5, none⟩ = some (.slice m.gl'.a m.gl.length m.gl'.c) ∧ wr.drew.cell? ⟨w.heap.size, 6, none⟩ = some (.slice m.ex'.a m.ex.length m.ex'.c) ∧ wr.drew.cell? ⟨w.heap.size, 7, none⟩ = some (.bool m.st) ∧ wr.drew.cell? ⟨w.heap.size, 8, none⟩ = some (.int .u32 m.sn) ∧ wr.drew.cell? ⟨w.heap.size, 9, none⟩ = some (.slice (some ⟨b, off, none⟩) m.el.length m.el'.c) ∧ wr.drew.cell? ⟨w.heap.size, 10, none⟩ = some (.slice m.da'.a m.da.length m.da'.c) ∧ wr.drew.cell? ⟨b, off + k * 2 + 1, none⟩ = some (.slice (some ⟨b', off', none⟩) fs.length fc) ∧ wr.drew.cell? ⟨b', off' + q, none⟩ = some (.int .u32 (Z : Int)) := ⟨(Below.refl _ _).drew, n0, n1, n2, n3, n4, n5, n6, n7, n8, n9, n10, c1, cv0⟩
                go_upto_region 12 with fail
                (go_region_held3 (fun w' => Below wr.heap.size wr w' ∧ w'.cell? ⟨w.heap.size, 0, none⟩ = some (.slice m.ty'.a m.ty.length m.ty'.c) ∧ w'.cell? ⟨w.heap.size, 1, none⟩ = some (.slice m.im'.a m.im.length m.im'.c) ∧ w'.cell? ⟨w.heap.size, 2, none⟩ = some (.slice m.fu'.a m.fu.length m.fu'.c) ∧ w'.cell? ⟨w.heap.size, 3, none⟩ = some (.slice m.tb'.a m.tb.length m.tb'.c) ∧ w'.cell? ⟨w.heap.size, 4, none⟩ = some (.slice m.me'.a m.me.length m.me'.c) ∧ w'.cell? ⟨w.heap.size, 5, none⟩ = some (.slice m.gl'.a m.gl.length m.gl'.c) ∧ w'.cell? ⟨w.heap.size, 6, none⟩ = some (.slice m.ex'.a m.ex.length m.ex'.c) ∧ w'.cell? ⟨w.heap.size, 7, none⟩ = some (.bool m.st) ∧ w'.cell? ⟨w.heap.size, 8, none⟩ = some (.int .u32 m.sn) ∧ w'.cell? ⟨w.heap.size, 9, none⟩ = some (.slice (some ⟨b, off, none⟩) m.el.length m.el'.c) ∧ w'.cell? ⟨w.heap.size, 10, none⟩ = some (.slice m.da'.a m.da.length m.da'.c) ∧ w'.cell? ⟨b, off + k * 2 + 1, none⟩ = some (.slice (some ⟨b', off', none⟩) fs.length fc) ∧ w'.cell? ⟨b', off' + q, none⟩ = some (.int .u32 (Z : Int)))
                  (first | assumption | exact held_keep13 (by assumption) (by assumption))
                  (first | (go_at_call 200; (with_reducible refine (HFUA.out _).mono ?_); rintro e7 w1 ⟨rfl, hb1⟩)))
                clear hS0
                have HX4 := hid (HX1.out.on hb1)
                clear hb1 HX1 HX c1 cv0 HFUA n0 n1 n2 n3 n4 n5 n6 n7 n8 n9 n10
                go_wp2
                go_roundw
                case rel => exact ⟨q + 1, by go_num, by omega, HX4, HQ1⟩
                case measure => simp [intOf]; omega
            · have hqk : q = fs.length := by omega
              have HSN := hid (show scanI m 5 0 m.el.length = scanI m 5 (k + 1) (m.el.length - (k + 1)) by
                have h0 : (secE m 5 k).1 = 0 := by
                  rw [HSE.out.1, if_neg (by
                    intro h
                    obtain ⟨z, hz, h2⟩ := List.any_eq_true.1 h
                    have := HQ.out z (by rw [hqk, List.take_length]; exact hz)
                    simp at h2; omega)]
                rw [HS.out, HSK.out, if_pos h0])
              have hqi : ¬ ((q : Int) < (fs.length : Int)) := by omega
              clear hlt hq HQ HSE HSK HS htg hqk
              go_wp2
              go_roundw
              case rel => exact ⟨k + 1, by go_num, by omega, HX, HSN⟩
              case measure => simp [intOf]; omega
        · rw [if_pos hz] at HSE
          have HSN := hid (show scanI m 5 0 m.el.length = some ⟨ce, 9, k, 0⟩ by rw [HS.out, HSK.out, if_neg (by rw [HSE.out.1]; exact hz), HSE.out.1, HSE.out.2]; rfl)
          have HRV := hid (show RV = ⟨ce, 9, k, 0⟩ by rw [HSEC.out, scanS_hit (show scanI m 5 0 (secL m 5) = some ⟨ce, 9, k, 0⟩ from HSN.out)]; rfl)
          have hne : (ce != 0) = true := by simpa using hz
          clear hz HSE HSK HS
          go_wp2_with fail
          refine CC.out.mono ?_
          rintro e w1 ⟨rfl, hb1⟩
          have HX2 := hid (HX.out.on hb1)
          clear CC HX hb1 c0 n0 n1 n2 n3 n4 n5 n6 n7 n8 n9 n10
          go_wp2_with fail
          refine (wrong_R ce 9 k 0 w1).mono ?_
          rintro e w2 ⟨rfl, hb2⟩
          have HX3 := hid (HX2.out.on hb2)
          clear hb2
          obtain ⟨r0, r1, r2, r3, s0, s1, s2, s3⟩ := HX3.out.rs.c
          go_wp2
          obtain ⟨q1, q2⟩ := HX3.out.tell ce 9 k 0
          exact bodyPost_ret (results_w Tryz.results100 _ _ (w.heap.size + 1) rfl q1) rfl ⟨by rw [HRV.out], q2⟩
    · have hkn : k = m.el.length := by omega
      have HSN := hid (show scanI m 5 0 m.el.length = none by rw [HS.out, hkn, Nat.sub_self]; rfl)
      have HRV := hid (show RV = ⟨0, 0, 0, 0⟩ by rw [HSEC.out, scanS_miss (show scanI m 5 0 (secL m 5) = none from HSN.out)]; rfl)
      have hki : ¬ ((k : Int) < (m.el.length : Int)) := by omega
      clear HS HSN hk hlt hkn
      obtain ⟨r0, r1, r2, r3, s0, s1, s2, s3⟩ := HX.out.rs.c
      go_wp2
      obtain ⟨q1, q2⟩ := HX.out.tell 0 0 0 0
      exact bodyPost_ret (results_w Tryz.results100 _ _ (w.heap.size + 1) rfl q1) rfl ⟨by rw [HRV.out], q2⟩
end Go.Proofs.YtdljneclfgneoaaGreatDoor.Val

namespace Go.Proofs.YtdljneclfgneoaaGreatDoor.Mod
open Go.RowKit Go.Proofs.YtdljneclfgneoaaGreatDoor.Instr

/-- A list has too many items. -/
def Md.many (m : Md) : Bool := m.crowded || m.has 141
def Md.lens7 (m : Md) : List Nat := [m.ty.length, m.im.length, m.fu.length, m.gl.length, m.ex.length, m.el.length, m.da.length]
def longF (e : El) : Bool := decide (16384 < e.fs.length)
theorem many_two {m : Md} (h : 1 < m.tb.length ∨ 1 < m.me.length) : m.many = true := by
  unfold Md.many Md.crowded; simp only [Bool.or_eq_true, decide_eq_true_eq]; rcases h with h | h <;> simp [h]
theorem many_el {m : Md} {k : Nat} (hk : k < m.el.length) (h : longF m.el[k] = true) : m.many = true := by
  have : (m.el.any fun e => decide (16384 < e.fs.length)) = true := any_some (p := longF) hk h
  unfold Md.many Md.crowded; rw [this]; simp
theorem many_len {m : Md} {k : Nat} (hk : k < 7) (h : 16384 < m.lens7.getD k 0) : m.many = true := by
  unfold Md.many Md.crowded
  unfold Md.lens7 at h
  match k, hk with
  | 0, _ => simp only [List.getD_cons_zero] at h; simp [h]
  | 1, _ => simp only [List.getD_cons_zero, List.getD_cons_succ] at h; simp [h]
  | 2, _ => simp only [List.getD_cons_zero, List.getD_cons_succ] at h; simp [h]
  | 3, _ => simp only [List.getD_cons_zero, List.getD_cons_succ] at h; simp [h]
  | 4, _ => simp only [List.getD_cons_zero, List.getD_cons_succ] at h; simp [h]
  | 5, _ => simp only [List.getD_cons_zero, List.getD_cons_succ] at h; simp [h]
  | 6, _ => simp only [List.getD_cons_zero, List.getD_cons_succ] at h; simp [h]
theorem many_rest {m : Md} (h1 : ¬ 1 < m.tb.length) (h2 : ¬ 1 < m.me.length) (h3 : ∀ k, k < 7 → ¬ 16384 < m.lens7.getD k 0) (h4 : ∀ j (hj : j < m.el.length), j < 16385 → longF m.el[j] = false) : m.many = m.has 141 := by
  have a0 := h3 0 (by omega)
  have a1 := h3 1 (by omega)
  have a2 := h3 2 (by omega)
  have a3 := h3 3 (by omega)
  have a4 := h3 4 (by omega)
  have a5 := h3 5 (by omega)
  have a6 := h3 6 (by omega)
  unfold Md.lens7 at a0 a1 a2 a3 a4 a5 a6
  simp only [List.getD_cons_zero, List.getD_cons_succ] at a0 a1 a2 a3 a4 a5 a6
  have : (m.el.any fun e => decide (16384 < e.fs.length)) = false := any_none (p := longF) (fun j hj => h4 j hj (by omega))
  unfold Md.many Md.crowded
  rw [this]
  simp [a0, a1, a2, a3, a4, a5, a6, h1, h2]
theorem cell7 (w : World) (a b c d e f g : Int) (t : TypeId) {k : Nat} (hk : k < 7) : (w.alloc (.cells #[.int .i64 a, .int .i64 b, .int .i64 c, .int .i64 d, .int .i64 e, .int .i64 f, .int .i64 g] t)).cell? ⟨w.heap.size, k, none⟩ = some (.int .i64 ([a, b, c, d, e, f, g].getD k 0)) := by
  match k, hk with
  | 0, _ => simp [go_sem]
  | 1, _ => simp [go_sem]
  | 2, _ => simp [go_sem]
  | 3, _ => simp [go_sem]
  | 4, _ => simp [go_sem]
  | 5, _ => simp [go_sem]
  | 6, _ => simp [go_sem]
theorem getD7 (a b c d e f g : Nat) (k : Nat) : [(a : Int), b, c, d, e, f, g].getD k 0 = (([a, b, c, d, e, f, g].getD k 0 : Nat) : Int) := by
  match k with
  | 0 => rfl
  | 1 => rfl
  | 2 => rfl
  | 3 => rfl
  | 4 => rfl
  | 5 => rfl
  | 6 => rfl
  | k + 7 => simp
set_option maxHeartbeats 4000000 in
set_option maxRecDepth 100000 in
theorem refMany_any (m : Md) (w : World) (hm : ModAt w.heap.size w m) (hf : m.few) :
    Calls Tryz.prog 178 #[.agg m.v] w fun x w' => x = .returned (.bool m.many) ∧ Below w.heap.size w w' := by
  have hb0 := (Below.refl w.heap.size w).alloc (Nat.le_refl _) (.cells m.v 40)
  have HB := hid hb0
  have HM := hid (hm.on hb0)
  have X0 := (BoxAt.made w m.v 40)
  have HX := hid X0
  have HF := hid hf
  have HLF := hid (show ∀ e ∈ m.el, e.fs.length ≤ 140737488351232 from hf.fit.fs)
  have hle : m.el.length ≤ 1000000 := hf.lens.2.2.2.2.2.2.2.1
  have b0 := hf.fit.ty
  have b1 := hf.fit.im
  have b2 := hf.fit.fu
  have b3 := hf.fit.tb
  have b4 := hf.fit.me
  have b5 := hf.fit.gl
  have b6 := hf.fit.ex
  have b10 := hf.fit.da
  have HT2 := hid (fun h => many_two (m := m) h)
  have HTL := hid (fun k (hk : k < 7) h => many_len (m := m) hk h)
  have HRR := hid (fun h1 h2 h3 h4 => many_rest (m := m) h1 h2 h3 h4)
  have H7 : Hid (m.lens7 = [m.ty.length, m.im.length, m.fu.length, m.gl.length, m.ex.length, m.el.length, m.da.length]) := rfl
  unfold Md.v at HB HX HM X0 ⊢
  clear hm hf hb0
  have x0 := X0 0 _ rfl
  have x1 := X0 1 _ rfl
  have x2 := X0 2 _ rfl
  have x3 := X0 3 _ rfl
  have x4 := X0 4 _ rfl
  have x5 := X0 5 _ rfl
  have x6 := X0 6 _ rfl
  have x7 := X0 7 _ rfl
  have x8 := X0 8 _ rfl
  have x9 := X0 9 _ rfl
  have x10 := X0 10 _ rfl
  clear X0
  go_enter Tryz.func178, Tryz.ntmps178
  by_cases g1 : 1 < m.tb.length
  · have HE := hid (HT2.out (.inl g1))
    have g1i : (1 : Int) < (m.tb.length : Int) := by omega
    clear HT2 HTL HRR HX HM
    go_wp2
    go_ret
    exact ⟨ret_bool HE.out.symm, HB.out⟩
  · have g1i : ¬ (1 : Int) < (m.tb.length : Int) := by omega
    by_cases g2 : 1 < m.me.length
    · have HE := hid (HT2.out (.inr g2))
      have g2i : (1 : Int) < (m.me.length : Int) := by omega
      clear HT2 HTL HRR HX HM
      go_wp2
      go_ret
      exact ⟨ret_bool HE.out.symm, HB.out⟩
    · have g2i : ¬ (1 : Int) < (m.me.length : Int) := by omega
      have HR1 := hid (HRR.out g1 g2)
      clear HT2 HRR g1 g2
      have C := hid (fun (W : World) (h : ModAt W.heap.size W m) => refInstrs_any m 141 W h HF.out)
      unfold Md.v at C
      go_wp2
      generalize w.alloc (.cells #[.slice m.ty'.a m.ty.length m.ty'.c, .slice m.im'.a m.im.length m.im'.c, .slice m.fu'.a m.fu.length m.fu'.c, .slice m.tb'.a m.tb.length m.tb'.c, .slice m.me'.a m.me.length m.me'.c, .slice m.gl'.a m.gl.length m.gl'.c, .slice m.ex'.a m.ex.length m.ex'.c, .bool m.st, .int .u32 m.sn, .slice m.el'.a m.el.length m.el'.c, .slice m.da'.a m.da.length m.da'.c] 40) = W0 at *
      obtain ⟨le, hle0⟩ : ∃ n, m.el.length = n := ⟨_, rfl⟩
      have Lle := hid hle0
      rw [hle0] at x9 hle H7 C
      have RE := hid HM.out.el
      clear hle0
      go_loopw [3] (fun vi wr => ∃ k : Nat, vi = .int .i64 k ∧ k ≤ le ∧ k ≤ 16385 ∧ wr = W0 ∧ Hid (∀ j (hj : j < m.el.length), j < k → longF m.el[j] = false)) (fun vi _ => le - (intOf vi).toNat)
      case atStart => exact ⟨0, rfl, Nat.zero_le _, Nat.zero_le _, rfl, none_upto _ _⟩
      case round =>
        obtain ⟨k, rfl, hk, hk2, rfl, HQ⟩ := hrel
        by_cases hlt : k < le ∧ k < 16385
        · obtain ⟨l1, l2⟩ := hlt
          have hkl : k < m.el.length := by rw [Lle.out]; exact l1
          obtain ⟨b, off, ha, hb, hc⟩ := Rows.get RE.out hkl
          rw [ha] at x9
          have HT := hid (fun (h : longF m.el[k] = true) => many_el hkl h)
          have HO := hid (fun (h : longF m.el[k] = false) => any_take hkl HQ.out h)
          have hsz := HLF.out m.el[k] (List.getElem_mem hkl)
          have HWT : Hid (longF m.el[k] = decide (16384 < m.el[k].fs.length)) := rfl
          obtain ⟨x, hx⟩ : ∃ x, m.el[k] = x := ⟨_, rfl⟩
          rw [hx] at hc HT hsz HWT
          have HO1 : Hid (longF x = false → ∀ j (hj : j < m.el.length), j < k + 1 → longF m.el[j] = false) := by rw [← hx]; exact HO
          have c1 := hc 1 (by omega) (.slice x.fa x.fs.length x.fc) rfl
          obtain ⟨q, hq⟩ : ∃ q, x.fs.length = q := ⟨_, rfl⟩
          rw [hq] at c1 HWT hsz
          have hki : (k : Int) < (le : Int) := by omega
          have hki2 : (k : Int) ≤ 16384 := by omega
          clear hc hx hq hb ha hkl HO HQ
          by_cases g : 16384 < q
          · have HE := hid (HT.out (by rw [HWT.out]; simp [g]))
            have gi : (16384 : Int) < (q : Int) := by omega
            clear HT HO1 HWT
            go_wp2
            go_ret
            exact ⟨ret_bool HE.out.symm, HB.out⟩
          · have HE := hid (HO1.out (by rw [HWT.out]; simp [g]))
            have gi : ¬ (16384 : Int) < (q : Int) := by omega
            clear HT HO1 HWT
            go_wp2
            go_roundw
            case rel => exact ⟨k + 1, by go_num, by omega, by omega, trivial, HE⟩
            case measure => simp [intOf]; omega
        · have HQ9 := hid (show ∀ j (hj : j < m.el.length), j < 16385 → longF m.el[j] = false from fun j hj hj2 => HQ.out j hj (by have := Lle.out; omega))
          clear HQ
          by_cases l1 : k < le
          · have l2 : k = 16385 := by omega
            subst l2
            have l1i : (16385 : Int) < (le : Int) := by omega
            go_wp2
            have hbA := (Below.refl wr.heap.size wr).alloc (Nat.le_refl _) (.cells #[.int .i64 m.ty.length, .int .i64 m.im.length, .int .i64 m.fu.length, .int .i64 m.gl.length, .int .i64 m.ex.length, .int .i64 le, .int .i64 m.da.length] 3)
            have HC7 := hid (show ∀ j, j < 7 → (wr.alloc (.cells #[.int .i64 m.ty.length, .int .i64 m.im.length, .int .i64 m.fu.length, .int .i64 m.gl.length, .int .i64 m.ex.length, .int .i64 le, .int .i64 m.da.length] 3)).cell? ⟨wr.heap.size, j, none⟩ = some (.int .i64 ((m.lens7.getD j 0 : Nat) : Int)) from fun j hj => by rw [cell7 wr _ _ _ _ _ _ _ _ hj, getD7, H7.out])
            have HB7 := hid (HB.out.trans (hbA.mono HB.out.size))
            have C7 := hid (C.out _ (HM.out.on hbA))
            have y0 := Go.Proofs.YtdljneclfgneoaaGreatDoor.keep hbA x0
            have y1 := Go.Proofs.YtdljneclfgneoaaGreatDoor.keep hbA x1
            have y2 := Go.Proofs.YtdljneclfgneoaaGreatDoor.keep hbA x2
            have y3 := Go.Proofs.YtdljneclfgneoaaGreatDoor.keep hbA x3
            have y4 := Go.Proofs.YtdljneclfgneoaaGreatDoor.keep hbA x4
            have y5 := Go.Proofs.YtdljneclfgneoaaGreatDoor.keep hbA x5
            have y6 := Go.Proofs.YtdljneclfgneoaaGreatDoor.keep hbA x6
            have y7 := Go.Proofs.YtdljneclfgneoaaGreatDoor.keep hbA x7
            have y8 := Go.Proofs.YtdljneclfgneoaaGreatDoor.keep hbA x8
            have y9 := Go.Proofs.YtdljneclfgneoaaGreatDoor.keep hbA x9
            have y10 := Go.Proofs.YtdljneclfgneoaaGreatDoor.keep hbA x10
            clear C HM HX hbA HB RE x0 x1 x2 x3 x4 x5 x6 x7 x8 x9 x10
            generalize wr.alloc (.cells #[.int .i64 m.ty.length, .int .i64 m.im.length, .int .i64 m.fu.length, .int .i64 m.gl.length, .int .i64 m.ex.length, .int .i64 le, .int .i64 m.da.length] 3) = W1 at *
            go_loopw [5] (fun vi w9 => ∃ i : Nat, vi = .int .i64 i ∧ i ≤ 7 ∧ w9 = W1 ∧ Hid (∀ j, j < i → ¬ 16384 < m.lens7.getD j 0)) (fun vi _ => 7 - (intOf vi).toNat)
            case atStart => exact ⟨0, rfl, Nat.zero_le _, rfl, fun j h => absurd h (Nat.not_lt_zero _)⟩
            case round =>
              obtain ⟨i, rfl, hi, rfl, HI⟩ := hrel
              by_cases hi7 : i < 7
              · have c := HC7.out i hi7
                have HT := hid (HTL.out i hi7)
                have HO := hid (show ¬ 16384 < m.lens7.getD i 0 → ∀ j, j < i + 1 → ¬ 16384 < m.lens7.getD j 0 from fun h j hj => by
                  by_cases e : j = i
                  · rw [e]; exact h
                  · exact HI.out j (by omega))
                obtain ⟨q, hq⟩ : ∃ q, m.lens7.getD i 0 = q := ⟨_, rfl⟩
                rw [hq] at c HT HO
                have hii : (i : Int) < 7 := by omega
                clear hq HI
                by_cases g : 16384 < q
                · have HE := hid (HT.out g)
                  have gi : (16384 : Int) < (q : Int) := by omega
                  clear HT HO
                  go_wp2
                  go_ret
                  exact ⟨ret_bool HE.out.symm, HB7.out⟩
                · have HE := hid (HO.out g)
                  have gi : ¬ (16384 : Int) < (q : Int) := by omega
                  clear HT HO
                  go_wp2
                  go_roundw
                  case rel => exact ⟨i + 1, by go_num, by omega, trivial, HE⟩
                  case measure => simp [intOf]; omega
              · obtain rfl : i = 7 := by omega
                have HE := hid (HR1.out HI.out HQ9.out)
                clear HI HR1 HTL
                go_wp2_with fail
                refine C7.out.mono ?_
                rintro e1 w1 ⟨rfl, hb1⟩
                have HZ := hid (HB7.out.trans (hb1.mono HB7.out.size))
                clear C7 hb1
                go_wp2
                go_ret
                exact ⟨ret_bool HE.out.symm, HZ.out⟩
          · obtain rfl : le = k := by omega
            go_wp2
            have hbA := (Below.refl wr.heap.size wr).alloc (Nat.le_refl _) (.cells #[.int .i64 m.ty.length, .int .i64 m.im.length, .int .i64 m.fu.length, .int .i64 m.gl.length, .int .i64 m.ex.length, .int .i64 le, .int .i64 m.da.length] 3)
            have HC7 := hid (show ∀ j, j < 7 → (wr.alloc (.cells #[.int .i64 m.ty.length, .int .i64 m.im.length, .int .i64 m.fu.length, .int .i64 m.gl.length, .int .i64 m.ex.length, .int .i64 le, .int .i64 m.da.length] 3)).cell? ⟨wr.heap.size, j, none⟩ = some (.int .i64 ((m.lens7.getD j 0 : Nat) : Int)) from fun j hj => by rw [cell7 wr _ _ _ _ _ _ _ _ hj, getD7, H7.out])
            have HB7 := hid (HB.out.trans (hbA.mono HB.out.size))
            have C7 := hid (C.out _ (HM.out.on hbA))
            have y0 := Go.Proofs.YtdljneclfgneoaaGreatDoor.keep hbA x0
            have y1 := Go.Proofs.YtdljneclfgneoaaGreatDoor.keep hbA x1
            have y2 := Go.Proofs.YtdljneclfgneoaaGreatDoor.keep hbA x2
            have y3 := Go.Proofs.YtdljneclfgneoaaGreatDoor.keep hbA x3
            have y4 := Go.Proofs.YtdljneclfgneoaaGreatDoor.keep hbA x4
            have y5 := Go.Proofs.YtdljneclfgneoaaGreatDoor.keep hbA x5
            have y6 := Go.Proofs.YtdljneclfgneoaaGreatDoor.keep hbA x6
            have y7 := Go.Proofs.YtdljneclfgneoaaGreatDoor.keep hbA x7
            have y8 := Go.Proofs.YtdljneclfgneoaaGreatDoor.keep hbA x8
            have y9 := Go.Proofs.YtdljneclfgneoaaGreatDoor.keep hbA x9
            have y10 := Go.Proofs.YtdljneclfgneoaaGreatDoor.keep hbA x10
            clear C HM HX hbA HB RE x0 x1 x2 x3 x4 x5 x6 x7 x8 x9 x10
            generalize wr.alloc (.cells #[.int .i64 m.ty.length, .int .i64 m.im.length, .int .i64 m.fu.length, .int .i64 m.gl.length, .int .i64 m.ex.length, .int .i64 le, .int .i64 m.da.length] 3) = W1 at *
            go_loopw [5] (fun vi w9 => ∃ i : Nat, vi = .int .i64 i ∧ i ≤ 7 ∧ w9 = W1 ∧ Hid (∀ j, j < i → ¬ 16384 < m.lens7.getD j 0)) (fun vi _ => 7 - (intOf vi).toNat)
            case atStart => exact ⟨0, rfl, Nat.zero_le _, rfl, fun j h => absurd h (Nat.not_lt_zero _)⟩
            case round =>
              obtain ⟨i, rfl, hi, rfl, HI⟩ := hrel
              by_cases hi7 : i < 7
              · have c := HC7.out i hi7
                have HT := hid (HTL.out i hi7)
                have HO := hid (show ¬ 16384 < m.lens7.getD i 0 → ∀ j, j < i + 1 → ¬ 16384 < m.lens7.getD j 0 from fun h j hj => by
                  by_cases e : j = i
                  · rw [e]; exact h
                  · exact HI.out j (by omega))
                obtain ⟨q, hq⟩ : ∃ q, m.lens7.getD i 0 = q := ⟨_, rfl⟩
                rw [hq] at c HT HO
                have hii : (i : Int) < 7 := by omega
                clear hq HI
                by_cases g : 16384 < q
                · have HE := hid (HT.out g)
                  have gi : (16384 : Int) < (q : Int) := by omega
                  clear HT HO
                  go_wp2
                  go_ret
                  exact ⟨ret_bool HE.out.symm, HB7.out⟩
                · have HE := hid (HO.out g)
                  have gi : ¬ (16384 : Int) < (q : Int) := by omega
                  clear HT HO
                  go_wp2
                  go_roundw
                  case rel => exact ⟨i + 1, by go_num, by omega, trivial, HE⟩
                  case measure => simp [intOf]; omega
              · obtain rfl : i = 7 := by omega
                have HE := hid (HR1.out HI.out HQ9.out)
                clear HI HR1 HTL
                go_wp2_with fail
                refine C7.out.mono ?_
                rintro e1 w1 ⟨rfl, hb1⟩
                have HZ := hid (HB7.out.trans (hb1.mono HB7.out.size))
                clear C7 hb1
                go_wp2
                go_ret
                exact ⟨ret_bool HE.out.symm, HZ.out⟩
end Go.Proofs.YtdljneclfgneoaaGreatDoor.Mod
