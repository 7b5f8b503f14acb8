/-
  MODULE: a module that may be may be without any one of its items: ModuleLess.
-/
import Derived.Test.YtlfflomeaplidaaDoorModAwake
import Derived.Test.YtlfflomeaplidaaDoorModLess
import Derived.Test.YtlfflomeaplidaaDoorModLarge
import Derived.RegionTactic
namespace Go.Proofs.YtlfflomeaplidaaDoor.Mod
open Go.RowKit Go.Shelf Go.Proofs.YtlfflomeaplidaaDoor.Instr

theorem count_le_weight : ∀ t : Il, t.count ≤ t.weight
  | .nil => Nat.le_refl _
  | .cons x l e r => by have := count_le_weight l; have := count_le_weight e; have := count_le_weight r; simp only [Il.count, Il.weight]; omega
theorem small_few' {m : Md} {k : Nat} (h : m.small k) (hk : k ≤ 1000000) (hf : m.fits) : m.few := ⟨hf, fun l hl => by have := h.ls l hl; have := count_le_weight l.t; omega, by have := h.lens; omega⟩
theorem typeN_fu (m : Md) (i : Nat) (h : i < m.fu.length) : m.typeN (m.im.length + i) = m.fu[i].ty := by
  unfold Md.typeN
  rw [if_neg (by omega), if_pos (by omega), Nat.add_sub_cancel_left]
  simp [h]
theorem fu_pos {m : Md} (h : m.check = 0) (i : Nat) (hi : i < m.fu.length) : 0 ≤ m.fu[i].ty := by
  obtain ⟨_, _, _, _, h5⟩ := (check_zero m).1 h
  unfold Md.wrong at h5
  simp only [Bool.or_eq_false_iff] at h5
  have h6 := h5.1.1.1.1.2
  rw [List.any_eq_false] at h6
  have := h6 m.fu[i] (List.getElem_mem hi)
  unfold wrongF wrongN at this
  simp at this
  omega
set_option maxHeartbeats 4000000 in
set_option maxRecDepth 100000 in
theorem moduleLess_go (w : World) (m : Md) (x : Int) (hx : -9223372036854775808 ≤ x ∧ x ≤ 9223372036854775807) (hm : ModAt w.heap.size w m) (hf : m.fits) (hc : m.caps) (hT : Nams w) (hU : Utf.Tabs w) :
    Calls Tryd.prog 4 #[.agg m.v, .int .i64 x] w fun e w' => e = .returned (.bool true) ∧ Below w.heap.size w w' := by
  have hb0 := (Below.refl w.heap.size w).alloc (Nat.le_refl _) (.cells m.v 46)
  have B0 := hid hb0
  have X0 := hid (BoxAt.made w m.v 46)
  have HT := hid hT
  have HU := hid hU
  have HM := hid hm
  have HF := hid hf
  have HC := hid hc
  have HP := hid hx
  have C := hid (awake_any (w.alloc (.cells m.v 46)) (hT.below hb0) (hU.below hb0))
  clear hb0 hT hU hm hf hc hx
  unfold Md.v at B0 X0 C ⊢
  go_enter Tryd.func4, Tryd.ntmps4
  go_wp2_with fail
  refine C.out.mono ?_
  rintro e w1 ⟨rfl, hb⟩
  have B1 := hid (B0.out.trans (hb.mono B0.out.size))
  have X1 := hid (show BoxAt w1 w.heap.size m.v from X0.out.keep hb)
  have M1 := hid (HM.out.on B1.out)
  obtain ⟨d0, d1, d2, d3, d4, d5, d6, d7, d8, d9, d10⟩ := X1.out.all
  have C2 := hid (Large_any m w1 M1.out HF.out)
  unfold Md.v at C2
  clear C hb X0 B0
  go_wp2_with fail
  refine C2.out.mono ?_
  clear C2
  rintro e w2 ⟨b, rfl, hs, hb⟩
  have B2 := hid (B1.out.trans (hb.mono B1.out.size))
  have X2 := hid (X1.out.keep hb)
  have M2 := hid (M1.out.on hb)
  have HS := hid hs
  clear hb hs d0 d1 d2 d3 d4 d5 d6 d7 d8 d9 d10 X1 M1 B1
  cases b with
  | true =>
    go_wp2
    go_ret
    exact ⟨rfl, B2.out⟩
  | false =>
    have HW := hid (small_few' (HS.out rfl) (by omega) HF.out)
    have HSM := hid (HS.out rfl)
    clear HS
    obtain ⟨d0, d1, d2, d3, d4, d5, d6, d7, d8, d9, d10⟩ := X2.out.all
    have C3 := hid (ModCheck_any m w2 (HT.out.below B2.out) (HU.out.below B2.out) M2.out HW.out)
    obtain ⟨q, hq⟩ : ∃ q, m.check = q := ⟨_, rfl⟩
    rw [hq] at C3
    have HQ := hid hq
    unfold Md.v at C3
    clear hq
    by_cases h0 : q = 0
    · subst h0
      go_wp2_with fail
      refine C3.out.mono ?_
      clear C3
      rintro e w3 ⟨rfl, hb⟩
      have B3 := hid (B2.out.trans (hb.mono B2.out.size))
      have X3 := hid (X2.out.keep hb)
      have M3 := hid (M2.out.on hb)
      clear hb d0 d1 d2 d3 d4 d5 d6 d7 d8 d9 d10 X2 M2 B2
      obtain ⟨d0, d1, d2, d3, d4, d5, d6, d7, d8, d9, d10⟩ := X3.out.all
      obtain ⟨k, hk⟩ : ∃ k : Nat, x % 9 = k := ⟨(x % 9).toNat, by omega⟩
      have hk9 : k < 9 := by omega
      have CP := hid (fun W => Pick_any x W HP.out)
      rw [hk] at CP
      have CL := hid (fun W => less_any m k hk9 W HF.out HC.out)
      have CC := hid (fun W (hb : Below w.heap.size w W) => ModCheck_any (m.less k) W (HT.out.below hb) (HU.out.below hb) (at_sub (less_sub m k) (less_lies m k) (HM.out.on hb)) (few_sub (less_sub m k) HW.out))
      have HZ := hid (check_sub (less_sub m k) HQ.out)
      rw [HZ.out] at CC
      unfold Lessened at CL
      obtain ⟨V, hV⟩ : ∃ V, (m.less k).v = V := ⟨_, rfl⟩
      rw [hV] at CL CC
      have CL' := CL
      unfold Md.v at CL'
      clear hV hk CL
      go_wp2
      go_region_with (first
        | (go_at_call 19; refine (CP.out _).mono ?_; rintro e w4 ⟨rfl, rfl⟩)
        | (go_at_call 18; refine (CL'.out _).mono ?_; rintro e w5 ⟨rfl, hb5⟩)
        | (go_at_call 17; refine (CC.out _ (B3.out.drew.trans (hb5.mono B3.out.drew.size))).mono ?_; rintro e w6 ⟨rfl, hb6⟩))
      all_goals
        have B6 := hid (B3.out.drew.trans ((thenB hb5 hb6).mono B3.out.drew.size))
        have M6 := hid (HM.out.on B6.out)
        have X6 := hid (show BoxAt w6 w.heap.size m.v from X3.out.keep (Below.refl w3.heap.size w3 |>.drew |>.trans ((thenB hb5 hb6).mono (by simp))))
        have l1 : m.im.length ≤ 5000 := by have := HSM.out.lens; omega
        have l2 : m.fu.length ≤ 5000 := by have := HSM.out.lens; omega
        have l3 : m.ty.length ≤ 5000 := by have := HSM.out.lens; omega
        clear hb5 hb6 d0 d1 d2 d3 d4 d5 d6 d7 d8 d9 d10 CP CL' CC HZ X3 M3 B3
        go_wp2
        obtain ⟨n, hn⟩ : ∃ n, m.fu.length = n := ⟨_, rfl⟩
        have HN := hid hn
        rw [hn] at l2
        clear hn
        go_loopw [6] (fun vi wr => ∃ k : Nat, vi = .int .i64 k ∧ k ≤ n ∧ Hid (Below w6.heap.size w6 wr)) (fun vi _ => n - (intOf vi).toNat)
        case atStart => exact ⟨0, rfl, Nat.zero_le _, Below.refl _ _⟩
        case round =>
          obtain ⟨k, rfl, hk, HW6⟩ := hrel
          have XW := hid (X6.out.keep HW6.out)
          obtain ⟨d0, d1, d2, d3, d4, d5, d6, d7, d8, d9, d10⟩ := XW.out.all
          rw [HN.out] at d2
          by_cases hlt : k < n
          · have hkl : k < m.fu.length := by rw [HN.out]; exact hlt
            have hki : (k : Int) < (n : Int) := by omega
            have MW := hid (M6.out.on HW6.out)
            have hwr : IntKind.u32.wrap ((m.im.length : Int) + (k : Int)) = (m.im.length : Int) + (k : Int) := by rw [IntKind.wrap_u32]; omega
            have C0 := TypeOf_any m (m.im.length + k) wr MW.out HF.out (by omega)
            have hty := typeN_fu m k hkl
            have hp := fu_pos HQ.out k hkl
            obtain ⟨T, hT⟩ : ∃ T : Int, m.fu[k].ty = T := ⟨_, rfl⟩
            rw [hT] at hty hp
            obtain ⟨t, rfl⟩ : ∃ t : Nat, T = t := ⟨T.toNat, by omega⟩
            have HFU := hid (show ∀ W, Below wr.heap.size wr W → ∃ b off, m.fu'.a = some ⟨b, off, none⟩ ∧ W.cell? ⟨b, off + k * 3, none⟩ = some (.int .i64 t) from fun W hb => by
              obtain ⟨b, off, ha, _, hc⟩ := Rows.get (MW.out.on hb).fu hkl
              refine ⟨b, off, ha, ?_⟩
              have := hc 0 (by omega) (.int .i64 m.fu[k].ty) rfl
              rw [hT] at this
              exact this)
            rw [show ((m.im.length + k : Nat) : Int) = (m.im.length : Int) + (k : Int) by omega] at C0
            by_cases ht : t < m.ty.length
            · have hto := typeOf_yes hty ht
              rw [hto] at C0
              obtain ⟨y, hy⟩ : ∃ y, m.ty[t] = y := ⟨_, rfl⟩
              rw [hy] at C0
              have HTY := hid (show ∀ W, Below wr.heap.size wr W → ∃ b off, m.ty'.a = some ⟨b, off, none⟩ ∧ W.cell? ⟨b, off + t * 2, none⟩ = some (.int .i64 y.1) ∧ W.cell? ⟨b, off + t * 2 + 1, none⟩ = some (.int .i64 y.2) from fun W hb => by
                obtain ⟨b, off, ha, _, hc⟩ := Rows.get (MW.out.on hb).ty ht
                rw [hy] at hc
                exact ⟨b, off, ha, hc 0 (by omega) _ rfl, hc 1 (by omega) _ rfl⟩)
              have C := hid C0
              unfold Md.v at C
              dsimp only at C
              rw [HN.out] at C
              have hti : (t : Int) < (m.ty.length : Int) := by omega
              clear C0 hty hp hT hto hy
              go_wp2_with fail
              refine C.out.mono ?_
              clear C
              rintro e w7 ⟨rfl, hb7⟩
              have HW7 := hid (HW6.out.trans (hb7.mono HW6.out.size))
              obtain ⟨e0, e1, e2, e3, e4, e5, e6, e7, e8, e9, e10⟩ := (XW.out.keep hb7).all
              rw [HN.out] at e2
              obtain ⟨b1, o1, ha1, f0⟩ := HFU.out w7 hb7
              obtain ⟨b2, o2, ha2, g0, g1⟩ := HTY.out w7 hb7
              rw [ha1] at e2
              rw [ha2] at e0
              have q1 := Kind.eqType
              have q2 := Kind.guardType
              have hl1 := World.block_lt_of_cell? w7 _ f0
              have hl2 := World.block_lt_of_cell? w7 _ g0
              have hl3 := World.block_lt_of_cell? w7 _ e0
              dsimp only at hl1 hl2 hl3
              clear d0 d1 d2 d3 d4 d5 d6 d7 d8 d9 d10 hwr hb7 ha1 ha2 e1 e3 e4 e5 e6 e7 e8 e9 e10 HFU HTY MW XW
              go_wp2
              go_quiet (fail)
              go_wp2
              go_roundw
              case rel => exact ⟨k + 1, by go_num, by omega, drewM (HW7.out.alloc HW7.out.size _) _⟩
              case measure => simp [intOf]; omega
            · have hto := typeOf_no (m := m) (n := m.im.length + k) (.inr (by rw [hty]; omega))
              rw [hto] at C0
              have C := hid C0
              unfold Md.v at C
              dsimp only at C
              rw [HN.out] at C
              have hti : ¬ (t : Int) < (m.ty.length : Int) := by omega
              clear C0 hty hp hT hto
              go_wp2_with fail
              refine C.out.mono ?_
              clear C
              rintro e w7 ⟨rfl, hb7⟩
              have HW7 := hid (HW6.out.trans (hb7.mono HW6.out.size))
              obtain ⟨e0, e1, e2, e3, e4, e5, e6, e7, e8, e9, e10⟩ := (XW.out.keep hb7).all
              rw [HN.out] at e2
              obtain ⟨b1, o1, ha1, f0⟩ := HFU.out w7 hb7
              rw [ha1] at e2
              have hl1 := World.block_lt_of_cell? w7 _ f0
              have hl3 := World.block_lt_of_cell? w7 _ e0
              dsimp only at hl1 hl3
              clear d0 d1 d2 d3 d4 d5 d6 d7 d8 d9 d10 hwr hb7 ha1 e1 e3 e4 e5 e6 e7 e8 e9 e10 HFU MW XW
              go_wp2
              go_quiet (fail)
              go_wp2
              go_roundw
              case rel => exact ⟨k + 1, by go_num, by omega, drewM (HW7.out.alloc HW7.out.size _) _⟩
              case measure => simp [intOf]; omega
          · obtain rfl : k = n := by omega
            go_wp2
            go_ret
            exact ⟨rfl, B6.out.trans (HW6.out.mono B6.out.size)⟩
    · have h1 : (q == 0) = false := by simpa using h0
      have h2 : (q != 0) = true := by simpa using h0
      go_wp2_with fail
      refine C3.out.mono ?_
      clear C3
      rintro e w3 ⟨rfl, hb⟩
      have B3 := hid (B2.out.trans (hb.mono B2.out.size))
      clear hb d0 d1 d2 d3 d4 d5 d6 d7 d8 d9 d10
      go_wp2
      go_ret
      exact ⟨rfl, B3.out⟩
end Go.Proofs.YtlfflomeaplidaaDoor.Mod
namespace Go.Proofs.YtlfflomeaplidaaDoor
open Go.RowKit
theorem moduleLess_walk (w : World) (m : Mod.Md) (hm : Mod.ModAt w.heap.size w m) (hf : m.fits) (hc : m.caps) (x : Int) (hx : -9223372036854775808 ≤ x ∧ x ≤ 9223372036854775807) (hT : Instr.Nams w ∧ Utf.Tabs w) :
    Calls Tryd.prog 4 #[.agg m.v, .int .i64 x] w fun e w' => e = .returned (.bool true) ∧ Below w.heap.size w w' := Mod.moduleLess_go w m x hx hm hf hc hT.1 hT.2
end Go.Proofs.YtlfflomeaplidaaDoor
