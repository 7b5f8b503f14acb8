import Derived.Test.YtdljneclfgneoaaGreatDoorVb22
import Derived.Test.YtdljneclfgneoaaGreatDoorVb23
import Derived.Test.YtdljneclfgneoaaGreatDoorVb14
import Derived.Test.YtdljneclfgneoaaGreatDoorVb15
import Derived.Test.YtdljneclfgneoaaGreatDoorVb02
import Derived.Test.YtdljneclfgneoaaGreatDoorCards
import Derived.Test.YtdljneclfgneoaaGreatDoorTie
import Derived.Test.YtdljneclfgneoaaGreatDoorVb03
namespace Go.Proofs.YtdljneclfgneoaaGreatDoor.Instr
end Go.Proofs.YtdljneclfgneoaaGreatDoor.Instr
namespace Go.Proofs.YtdljneclfgneoaaGreatDoor.Mod
end Go.Proofs.YtdljneclfgneoaaGreatDoor.Mod
namespace Go.Proofs.YtdljneclfgneoaaGreatDoor.Val
end Go.Proofs.YtdljneclfgneoaaGreatDoor.Val
namespace Go.Proofs.YtdljneclfgneoaaGreatDoor.Val
open Go.RowKit Go.Shelf Go.Proofs.YtdljneclfgneoaaGreatDoor.Instr Go.Proofs.YtdljneclfgneoaaGreatDoor.Mod
set_option linter.unusedVariables false

theorem scanI_ne {m : Md} {j : Nat} : ∀ (n k : Nat) {r : Wr}, scanI m j k n = some r → r.e ≠ 0
  | 0, k, r, h => by simp [scanI] at h
  | n + 1, k, r, h => by
    unfold scanI at h
    by_cases hz : (secE m j k).1 = 0
    · rw [if_pos hz] at h; exact scanI_ne n (k + 1) h
    · rw [if_neg hz] at h; cases h; exact hz
theorem scanS_ne {m : Md} : ∀ (c j : Nat) {r : Wr}, scanS m j c = some r → r.e ≠ 0
  | 0, j, r, h => by simp [scanS] at h
  | c + 1, j, r, h => by
    cases hs : scanI m j 0 (secL m j) with
    | some q => rw [scanS_hit hs] at h; cases h; exact scanI_ne _ _ hs
    | none => rw [scanS_miss hs] at h; exact scanS_ne c (j + 1) h
/-- Four cells of a box elsewhere are written. -/
def W4 (W : World) (g : Nat) (r : Wr) : World := (((W.setCell ⟨g, 0, none⟩ (.int .i64 r.e)).setCell ⟨g, 1, none⟩ (.int .i64 r.s)).setCell ⟨g, 2, none⟩ (.int .i64 r.i)).setCell ⟨g, 3, none⟩ (.int .i64 r.a)
theorem SX.w4 {m : Md} {w wr : World} (h : SX m w wr) {g : Nat} (hg : w.heap.size + 1 < g) (r : Wr) : SX m w (W4 wr g r) := by
  have hs : Save g wr (W4 wr g r) := (((Save.setCell (p := ⟨g, 0, none⟩) (Save.refl g wr) (.inl rfl) _).setCell (p := ⟨g, 1, none⟩) (.inl rfl) _).setCell (p := ⟨g, 2, none⟩) (.inl rfl) _).setCell (p := ⟨g, 3, none⟩) (.inl rfl) _
  refine ⟨fun j x hj => hs.cell (by show w.heap.size ≠ g; omega) (h.bx j x hj), (hs.block _ h.rs.lt (by omega)).trans h.rs, h.bl.trans (hs.below h.bl.size (by omega))⟩
theorem bx4_w4 {W : World} {g : Nat} {q : Wr} (h : Bx4 W g q) (r : Wr) : Bx4 (W4 W g r) g r := h.set r.e r.s r.i r.a
set_option maxRecDepth 100000 in
set_option maxHeartbeats 8000000 in
theorem Check_R (m : Md) (w : World) (hm : ModAt w.heap.size w m) (hf : m.few) (hrg : Rg m) (hna : ∀ s ∈ m.names, s.size ≤ 1000000) (hnn : ∀ l ∈ m.codes, nonneg l.t) :
    Calls Tryz.prog 50 #[.agg m.v] w fun e w' => e = .returned (.agg (wrongP m).v) ∧ Below w.heap.size w w' := by
  obtain ⟨W0, hW0⟩ : ∃ W0, W0 = ((w.alloc (.cells m.v 40)).alloc (.cells #[.int .i64 0, .int .i64 0, .int .i64 0, .int .i64 0] 120)) := ⟨_, rfl⟩
  have HX : Hid (SX m w W0) := hid (by rw [hW0]; exact SX.start m w)
  have HW := hid hW0
  have CK := hid (fun (W : World) (hX : SX m w W) => refChk_any m W (hm.on hX.bl) hf hna)
  have CH := hid (fun (W : World) (hX : SX m w W) (hF : Fine m) => heads_R m W (hm.on hX.bl) hf hF)
  have CE := hid (fun (W : World) (hX : SX m w W) (hF : Fine m) => exports_R m W (hm.on hX.bl) hf hF hrg)
  have CL := hid (fun (W : World) (hX : SX m w W) (hF : Fine m) => elems_R m W (hm.on hX.bl) hf hF hrg)
  have CR := hid (fun (W : World) (hX : SX m w W) (hF : Fine m) (h : scanS m 0 3 = none) => rest_R m W (hm.on hX.bl) hf hF hnn (heads_ty h))
  have HFI := hid (fun h => fine_of (m := m) h)
  have HP := hid (show wrongP m = if m.check = 0 then (scanS m 0 8).getD ⟨0, 0, 0, 0⟩ else ⟨m.check, 0, 0, 0⟩ from rfl)
  have HS1 := hid (scanS_add m 5 3 0)
  have HS2 := hid (scanS_add m 3 2 3)
  have HS3 := hid (scanS_add m 2 1 5)
  obtain ⟨RV, hRV⟩ : ∃ r, wrongP m = r := ⟨_, rfl⟩
  rw [hRV] at HP ⊢
  have hxx := HX.out.bx
  clear hm hf hrg hna hnn hW0 hRV
  unfold Md.v at HW hxx CK CH CE CL CR ⊢
  obtain ⟨n0, n1, n2, n3, n4, n5, n6, n7, n8, n9, n10⟩ := BoxAt.mod hxx
  clear hxx
  have C1 := hid (CK.out W0 HX.out)
  obtain ⟨ck, hck⟩ : ∃ c, m.check = c := ⟨_, rfl⟩
  rw [hck] at C1 HFI HP
  clear hck CK
  go_enter Tryz.func50, Tryz.ntmps50
  go_upto_region 1 with fail
  rw [← HW.out]
  clear HW
  go_wp2_with fail
  refine C1.out.mono ?_
  rintro e w1 ⟨rfl, hb1⟩
  have HX1 := hid (HX.out.on hb1)
  clear C1 hb1 HX n0 n1 n2 n3 n4 n5 n6 n7 n8 n9 n10
  by_cases hc : ck = 0
  · have HF := hid (HFI.out hc)
    subst hc
    rw [if_pos rfl] at HP
    have C2 := hid (CH.out w1 HX1.out HF.out)
    have hxx := HX1.out.bx
    unfold Md.v at hxx
    obtain ⟨n0, n1, n2, n3, n4, n5, n6, n7, n8, n9, n10⟩ := BoxAt.mod hxx
    clear hxx
    go_wp2_with fail
    refine C2.out.mono ?_
    rintro e w2 ⟨rfl, hb2⟩
    have HX2 := hid (HX1.out.on hb2)
    clear C2 hb2 HX1 n0 n1 n2 n3 n4 n5 n6 n7 n8 n9 n10
    obtain ⟨o1, ho1⟩ : ∃ o, scanS m 0 3 = o := ⟨_, rfl⟩
    have hne1 := fun r => scanS_ne (m := m) 3 0 (r := r)
    rw [ho1] at HS1 hne1 ⊢
    have HO1 := hid ho1
    clear ho1
    obtain ⟨R1, hR1⟩ : ∃ R, o1.getD ⟨0, 0, 0, 0⟩ = R := ⟨_, rfl⟩
    rw [hR1]
    have hbx : Bx4 (w2.alloc (.cells R1.v 120)) w2.heap.size R1 := heap_alloc_new w2 _
    have HX3 := hid (HX2.out.on (belowAlloc w2 (.cells R1.v 120)))
    have HGS := hid (show w.heap.size + 1 < w2.heap.size from HX2.out.rs.lt)
    obtain ⟨g4, hg4⟩ : ∃ g, w2.heap.size = g := ⟨_, rfl⟩
    rw [hg4] at hbx HGS
    obtain ⟨W3, hW3⟩ : ∃ W, W = w2.alloc (.cells R1.v 120) := ⟨_, rfl⟩
    rw [← hW3] at hbx HX3
    unfold Wr.v at hW3 ⊢
    have HW3 := hid hW3
    have HG4 := hid hg4
    have HB3 := hid hbx
    obtain ⟨ee, es, ei, ea⟩ := R1
    dsimp only at HW3 ⊢
    clear hW3 hg4 hbx HX2
    go_upto_region 5 with fail
    rw [← HW3.out, HG4.out]
    clear HW3 HG4
    cases o1 with
    | some q =>
      have hq : q = ⟨ee, es, ei, ea⟩ := hR1
      have hef : (ee == 0) = false := by
        have := hne1 q rfl
        rw [hq] at this
        simpa using this
      have HRV := hid (show RV = ⟨ee, es, ei, ea⟩ by rw [← hq]; rw [HP.out, show scanS m 0 8 = _ from HS1.out]; rfl)
      clear hq hR1 hne1
      obtain ⟨e0, e1, e2, e3, -⟩ := HB3.out.c
      obtain ⟨r0, r1, r2, r3, s0, s1, s2, s3⟩ := HX3.out.rs.c
      go_wp2
      obtain ⟨q1, q2⟩ := HX3.out.tell ee es ei ea
      exact bodyPost_ret (results_w Tryz.results50 _ _ (w.heap.size + 1) rfl q1) rfl ⟨by rw [HRV.out], q2⟩
    | none =>
      have hq : (⟨0, 0, 0, 0⟩ : Wr) = ⟨ee, es, ei, ea⟩ := hR1
      simp only [Wr.mk.injEq] at hq
      obtain ⟨rfl, rfl, rfl, rfl⟩ := hq
      clear hR1 hne1
      have C2 := hid (CE.out W3 HX3.out HF.out)
      have hxx := HX3.out.bx
      unfold Md.v at hxx
      obtain ⟨n0, n1, n2, n3, n4, n5, n6, n7, n8, n9, n10⟩ := BoxAt.mod hxx
      clear hxx
      obtain ⟨e0, -⟩ := HB3.out.c
      go_wp2_with fail
      refine C2.out.mono ?_
      rintro e w2 ⟨rfl, hb2⟩
      have HX4 := hid (HX3.out.on hb2)
      have HB4 := hid (HB3.out.on hb2)
      clear C2 hb2 HX3 HB3 e0 n0 n1 n2 n3 n4 n5 n6 n7 n8 n9 n10
      obtain ⟨o2, ho2⟩ : ∃ o, scanS m 3 2 = o := ⟨_, rfl⟩
      have hne2 := fun r => scanS_ne (m := m) 2 3 (r := r)
      rw [ho2] at HS2 hne2 ⊢
      have HO2 := hid ho2
      clear ho2
      obtain ⟨R, hR2⟩ : ∃ R, o2.getD ⟨0, 0, 0, 0⟩ = R := ⟨_, rfl⟩
      rw [hR2]
      obtain ⟨e0, e1, e2, e3, f0, f1, f2, f3⟩ := HB4.out.c
      obtain ⟨ee1, es1, ei1, ea1⟩ := R
      unfold Wr.v
      dsimp only at e0 e1 e2 e3 ⊢
      go_upto_region 7 with fail
      obtain ⟨W3, hW3⟩ : ∃ W, W = W4 w2 g4 ⟨ee1, es1, ei1, ea1⟩ := ⟨_, rfl⟩
      rw [show ((((w2.setCell ⟨g4, 0, none⟩ (.int .i64 ee1)).setCell ⟨g4, 1, none⟩ (.int .i64 es1)).setCell ⟨g4, 2, none⟩ (.int .i64 ei1)).setCell ⟨g4, 3, none⟩ (.int .i64 ea1)) = W3 from hW3.symm]
      have HX3 := hid (HX4.out.w4 HGS.out ⟨ee1, es1, ei1, ea1⟩)
      have HB3 := hid (bx4_w4 HB4.out ⟨ee1, es1, ei1, ea1⟩)
      rw [← hW3] at HX3 HB3
      clear HX4 HB4 e0 e1 e2 e3 f0 f1 f2 f3 hW3
      cases o2 with
      | some q =>
        have hq : q = ⟨ee1, es1, ei1, ea1⟩ := hR2
        have hef : (ee1 == 0) = false := by
          have := hne2 q rfl
          rw [hq] at this
          simpa using this
        have HRV := hid (show RV = ⟨ee1, es1, ei1, ea1⟩ by rw [← hq]; rw [HP.out, show scanS m 0 8 = _ from HS1.out]; (try dsimp only); rw [show scanS m (0 + 3) 5 = _ from HS2.out]; rfl)
        clear hq hR2 hne2
        obtain ⟨e0, e1, e2, e3, -⟩ := HB3.out.c
        obtain ⟨r0, r1, r2, r3, s0, s1, s2, s3⟩ := HX3.out.rs.c
        go_wp2
        obtain ⟨q1, q2⟩ := HX3.out.tell ee1 es1 ei1 ea1
        exact bodyPost_ret (results_w Tryz.results50 _ _ (w.heap.size + 1) rfl q1) rfl ⟨by rw [HRV.out], q2⟩
      | none =>
        have hq : (⟨0, 0, 0, 0⟩ : Wr) = ⟨ee1, es1, ei1, ea1⟩ := hR2
        simp only [Wr.mk.injEq] at hq
        obtain ⟨rfl, rfl, rfl, rfl⟩ := hq
        clear hR2 hne2
        have C2 := hid (CL.out W3 HX3.out HF.out)
        have hxx := HX3.out.bx
        unfold Md.v at hxx
        obtain ⟨n0, n1, n2, n3, n4, n5, n6, n7, n8, n9, n10⟩ := BoxAt.mod hxx
        clear hxx
        obtain ⟨e0, -⟩ := HB3.out.c
        go_wp2_with fail
        refine C2.out.mono ?_
        rintro e w2 ⟨rfl, hb2⟩
        have HX4 := hid (HX3.out.on hb2)
        have HB4 := hid (HB3.out.on hb2)
        clear C2 hb2 HX3 HB3 e0 n0 n1 n2 n3 n4 n5 n6 n7 n8 n9 n10
        obtain ⟨o3, ho3⟩ : ∃ o, scanS m 5 1 = o := ⟨_, rfl⟩
        have hne3 := fun r => scanS_ne (m := m) 1 5 (r := r)
        rw [ho3] at HS3 hne3 ⊢
        have HO3 := hid ho3
        clear ho3
        obtain ⟨R, hR3⟩ : ∃ R, o3.getD ⟨0, 0, 0, 0⟩ = R := ⟨_, rfl⟩
        rw [hR3]
        obtain ⟨e0, e1, e2, e3, f0, f1, f2, f3⟩ := HB4.out.c
        obtain ⟨ee2, es2, ei2, ea2⟩ := R
        unfold Wr.v
        dsimp only at e0 e1 e2 e3 ⊢
        go_upto_region 9 with fail
        obtain ⟨W3, hW3⟩ : ∃ W, W = W4 w2 g4 ⟨ee2, es2, ei2, ea2⟩ := ⟨_, rfl⟩
        rw [show ((((w2.setCell ⟨g4, 0, none⟩ (.int .i64 ee2)).setCell ⟨g4, 1, none⟩ (.int .i64 es2)).setCell ⟨g4, 2, none⟩ (.int .i64 ei2)).setCell ⟨g4, 3, none⟩ (.int .i64 ea2)) = W3 from hW3.symm]
        have HX3 := hid (HX4.out.w4 HGS.out ⟨ee2, es2, ei2, ea2⟩)
        have HB3 := hid (bx4_w4 HB4.out ⟨ee2, es2, ei2, ea2⟩)
        rw [← hW3] at HX3 HB3
        clear HX4 HB4 e0 e1 e2 e3 f0 f1 f2 f3 hW3
        cases o3 with
        | some q =>
          have hq : q = ⟨ee2, es2, ei2, ea2⟩ := hR3
          have hef : (ee2 == 0) = false := by
            have := hne3 q rfl
            rw [hq] at this
            simpa using this
          have HRV := hid (show RV = ⟨ee2, es2, ei2, ea2⟩ by rw [← hq]; rw [HP.out, show scanS m 0 8 = _ from HS1.out]; (try dsimp only); rw [show scanS m (0 + 3) 5 = _ from HS2.out]; (try dsimp only); rw [show scanS m (3 + 2) 3 = _ from HS3.out]; rfl)
          clear hq hR3 hne3
          obtain ⟨e0, e1, e2, e3, -⟩ := HB3.out.c
          obtain ⟨r0, r1, r2, r3, s0, s1, s2, s3⟩ := HX3.out.rs.c
          go_wp2
          obtain ⟨q1, q2⟩ := HX3.out.tell ee2 es2 ei2 ea2
          exact bodyPost_ret (results_w Tryz.results50 _ _ (w.heap.size + 1) rfl q1) rfl ⟨by rw [HRV.out], q2⟩
        | none =>
          have hq : (⟨0, 0, 0, 0⟩ : Wr) = ⟨ee2, es2, ei2, ea2⟩ := hR3
          simp only [Wr.mk.injEq] at hq
          obtain ⟨rfl, rfl, rfl, rfl⟩ := hq
          clear hR3 hne3
          have C2 := hid (CR.out W3 HX3.out HF.out HO1.out)
          have hxx := HX3.out.bx
          unfold Md.v at hxx
          obtain ⟨n0, n1, n2, n3, n4, n5, n6, n7, n8, n9, n10⟩ := BoxAt.mod hxx
          clear hxx
          obtain ⟨e0, -⟩ := HB3.out.c
          go_wp2_with fail
          refine C2.out.mono ?_
          rintro e w2 ⟨rfl, hb2⟩
          have HX4 := hid (HX3.out.on hb2)
          have HB4 := hid (HB3.out.on hb2)
          clear C2 hb2 HX3 HB3 e0 n0 n1 n2 n3 n4 n5 n6 n7 n8 n9 n10
          obtain ⟨o4, ho4⟩ : ∃ o, scanS m 6 2 = o := ⟨_, rfl⟩
          have hne4 := fun r => scanS_ne (m := m) 2 6 (r := r)
          rw [ho4] at hne4 ⊢
          have HO4 := hid ho4
          clear ho4
          obtain ⟨R, hR4⟩ : ∃ R, o4.getD ⟨0, 0, 0, 0⟩ = R := ⟨_, rfl⟩
          rw [hR4]
          obtain ⟨e0, e1, e2, e3, f0, f1, f2, f3⟩ := HB4.out.c
          obtain ⟨ee3, es3, ei3, ea3⟩ := R
          unfold Wr.v
          dsimp only at e0 e1 e2 e3 ⊢
          go_upto_region 11 with fail
          obtain ⟨W3, hW3⟩ : ∃ W, W = W4 w2 g4 ⟨ee3, es3, ei3, ea3⟩ := ⟨_, rfl⟩
          rw [show ((((w2.setCell ⟨g4, 0, none⟩ (.int .i64 ee3)).setCell ⟨g4, 1, none⟩ (.int .i64 es3)).setCell ⟨g4, 2, none⟩ (.int .i64 ei3)).setCell ⟨g4, 3, none⟩ (.int .i64 ea3)) = W3 from hW3.symm]
          have HX3 := hid (HX4.out.w4 HGS.out ⟨ee3, es3, ei3, ea3⟩)
          have HB3 := hid (bx4_w4 HB4.out ⟨ee3, es3, ei3, ea3⟩)
          rw [← hW3] at HX3 HB3
          clear HX4 HB4 e0 e1 e2 e3 f0 f1 f2 f3 hW3
          have HRV := hid (show RV = ⟨ee3, es3, ei3, ea3⟩ by rw [HP.out, show scanS m 0 8 = _ from HS1.out]; (try dsimp only); rw [show scanS m (0 + 3) 5 = _ from HS2.out]; (try dsimp only); rw [show scanS m (3 + 2) 3 = _ from HS3.out]; (try dsimp only); rw [show scanS m (5 + 1) 2 = _ from HO4.out]; exact hR4)
          by_cases hz : ee3 = 0
          · subst hz
            obtain ⟨e0, e1, e2, e3, -⟩ := HB3.out.c
            obtain ⟨r0, r1, r2, r3, s0, s1, s2, s3⟩ := HX3.out.rs.c
            go_wp2
            obtain ⟨q1, q2⟩ := HX3.out.tell 0 es3 ei3 ea3
            exact bodyPost_ret (results_w Tryz.results50 _ _ (w.heap.size + 1) rfl q1) rfl ⟨by rw [HRV.out], q2⟩
          · have hef : (ee3 == 0) = false := by simpa using hz
            clear hz
            obtain ⟨e0, e1, e2, e3, -⟩ := HB3.out.c
            obtain ⟨r0, r1, r2, r3, s0, s1, s2, s3⟩ := HX3.out.rs.c
            go_wp2
            obtain ⟨q1, q2⟩ := HX3.out.tell ee3 es3 ei3 ea3
            exact bodyPost_ret (results_w Tryz.results50 _ _ (w.heap.size + 1) rfl q1) rfl ⟨by rw [HRV.out], q2⟩
  · rw [if_neg hc] at HP
    have hne : (ck != 0) = true := by simpa using hc
    have HRV := hid HP.out
    clear hc HP
    obtain ⟨r0, r1, r2, r3, s0, s1, s2, s3⟩ := HX1.out.rs.c
    go_wp2
    obtain ⟨q1, q2⟩ := HX1.out.tell ck 0 0 0
    exact bodyPost_ret (results_w Tryz.results50 _ _ (w.heap.size + 1) rfl q1) rfl ⟨by rw [HRV.out], q2⟩
end Go.Proofs.YtdljneclfgneoaaGreatDoor.Val

namespace Go.Proofs.YtdljneclfgneoaaGreatDoor.Val
open Go.RowKit Go.Shelf Go.Proofs.YtdljneclfgneoaaGreatDoor.Instr Go.Proofs.YtdljneclfgneoaaGreatDoor.Mod
set_option linter.unusedVariables false

set_option maxRecDepth 100000 in
set_option maxHeartbeats 8000000 in
theorem Body_R (m : Md) (n : Int) (w : World) (hm : ModAt w.heap.size w m) (hf : m.few) (hna : ∀ s ∈ m.names, s.size ≤ 1000000) :
    Calls Tryz.prog 48 #[.agg m.v, .int .i64 n] w fun e w' => e = .returned (.tuple #[.int .i64 (Md.docBody m n).1, .int .i64 (Md.docBody m n).2]) ∧ Below w.heap.size w w' := by
  obtain ⟨W0, hW0⟩ : ∃ W0, W0 = w.alloc (.cells m.v 40) := ⟨_, rfl⟩
  have hb0 : Below w.heap.size w W0 := by rw [hW0]; exact belowAlloc _ _
  have hx0 : BoxAt W0 w.heap.size m.v := by rw [hW0]; exact BoxAt.made w m.v _
  have HX := hid hx0
  have HB := hid hb0
  have HW := hid hW0
  have C1 := hid (refChk_any m W0 (hm.on hb0) hf hna)
  have HFI := hid (fun h => fine_of (m := m) h)
  have HM := hid hm
  have HF := hid hf
  have HP := hid (show Md.docBody m n = if m.check ≠ 0 then (m.check, 0) else if (n < 0 ∨ (m.fu.length : Int) ≤ n) ∨ (m.ty.length : Int) ≤ (fuAt m n.toNat).ty then (6, 0) else Md.bodyJ m n.toNat from rfl)
  obtain ⟨⟨RE, RA⟩, hR⟩ : ∃ r, Md.docBody m n = r := ⟨_, rfl⟩
  rw [hR] at HP ⊢
  obtain ⟨ck, hck⟩ : ∃ c, m.check = c := ⟨_, rfl⟩
  rw [hck] at C1 HFI HP
  have hffu := hf.fit.fu
  have hxx := hx0
  clear hm hf hna hW0 hb0 hx0 hR hck
  unfold Md.v at HW hxx C1 ⊢
  obtain ⟨n0, n1, n2, n3, n4, n5, n6, n7, n8, n9, n10⟩ := BoxAt.mod hxx
  clear hxx
  dsimp only
  go_enter Tryz.func48, Tryz.ntmps48
  go_upto_region 1 with fail
  rw [← HW.out]
  clear HW
  go_wp2_with fail
  refine C1.out.mono ?_
  rintro e w1 ⟨rfl, hb1⟩
  have HX1 := hid (HX.out.keep hb1)
  have HB1 := hid (thenB HB.out hb1)
  clear C1 hb1 HX HB n0 n1 n2 n3 n4 n5 n6 n7 n8 n9 n10
  by_cases hc : ck = 0
  · have HFN := hid (HFI.out hc)
    subst hc
    rw [if_neg (by simp)] at HP
    have hxx := HX1.out
    unfold Md.v at hxx
    obtain ⟨n0, n1, n2, n3, n4, n5, n6, n7, n8, n9, n10⟩ := BoxAt.mod hxx
    clear hxx
    by_cases h0 : n < 0
    · have HRV := hid (show (RE, RA) = ((6, 0) : Int × Int) by rw [HP.out, if_pos (.inl (.inl h0))])
      have e1 : RE = 6 := congrArg Prod.fst HRV.out
      have e2 : RA = 0 := congrArg Prod.snd HRV.out
      subst e1 e2
      have hd : decide (n < 0) = true := decide_eq_true h0
      go_upto_region 4 with fail
      go_quiet (fail)
      go_wp2
      go_ret2
      exact ⟨rfl, by have := HB1.out; exact ⟨this.os, this.tape, this.output, this.size, this.block⟩⟩
    · by_cases h1 : (m.fu.length : Int) ≤ n
      · have HRV := hid (show (RE, RA) = ((6, 0) : Int × Int) by rw [HP.out, if_pos (.inl (.inr h1))])
        have e1 : RE = 6 := congrArg Prod.fst HRV.out
        have e2 : RA = 0 := congrArg Prod.snd HRV.out
        subst e1 e2
        have hd : decide (n < 0) = false := decide_eq_false h0
        have hd2 : decide ((m.fu.length : Int) ≤ n) = true := decide_eq_true h1
        go_upto_region 4 with fail
        go_quiet (fail)
        go_wp2
        go_ret2
        exact ⟨rfl, by have := HB1.out; exact ⟨this.os, this.tape, this.output, this.size, this.block⟩⟩
      · obtain ⟨k, rfl⟩ : ∃ k : Nat, n = (k : Int) := ⟨n.toNat, by omega⟩
        have hk : k < m.fu.length := by omega
        obtain ⟨b, off, ha, hbn, hcc⟩ := Rows.get (HM.out.below HB1.out).fu hk
        have hat : fuAt m k = m.fu[k] := by unfold fuAt; simp [hk]
        have c0 : w1.cell? ⟨b, off + k * 3, none⟩ = some (.int .i64 (fuAt m k).ty) := by rw [hat]; exact hcc 0 (by omega) _ rfl
        have hty : 0 ≤ (fuAt m k).ty := by rw [hat]; exact HFN.out.ty _ (List.getElem_mem hk)
        have CT := hid (fun (W : World) => typed_R m (fuAt m k).ty W hty)
        unfold Md.v at CT
        rw [ha] at n2 CT
        have hdn : decide ((k : Int) < 0) = false := decide_eq_false (by omega)
        have hdf : decide ((m.fu.length : Int) ≤ (k : Int)) = false := decide_eq_false (by omega)
        have hdf' : decide (m.fu.length ≤ k) = false := decide_eq_false (by omega)
        have hki : (k : Int) < (m.fu.length : Int) := by omega
        have HKL := hid hk
        have HHA := hid ha
        have HTE := hid (show (fuAt m ((k : Int)).toNat).ty = (fuAt m k).ty by rw [Int.toNat_natCast])
        obtain ⟨ty, hte⟩ : ∃ t, (fuAt m k).ty = t := ⟨_, rfl⟩
        rw [hte] at c0 CT hty HTE
        have hS0 : Below w1.heap.size w1 w1.drew ∧ w1.drew.cell? ⟨w.heap.size, 0, none⟩ = some (.slice m.ty'.a m.ty.length m.ty'.c) ∧ w1.drew.cell? ⟨w.heap.size, 1, none⟩ = some (.slice m.im'.a m.im.length m.im'.c) ∧ w1.drew.cell? ⟨w.heap.size, 2, none⟩ = some (.slice (some ⟨b, off, none⟩) m.fu.length m.fu'.c) ∧ w1.drew.cell? ⟨w.heap.size, 3, none⟩ = some (.slice m.tb'.a m.tb.length m.tb'.c) ∧ w1.drew.cell? ⟨w.heap.size, 4, none⟩ = some (.slice m.me'.a m.me.length m.me'.c) ∧ w1.drew.cell? ⟨w.heap.size, 5, none⟩ = some (.slice m.gl'.a m.gl.length m.gl'.c) ∧ w1.drew.cell? ⟨w.heap.size, 6, none⟩ = some (.slice m.ex'.a m.ex.length m.ex'.c) ∧ w1.drew.cell? ⟨w.heap.size, 7, none⟩ = some (.bool m.st) ∧ w1.drew.cell? ⟨w.heap.size, 8, none⟩ = some (.int .u32 m.sn) ∧ w1.drew.cell? ⟨w.heap.size, 9, none⟩ = some (.slice m.el'.a m.el.length m.el'.c) ∧ w1.drew.cell? ⟨w.heap.size, 10, none⟩ = some (.slice m.da'.a m.da.length m.da'.c) ∧ w1.drew.cell? ⟨b, off + k * 3, none⟩ = some (.int .i64 ty) := ⟨(Below.refl _ _).drew, n0, n1, n2, n3, n4, n5, n6, n7, n8, n9, n10, c0⟩
        clear hcc hat hbn ha hk h0 h1 hte n0 n1 n2 n3 n4 n5 n6 n7 n8 n9 n10 c0
        by_cases ht : ty < (m.ty.length : Int)
        · have hd3 : decide (ty < (m.ty.length : Int)) = true := decide_eq_true ht
          rw [hd3] at CT
          have HRV := hid (show (RE, RA) = Md.bodyJ m k by rw [HP.out, if_neg (by rw [HTE.out]; omega)]; simp)
          have CBD := hid (fun (W : World) (hb : Below w.heap.size w W) => bodyR_any m W k ((HM.out.below hb).more hb.size) HF.out.fit HFN.out HKL.out (by have := HTE.out; rw [Int.toNat_natCast] at this; rw [this]; exact ht))
          rw [← HRV.out] at CBD
          unfold Md.v at CBD
          rw [HHA.out] at CBD
          clear ht hd3
          go_upto_region 4 with fail
          (go_region_held3 (fun w' => Below w1.heap.size w1 w' ∧ w'.cell? ⟨w.heap.size, 0, none⟩ = some (.slice m.ty'.a m.ty.length m.ty'.c) ∧ w'.cell? ⟨w.heap.size, 1, none⟩ = some (.slice m.im'.a m.im.length m.im'.c) ∧ w'.cell? ⟨w.heap.size, 2, none⟩ = some (.slice (some ⟨b, off, none⟩) m.fu.length m.fu'.c) ∧ w'.cell? ⟨w.heap.size, 3, none⟩ = some (.slice m.tb'.a m.tb.length m.tb'.c) ∧ w'.cell? ⟨w.heap.size, 4, none⟩ = some (.slice m.me'.a m.me.length m.me'.c) ∧ w'.cell? ⟨w.heap.size, 5, none⟩ = some (.slice m.gl'.a m.gl.length m.gl'.c) ∧ w'.cell? ⟨w.heap.size, 6, none⟩ = some (.slice m.ex'.a m.ex.length m.ex'.c) ∧ w'.cell? ⟨w.heap.size, 7, none⟩ = some (.bool m.st) ∧ w'.cell? ⟨w.heap.size, 8, none⟩ = some (.int .u32 m.sn) ∧ w'.cell? ⟨w.heap.size, 9, none⟩ = some (.slice m.el'.a m.el.length m.el'.c) ∧ w'.cell? ⟨w.heap.size, 10, none⟩ = some (.slice m.da'.a m.da.length m.da'.c) ∧ w'.cell? ⟨b, off + k * 3, none⟩ = some (.int .i64 ty))
            (first | assumption | exact held_kp12 (by assumption) (by assumption))
            (first | (go_at_call 95; (with_reducible refine (CT.out _).mono ?_); rintro e7 w7 ⟨rfl, hb7⟩)))
          have HB7 := hid (thenB HB1.out ⟨hb7.os, hb7.tape, hb7.output, hb7.size, hb7.block⟩)
          have HX7 := hid (HX1.out.keep (show Below w1.heap.size w1 w7 from ⟨hb7.os, hb7.tape, hb7.output, hb7.size, hb7.block⟩))
          clear hS0 hb7
          have hxx := HX7.out
          unfold Md.v at hxx
          rw [HHA.out] at hxx
          obtain ⟨n0, n1, n2, n3, n4, n5, n6, n7, n8, n9, n10⟩ := BoxAt.mod hxx
          clear hxx
          go_wp2_with fail
          refine (CBD.out w7 HB7.out).mono ?_
          rintro e w8 ⟨rfl, hb8⟩
          have HB8 := hid (thenB HB7.out hb8)
          clear hb8 n0 n1 n2 n3 n4 n5 n6 n7 n8 n9 n10
          go_wp2
          go_ret2
          exact ⟨rfl, HB8.out⟩
        · have hd3 : decide (ty < (m.ty.length : Int)) = false := decide_eq_false ht
          rw [hd3] at CT
          have HRV := hid (show (RE, RA) = ((6, 0) : Int × Int) by rw [HP.out, if_pos (.inr (by rw [HTE.out]; omega))])
          have e1 : RE = 6 := congrArg Prod.fst HRV.out
          have e2 : RA = 0 := congrArg Prod.snd HRV.out
          subst e1 e2
          clear ht hd3
          go_upto_region 4 with fail
          (go_region_held3 (fun w' => Below w1.heap.size w1 w' ∧ w'.cell? ⟨w.heap.size, 0, none⟩ = some (.slice m.ty'.a m.ty.length m.ty'.c) ∧ w'.cell? ⟨w.heap.size, 1, none⟩ = some (.slice m.im'.a m.im.length m.im'.c) ∧ w'.cell? ⟨w.heap.size, 2, none⟩ = some (.slice (some ⟨b, off, none⟩) m.fu.length m.fu'.c) ∧ w'.cell? ⟨w.heap.size, 3, none⟩ = some (.slice m.tb'.a m.tb.length m.tb'.c) ∧ w'.cell? ⟨w.heap.size, 4, none⟩ = some (.slice m.me'.a m.me.length m.me'.c) ∧ w'.cell? ⟨w.heap.size, 5, none⟩ = some (.slice m.gl'.a m.gl.length m.gl'.c) ∧ w'.cell? ⟨w.heap.size, 6, none⟩ = some (.slice m.ex'.a m.ex.length m.ex'.c) ∧ w'.cell? ⟨w.heap.size, 7, none⟩ = some (.bool m.st) ∧ w'.cell? ⟨w.heap.size, 8, none⟩ = some (.int .u32 m.sn) ∧ w'.cell? ⟨w.heap.size, 9, none⟩ = some (.slice m.el'.a m.el.length m.el'.c) ∧ w'.cell? ⟨w.heap.size, 10, none⟩ = some (.slice m.da'.a m.da.length m.da'.c) ∧ w'.cell? ⟨b, off + k * 3, none⟩ = some (.int .i64 ty))
            (first | assumption | exact held_kp12 (by assumption) (by assumption))
            (first | (go_at_call 95; (with_reducible refine (CT.out _).mono ?_); rintro e7 w7 ⟨rfl, hb7⟩)))
          have HB7 := hid (thenB HB1.out ⟨hb7.os, hb7.tape, hb7.output, hb7.size, hb7.block⟩)
          clear hS0 hb7
          go_wp2
          go_ret2
          exact ⟨rfl, HB7.out⟩
  · rw [if_pos hc] at HP
    have e1 : RE = ck := congrArg Prod.fst HP.out
    have e2 : RA = 0 := congrArg Prod.snd HP.out
    subst e1 e2
    have hne : (RE != 0) = true := by simpa using hc
    clear hc HP
    go_wp2
    go_ret2
    exact ⟨rfl, HB1.out⟩
end Go.Proofs.YtdljneclfgneoaaGreatDoor.Val

namespace Go.Proofs.YtdljneclfgneoaaGreatDoor.Val
open Go.RowKit Go.Shelf Go.Proofs.YtdljneclfgneoaaGreatDoor.Instr Go.Proofs.YtdljneclfgneoaaGreatDoor.Mod
set_option linter.unusedVariables false

theorem hb_out11 {w w1 : World} {p0 p1 p2 p3 p4 p5 p6 p7 p8 p9 p10 : Addr} {v0 v1 v2 v3 v4 v5 v6 v7 v8 v9 v10 : Value} (h : Below w.heap.size w w1 ∧ w1.cell? p0 = some v0 ∧ w1.cell? p1 = some v1 ∧ w1.cell? p2 = some v2 ∧ w1.cell? p3 = some v3 ∧ w1.cell? p4 = some v4 ∧ w1.cell? p5 = some v5 ∧ w1.cell? p6 = some v6 ∧ w1.cell? p7 = some v7 ∧ w1.cell? p8 = some v8 ∧ w1.cell? p9 = some v9 ∧ w1.cell? p10 = some v10) : Below w.heap.size w w1 := h.1
theorem go_cnt {t : Il} (h : t.go 0 2000 ≤ 2000) : t.count ≤ 2000 := by
  have h1 := (go_bounds t 0 2000 (by omega) (by omega) (by omega)).2.2 h
  have h2 := count_le_weight t
  have : t.weight ≤ 2000 := by omega
  omega
theorem items_nonneg {n₀ : Nat} {w : World} : ∀ (t : Il) (b off : Nat), Items n₀ w b off t → nonneg t
  | .nil, _, _, _ => trivial
  | .cons x l e r, b, off, ⟨_, hx, _, _, ⟨_, hl⟩, ⟨_, he⟩, hr⟩ => by
    refine ⟨hx.a.1, fun z hz => (hx.tags z hz).1, ?_, ?_, items_nonneg r _ _ hr⟩
    · rcases hl with h | ⟨b', o', _, h⟩
      · rw [h]; trivial
      · exact items_nonneg l _ _ h
    · rcases he with h | ⟨b', o', _, h⟩
      · rw [h]; trivial
      · exact items_nonneg e _ _ h
theorem list_nonneg {n₀ : Nat} {w : World} {a : Option Addr} {n : Nat} {t : Il} (h : ListAt n₀ w a n t) : nonneg t := by
  rcases h.2 with h | ⟨b, off, _, h⟩
  · rw [h]; trivial
  · exact items_nonneg t _ _ h
theorem mod_nonneg {n₀ : Nat} {w : World} {m : Md} (h : ModAt n₀ w m) : ∀ l ∈ m.codes, nonneg l.t := fun l hl => list_nonneg (h.ls l hl)
def bodM (g : Nat) (sty sfu : Sl) (p r lo : Int) (a : Option Addr) (c : Nat) (t : Il) : Md := { richM g with ty := [(1, 1), (0, 0), (p, r)], fu := [⟨1, 0, ⟨none, 0, .nil⟩⟩, ⟨2, lo, ⟨a, c, t⟩⟩], ty' := sty, fu' := sfu }
theorem bod_few (g : Nat) (sty sfu : Sl) (p r lo : Int) (a : Option Addr) (c : Nat) (t : Il) (hn : t.len ≤ 140737488351232) (hc : t.count ≤ 1000000) : (bodM g sty sfu p r lo a c t).few := by
  have hR := rich_few g
  have hmem : ∀ l ∈ (bodM g sty sfu p r lo a c t).codes, l ∈ (richM g).codes ∨ l = ⟨a, c, t⟩ := by
    intro l hl
    simp only [bodM, richM, Md.codes, List.map_cons, List.map_nil, List.append_nil, List.cons_append, List.nil_append, List.mem_cons, List.not_mem_nil, or_false] at hl ⊢
    rcases hl with h | h | h | h
    · exact .inl (.inl h)
    · exact .inr h
    · exact .inl (.inr (.inl h))
    · exact .inl (.inr (.inr h))
  refine ⟨⟨by simp [bodM], hR.fit.im, by simp [bodM], hR.fit.tb, hR.fit.me, hR.fit.gl, hR.fit.ex, hR.fit.el, hR.fit.da, fun l hl => ?_, hR.fit.fs, hR.fit.bs, hR.fit.iS, hR.fit.eS⟩, fun l hl => ?_, by simp [bodM], hR.lens.2.1, by simp [bodM], hR.lens.2.2.2.1, hR.lens.2.2.2.2.1, hR.lens.2.2.2.2.2.1, hR.lens.2.2.2.2.2.2.1, hR.lens.2.2.2.2.2.2.2.1, hR.lens.2.2.2.2.2.2.2.2⟩
  · rcases hmem l hl with h | rfl
    · exact hR.fit.ls l h
    · exact hn
  · rcases hmem l hl with h | rfl
    · exact hR.cs l h
    · exact hc
theorem bod_rg (g : Nat) (sty sfu : Sl) (p r lo : Int) (a : Option Addr) (c : Nat) (t : Il) : Rg (bodM g sty sfu p r lo a c t) := ⟨by simp [bodM, richM], by simp [bodM, richM], by simp [bodM, richM]⟩
theorem bod_names (g : Nat) (sty sfu : Sl) (p r lo : Int) (a : Option Addr) (c : Nat) (t : Il) : ∀ s ∈ (bodM g sty sfu p r lo a c t).names, s.size ≤ 1000000 := by
  intro s hs
  have e : (bodM g sty sfu p r lo a c t).names = [sHost, sF] := rfl
  rw [e] at hs
  simp only [List.mem_cons, List.not_mem_nil, or_false] at hs
  rcases hs with rfl | rfl <;> decide
/-- The module in memory: its box in block gb, its types' and functions' rows its own. -/
structure DM (n₀ : Nat) (w0 : World) (g gb a3 c3 a4 c4 : Nat) (p r lo : Int) (la : Option Addr) (ln lc : Nat) (W : World) : Prop where
  box : NB W gb (partV g a3 c3 a4 c4)
  rich : RichB g W
  ty : Stk.OwnR 26 2 g W (.slice (some ⟨a3, 0, none⟩) 3 c3) [[.int .i64 1, .int .i64 1], [.int .i64 0, .int .i64 0], [.int .i64 p, .int .i64 r]]
  fu : Stk.OwnR 43 3 g W (.slice (some ⟨a4, 0, none⟩) 2 c4) [[.int .i64 1, .int .i64 0, .slice none 0 0], [.int .i64 2, .int .i64 lo, .slice la ln lc]]
  bel : Below n₀ w0 W
  hg : n₀ ≤ g
  sz : n₀ ≤ W.heap.size
section
variable {n₀ g gb a3 c3 a4 c4 ln lc : Nat} {w0 W : World} {p r lo : Int} {la : Option Addr}
theorem DM.below {W' : World} (h : DM n₀ w0 g gb a3 c3 a4 c4 p r lo la ln lc W) (hb : Below W.heap.size W W') : DM n₀ w0 g gb a3 c3 a4 c4 p r lo la ln lc W' :=
  ⟨h.box.below hb, h.rich.below hb, h.ty.below hb, h.fu.below hb, h.bel.trans (hb.mono h.sz), h.hg, Nat.le_trans h.sz hb.size⟩
theorem DM.cs (h : DM n₀ w0 g gb a3 c3 a4 c4 p r lo la ln lc W) : W.cell? ⟨gb, 0, none⟩ = some (.slice (some ⟨a3, 0, none⟩) 3 c3) ∧ W.cell? ⟨gb, 1, none⟩ = some (.slice (some ⟨g + 1 + 1 + 1, 0, none⟩) 1 1) ∧ W.cell? ⟨gb, 2, none⟩ = some (.slice (some ⟨a4, 0, none⟩) 2 c4) ∧ W.cell? ⟨gb, 3, none⟩ = some (.slice (some ⟨g + 1 + 1 + 1 + 1 + 1, 0, none⟩) 1 1) ∧ W.cell? ⟨gb, 4, none⟩ = some (.slice (some ⟨g + 1 + 1 + 1 + 1 + 1 + 1, 0, none⟩) 1 1) ∧ W.cell? ⟨gb, 5, none⟩ = some (.slice (some ⟨g + 1 + 1 + 1 + 1 + 1 + 1 + 1, 0, none⟩) 2 2) ∧ W.cell? ⟨gb, 6, none⟩ = some (.slice none 0 0) ∧ W.cell? ⟨gb, 7, none⟩ = some (.bool false) ∧ W.cell? ⟨gb, 8, none⟩ = some (.int .u32 0) ∧ W.cell? ⟨gb, 9, none⟩ = some (.slice none 0 0) ∧ W.cell? ⟨gb, 10, none⟩ = some (.slice none 0 0) := NB.cs h.box
theorem DM.at_ (h : DM n₀ w0 g gb a3 c3 a4 c4 p r lo la ln lc W) {t : Il} (hl : ListAt W.heap.size W la ln t) : ModAt W.heap.size W (bodM g ⟨some ⟨a3, 0, none⟩, c3⟩ ⟨some ⟨a4, 0, none⟩, c4⟩ p r lo la lc t) := by
  have hB := h.rich
  have l : ∀ {b v}, BoxAt W b v → v[0]?.isSome → b < W.heap.size := fun {b v} h h0 => by
    obtain ⟨x, hx⟩ := Option.isSome_iff_exists.1 h0
    exact World.block_lt_of_cell? W ⟨b, 0, none⟩ (h 0 x hx)
  obtain ⟨a3', c3', e3, r3, -⟩ := Stk.OwnR.rows h.ty
  obtain ⟨a4', c4', e4, r4, -⟩ := Stk.OwnR.rows h.fu
  simp only [List.length_cons, List.length_nil, Value.slice.injEq] at e3 e4
  obtain ⟨rfl, -, rfl⟩ := e3
  obtain ⟨rfl, -, rfl⟩ := e4
  have hln : t.len = ln := hl.1
  have r4' : Stk.Rows W.heap.size W (some ⟨a4, 0, none⟩) 3 [[.int .i64 1, .int .i64 0, .slice none 0 0], [.int .i64 2, .int .i64 lo, .slice la t.len lc]] := by rw [hln]; exact r4
  refine ⟨r3, rows_box (l hB.b3 rfl) (by simp [bodM, richM, Imp.v]) hB.b3, r4', rows_box (l hB.b5 rfl) (by simp [bodM, richM, Li.v]) hB.b5, rows_box (l hB.b6 rfl) (by simp [bodM, richM, Li.v]) hB.b6, rows_box (l hB.b7 rfl) (by simp [bodM, richM, Gl.v]) hB.b7, .inl rfl, .inl rfl, .inl rfl, fun y hy => ?_, by simp [bodM, richM], by simp [bodM, richM]⟩
  simp [bodM, richM, Md.codes] at hy
  rcases hy with rfl | rfl | rfl
  · exact ⟨rfl, .inl rfl⟩
  · show ListAt W.heap.size W la t.len t
    rw [hln]; exact hl
  · exact list_box (l := [(constI, .nil, .nil)]) (l hB.b1 rfl) hB.b1 (fun x hx => by
      obtain rfl := List.mem_singleton.1 hx
      exact ⟨constI_ok, .inl rfl, ⟨rfl, .inl rfl⟩, ⟨rfl, .inl rfl⟩⟩)
end
set_option maxRecDepth 100000 in
set_option maxHeartbeats 8000000 in
theorem bodies_go (la : Option Addr) (ln lc : Nat) (t : Il) (lo p r : Int) (w : World) (hl : ListAt w.heap.size w la ln t) (hn : ln ≤ 140737488351232) (hT : Tb w) :
    Calls Tryz.prog 10 #[.agg #[.int .i64 lo, .slice la ln lc], .agg #[.int .i64 p, .int .i64 r]] w fun e w' => e = .returned (.bool true) ∧ Below w.heap.size w w' := by
  obtain ⟨W0, hW0⟩ : ∃ W0, W0 = (w.alloc (.cells #[.int .i64 lo, .slice la ln lc] 24)).alloc (.cells #[.int .i64 p, .int .i64 r] 26) := ⟨_, rfl⟩
  have hb0 : Below w.heap.size w W0 := by rw [hW0]; exact thenA (thenA (Below.refl _ _) _) _
  have hx0 : BoxAt W0 w.heap.size #[.int .i64 lo, .slice la ln lc] := by rw [hW0]; exact (BoxAt.made w _ _).keep (belowAlloc _ _)
  have hx1 : BoxAt W0 (w.heap.size + 1) #[.int .i64 p, .int .i64 r] := by rw [hW0]; have := BoxAt.made (w.alloc (.cells #[.int .i64 lo, .slice la ln lc] 24)) #[.int .i64 p, .int .i64 r] 26; rw [World.size_alloc] at this; exact this
  have HX0 := hid hx0
  have HX1 := hid hx1
  have HB0 := hid hb0
  have HW := hid hW0
  have HL := hid ((hl.below hb0).more hb0.size)
  have HT := hid (hT.on hb0)
  have HN := hid hn
  have CI := hid (Instrs_any t.count t la ln lc 2000 W0 (Nat.le_refl _) ((hl.below hb0).more hb0.size) hn (by omega) (by omega))
  have HA := hid (fun h => go_cnt (t := t) h)
  obtain ⟨A, hA⟩ : ∃ A, t.go 0 2000 = A := ⟨_, rfl⟩
  rw [hA] at CI HA
  have k1 := hx0 1 _ rfl
  clear hA hl hT hn hW0 hb0 hx0 hx1
  go_enter Tryz.func10, Tryz.ntmps10
  go_upto_region 1 with fail
  rw [← HW.out]
  clear HW
  go_wp2_with fail
  refine CI.out.mono ?_
  rintro e w1 ⟨rfl, rfl⟩
  clear CI k1
  by_cases h1 : A ≤ 2000
  · have h1' : ¬ 2000 < A := by omega
    have HC := hid (HA.out h1)
    clear h1 HA
    go_wp2_with fail
    refine (rich_o W0).mono ?_
    rintro e w3 ⟨rfl, hm, hb, o2, o4⟩
    obtain ⟨g, hg⟩ : ∃ g, W0.heap.size = g := ⟨_, rfl⟩
    have HGE := hid (show W0.heap.size ≤ g by omega)
    have HB3 := hid hb
    rw [hg] at hm o2 o4
    rw [hg]
    have M2 := hid hm
    have O2 := hid o2
    have O4 := hid o4
    clear hm hb o2 o4 hg
    unfold richM Md.v
    dsimp only
    go_upto_region 4 with fail
    obtain ⟨V, hV⟩ : ∃ V, V = w3.alloc (.cells #[.slice (some ⟨g + 1 + 1, 0, none⟩) 2 2, .slice (some ⟨g + 1 + 1 + 1, 0, none⟩) 1 1, .slice (some ⟨g + 1 + 1 + 1 + 1, 0, none⟩) 1 1, .slice (some ⟨g + 1 + 1 + 1 + 1 + 1, 0, none⟩) 1 1, .slice (some ⟨g + 1 + 1 + 1 + 1 + 1 + 1, 0, none⟩) 1 1, .slice (some ⟨g + 1 + 1 + 1 + 1 + 1 + 1 + 1, 0, none⟩) 2 2, .slice none 0 0, .bool false, .int .u32 0, .slice none 0 0, .slice none 0 0] 40) := ⟨_, rfl⟩
    have hg2 : g + 1 + 1 + 1 + 1 + 1 + 1 + 1 < w3.heap.size := World.block_lt_of_cell? w3 _ (M2.out.b7 0 _ rfl)
    obtain ⟨gb, hgb⟩ : ∃ gb, w3.heap.size = gb := ⟨_, rfl⟩
    have HG2 := hid (show g + 1 + 1 + 1 + 1 + 1 + 1 + 1 < gb by omega)
    have ht : NB V gb #[.slice (some ⟨g + 1 + 1, 0, none⟩) 2 2, .slice (some ⟨g + 1 + 1 + 1, 0, none⟩) 1 1, .slice (some ⟨g + 1 + 1 + 1 + 1, 0, none⟩) 1 1, .slice (some ⟨g + 1 + 1 + 1 + 1 + 1, 0, none⟩) 1 1, .slice (some ⟨g + 1 + 1 + 1 + 1 + 1 + 1, 0, none⟩) 1 1, .slice (some ⟨g + 1 + 1 + 1 + 1 + 1 + 1 + 1, 0, none⟩) 2 2, .slice none 0 0, .bool false, .int .u32 0, .slice none 0 0, .slice none 0 0] := by rw [hV, ← hgb]; exact NB.made w3 _
    have hbV : Below w3.heap.size w3 V := by rw [hV]; exact belowAlloc _ _
    have HBV := hid (thenB HB3.out hbV)
    have MV := hid (M2.out.below hbV)
    have OV2 := hid (O2.out.below hbV)
    have OV4 := hid (O4.out.below hbV)
    have hgw := HGE.out
    have j0 := (HX1.out.keep (thenB HB3.out hbV)) 0 _ rfl
    have j1 := (HX1.out.keep (thenB HB3.out hbV)) 1 _ rfl
    have HGV := hid (show gb < V.heap.size from ht.lt)
    have TV := hid ht
    obtain ⟨c0, c1, c2, c3x, c4x, c5, c6, c7, c8, c9, c10⟩ := ht.cs
    obtain ⟨f0, f1, f2, f3, f4, f5, f6, f7, f8, f9, f10⟩ := ht.fs
    rw [hgb, ← hV]
    clear hbV hV hgb hg2 M2 O2 O4 HB3 ht hgw
    go_cut [] from 10 (fun wx => ∃ a3 c3, NB wx gb #[.slice (some ⟨a3, 0, none⟩) 3 c3, .slice (some ⟨g + 1 + 1 + 1, 0, none⟩) 1 1, .slice (some ⟨g + 1 + 1 + 1 + 1, 0, none⟩) 1 1, .slice (some ⟨g + 1 + 1 + 1 + 1 + 1, 0, none⟩) 1 1, .slice (some ⟨g + 1 + 1 + 1 + 1 + 1 + 1, 0, none⟩) 1 1, .slice (some ⟨g + 1 + 1 + 1 + 1 + 1 + 1 + 1, 0, none⟩) 2 2, .slice none 0 0, .bool false, .int .u32 0, .slice none 0 0, .slice none 0 0] ∧ RichB g wx ∧ Stk.OwnR 26 2 g wx (.slice (some ⟨a3, 0, none⟩) 3 c3) [[.int .i64 1, .int .i64 1], [.int .i64 0, .int .i64 0], [.int .i64 p, .int .i64 r]] ∧ Stk.OwnR 43 3 g wx (.slice (some ⟨g + 1 + 1 + 1 + 1, 0, none⟩) 1 1) [[.int .i64 1, .int .i64 0, .slice none 0 0]] ∧ Below W0.heap.size W0 wx)
    case first =>
      have HNW := hid (World.news_of_block (heap_alloc_new V (.cells #[.int .i64 p, .int .i64 r] 26)))
      have HB2 := hid (thenB HBV.out (belowAlloc V (.cells #[.int .i64 p, .int .i64 r] 26)))
      go_wp2_with (first
        | (at_builtin; refine Stk.append_rows infoFt rfl (by omega) (by omega) Tryz.underlying30 rfl (.tmp 16) (.tmp 18) rfl (base := g) (w0 := V) (xs := [[.int .i64 1, .int .i64 1], [.int .i64 0, .int .i64 0]]) [[.int .i64 p, .int .i64 r]] rfl (OV2.out.alloc _) ((Below.refl _ _).alloc (by have := HG2.out; have := HGV.out; omega) _) (by have := HG2.out; have := HGV.out; simp; omega) ⟨V.heap.size, 0, none⟩ 1 1 rfl rfl (by simp) (by simpa using HNW.out) (by simp [Value.oneCell']) (by simp) ?_
           intro v3 u3 ho hb hsz hgrow
           obtain ⟨a3, c3, hv3, ha3⟩ := own_some (n := 3) ho rfl (by omega)
           have hs3 : Save (g + 1 + 1) _ u3 := save_grown hgrow
           have hG2 := HG2.out
           have hGV := HGV.out
           have ht3 : NB u3 gb #[.slice (some ⟨g + 1 + 1, 0, none⟩) 2 2, .slice (some ⟨g + 1 + 1 + 1, 0, none⟩) 1 1, .slice (some ⟨g + 1 + 1 + 1 + 1, 0, none⟩) 1 1, .slice (some ⟨g + 1 + 1 + 1 + 1 + 1, 0, none⟩) 1 1, .slice (some ⟨g + 1 + 1 + 1 + 1 + 1 + 1, 0, none⟩) 1 1, .slice (some ⟨g + 1 + 1 + 1 + 1 + 1 + 1 + 1, 0, none⟩) 2 2, .slice none 0 0, .bool false, .int .u32 0, .slice none 0 0, .slice none 0 0] := (hs3.block _ (by simp; omega) (by omega)).trans (TV.out.below (belowAlloc _ (.cells #[.int .i64 p, .int .i64 r] 26)))
           have hr3 := (MV.out.below (belowAlloc _ (.cells #[.int .i64 p, .int .i64 r] 26))).save hs3 (by omega) (by omega) (by omega) (by omega) (by omega)
           have ho4 := own_save (OV4.out.below (belowAlloc _ (.cells #[.int .i64 p, .int .i64 r] 26))) hs3 (fun b hb => by simp only [Value.ownBlock, Option.some.injEq] at hb; omega)
           have hbl : Below W0.heap.size W0 u3 := HB2.out.trans (hs3.below HB2.out.size (by have := HGE.out; omega))
           have HT3 := hid ht3
           have HR3 := hid hr3
           have HO4 := hid ho4
           have HO3 := hid ho
           have HBL := hid hbl
           subst hv3
           have f0' := ht3.f 0
           have k0 := ht3.cs.1
           clear ho hb hsz hgrow hs3 ht3 hr3 ho4 hbl hG2 hGV))
      go_meet
      case rel =>
        have hsv : Save gb u3 (u3.setCell ⟨gb, 0, none⟩ (.slice (some ⟨a3, 0, none⟩) 3 c3)) := Save.setCell (p := ⟨gb, 0, none⟩) (Save.refl gb u3) (.inl rfl) _
        have hG2 := HG2.out
        have hgw := HGE.out
        exact ⟨a3, c3, HT3.out.set 0 (.slice (some ⟨a3, 0, none⟩) 3 c3), HR3.out.save hsv (by omega) (by omega) (by omega) (by omega) (by omega), own_save HO3.out hsv (own_ne HO3.out HT3.out (by decide)), own_save HO4.out hsv (own_ne HO4.out HT3.out (by decide)), HBL.out.setCell (by show W0.heap.size ≤ gb; omega) _⟩
    case rest =>
      obtain ⟨a3, c3, ht, hrb, ho3, ho4, hbl⟩ := hcut
      clear c0 c1 c2 c3x c4x c5 c6 c7 c8 c9 c10 f0 f1 f2 f3 f4 f5 f6 f7 f8 f9 f10 j0 j1
      have T5 := hid ht
      have R5 := hid hrb
      have P3 := hid ho3
      have P4 := hid ho4
      have BL := hid hbl
      have j0 := (HX0.out.keep hbl) 0 _ rfl
      have j1 := (HX0.out.keep hbl) 1 _ rfl
      obtain ⟨c0, c1, c2, c3x, c4x, c5, c6, c7, c8, c9, c10⟩ := ht.cs
      obtain ⟨f0, f1, f2, f3, f4, f5, f6, f7, f8, f9, f10⟩ := ht.fs
      have HLT := hid ht.lt
      clear ht hrb ho3 ho4 hbl TV OV2 OV4 MV HBV HGV
      go_upto_region 5 with fail
      go_cut [] from 10 (fun wx => ∃ a4 c4, DM W0.heap.size W0 g gb a3 c3 a4 c4 p r lo la ln lc wx)
      case first =>
        have HNW := hid (World.news_of_block (heap_alloc_new wc (.cells #[.int .i64 2, .int .i64 lo, .slice la ln lc] 43)))
        have HB2 := hid (thenB BL.out (belowAlloc wc (.cells #[.int .i64 2, .int .i64 lo, .slice la ln lc] 43)))
        go_wp2_with (first
          | (at_builtin; refine Stk.append_rows infoFn rfl (by omega) (by omega) Tryz.underlying32 rfl (.tmp 22) (.tmp 29) rfl (base := g) (w0 := wc) (xs := [[.int .i64 1, .int .i64 0, .slice none 0 0]]) [[.int .i64 2, .int .i64 lo, .slice la ln lc]] rfl (P4.out.alloc _) ((Below.refl _ _).alloc (by have := HG2.out; have := HLT.out; omega) _) (by have := HG2.out; have := HLT.out; simp; omega) ⟨wc.heap.size, 0, none⟩ 1 1 rfl rfl (by simp) (by simpa using HNW.out) (by simp [Value.oneCell']) (by simp) ?_
             intro v4 u4 ho hb hsz hgrow
             obtain ⟨a4, c4, hv4, ha4⟩ := own_some (n := 2) ho rfl (by omega)
             have hs4 : Save (g + 1 + 1 + 1 + 1) _ u4 := save_grown hgrow
             obtain ⟨-, cs4, hcs4⟩ := own_blk (P4.out.below (belowAlloc _ (.cells #[.int .i64 2, .int .i64 lo, .slice la ln lc] 43)))
             have hG2 := HG2.out
             have hlo := HLT.out
             have ht4 : NB u4 gb _ := (hs4.block _ (by simp; omega) (by omega)).trans (T5.out.below (belowAlloc _ (.cells #[.int .i64 2, .int .i64 lo, .slice la ln lc] 43)))
             have hr4 := (R5.out.below (belowAlloc _ (.cells #[.int .i64 2, .int .i64 lo, .slice la ln lc] 43))).save hs4 (by omega) (by omega) (by omega) (by omega) (by omega)
             have hp3 := own_save (P3.out.below (belowAlloc _ (.cells #[.int .i64 2, .int .i64 lo, .slice la ln lc] 43))) hs4 (own_ne (P3.out.below (belowAlloc _ (.cells #[.int .i64 2, .int .i64 lo, .slice la ln lc] 43))) hcs4 (by decide))
             have hbl : Below W0.heap.size W0 u4 := HB2.out.trans (hs4.below HB2.out.size (by have := HGE.out; omega))
             have HT4 := hid ht4
             have HR4 := hid hr4
             have HP3 := hid hp3
             have HO4 := hid ho
             have HBL := hid hbl
             subst hv4
             have f2' := ht4.f 2
             have k2 := ht4.cs.2.2.1
             clear ho hb hsz hgrow hs4 ht4 hr4 hp3 hbl hcs4 hG2 hlo))
        go_meet
        case rel =>
          have hsv : Save gb u4 (u4.setCell ⟨gb, 2, none⟩ (.slice (some ⟨a4, 0, none⟩) 2 c4)) := Save.setCell (p := ⟨gb, 2, none⟩) (Save.refl gb u4) (.inl rfl) _
          have hG2 := HG2.out
          have hW2 := HGE.out
          have hbb := HBL.out.setCell (p := ⟨gb, 2, none⟩) (by show W0.heap.size ≤ gb; omega) (.slice (some ⟨a4, 0, none⟩) 2 c4)
          exact ⟨a4, c4, HT4.out.set 2 (.slice (some ⟨a4, 0, none⟩) 2 c4), HR4.out.save hsv (by omega) (by omega) (by omega) (by omega) (by omega), own_save HP3.out hsv (own_ne HP3.out HT4.out (by decide)), own_save HO4.out hsv (own_ne HO4.out HT4.out (by decide)), hbb, HGE.out, hbb.size⟩
      case rest =>
        obtain ⟨a4, c4, hpm⟩ := hcut
        have PM6 := hid hpm
        clear hpm T5 R5 P3 P4 BL c0 c1 c2 c3x c4x c5 c6 c7 c8 c9 c10 f0 f1 f2 f3 f4 f5 f6 f7 f8 f9 f10 j0 j1 HX0 HX1
        obtain ⟨c0, c1, c2, c3x, c4x, c5, c6, c7, c8, c9, c10⟩ := PM6.out.cs
        have LAT := hid (fun (W : World) (h : DM W0.heap.size W0 g gb a3 c3 a4 c4 p r lo la ln lc W) => h.at_ ((HL.out.below h.bel).more h.sz))
        have FEW := hid (bod_few g ⟨some ⟨a3, 0, none⟩, c3⟩ ⟨some ⟨a4, 0, none⟩, c4⟩ p r lo la lc t (by rw [HL.out.1]; exact HN.out) (by have := HC.out; omega))
        have RGB := hid (bod_rg g ⟨some ⟨a3, 0, none⟩, c3⟩ ⟨some ⟨a4, 0, none⟩, c4⟩ p r lo la lc t)
        have NAB := hid (bod_names g ⟨some ⟨a3, 0, none⟩, c3⟩ ⟨some ⟨a4, 0, none⟩, c4⟩ p r lo la lc t)
        have NNB := hid (mod_nonneg (LAT.out _ PM6.out))
        have BD := hid (fun (W : World) (h : DM W0.heap.size W0 g gb a3 c3 a4 c4 p r lo la ln lc W) => Body_m _ 1 W (LAT.out W h) FEW.out (HT.out.on h.bel).nt (HT.out.on h.bel).ut (HT.out.on h.bel).ar)
        have BR := hid (fun (W : World) (h : DM W0.heap.size W0 g gb a3 c3 a4 c4 p r lo la ln lc W) => Body_R _ 1 W (LAT.out W h) FEW.out NAB.out)
        have CM := hid (fun (W : World) (h : DM W0.heap.size W0 g gb a3 c3 a4 c4 p r lo la ln lc W) => Check_m _ W (LAT.out W h) FEW.out RGB.out (HT.out.on h.bel).nt (HT.out.on h.bel).ut (HT.out.on h.bel).ar)
        have CR := hid (fun (W : World) (h : DM W0.heap.size W0 g gb a3 c3 a4 c4 p r lo la ln lc W) => Check_R _ W (LAT.out W h) FEW.out RGB.out NAB.out NNB.out)
        have CA := hid (fun (W : World) (h : DM W0.heap.size W0 g gb a3 c3 a4 c4 p r lo la ln lc W) => awake_m W (HT.out.on h.bel))
        rw [← body_doc _ NNB.out 1] at BR
        obtain ⟨⟨E, At⟩, hE⟩ : ∃ E, Md.body (bodM g ⟨some ⟨a3, 0, none⟩, c3⟩ ⟨some ⟨a4, 0, none⟩, c4⟩ p r lo la lc t) 1 = E := ⟨_, rfl⟩
        obtain ⟨⟨k1, k2, k3, k4⟩, hK⟩ : ∃ E, wrongP (bodM g ⟨some ⟨a3, 0, none⟩, c3⟩ ⟨some ⟨a4, 0, none⟩, c4⟩ p r lo la lc t) = E := ⟨_, rfl⟩
        unfold BodyQ at BD
        unfold CheckP at CM
        rw [hE] at BD BR
        rw [hK] at CM CR
        clear hE hK NNB NAB RGB FEW LAT HL HN HC
        unfold bodM richM Md.v at BD BR CM CR
        go_wp2_with fail
        refine (BD.out _ PM6.out).mono ?_
        rintro e w7 ⟨rfl, hb7⟩
        have PM7 := hid (PM6.out.below hb7)
        clear BD c0 c1 c2 c3x c4x c5 c6 c7 c8 c9 c10 hb7 PM6
        obtain ⟨c0, c1, c2, c3x, c4x, c5, c6, c7, c8, c9, c10⟩ := PM7.out.cs
        go_wp2_with fail
        refine (BR.out _ PM7.out).mono ?_
        rintro e w8 ⟨rfl, hb8⟩
        have PM8 := hid (PM7.out.below hb8)
        clear BR c0 c1 c2 c3x c4x c5 c6 c7 c8 c9 c10 hb8 PM7
        obtain ⟨c0, c1, c2, c3x, c4x, c5, c6, c7, c8, c9, c10⟩ := PM8.out.cs
        have C1 := hid (show ∀ (W : World) (h : Below w8.heap.size w8 W), Calls Tryz.prog 49 #[.agg #[.slice (some ⟨a3, 0, none⟩) 3 c3, .slice (some ⟨g + 1 + 1 + 1, 0, none⟩) 1 1, .slice (some ⟨a4, 0, none⟩) 2 c4, .slice (some ⟨g + 1 + 1 + 1 + 1 + 1, 0, none⟩) 1 1, .slice (some ⟨g + 1 + 1 + 1 + 1 + 1 + 1, 0, none⟩) 1 1, .slice (some ⟨g + 1 + 1 + 1 + 1 + 1 + 1 + 1, 0, none⟩) 2 2, .slice none 0 0, .bool false, .int .u32 0, .slice none 0 0, .slice none 0 0]] W (fun e w' => e = .returned (.agg #[.int .i64 k1, .int .i64 k2, .int .i64 k3, .int .i64 k4]) ∧ Below W.heap.size W w') from fun W h => CM.out W (PM8.out.below h))
        have C2 := hid (show ∀ (W : World) (h : Below w8.heap.size w8 W), Calls Tryz.prog 50 #[.agg #[.slice (some ⟨a3, 0, none⟩) 3 c3, .slice (some ⟨g + 1 + 1 + 1, 0, none⟩) 1 1, .slice (some ⟨a4, 0, none⟩) 2 c4, .slice (some ⟨g + 1 + 1 + 1 + 1 + 1, 0, none⟩) 1 1, .slice (some ⟨g + 1 + 1 + 1 + 1 + 1 + 1, 0, none⟩) 1 1, .slice (some ⟨g + 1 + 1 + 1 + 1 + 1 + 1 + 1, 0, none⟩) 2 2, .slice none 0 0, .bool false, .int .u32 0, .slice none 0 0, .slice none 0 0]] W (fun e w' => e = .returned (.agg #[.int .i64 k1, .int .i64 k2, .int .i64 k3, .int .i64 k4]) ∧ Below W.heap.size W w') from fun W h => CR.out W (PM8.out.below h))
        have C3 := hid (fun (W : World) (h : Below w8.heap.size w8 W) => CA.out W (PM8.out.below h))
        have HB8 := hid (HB0.out.trans (PM8.out.bel.mono HB0.out.size))
        have q1 := eqWrong
        have q2 := guardWrong
        have hS0 : Below w8.heap.size w8 w8.drew ∧ w8.drew.cell? ⟨gb, 0, none⟩ = some (.slice (some ⟨a3, 0, none⟩) 3 c3) ∧ w8.drew.cell? ⟨gb, 1, none⟩ = some (.slice (some ⟨g + 1 + 1 + 1, 0, none⟩) 1 1) ∧ w8.drew.cell? ⟨gb, 2, none⟩ = some (.slice (some ⟨a4, 0, none⟩) 2 c4) ∧ w8.drew.cell? ⟨gb, 3, none⟩ = some (.slice (some ⟨g + 1 + 1 + 1 + 1 + 1, 0, none⟩) 1 1) ∧ w8.drew.cell? ⟨gb, 4, none⟩ = some (.slice (some ⟨g + 1 + 1 + 1 + 1 + 1 + 1, 0, none⟩) 1 1) ∧ w8.drew.cell? ⟨gb, 5, none⟩ = some (.slice (some ⟨g + 1 + 1 + 1 + 1 + 1 + 1 + 1, 0, none⟩) 2 2) ∧ w8.drew.cell? ⟨gb, 6, none⟩ = some (.slice none 0 0) ∧ w8.drew.cell? ⟨gb, 7, none⟩ = some (.bool false) ∧ w8.drew.cell? ⟨gb, 8, none⟩ = some (.int .u32 0) ∧ w8.drew.cell? ⟨gb, 9, none⟩ = some (.slice none 0 0) ∧ w8.drew.cell? ⟨gb, 10, none⟩ = some (.slice none 0 0) := ⟨(Below.refl _ _).drew, c0, c1, c2, c3x, c4x, c5, c6, c7, c8, c9, c10⟩
        clear CM CR CA PM8 c0 c1 c2 c3x c4x c5 c6 c7 c8 c9 c10
        go_wp2
        ((go_region_held3 (fun w' => Below w8.heap.size w8 w' ∧ w'.cell? ⟨gb, 0, none⟩ = some (.slice (some ⟨a3, 0, none⟩) 3 c3) ∧ w'.cell? ⟨gb, 1, none⟩ = some (.slice (some ⟨g + 1 + 1 + 1, 0, none⟩) 1 1) ∧ w'.cell? ⟨gb, 2, none⟩ = some (.slice (some ⟨a4, 0, none⟩) 2 c4) ∧ w'.cell? ⟨gb, 3, none⟩ = some (.slice (some ⟨g + 1 + 1 + 1 + 1 + 1, 0, none⟩) 1 1) ∧ w'.cell? ⟨gb, 4, none⟩ = some (.slice (some ⟨g + 1 + 1 + 1 + 1 + 1 + 1, 0, none⟩) 1 1) ∧ w'.cell? ⟨gb, 5, none⟩ = some (.slice (some ⟨g + 1 + 1 + 1 + 1 + 1 + 1 + 1, 0, none⟩) 2 2) ∧ w'.cell? ⟨gb, 6, none⟩ = some (.slice none 0 0) ∧ w'.cell? ⟨gb, 7, none⟩ = some (.bool false) ∧ w'.cell? ⟨gb, 8, none⟩ = some (.int .u32 0) ∧ w'.cell? ⟨gb, 9, none⟩ = some (.slice none 0 0) ∧ w'.cell? ⟨gb, 10, none⟩ = some (.slice none 0 0))
            (first | assumption | exact held_kp11 (by assumption) (by assumption))
            (first | (go_at_call 49; (with_reducible refine (C1.out _ (hb_out11 (by assumption))).mono ?_); rintro e8 w9 ⟨rfl, hb8⟩) | (go_at_call 50; (with_reducible refine (C2.out _ (hb_out11 (by assumption))).mono ?_); rintro e8 w9 ⟨rfl, hb8⟩) | (go_at_call 51; (with_reducible refine (C3.out _ (hb_out11 (by assumption))).mono ?_); rintro e8 w9 ⟨rfl, hb8⟩))))
        have H9 := hid (HB8.out.trans ((hb_out11 (by assumption)).mono HB8.out.size))
        all_goals try go_wp2
        go_ret
        exact ⟨ret_bool (by simp), H9.out⟩
  · have h1' : 2000 < A := by omega
    clear h1 HA
    go_wp2
    go_ret
    exact ⟨rfl, HB0.out⟩
end Go.Proofs.YtdljneclfgneoaaGreatDoor.Val
namespace Go.Proofs.YtdljneclfgneoaaGreatDoor
open Go.RowKit Go.Proofs.YtdljneclfgneoaaGreatDoor.Instr Go.Proofs.YtdljneclfgneoaaGreatDoor.Val
theorem validBodies_walk (W : World) (n0 : Int) (a0 : Option Addr) (len0 cap0 : Nat) (t0 : Il) (_hb0 : -9223372036854775808 ≤ n0 ∧ n0 ≤ 9223372036854775807) (hl0 : ListAt W.heap.size W a0 len0 t0) (_hc0 : len0 ≤ cap0) (hx0 : len0 ≤ 140737488351232) (p r : Int) (hT : Instr.Nams W ∧ Utf.Tabs W ∧ Num.Arit W) :
    Calls Tryz.prog 10 #[.agg #[.int .i64 n0, .slice a0 len0 cap0], .agg #[.int .i64 p, .int .i64 r]] W fun e w' => e = .returned (.bool true) ∧ Below W.heap.size W w' :=
  bodies_go a0 len0 cap0 t0 n0 p r W hl0 hx0 ⟨hT.1, hT.2.1, hT.2.2⟩
end Go.Proofs.YtdljneclfgneoaaGreatDoor

namespace Go.Proofs.YtdljneclfgneoaaGreatDoor.validBodies
open Go.ChangeShapes Go.WideShapes Go.ChangeAt Go.RowKit
open Go.ChangeMaps (open_string shut_string)
set_option linter.unusedVariables false

set_option maxRecDepth 100000 in
theorem lifted (os : Os) (started : os.Started) (H : Type) (enc : TypeId × Value → H) :
    ReturnsInHanded {} Tryz.checked os 10 .any (fun w args => (Rows.validBodiesSpec.pre enc Tryz.prog Tryz.f10 [] false w args ∧ laidMetH Tryz.prog laid4 w) ∧ sizedMet enc Tryz.prog Tryz.f10 (OpenSpec.ofChange Rows.validBodiesSpec) false w args)
      (Rows.validBodiesSpec.post enc Tryz.prog Tryz.f10 false true false false) := by
  refine returnsInHanded_of_change_and (C := Tryz.checked) (X := fun w _ => laidMetH Tryz.prog laid4 w) (fun _ _ _ hh h => h.of_heap hh) ownK started (by kernel_rfl) Tryz.func10
    (ChangeSpec.witness_shaped (enc := enc) (C := Tryz.checked) (os := os) (X := fun w _ => laidMetH Tryz.prog laid4 w) false (World.laidAll Tryz.prog os laid4) #[.agg #[.int .i64 0, .slice none 0 0], .agg #[.int .i64 0, .int .i64 0]] 8 (World.laidAll_os _ _ _)
      (World.shaped_of_ZipB (by kernel_rfl) (by kernel_rfl)) (by kernel_rfl) (by kernel_rfl) (by kernel_rfl)
      (by rw [MakeChecks.laidMetH_plain _ _ _ (by kernel_rfl)]; exact laidMet_laidAll _ (by kernel_rfl) (by kernel_rfl))) ?_
  intro W base args ds gs before hval0 hW _ hsz0 hL _
  have hval : ∀ (j : Nat) t v, Tryz.f10.params[j]? = some t → args[j]? = some v → Value.okWide Tryz.prog W .any base t v := hval0
  have hW' := hW
  obtain ⟨p, q, hA0, hV, rfl, hfz, hnd⟩ := hW
  have hA : DataW.TrodAll enc Tryz.prog W 0 (fun _ => true) true Tryz.f10.params.toList args.toList ds p := hA0
  have hsz : (DataW.weightsEach Tryz.prog (Tryz.f10.params.toList ++ Rows.validBodiesSpec.plain.varTypes Tryz.prog) (ds ++ gs)).all (· ≤ reachBytes) = true := hsz0
  rw [Tryz.params10] at hA hval hsz
  obtain ⟨v0, vs0, d0, ds0, p0, q0, hargs, rfl, rfl, h0, r0⟩ := trodAll_cons hA
  obtain ⟨v1, vs1, d1, ds1, p1, q1, rfl, rfl, rfl, h1, r1⟩ := trodAll_cons r0
  obtain ⟨rfl, rfl, rfl⟩ := trodAll_nil r1
  obtain rfl : args = #[v0, v1] := by cases args; simp_all
  obtain ⟨rfl, rfl⟩ := trodVars_none hV
  have k0 := h0
  have lt0 : ∀ x ∈ p0, x.block < W.heap.size := by obtain ⟨m, hm⟩ := k0; exact DataW.trod_lt m _ _ _ hm
  obtain ⟨n0, a0, len0, cap0, t0, rfl, b0, hl0, hc0, hx0⟩ := Body.open_code hsz 0 rfl rfl (hval 0 24 v0 rfl rfl) k0
  obtain ⟨n1, x1, rfl, rfl, rfl, wa1, wb1⟩ := Val.open_ftype (hval 1 26 v1 rfl rfl) h1
  rw [MakeChecks.laidMetH_plain _ _ _ (by kernel_rfl)] at hL
  have hT := tabs_4 hL
  clear hA0 hval0
  refine (validBodies_walk W n0 a0 len0 cap0 t0 b0 hl0 hc0 hx0 n1 x1 hT).mono fun e W' ⟨he, bel⟩ => ?_
  subst he
  exact ⟨_, rfl, _, _, _, [], _, [], hW', trodAll_mk1 (shut_bool Tryz.underlying4 _), (trodAll_cons_mk (Below.trod laidOutK (by kernel_rfl) (of_decide_eq_true (by kernel_rfl)) k0 bel lt0) (trodAll_cons_mk (Val.shut_ftype wa1 wb1) trodAll_mk0)), rfl, bel.frame _, fun h => by cases h⟩
end Go.Proofs.YtdljneclfgneoaaGreatDoor.validBodies

namespace Go.Proofs.YtdljneclfgneoaaGreatDoor.validBodies
open Go.ChangeShapes Go.WideShapes Go.ChangeAt Go.RowKit
open Go.ChangeMaps (open_string shut_string)
set_option linter.unusedVariables false

theorem over : Rows.validBodiesRow.holds Tryz.pinned (OpenSpec.ofChange Rows.validBodiesSpec) :=
  OpenClaim.holds_of_wide 10 Tryz.f10 rfl rfl rfl rfl rfl rfl rfl ⟨rfl, rfl, rfl, rfl, rfl⟩ rfl rfl rfl rfl rfl (by kernel_rfl) Tryz.func10 facH
    (of_decide_eq_true (by kernel_rfl)) (by unfold Func.isWrapper; first | (rw [if_pos (by decide +kernel)]; kernel_rfl) | (rw [if_neg (by decide +kernel)]; exact ⟨rfl, rfl⟩))
    (fun os started H enc _ => lifted os started H enc)
end Go.Proofs.YtdljneclfgneoaaGreatDoor.validBodies
