import Derived.Test.YtepbjkkakfpjgaaGreatDoorEl16
import Derived.Test.YtepbjkkakfpjgaaGreatDoorEl04
import Derived.Test.YtepbjkkakfpjgaaGreatDoorEl15
import Derived.Deep.Cut
import Derived.Laws.AppendOwn
import Derived.Laws.AppendOwnNone
import Derived.Deep.AppendLies
namespace Go.Proofs.YtepbjkkakfpjgaaGreatDoor.Enc
open Go.RowKit Go.Proofs.YtepbjkkakfpjgaaGreatDoor.Leb Go.Proofs.YtepbjkkakfpjgaaGreatDoor.Instr Go.Proofs.YtepbjkkakfpjgaaGreatDoor.Mod
open Go.Proofs.YtepbjkkakfpjgaaGreatDoor.Body (encL codeL PutP)
set_option linter.unusedVariables false
set_option linter.unusedSimpArgs false

set_option maxRecDepth 100000 in
set_option maxHeartbeats 8000000 in
theorem ref_sec6 (m : Md) (w : World) (FI : Fine w m) (hf : FitP glB m.gl 0) : Calls Tryz.prog 43 #[.agg m.v, .int .i64 6] w (Gives w (encU m.gl.length ++ m.gl.flatMap glB)) := by
  have FX := facts_of FI.chk
  have HB := hid ((Below.refl w.heap.size w).alloc (Nat.le_refl _) (.cells m.v 32))
  have X0 := BoxAt.made w m.v 32
  have HR := hid ((FI.at_.on HB.out).gl)
  have HFIT := hid hf
  have FS := hid FI
  have FXH := hid FX
  obtain ⟨n, hn⟩ : ∃ n, m.gl.length = n := ⟨_, rfl⟩
  have HN := hid hn
  have hn5 : n ≤ 16384 := by have := FX.lens; omega
  have h0 : 0 ≤ (n : Int) := by omega
  have h1 : (n : Int) < 4294967296 := by omega
  unfold Md.v at HB X0 HR ⊢
  rw [hn] at HB X0 HR ⊢
  clear FX hn hf FI
  have xm := X0 5 _ rfl
  have HXX := hid X0
  clear X0
  go_enter Tryz.func43, Tryz.ntmps43
  go_wp2_with fail
  generalize w.alloc (.cells #[.slice m.ty'.a m.ty.length m.ty'.c, .slice m.im'.a m.im.length m.im'.c, .slice m.fu'.a m.fu.length m.fu'.c, .slice m.tb'.a m.tb.length m.tb'.c, .slice m.me'.a m.me.length m.me'.c, .slice m.gl'.a n m.gl'.c, .slice m.ex'.a m.ex.length m.ex'.c, .bool m.st, .int .u32 m.sn, .slice m.el'.a m.el.length m.el'.c, .slice m.da'.a m.da.length m.da'.c] 32) = W0 at HB HR HXX xm ⊢
  refine (u8_gives (n : Int) _ h0 h1).mono ?_
  rintro e0 u0 h
  obtain ⟨a0, n0, c0, rfl, hn0, hy0, hz0, hb0⟩ := tl_own (encU_bytes _) (by have := encU_few (n : Int); omega) h
  have AS := hid ((Acc.start W0).call hb0)
  have HY := hid hy0
  have HN0 := hid hn0
  have HZ0 := hid hz0
  have HE0 := hid (encU_few (n : Int))
  clear h hn0 hy0 hz0 hb0 xm
  go_wp2_with (first | (at_builtin; go_loud (refine append_bytes rfl (.tmp 15) (.tmp 19) rfl rfl AS.out.own AS.out.bel AS.out.base a0 n0 c0 rfl HZ0.out HN0.out HY.out (by have := HE0.out; simp; omega) ?_); intro v0 z0 ho hb hs; refine Hid.out ?_))
  refine hid ?_
  have A0 := hid (Acc.mk ho hb hs)
  rw [List.nil_append] at A0
  clear ho hb hs AS HY HN0 HZ0 HE0
  have KM := hid (fun (X : World) (h : Below W0.heap.size W0 X) => (h.cell (p := ⟨w.heap.size, 5, none⟩) (by have := World.block_lt_of_cell? _ _ (HXX.out 5 _ rfl); simpa using this)).trans (HXX.out 5 _ rfl))
  have xm := KM.out _ A0.out.bel
  go_wp2
  clear xm
  go_loopw [5, 6, 7] (fun vo vi y7 wr => ∃ k : Nat, vi = .int .i64 k ∧ k ≤ n ∧ Hid (Acc W0 vo (encU (n : Int) ++ (m.gl.take k).flatMap glB) wr)) (fun _ vi _ _ => n - (intOf vi).toNat)
  case atStart => exact ⟨0, rfl, Nat.zero_le _, by simpa using A0⟩
  case round =>
    clear A0
    obtain ⟨k, rfl, hk, A0⟩ := hrel
    by_cases hlt : k < n
    · have hkl : k < m.gl.length := by rw [HN.out]; exact hlt
      have hki : (k : Int) < (n : Int) := by omega
      obtain ⟨b, off, ha, hb, hc⟩ := Rows.get HR.out hkl
      have FI := FS.out
      have FX := FXH.out
      have HX := hid (code_facts FI (mem_gl (List.getElem_mem hkl)))
      have HT := hid (flat_step glB hkl)
      have LK := hid (show (encU (n : Int) ++ (m.gl.take k).flatMap glB).length ≤ 1000000000 by have h2 := HFIT.out; unfold FitP at h2; have h3 := flat_take glB m.gl k; rw [HN.out] at h2; rw [List.length_append] at h2 ⊢; omega)
      have LXX := hid (show (glB m.gl[k]).length ≤ 1000000000 by have h2 := HFIT.out; unfold FitP at h2; have h3 := flat_item glB hkl; rw [List.length_append] at h2; omega)
      clear FI FX
      obtain ⟨x, hxe⟩ : ∃ x, m.gl[k] = x := ⟨_, rfl⟩
      rw [hxe] at hc HT LXX HX
      obtain ⟨mu, la, lc, lt⟩ := x
      skip
      obtain ⟨ln, hln⟩ : ∃ n, lt.len = n := ⟨_, rfl⟩
      have HLN := hid hln
      have r0 : W0.cell? ⟨b, off + k * 2, none⟩ = some (.bool mu) := hc 0 (by omega) _ rfl
      have r1 : W0.cell? ⟨b, off + k * 2 + 1, none⟩ = some (.slice la lt.len lc) := hc 1 (by omega) _ rfl
      rw [hln] at r1
      have K0 := hid (fun (X : World) (h : Below W0.heap.size W0 X) => (h.cell (p := ⟨b, off + k * 2, none⟩) hb).trans r0)
      have K1 := hid (fun (X : World) (h : Below W0.heap.size W0 X) => (h.cell (p := ⟨b, off + k * 2 + 1, none⟩) hb).trans r1)
      have KB := hid (fun (X : World) (h : Below W0.heap.size W0 X) => KM.out X h)
      rw [ha] at KB
      clear hc hb hxe ha r0 r1 hln
      cases mu with
      | true =>
        have xm := KB.out _ A0.out.bel
        have c0 := K0.out _ A0.out.bel
        have c1 := K1.out _ A0.out.bel
        have L0 := hid LK.out
        have HY2 := hid (lit_two wr 127 1 (by omega) (by omega) 5)
        have AL := hid (A0.out.call ((Below.refl _ _).alloc (Nat.le_refl _) (.cells #[.int .u8 127, .int .u8 1] 5)))
        go_wp2_with (first | (at_builtin; go_loud (refine append_lie rfl (.tmp 34) (.tmp 36) rfl rfl AL.out (some ⟨wr.heap.size, 0, none⟩) 2 2 rfl rfl HY2.out (by have := L0.out; simp only [List.length_cons, List.length_nil]; omega) ?_); intro v1 z1 ha1; refine Hid.out ?_))
        refine hid ?_
        have A1 := hid ha1
        have L1 := hid (show ((encU (n : Int) ++ (m.gl.take k).flatMap glB) ++ [(127 : Int), 1]).length ≤ 2000000000 from by have h1 := L0.out; rw [List.length_append]; simp only [List.length_cons, List.length_nil]; omega)
        clear ha1 A0 AL HY2 L0
        clear xm c0 c1
        have xm := KB.out _ A1.out.bel
        have c0 := K0.out _ A1.out.bel
        have c1 := K1.out _ A1.out.bel
        go_wp2_with fail
        have C := (fun (X : World) (h : Below W0.heap.size W0 X) => (by have C := code8_tl ⟨la, lc, lt⟩ X (HX.out.1.on (HB.out.trans (h.mono HB.out.size))) HX.out.2.1 HX.out.2.2.1 HX.out.2.2.2.1 HX.out.2.2.2.2; dsimp only at C; rw [HLN.out] at C; exact C)) _ A1.out.bel
        refine C.mono ?_
        clear C
        rintro e1 u1 ⟨pa1, pn1, pc1, rfl, hn, hy, hz, hb⟩
        have B1 := hid (A1.out.call hb)
        have HYY := hid hy
        have HNN := hid hn
        have HZZ := hid hz
        have LY := hid (show (insB ⟨la, lc, lt⟩).length ≤ 1000000000 by have h := LXX.out; simp only [tyB, impB, fnB, tbB, meB, glB, exB, elB, coB, daB, List.length_append, List.length_cons] at h ⊢; omega)
        clear hn hy hz hb A1
        clear xm c0 c1
        go_wp2_with (first | (at_builtin; go_loud (refine append_bytes rfl (.tmp 38) (.tmp 45) rfl rfl B1.out.own B1.out.bel B1.out.base pa1 pn1 pc1 rfl HZZ.out HNN.out HYY.out (by have := L1.out; have := LY.out; omega) ?_); intro v2 z2 ho hb hs; refine Hid.out ?_))
        refine hid ?_
        have A2 := hid (Acc.mk ho hb hs)
        have L2 := hid (show (((encU (n : Int) ++ (m.gl.take k).flatMap glB) ++ [(127 : Int), 1]) ++ insB ⟨la, lc, lt⟩).length ≤ 3000000000 from by have h1 := L1.out; have h2 := LY.out; rw [List.length_append]; omega)
        clear ho hb hs HYY HNN HZZ LY B1 L1
        have xm := KB.out _ A2.out.bel
        have c0 := K0.out _ A2.out.bel
        have c1 := K1.out _ A2.out.bel
        clear L2
        go_wp2
        go_roundw
        case rel => exact ⟨k + 1, by go_num, by omega, by rw [HT.out]; simpa [glB, List.append_assoc] using A2⟩
        case measure => simp [intOf]; omega
      | false =>
        have xm := KB.out _ A0.out.bel
        have c0 := K0.out _ A0.out.bel
        have c1 := K1.out _ A0.out.bel
        have L0 := hid LK.out
        have HY2 := hid (lit_two wr 127 0 (by omega) (by omega) 5)
        have AL := hid (A0.out.call ((Below.refl _ _).alloc (Nat.le_refl _) (.cells #[.int .u8 127, .int .u8 0] 5)))
        go_wp2_with (first | (at_builtin; go_loud (refine append_lie rfl (.tmp 34) (.tmp 36) rfl rfl AL.out (some ⟨wr.heap.size, 0, none⟩) 2 2 rfl rfl HY2.out (by have := L0.out; simp only [List.length_cons, List.length_nil]; omega) ?_); intro v1 z1 ha1; refine Hid.out ?_))
        refine hid ?_
        have A1 := hid ha1
        have L1 := hid (show ((encU (n : Int) ++ (m.gl.take k).flatMap glB) ++ [(127 : Int), 0]).length ≤ 2000000000 from by have h1 := L0.out; rw [List.length_append]; simp only [List.length_cons, List.length_nil]; omega)
        clear ha1 A0 AL HY2 L0
        clear xm c0 c1
        have xm := KB.out _ A1.out.bel
        have c0 := K0.out _ A1.out.bel
        have c1 := K1.out _ A1.out.bel
        go_wp2_with fail
        have C := (fun (X : World) (h : Below W0.heap.size W0 X) => (by have C := code8_tl ⟨la, lc, lt⟩ X (HX.out.1.on (HB.out.trans (h.mono HB.out.size))) HX.out.2.1 HX.out.2.2.1 HX.out.2.2.2.1 HX.out.2.2.2.2; dsimp only at C; rw [HLN.out] at C; exact C)) _ A1.out.bel
        refine C.mono ?_
        clear C
        rintro e1 u1 ⟨pa1, pn1, pc1, rfl, hn, hy, hz, hb⟩
        have B1 := hid (A1.out.call hb)
        have HYY := hid hy
        have HNN := hid hn
        have HZZ := hid hz
        have LY := hid (show (insB ⟨la, lc, lt⟩).length ≤ 1000000000 by have h := LXX.out; simp only [tyB, impB, fnB, tbB, meB, glB, exB, elB, coB, daB, List.length_append, List.length_cons] at h ⊢; omega)
        clear hn hy hz hb A1
        clear xm c0 c1
        go_wp2_with (first | (at_builtin; go_loud (refine append_bytes rfl (.tmp 38) (.tmp 45) rfl rfl B1.out.own B1.out.bel B1.out.base pa1 pn1 pc1 rfl HZZ.out HNN.out HYY.out (by have := L1.out; have := LY.out; omega) ?_); intro v2 z2 ho hb hs; refine Hid.out ?_))
        refine hid ?_
        have A2 := hid (Acc.mk ho hb hs)
        have L2 := hid (show (((encU (n : Int) ++ (m.gl.take k).flatMap glB) ++ [(127 : Int), 0]) ++ insB ⟨la, lc, lt⟩).length ≤ 3000000000 from by have h1 := L1.out; have h2 := LY.out; rw [List.length_append]; omega)
        clear ho hb hs HYY HNN HZZ LY B1 L1
        have xm := KB.out _ A2.out.bel
        have c0 := K0.out _ A2.out.bel
        have c1 := K1.out _ A2.out.bel
        clear L2
        go_wp2
        go_roundw
        case rel => exact ⟨k + 1, by go_num, by omega, by rw [HT.out]; simpa [glB, List.append_assoc] using A2⟩
        case measure => simp [intOf]; omega
    · obtain rfl : n = k := by omega
      have xm := KM.out _ A0.out.bel
      go_wp2
      go_ret
      exact Acc.gives HB.out A0.out (by rw [List.take_of_length_le (by rw [HN.out]; exact Nat.le_refl _)])
set_option maxRecDepth 100000 in
set_option maxHeartbeats 8000000 in
theorem ref_sec7 (m : Md) (w : World) (FI : Fine w m) (hf : FitP exB m.ex 0) : Calls Tryz.prog 43 #[.agg m.v, .int .i64 7] w (Gives w (encU m.ex.length ++ m.ex.flatMap exB)) := by
  have FX := facts_of FI.chk
  have HB := hid ((Below.refl w.heap.size w).alloc (Nat.le_refl _) (.cells m.v 32))
  have X0 := BoxAt.made w m.v 32
  have HR := hid ((FI.at_.on HB.out).ex)
  have HFIT := hid hf
  have FS := hid FI
  have FXH := hid FX
  obtain ⟨n, hn⟩ : ∃ n, m.ex.length = n := ⟨_, rfl⟩
  have HN := hid hn
  have hn5 : n ≤ 16384 := by have := FX.lens; omega
  have h0 : 0 ≤ (n : Int) := by omega
  have h1 : (n : Int) < 4294967296 := by omega
  unfold Md.v at HB X0 HR ⊢
  rw [hn] at HB X0 HR ⊢
  clear FX hn hf FI
  have xm := X0 6 _ rfl
  have HXX := hid X0
  clear X0
  go_enter Tryz.func43, Tryz.ntmps43
  go_wp2_with fail
  generalize w.alloc (.cells #[.slice m.ty'.a m.ty.length m.ty'.c, .slice m.im'.a m.im.length m.im'.c, .slice m.fu'.a m.fu.length m.fu'.c, .slice m.tb'.a m.tb.length m.tb'.c, .slice m.me'.a m.me.length m.me'.c, .slice m.gl'.a m.gl.length m.gl'.c, .slice m.ex'.a n m.ex'.c, .bool m.st, .int .u32 m.sn, .slice m.el'.a m.el.length m.el'.c, .slice m.da'.a m.da.length m.da'.c] 32) = W0 at HB HR HXX xm ⊢
  refine (u8_gives (n : Int) _ h0 h1).mono ?_
  rintro e0 u0 h
  obtain ⟨a0, n0, c0, rfl, hn0, hy0, hz0, hb0⟩ := tl_own (encU_bytes _) (by have := encU_few (n : Int); omega) h
  have AS := hid ((Acc.start W0).call hb0)
  have HY := hid hy0
  have HN0 := hid hn0
  have HZ0 := hid hz0
  have HE0 := hid (encU_few (n : Int))
  clear h hn0 hy0 hz0 hb0 xm
  go_wp2_with (first | (at_builtin; go_loud (refine append_bytes rfl (.tmp 49) (.tmp 53) rfl rfl AS.out.own AS.out.bel AS.out.base a0 n0 c0 rfl HZ0.out HN0.out HY.out (by have := HE0.out; simp; omega) ?_); intro v0 z0 ho hb hs; refine Hid.out ?_))
  refine hid ?_
  have A0 := hid (Acc.mk ho hb hs)
  rw [List.nil_append] at A0
  clear ho hb hs AS HY HN0 HZ0 HE0
  have KM := hid (fun (X : World) (h : Below W0.heap.size W0 X) => (h.cell (p := ⟨w.heap.size, 6, none⟩) (by have := World.block_lt_of_cell? _ _ (HXX.out 6 _ rfl); simpa using this)).trans (HXX.out 6 _ rfl))
  have xm := KM.out _ A0.out.bel
  go_wp2
  clear xm
  go_loopw [5, 8] (fun vo vi wr => ∃ k : Nat, vi = .int .i64 k ∧ k ≤ n ∧ Hid (Acc W0 vo (encU (n : Int) ++ (m.ex.take k).flatMap exB) wr)) (fun _ vi _ => n - (intOf vi).toNat)
  case atStart => exact ⟨0, rfl, Nat.zero_le _, by simpa using A0⟩
  case round =>
    clear A0
    obtain ⟨k, rfl, hk, A0⟩ := hrel
    by_cases hlt : k < n
    · have hkl : k < m.ex.length := by rw [HN.out]; exact hlt
      have hki : (k : Int) < (n : Int) := by omega
      obtain ⟨b, off, ha, hb, hc⟩ := Rows.get HR.out hkl
      have FI := FS.out
      have FX := FXH.out
      have HX := hid (FX.ex _ (List.getElem_mem hkl))
      have HI := hid (FI.siz.ei _ (List.getElem_mem hkl))
      have HT := hid (flat_step exB hkl)
      have LK := hid (show (encU (n : Int) ++ (m.ex.take k).flatMap exB).length ≤ 1000000000 by have h2 := HFIT.out; unfold FitP at h2; have h3 := flat_take exB m.ex k; rw [HN.out] at h2; rw [List.length_append] at h2 ⊢; omega)
      have LXX := hid (show (exB m.ex[k]).length ≤ 1000000000 by have h2 := HFIT.out; unfold FitP at h2; have h3 := flat_item exB hkl; rw [List.length_append] at h2; omega)
      clear FI FX
      obtain ⟨x, hxe⟩ : ∃ x, m.ex[k] = x := ⟨_, rfl⟩
      rw [hxe] at hc HT LXX HX HI
      obtain ⟨na, kk, ii⟩ := x
      skip
      dsimp only at HX HI
      have r0 : W0.cell? ⟨b, off + k * 3, none⟩ = some (.string na) := hc 0 (by omega) _ rfl
      have r1 : W0.cell? ⟨b, off + k * 3 + 1, none⟩ = some (.int .i64 kk) := hc 1 (by omega) _ rfl
      have r2 : W0.cell? ⟨b, off + k * 3 + 2, none⟩ = some (.int .u32 ii) := hc 2 (by omega) _ rfl
      have K0 := hid (fun (X : World) (h : Below W0.heap.size W0 X) => (h.cell (p := ⟨b, off + k * 3, none⟩) hb).trans r0)
      have K1 := hid (fun (X : World) (h : Below W0.heap.size W0 X) => (h.cell (p := ⟨b, off + k * 3 + 1, none⟩) hb).trans r1)
      have K2 := hid (fun (X : World) (h : Below W0.heap.size W0 X) => (h.cell (p := ⟨b, off + k * 3 + 2, none⟩) hb).trans r2)
      have KB := hid (fun (X : World) (h : Below W0.heap.size W0 X) => KM.out X h)
      rw [ha] at KB
      clear hc hb hxe ha r0 r1 r2
      have hw := u8_id kk HX.out.2.2.1 HX.out.2.2.2
      have xm := KB.out _ A0.out.bel
      have c0 := K0.out _ A0.out.bel
      have c1 := K1.out _ A0.out.bel
      have c2 := K2.out _ A0.out.bel
      have L0 := hid LK.out
      go_wp2_with fail
      have C := (fun (X : World) (h : Below W0.heap.size W0 X) => name8_tl na X (by have := HX.out.1; first | omega | (dsimp only at this; omega)) HX.out.2.1) _ A0.out.bel
      refine C.mono ?_
      clear C
      rintro e0 u0 ⟨pa0, pn0, pc0, rfl, hn, hy, hz, hb⟩
      have B0 := hid (A0.out.call hb)
      have HYY := hid hy
      have HNN := hid hn
      have HZZ := hid hz
      have LY := hid (show (nameB na).length ≤ 1000000000 by have h := LXX.out; simp only [tyB, impB, fnB, tbB, meB, glB, exB, elB, coB, daB, List.length_append, List.length_cons] at h ⊢; omega)
      clear hn hy hz hb A0
      clear xm c0 c1 c2
      go_wp2_with (first | (at_builtin; go_loud (refine append_bytes rfl (.tmp 62) (.tmp 69) rfl rfl B0.out.own B0.out.bel B0.out.base pa0 pn0 pc0 rfl HZZ.out HNN.out HYY.out (by have := L0.out; have := LY.out; omega) ?_); intro v1 z1 ho hb hs; refine Hid.out ?_))
      refine hid ?_
      have A1 := hid (Acc.mk ho hb hs)
      have L1 := hid (show ((encU (n : Int) ++ (m.ex.take k).flatMap exB) ++ nameB na).length ≤ 2000000000 from by have h1 := L0.out; have h2 := LY.out; rw [List.length_append]; omega)
      clear ho hb hs HYY HNN HZZ LY B0 L0
      have xm := KB.out _ A1.out.bel
      have c0 := K0.out _ A1.out.bel
      have c1 := K1.out _ A1.out.bel
      have c2 := K2.out _ A1.out.bel
      go_wp2_with (first | (at_builtin; go_loud (refine append_byte rfl (.tmp 71) (.tmp 79) rfl (kk) rfl A1.out.own A1.out.bel A1.out.base rfl (by have := L1.out; omega) ?_); intro v2 z2 ho hb hs; refine Hid.out ?_))
      refine hid ?_
      have A2 := hid (Acc.mk ho hb hs)
      have L2 := hid (show (((encU (n : Int) ++ (m.ex.take k).flatMap exB) ++ nameB na) ++ [(kk : Int)]).length ≤ 3000000000 from by have h1 := L1.out; rw [List.length_append]; simp only [List.length_cons, List.length_nil]; omega)
      clear ho hb hs A1 L1
      clear xm c0 c1 c2
      have xm := KB.out _ A2.out.bel
      have c0 := K0.out _ A2.out.bel
      have c1 := K1.out _ A2.out.bel
      have c2 := K2.out _ A2.out.bel
      go_wp2_with fail
      have C := (fun (X : World) (h : Below W0.heap.size W0 X) => U8_tl ii X HI.out.1 HI.out.2) _ A2.out.bel
      refine C.mono ?_
      clear C
      rintro e2 u2 ⟨pa2, pn2, pc2, rfl, hn, hy, hz, hb⟩
      have B2 := hid (A2.out.call hb)
      have HYY := hid hy
      have HNN := hid hn
      have HZZ := hid hz
      have LY := hid (show (encU ii).length ≤ 1000000000 by have := encU_few (ii); omega)
      clear hn hy hz hb A2
      clear xm c0 c1 c2
      go_wp2_with (first | (at_builtin; go_loud (refine append_bytes rfl (.tmp 81) (.tmp 88) rfl rfl B2.out.own B2.out.bel B2.out.base pa2 pn2 pc2 rfl HZZ.out HNN.out HYY.out (by have := L2.out; have := LY.out; omega) ?_); intro v3 z3 ho hb hs; refine Hid.out ?_))
      refine hid ?_
      have A3 := hid (Acc.mk ho hb hs)
      have L3 := hid (show ((((encU (n : Int) ++ (m.ex.take k).flatMap exB) ++ nameB na) ++ [(kk : Int)]) ++ encU ii).length ≤ 4000000000 from by have h1 := L2.out; have h2 := LY.out; rw [List.length_append]; omega)
      clear ho hb hs HYY HNN HZZ LY B2 L2
      have xm := KB.out _ A3.out.bel
      have c0 := K0.out _ A3.out.bel
      have c1 := K1.out _ A3.out.bel
      have c2 := K2.out _ A3.out.bel
      clear L3
      go_wp2
      go_roundw
      case rel => exact ⟨k + 1, by go_num, by omega, by rw [HT.out]; simpa [exB, List.append_assoc] using A3⟩
      case measure => simp [intOf]; omega
    · obtain rfl : n = k := by omega
      have xm := KM.out _ A0.out.bel
      go_wp2
      go_ret
      exact Acc.gives HB.out A0.out (by rw [List.take_of_length_le (by rw [HN.out]; exact Nat.le_refl _)])
set_option maxRecDepth 100000 in
set_option maxHeartbeats 2000000 in
theorem ref_sec8 (m : Md) (w : World) (FI : Fine w m) : Calls Tryz.prog 43 #[.agg m.v, .int .i64 8] w (Gives w (encU m.sn)) := by
  have HB := hid ((Below.refl w.heap.size w).alloc (Nat.le_refl _) (.cells m.v 32))
  have X0 := BoxAt.made w m.v 32
  have h0 := FI.siz.sn.1
  have h1 := FI.siz.sn.2
  have xm := X0 8 _ rfl
  unfold Md.v at HB xm ⊢
  clear X0 FI
  go_enter Tryz.func43, Tryz.ntmps43
  go_wp2_with fail
  refine (refU_any m.sn _ h0 h1).mono ?_
  rintro e w1 ⟨v, rfl, ho, hb⟩
  go_wp2
  go_ret
  exact ⟨v, rfl, ho.mono HB.out.size, HB.out.trans (hb.mono HB.out.size)⟩
end Go.Proofs.YtepbjkkakfpjgaaGreatDoor.Enc

namespace Go.Proofs.YtepbjkkakfpjgaaGreatDoor.Enc
open Go.RowKit Go.Proofs.YtepbjkkakfpjgaaGreatDoor.Leb Go.Proofs.YtepbjkkakfpjgaaGreatDoor.Instr Go.Proofs.YtepbjkkakfpjgaaGreatDoor.Mod
open Go.Proofs.YtepbjkkakfpjgaaGreatDoor.Body (encL codeL PutP)
set_option linter.unusedVariables false
set_option linter.unusedSimpArgs false

set_option maxRecDepth 100000 in
set_option maxHeartbeats 8000000 in
theorem ref_sec9 (m : Md) (w : World) (FI : Fine w m) (hf : FitP elB m.el 0) : Calls Tryz.prog 44 #[.agg m.v, .int .i64 9] w (Gives w (encU m.el.length ++ m.el.flatMap elB)) := by
  have FX := facts_of FI.chk
  have HB := hid ((Below.refl w.heap.size w).alloc (Nat.le_refl _) (.cells m.v 32))
  have X0 := BoxAt.made w m.v 32
  have HR := hid ((FI.at_.on HB.out).el)
  have HFIT := hid hf
  have FS := hid FI
  have FXH := hid FX
  obtain ⟨n, hn⟩ : ∃ n, m.el.length = n := ⟨_, rfl⟩
  have HN := hid hn
  have hn5 : n ≤ 16384 := by have := FX.lens; omega
  have h0 : 0 ≤ (n : Int) := by omega
  have h1 : (n : Int) < 4294967296 := by omega
  unfold Md.v at HB X0 HR ⊢
  rw [hn] at HB X0 HR ⊢
  clear FX hn hf FI
  have xm := X0 9 _ rfl
  have HXX := hid X0
  clear X0
  go_enter Tryz.func44, Tryz.ntmps44
  go_wp2_with fail
  generalize w.alloc (.cells #[.slice m.ty'.a m.ty.length m.ty'.c, .slice m.im'.a m.im.length m.im'.c, .slice m.fu'.a m.fu.length m.fu'.c, .slice m.tb'.a m.tb.length m.tb'.c, .slice m.me'.a m.me.length m.me'.c, .slice m.gl'.a m.gl.length m.gl'.c, .slice m.ex'.a m.ex.length m.ex'.c, .bool m.st, .int .u32 m.sn, .slice m.el'.a n m.el'.c, .slice m.da'.a m.da.length m.da'.c] 32) = W0 at HB HR HXX xm ⊢
  refine (u8_gives (n : Int) _ h0 h1).mono ?_
  rintro e0 u0 h
  obtain ⟨a0, n0, c0, rfl, hn0, hy0, hz0, hb0⟩ := tl_own (encU_bytes _) (by have := encU_few (n : Int); omega) h
  have AS := hid ((Acc.start W0).call hb0)
  have HY := hid hy0
  have HN0 := hid hn0
  have HZ0 := hid hz0
  have HE0 := hid (encU_few (n : Int))
  clear h hn0 hy0 hz0 hb0 xm
  go_wp2_with (first | (at_builtin; go_loud (refine append_bytes rfl (.tmp 58) (.tmp 62) rfl rfl AS.out.own AS.out.bel AS.out.base a0 n0 c0 rfl HZ0.out HN0.out HY.out (by have := HE0.out; simp; omega) ?_); intro v0 z0 ho hb hs; refine Hid.out ?_))
  refine hid ?_
  have A0 := hid (Acc.mk ho hb hs)
  rw [List.nil_append] at A0
  clear ho hb hs AS HY HN0 HZ0 HE0
  have KM := hid (fun (X : World) (h : Below W0.heap.size W0 X) => (h.cell (p := ⟨w.heap.size, 9, none⟩) (by have := World.block_lt_of_cell? _ _ (HXX.out 9 _ rfl); simpa using this)).trans (HXX.out 9 _ rfl))
  have xm := KM.out _ A0.out.bel
  go_wp2
  clear xm
  go_loopw [5, 6, 7] (fun vo vi y7 wr => ∃ k : Nat, vi = .int .i64 k ∧ k ≤ n ∧ Hid (Acc W0 vo (encU (n : Int) ++ (m.el.take k).flatMap elB) wr)) (fun _ vi _ _ => n - (intOf vi).toNat)
  case atStart => exact ⟨0, rfl, Nat.zero_le _, by simpa using A0⟩
  case round =>
    clear A0
    obtain ⟨k, rfl, hk, A0⟩ := hrel
    by_cases hlt : k < n
    · have hkl : k < m.el.length := by rw [HN.out]; exact hlt
      have hki : (k : Int) < (n : Int) := by omega
      obtain ⟨b, off, ha, hb, hc⟩ := Rows.get HR.out hkl
      have FI := FS.out
      have FX := FXH.out
      have HX := hid (code_facts FI (mem_el (List.getElem_mem hkl)))
      have HF := hid (FX.el _ (List.getElem_mem hkl))
      have HZ := hid (FI.siz.ef _ (List.getElem_mem hkl))
      have HTG := hid (FI.at_.fs _ (List.getElem_mem hkl))
      have HT := hid (flat_step elB hkl)
      have LK := hid (show (encU (n : Int) ++ (m.el.take k).flatMap elB).length ≤ 1000000000 by have h2 := HFIT.out; unfold FitP at h2; have h3 := flat_take elB m.el k; rw [HN.out] at h2; rw [List.length_append] at h2 ⊢; omega)
      have LXX := hid (show (elB m.el[k]).length ≤ 1000000000 by have h2 := HFIT.out; unfold FitP at h2; have h3 := flat_item elB hkl; rw [List.length_append] at h2; omega)
      clear FI FX
      obtain ⟨x, hxe⟩ : ∃ x, m.el[k] = x := ⟨_, rfl⟩
      rw [hxe] at hc HT LXX HX HF HZ HTG
      obtain ⟨⟨la, lc, lt⟩, fa, fc, fs⟩ := x
      skip
      dsimp only at HX HF HZ HTG
      obtain ⟨ln, hln⟩ : ∃ n, lt.len = n := ⟨_, rfl⟩
      have HLN := hid hln
      obtain ⟨fn, hfn⟩ : ∃ n, fs.length = n := ⟨_, rfl⟩
      have HFN := hid hfn
      have r0 : W0.cell? ⟨b, off + k * 2, none⟩ = some (.slice la lt.len lc) := hc 0 (by omega) _ rfl
      rw [hln] at r0
      have r1 : W0.cell? ⟨b, off + k * 2 + 1, none⟩ = some (.slice fa fs.length fc) := hc 1 (by omega) _ rfl
      rw [hfn] at r1
      have K0 := hid (fun (X : World) (h : Below W0.heap.size W0 X) => (h.cell (p := ⟨b, off + k * 2, none⟩) hb).trans r0)
      have K1 := hid (fun (X : World) (h : Below W0.heap.size W0 X) => (h.cell (p := ⟨b, off + k * 2 + 1, none⟩) hb).trans r1)
      have KB := hid (fun (X : World) (h : Below W0.heap.size W0 X) => KM.out X h)
      rw [ha] at KB
      clear hc hb hxe ha r0 r1 hln hfn
      have xm := KB.out _ A0.out.bel
      have c0 := K0.out _ A0.out.bel
      have c1 := K1.out _ A0.out.bel
      have L0 := hid LK.out
      go_wp2_with (first | (at_builtin; go_loud (refine append_byte rfl (.tmp 71) (.tmp 72) rfl (0) rfl A0.out.own A0.out.bel A0.out.base rfl (by have := L0.out; omega) ?_); intro v1 z1 ho hb hs; refine Hid.out ?_))
      refine hid ?_
      have A1 := hid (Acc.mk ho hb hs)
      have L1 := hid (show ((encU (n : Int) ++ (m.el.take k).flatMap elB) ++ [(0 : Int)]).length ≤ 2000000000 from by have h1 := L0.out; rw [List.length_append]; simp only [List.length_cons, List.length_nil]; omega)
      clear ho hb hs A0 L0
      clear xm c0 c1
      have xm := KB.out _ A1.out.bel
      have c0 := K0.out _ A1.out.bel
      have c1 := K1.out _ A1.out.bel
      go_wp2_with fail
      have C := (fun (X : World) (h : Below W0.heap.size W0 X) => (by have C := code8_tl ⟨la, lc, lt⟩ X (HX.out.1.on (HB.out.trans (h.mono HB.out.size))) HX.out.2.1 HX.out.2.2.1 HX.out.2.2.2.1 HX.out.2.2.2.2; dsimp only at C; rw [HLN.out] at C; exact C)) _ A1.out.bel
      refine C.mono ?_
      clear C
      rintro e1 u1 ⟨pa1, pn1, pc1, rfl, hn, hy, hz, hb⟩
      have B1 := hid (A1.out.call hb)
      have HYY := hid hy
      have HNN := hid hn
      have HZZ := hid hz
      have LY := hid (show (insB ⟨la, lc, lt⟩).length ≤ 1000000000 by have h := LXX.out; simp only [tyB, impB, fnB, tbB, meB, glB, exB, elB, coB, daB, List.length_append, List.length_cons] at h ⊢; omega)
      clear hn hy hz hb A1
      clear xm c0 c1
      go_wp2_with (first | (at_builtin; go_loud (refine append_bytes rfl (.tmp 74) (.tmp 81) rfl rfl B1.out.own B1.out.bel B1.out.base pa1 pn1 pc1 rfl HZZ.out HNN.out HYY.out (by have := L1.out; have := LY.out; omega) ?_); intro v2 z2 ho hb hs; refine Hid.out ?_))
      refine hid ?_
      have A2 := hid (Acc.mk ho hb hs)
      have L2 := hid (show (((encU (n : Int) ++ (m.el.take k).flatMap elB) ++ [(0 : Int)]) ++ insB ⟨la, lc, lt⟩).length ≤ 3000000000 from by have h1 := L1.out; have h2 := LY.out; rw [List.length_append]; omega)
      clear ho hb hs HYY HNN HZZ LY B1 L1
      have xm := KB.out _ A2.out.bel
      have c0 := K0.out _ A2.out.bel
      have c1 := K1.out _ A2.out.bel
      go_wp2_with fail
      have C := (fun (X : World) (h : Below W0.heap.size W0 X) => u8_tl (fn : Int) X (by omega) (by have := HF.out; have := HFN.out; first | omega | (dsimp only at *; omega))) _ A2.out.bel
      refine C.mono ?_
      clear C
      rintro e2 u2 ⟨pa2, pn2, pc2, rfl, hn, hy, hz, hb⟩
      have B2 := hid (A2.out.call hb)
      have HYY := hid hy
      have HNN := hid hn
      have HZZ := hid hz
      have LY := hid (show (encU (fn : Int)).length ≤ 1000000000 by have := encU_few ((fn : Int)); omega)
      clear hn hy hz hb A2
      clear xm c0 c1
      go_wp2_with (first | (at_builtin; go_loud (refine append_bytes rfl (.tmp 83) (.tmp 91) rfl rfl B2.out.own B2.out.bel B2.out.base pa2 pn2 pc2 rfl HZZ.out HNN.out HYY.out (by have := L2.out; have := LY.out; omega) ?_); intro v3 z3 ho hb hs; refine Hid.out ?_))
      refine hid ?_
      have A3 := hid (Acc.mk ho hb hs)
      have L3 := hid (show ((((encU (n : Int) ++ (m.el.take k).flatMap elB) ++ [(0 : Int)]) ++ insB ⟨la, lc, lt⟩) ++ encU (fn : Int)).length ≤ 4000000000 from by have h1 := L2.out; have h2 := LY.out; rw [List.length_append]; omega)
      clear ho hb hs HYY HNN HZZ LY B2 L2
      have xm := KB.out _ A3.out.bel
      have c0 := K0.out _ A3.out.bel
      have c1 := K1.out _ A3.out.bel
      clear xm c0 c1
      have xm := KB.out _ A3.out.bel
      have c0 := K0.out _ A3.out.bel
      have c1 := K1.out _ A3.out.bel
      go_wp2
      clear xm c0 c1
      go_loopw [5, 7] (fun vo vi wq => ∃ i : Nat, vi = .int .i64 i ∧ i ≤ fn ∧ Hid (Acc W0 vo (((((encU (n : Int) ++ (m.el.take k).flatMap elB) ++ [(0 : Int)]) ++ insB ⟨la, lc, lt⟩) ++ encU (fn : Int)) ++ (fs.take i).flatMap encU) wq)) (fun _ vi _ => fn - (intOf vi).toNat)
      case atStart => exact ⟨0, rfl, Nat.zero_le _, by simpa using A3⟩
      case round =>
        clear A3
        obtain ⟨i, rfl, hi, AI⟩ := hrel
        by_cases hil : i < fn
        · have hil2 : i < fs.length := by rw [HFN.out]; exact hil
          have hii : (i : Int) < (fn : Int) := by omega
          have hfn5 : fn ≤ 16384 := by have h1 := HF.out; have h2 := HFN.out; first | omega | (dsimp only at *; omega)
          have xm := KB.out _ AI.out.bel
          have c0 := K0.out _ AI.out.bel
          have c1 := K1.out _ AI.out.bel
          obtain ⟨b2, o2, hfa, hb2, hc2⟩ := tags_some HTG.out hil2
          try dsimp only at hfa
          rw [hfa] at c1
          have ce := (HB.out.trans (AI.out.bel.mono HB.out.size)).cell (p := ⟨b2, o2 + i, none⟩) hb2
          rw [hc2 i hil2] at ce
          have hzz := HZ.out _ (List.getElem_mem hil2)
          obtain ⟨zi, hzi⟩ : ∃ z, fs[i] = z := ⟨_, rfl⟩
          rw [getD_lt hil2] at ce
          try dsimp only at hzz ce
          rw [hzi] at ce hzz
          have HI := hid (show (fs.take (i + 1)).flatMap encU = (fs.take i).flatMap encU ++ encU zi by rw [flat_step encU hil2, hzi])
          have HZI := hid hzz
          have LI := hid (show (((((encU (n : Int) ++ (m.el.take k).flatMap elB) ++ [(0 : Int)]) ++ insB ⟨la, lc, lt⟩) ++ encU (fn : Int)) ++ (fs.take i).flatMap encU).length ≤ 5000000000 from by have h1 := L3.out; have h2 := flat_five (fs.take i); have h3 : (fs.take i).length ≤ fs.length := (by rw [List.length_take]; omega); have h4 := HFN.out; rw [List.length_append]; omega)
          clear hfa hb2 hc2 hzi hzz
          go_wp2_with fail
          refine (U8_tl zi _ HZI.out.1 HZI.out.2).mono ?_
          rintro e8 u8 ⟨qa, qn, qc, rfl, hn, hy, hz, hb⟩
          have BI := hid (AI.out.call hb)
          have HYY := hid hy
          have HNN := hid hn
          have HZZ := hid hz
          clear hn hy hz hb AI ce
          clear xm c0 c1
          go_wp2_with (first | (at_builtin; go_loud (refine append_bytes rfl (.tmp 104) (.tmp 114) rfl rfl BI.out.own BI.out.bel BI.out.base qa qn qc rfl HZZ.out HNN.out HYY.out (by have := LI.out; have := encU_few zi; omega) ?_); intro v9 z9 ho hb hs; refine Hid.out ?_))
          refine hid ?_
          have A9 := hid (Acc.mk ho hb hs)
          clear ho hb hs HYY HNN HZZ BI LI
          go_wp2
          go_roundw
          case rel => exact ⟨i + 1, by go_num, by omega, by rw [HI.out, ← List.append_assoc]; exact A9⟩
          case measure => simp [intOf]; omega
        · obtain rfl : fn = i := by omega
          have xm := KB.out _ AI.out.bel
          have c0 := K0.out _ AI.out.bel
          have c1 := K1.out _ AI.out.bel
          have HTK := hid (show fs.take fn = fs from List.take_of_length_le (by rw [HFN.out]; exact Nat.le_refl _))
          go_wp2
          go_roundw
          case rel => exact ⟨k + 1, by go_num, by omega, by rw [HT.out]; have e1 := HFN.out; have h9 := AI; rw [HTK.out] at h9; simpa [elB, e1, List.append_assoc] using h9⟩
          case measure => simp [intOf]; omega
    · obtain rfl : n = k := by omega
      have xm := KM.out _ A0.out.bel
      go_wp2
      go_ret
      exact Acc.gives HB.out A0.out (by rw [List.take_of_length_le (by rw [HN.out]; exact Nat.le_refl _)])
set_option maxRecDepth 100000 in
set_option maxHeartbeats 8000000 in
theorem ref_sec10 (m : Md) (w : World) (FI : Fine w m) (hf : FitP coB m.fu 0) : Calls Tryz.prog 44 #[.agg m.v, .int .i64 10] w (Gives w (encU m.fu.length ++ m.fu.flatMap coB)) := by
  have FX := facts_of FI.chk
  have HB := hid ((Below.refl w.heap.size w).alloc (Nat.le_refl _) (.cells m.v 32))
  have X0 := BoxAt.made w m.v 32
  have HR := hid ((FI.at_.on HB.out).fu)
  have HFIT := hid hf
  have FS := hid FI
  have FXH := hid FX
  obtain ⟨n, hn⟩ : ∃ n, m.fu.length = n := ⟨_, rfl⟩
  have HN := hid hn
  have hn5 : n ≤ 16384 := by have := FX.lens; omega
  have h0 : 0 ≤ (n : Int) := by omega
  have h1 : (n : Int) < 4294967296 := by omega
  unfold Md.v at HB X0 HR ⊢
  rw [hn] at HB X0 HR ⊢
  clear FX hn hf FI
  have xm := X0 2 _ rfl
  have HXX := hid X0
  clear X0
  go_enter Tryz.func44, Tryz.ntmps44
  go_wp2_with fail
  generalize w.alloc (.cells #[.slice m.ty'.a m.ty.length m.ty'.c, .slice m.im'.a m.im.length m.im'.c, .slice m.fu'.a n m.fu'.c, .slice m.tb'.a m.tb.length m.tb'.c, .slice m.me'.a m.me.length m.me'.c, .slice m.gl'.a m.gl.length m.gl'.c, .slice m.ex'.a m.ex.length m.ex'.c, .bool m.st, .int .u32 m.sn, .slice m.el'.a m.el.length m.el'.c, .slice m.da'.a m.da.length m.da'.c] 32) = W0 at HB HR HXX xm ⊢
  refine (u8_gives (n : Int) _ h0 h1).mono ?_
  rintro e0 u0 h
  obtain ⟨a0, n0, c0, rfl, hn0, hy0, hz0, hb0⟩ := tl_own (encU_bytes _) (by have := encU_few (n : Int); omega) h
  have AS := hid ((Acc.start W0).call hb0)
  have HY := hid hy0
  have HN0 := hid hn0
  have HZ0 := hid hz0
  have HE0 := hid (encU_few (n : Int))
  clear h hn0 hy0 hz0 hb0 xm
  go_wp2_with (first | (at_builtin; go_loud (refine append_bytes rfl (.tmp 118) (.tmp 122) rfl rfl AS.out.own AS.out.bel AS.out.base a0 n0 c0 rfl HZ0.out HN0.out HY.out (by have := HE0.out; simp; omega) ?_); intro v0 z0 ho hb hs; refine Hid.out ?_))
  refine hid ?_
  have A0 := hid (Acc.mk ho hb hs)
  rw [List.nil_append] at A0
  clear ho hb hs AS HY HN0 HZ0 HE0
  have KM := hid (fun (X : World) (h : Below W0.heap.size W0 X) => (h.cell (p := ⟨w.heap.size, 2, none⟩) (by have := World.block_lt_of_cell? _ _ (HXX.out 2 _ rfl); simpa using this)).trans (HXX.out 2 _ rfl))
  have xm := KM.out _ A0.out.bel
  go_wp2
  clear xm
  go_loopw [5, 8, 9, 10] (fun vo vi y9 y10 wr => ∃ k : Nat, vi = .int .i64 k ∧ k ≤ n ∧ Hid (Acc W0 vo (encU (n : Int) ++ (m.fu.take k).flatMap coB) wr)) (fun _ vi _ _ _ => n - (intOf vi).toNat)
  case atStart => exact ⟨0, rfl, Nat.zero_le _, by simpa using A0⟩
  case round =>
    clear A0
    obtain ⟨k, rfl, hk, A0⟩ := hrel
    by_cases hlt : k < n
    · have hkl : k < m.fu.length := by rw [HN.out]; exact hlt
      have hki : (k : Int) < (n : Int) := by omega
      obtain ⟨b, off, ha, hb, hc⟩ := Rows.get HR.out hkl
      have FI := FS.out
      have FX := FXH.out
      have HX := hid (code_facts FI (mem_fu (List.getElem_mem hkl)))
      have HL := hid (FX.fu _ (List.getElem_mem hkl))
      have HT := hid (flat_step coB hkl)
      have LK := hid (show (encU (n : Int) ++ (m.fu.take k).flatMap coB).length ≤ 1000000000 by have h2 := HFIT.out; unfold FitP at h2; have h3 := flat_take coB m.fu k; rw [HN.out] at h2; rw [List.length_append] at h2 ⊢; omega)
      have LXX := hid (show (coB m.fu[k]).length ≤ 1000000000 by have h2 := HFIT.out; unfold FitP at h2; have h3 := flat_item coB hkl; rw [List.length_append] at h2; omega)
      clear FI FX
      obtain ⟨x, hxe⟩ : ∃ x, m.fu[k] = x := ⟨_, rfl⟩
      rw [hxe] at hc HT LXX HX HL
      obtain ⟨ty, lo, la, lc, lt⟩ := x
      skip
      dsimp only at HX HL
      obtain ⟨ln, hln⟩ : ∃ n, lt.len = n := ⟨_, rfl⟩
      have HLN := hid hln
      have r1 : W0.cell? ⟨b, off + k * 3 + 1, none⟩ = some (.int .i64 lo) := hc 1 (by omega) _ rfl
      have r2 : W0.cell? ⟨b, off + k * 3 + 2, none⟩ = some (.slice la lt.len lc) := hc 2 (by omega) _ rfl
      rw [hln] at r2
      have K1 := hid (fun (X : World) (h : Below W0.heap.size W0 X) => (h.cell (p := ⟨b, off + k * 3 + 1, none⟩) hb).trans r1)
      have K2 := hid (fun (X : World) (h : Below W0.heap.size W0 X) => (h.cell (p := ⟨b, off + k * 3 + 2, none⟩) hb).trans r2)
      have KB := hid (fun (X : World) (h : Below W0.heap.size W0 X) => KM.out X h)
      rw [ha] at KB
      clear hc hb hxe ha r1 r2 hln
      have xm := KB.out _ A0.out.bel
      have c1 := K1.out _ A0.out.bel
      have c2 := K2.out _ A0.out.bel
      have L0 := hid LK.out
      go_wp2_with fail
      have C := (fun (X : World) (h : Below W0.heap.size W0 X) => (by have C := fcode8_new ⟨ty, lo, la, lc, lt⟩ X (HX.out.1.on (HB.out.trans (h.mono HB.out.size))) HX.out.2.1 HX.out.2.2.1 HX.out.2.2.2.1 HX.out.2.2.2.2 HL.out.2.2.1 HL.out.2.2.2; dsimp only at C; rw [HLN.out] at C; exact C)) _ A0.out.bel
      have HVO := hid (fun q hq => (World.ownsRow.lt A0.out.own q hq).2)
      refine C.mono ?_
      clear C
      rintro e0 u0 ⟨ah, hn, ch, rfl, hhn, hhy, hho, hb⟩
      have HHL := hid (show (codeL lo lt).length ≤ 1000000000 by have h := LXX.out; simp only [tyB, impB, fnB, tbB, meB, glB, exB, elB, coB, daB, List.length_append, List.length_cons] at h ⊢; omega)
      have HHN := hid (show hn ≤ 1000000000 by rw [← hhn]; exact HHL.out)
      have HHE := hid hhn
      have HHY := hid hhy
      have HHO := hid hho
      have A0h := hid (A0.out.call hb)
      clear hhn hhy hho hb A0
      clear xm c1 c2
      have A0 := A0h
      clear A0h
      have hn4 : (hn : Int) < 4294967296 := by have := HHN.out; omega
      have hn0 : 0 ≤ (hn : Int) := by omega
      have xm := KB.out _ A0.out.bel
      have c1 := K1.out _ A0.out.bel
      have c2 := K2.out _ A0.out.bel
      go_wp2_with fail
      refine (u8_tl (hn : Int) _ hn0 hn4).mono ?_
      rintro e0 u0b ⟨pa0, pn0, pc0, rfl, hn1, hy, hz, hb⟩
      have B0 := hid (A0.out.call hb)
      have HYY := hid hy
      have HNN := hid hn1
      have HHY2 := hid (HHY.out.below hb)
      have LY := hid (show (encU (hn : Int)).length ≤ 1000000000 by have := encU_few ((hn : Int)); omega)
      clear hn1 hy hz hb A0 HHY
      clear xm c1 c2
      go_wp2_with (first | (at_builtin; go_loud (refine append_tch rfl (.tmp 141) (.tmp 144) rfl rfl B0.out pa0 pn0 pc0 rfl HNN.out HYY.out (by have := L0.out; have := LY.out; omega) ?_); intro v1 z1 ha1 ht1; refine Hid.out ?_))
      refine hid ?_
      have A1 := hid ha1
      have HHY3 := hid (Bytes.touchE HHY2.out ht1 (fun b3 o3 h3 _ h4 => by have h5 := HVO.out b3 h4; have h6 := HHO.out b3 o3 h3; omega))
      have L1 := hid (show ((encU (n : Int) ++ (m.fu.take k).flatMap coB) ++ encU (hn : Int)).length ≤ 2000000000 from by have h1 := L0.out; have h2 := LY.out; rw [List.length_append]; omega)
      clear ha1 ht1 HYY HNN HHY2 HVO HHO LY B0 L0
      have xm := KB.out _ A1.out.bel
      have c1 := K1.out _ A1.out.bel
      have c2 := K2.out _ A1.out.bel
      go_wp2_with (first | (at_builtin; go_loud (refine append_lie rfl (.tmp 146) (.tmp 147) rfl rfl A1.out ah hn ch rfl HHE.out HHY3.out (by have := L1.out; have := HHL.out; omega) ?_); intro v2 z2 ha1; refine Hid.out ?_))
      refine hid ?_
      have A2 := hid ha1
      clear ha1 A1 HHY3 L1
      clear xm c1 c2
      have xm := KB.out _ A2.out.bel
      have c1 := K1.out _ A2.out.bel
      have c2 := K2.out _ A2.out.bel
      go_wp2
      go_roundw
      case rel => exact ⟨k + 1, by go_num, by omega, by rw [HT.out]; have e1 := HHE.out; simpa [coB, e1, List.append_assoc] using A2⟩
      case measure => simp [intOf]; omega
    · obtain rfl : n = k := by omega
      have xm := KM.out _ A0.out.bel
      go_wp2
      go_ret
      exact Acc.gives HB.out A0.out (by rw [List.take_of_length_le (by rw [HN.out]; exact Nat.le_refl _)])
set_option maxRecDepth 100000 in
set_option maxHeartbeats 8000000 in
theorem ref_sec11 (m : Md) (w : World) (FI : Fine w m) (hf : FitP daB m.da 0) : Calls Tryz.prog 44 #[.agg m.v, .int .i64 11] w (Gives w (encU m.da.length ++ m.da.flatMap daB)) := by
  have FX := facts_of FI.chk
  have HB := hid ((Below.refl w.heap.size w).alloc (Nat.le_refl _) (.cells m.v 32))
  have X0 := BoxAt.made w m.v 32
  have HR := hid ((FI.at_.on HB.out).da)
  have HFIT := hid hf
  have FS := hid FI
  have FXH := hid FX
  obtain ⟨n, hn⟩ : ∃ n, m.da.length = n := ⟨_, rfl⟩
  have HN := hid hn
  have hn5 : n ≤ 16384 := by have := FX.lens; omega
  have h0 : 0 ≤ (n : Int) := by omega
  have h1 : (n : Int) < 4294967296 := by omega
  unfold Md.v at HB X0 HR ⊢
  rw [hn] at HB X0 HR ⊢
  clear FX hn hf FI
  have xm := X0 10 _ rfl
  have HXX := hid X0
  clear X0
  go_enter Tryz.func44, Tryz.ntmps44
  go_wp2_with fail
  generalize w.alloc (.cells #[.slice m.ty'.a m.ty.length m.ty'.c, .slice m.im'.a m.im.length m.im'.c, .slice m.fu'.a m.fu.length m.fu'.c, .slice m.tb'.a m.tb.length m.tb'.c, .slice m.me'.a m.me.length m.me'.c, .slice m.gl'.a m.gl.length m.gl'.c, .slice m.ex'.a m.ex.length m.ex'.c, .bool m.st, .int .u32 m.sn, .slice m.el'.a m.el.length m.el'.c, .slice m.da'.a n m.da'.c] 32) = W0 at HB HR HXX xm ⊢
  refine (u8_gives (n : Int) _ h0 h1).mono ?_
  rintro e0 u0 h
  obtain ⟨a0, n0, c0, rfl, hn0, hy0, hz0, hb0⟩ := tl_own (encU_bytes _) (by have := encU_few (n : Int); omega) h
  have AS := hid ((Acc.start W0).call hb0)
  have HY := hid hy0
  have HN0 := hid hn0
  have HZ0 := hid hz0
  have HE0 := hid (encU_few (n : Int))
  clear h hn0 hy0 hz0 hb0 xm
  go_wp2_with (first | (at_builtin; go_loud (refine append_bytes rfl (.tmp 13) (.tmp 17) rfl rfl AS.out.own AS.out.bel AS.out.base a0 n0 c0 rfl HZ0.out HN0.out HY.out (by have := HE0.out; simp; omega) ?_); intro v0 z0 ho hb hs; refine Hid.out ?_))
  refine hid ?_
  have A0 := hid (Acc.mk ho hb hs)
  rw [List.nil_append] at A0
  clear ho hb hs AS HY HN0 HZ0 HE0
  have KM := hid (fun (X : World) (h : Below W0.heap.size W0 X) => (h.cell (p := ⟨w.heap.size, 10, none⟩) (by have := World.block_lt_of_cell? _ _ (HXX.out 10 _ rfl); simpa using this)).trans (HXX.out 10 _ rfl))
  have xm := KM.out _ A0.out.bel
  go_wp2
  clear xm
  go_loopw [5, 11] (fun vo vi wr => ∃ k : Nat, vi = .int .i64 k ∧ k ≤ n ∧ Hid (Acc W0 vo (encU (n : Int) ++ (m.da.take k).flatMap daB) wr)) (fun _ vi _ => n - (intOf vi).toNat)
  case atStart => exact ⟨0, rfl, Nat.zero_le _, by simpa using A0⟩
  case round =>
    clear A0
    obtain ⟨k, rfl, hk, A0⟩ := hrel
    by_cases hlt : k < n
    · have hkl : k < m.da.length := by rw [HN.out]; exact hlt
      have hki : (k : Int) < (n : Int) := by omega
      obtain ⟨b, off, ha, hb, hc⟩ := Rows.get HR.out hkl
      have FI := FS.out
      have FX := FXH.out
      have HX := hid (code_facts FI (mem_da (List.getElem_mem hkl)))
      have HBY := hid (FI.siz.db _ (List.getElem_mem hkl))
      have HBA := hid (FI.at_.bs _ (List.getElem_mem hkl))
      have HSB := hid (Nat.le_trans (bytes_few (List.getElem_mem hkl)) FX.da)
      have HT := hid (flat_step daB hkl)
      have LK := hid (show (encU (n : Int) ++ (m.da.take k).flatMap daB).length ≤ 1000000000 by have h2 := HFIT.out; unfold FitP at h2; have h3 := flat_take daB m.da k; rw [HN.out] at h2; rw [List.length_append] at h2 ⊢; omega)
      have LXX := hid (show (daB m.da[k]).length ≤ 1000000000 by have h2 := HFIT.out; unfold FitP at h2; have h3 := flat_item daB hkl; rw [List.length_append] at h2; omega)
      clear FI FX
      obtain ⟨x, hxe⟩ : ∃ x, m.da[k] = x := ⟨_, rfl⟩
      rw [hxe] at hc HT LXX HX HBY HBA HSB
      obtain ⟨⟨la, lc, lt⟩, ba, bc, bs⟩ := x
      skip
      dsimp only at HX HBY HBA HSB
      obtain ⟨ln, hln⟩ : ∃ n, lt.len = n := ⟨_, rfl⟩
      have HLN := hid hln
      obtain ⟨bn, hbn⟩ : ∃ n, bs.length = n := ⟨_, rfl⟩
      have HBN := hid hbn
      have r0 : W0.cell? ⟨b, off + k * 2, none⟩ = some (.slice la lt.len lc) := hc 0 (by omega) _ rfl
      rw [hln] at r0
      have r1 : W0.cell? ⟨b, off + k * 2 + 1, none⟩ = some (.slice ba bs.length bc) := hc 1 (by omega) _ rfl
      rw [hbn] at r1
      have K0 := hid (fun (X : World) (h : Below W0.heap.size W0 X) => (h.cell (p := ⟨b, off + k * 2, none⟩) hb).trans r0)
      have K1 := hid (fun (X : World) (h : Below W0.heap.size W0 X) => (h.cell (p := ⟨b, off + k * 2 + 1, none⟩) hb).trans r1)
      have KB := hid (fun (X : World) (h : Below W0.heap.size W0 X) => KM.out X h)
      rw [ha] at KB
      clear hc hb hxe ha r0 r1 hln hbn
      have xm := KB.out _ A0.out.bel
      have c0 := K0.out _ A0.out.bel
      have c1 := K1.out _ A0.out.bel
      have L0 := hid LK.out
      go_wp2_with (first | (at_builtin; go_loud (refine append_byte rfl (.tmp 26) (.tmp 27) rfl (0) rfl A0.out.own A0.out.bel A0.out.base rfl (by have := L0.out; omega) ?_); intro v1 z1 ho hb hs; refine Hid.out ?_))
      refine hid ?_
      have A1 := hid (Acc.mk ho hb hs)
      have L1 := hid (show ((encU (n : Int) ++ (m.da.take k).flatMap daB) ++ [(0 : Int)]).length ≤ 2000000000 from by have h1 := L0.out; rw [List.length_append]; simp only [List.length_cons, List.length_nil]; omega)
      clear ho hb hs A0 L0
      clear xm c0 c1
      have xm := KB.out _ A1.out.bel
      have c0 := K0.out _ A1.out.bel
      have c1 := K1.out _ A1.out.bel
      go_wp2_with fail
      have C := (fun (X : World) (h : Below W0.heap.size W0 X) => (by have C := code8_tl ⟨la, lc, lt⟩ X (HX.out.1.on (HB.out.trans (h.mono HB.out.size))) HX.out.2.1 HX.out.2.2.1 HX.out.2.2.2.1 HX.out.2.2.2.2; dsimp only at C; rw [HLN.out] at C; exact C)) _ A1.out.bel
      refine C.mono ?_
      clear C
      rintro e1 u1 ⟨pa1, pn1, pc1, rfl, hn, hy, hz, hb⟩
      have B1 := hid (A1.out.call hb)
      have HYY := hid hy
      have HNN := hid hn
      have HZZ := hid hz
      have LY := hid (show (insB ⟨la, lc, lt⟩).length ≤ 1000000000 by have h := LXX.out; simp only [tyB, impB, fnB, tbB, meB, glB, exB, elB, coB, daB, List.length_append, List.length_cons] at h ⊢; omega)
      clear hn hy hz hb A1
      clear xm c0 c1
      go_wp2_with (first | (at_builtin; go_loud (refine append_bytes rfl (.tmp 29) (.tmp 36) rfl rfl B1.out.own B1.out.bel B1.out.base pa1 pn1 pc1 rfl HZZ.out HNN.out HYY.out (by have := L1.out; have := LY.out; omega) ?_); intro v2 z2 ho hb hs; refine Hid.out ?_))
      refine hid ?_
      have A2 := hid (Acc.mk ho hb hs)
      have L2 := hid (show (((encU (n : Int) ++ (m.da.take k).flatMap daB) ++ [(0 : Int)]) ++ insB ⟨la, lc, lt⟩).length ≤ 3000000000 from by have h1 := L1.out; have h2 := LY.out; rw [List.length_append]; omega)
      clear ho hb hs HYY HNN HZZ LY B1 L1
      have xm := KB.out _ A2.out.bel
      have c0 := K0.out _ A2.out.bel
      have c1 := K1.out _ A2.out.bel
      go_wp2_with fail
      have C := (fun (X : World) (h : Below W0.heap.size W0 X) => u8_tl (bn : Int) X (by omega) (by have := HSB.out; have := HBN.out; first | omega | (dsimp only at *; omega))) _ A2.out.bel
      refine C.mono ?_
      clear C
      rintro e2 u2 ⟨pa2, pn2, pc2, rfl, hn, hy, hz, hb⟩
      have B2 := hid (A2.out.call hb)
      have HYY := hid hy
      have HNN := hid hn
      have HZZ := hid hz
      have LY := hid (show (encU (bn : Int)).length ≤ 1000000000 by have := encU_few ((bn : Int)); omega)
      clear hn hy hz hb A2
      clear xm c0 c1
      go_wp2_with (first | (at_builtin; go_loud (refine append_bytes rfl (.tmp 38) (.tmp 46) rfl rfl B2.out.own B2.out.bel B2.out.base pa2 pn2 pc2 rfl HZZ.out HNN.out HYY.out (by have := L2.out; have := LY.out; omega) ?_); intro v3 z3 ho hb hs; refine Hid.out ?_))
      refine hid ?_
      have A3 := hid (Acc.mk ho hb hs)
      have L3 := hid (show ((((encU (n : Int) ++ (m.da.take k).flatMap daB) ++ [(0 : Int)]) ++ insB ⟨la, lc, lt⟩) ++ encU (bn : Int)).length ≤ 4000000000 from by have h1 := L2.out; have h2 := LY.out; rw [List.length_append]; omega)
      clear ho hb hs HYY HNN HZZ LY B2 L2
      have xm := KB.out _ A3.out.bel
      have c0 := K0.out _ A3.out.bel
      have c1 := K1.out _ A3.out.bel
      have HYB := hid (bytes_at (HBA.out.below (HB.out.trans (A3.out.bel.mono HB.out.size))) HBY.out (by have := HSB.out; first | omega | (dsimp only at this; omega)))
      go_wp2_with (first | (at_builtin; go_loud (refine append_lie rfl (.tmp 48) (.tmp 54) rfl rfl A3.out ba bn bc rfl HBN.out HYB.out (by have := L3.out; have := HSB.out; first | omega | (dsimp only at *; omega)) ?_); intro v4 z4 ha1; refine Hid.out ?_))
      refine hid ?_
      have A4 := hid ha1
      clear ha1 A3 HYB L3
      clear xm c0 c1
      have xm := KB.out _ A4.out.bel
      have c0 := K0.out _ A4.out.bel
      have c1 := K1.out _ A4.out.bel
      go_wp2
      go_roundw
      case rel => exact ⟨k + 1, by go_num, by omega, by rw [HT.out]; have e1 := HBN.out; simpa [daB, e1, List.append_assoc] using A4⟩
      case measure => simp [intOf]; omega
    · obtain rfl : n = k := by omega
      have xm := KM.out _ A0.out.bel
      go_wp2
      go_ret
      exact Acc.gives HB.out A0.out (by rw [List.take_of_length_le (by rw [HN.out]; exact Nat.le_refl _)])
end Go.Proofs.YtepbjkkakfpjgaaGreatDoor.Enc

namespace Go.Proofs.YtepbjkkakfpjgaaGreatDoor.Mod
open Go.RowKit Go.Proofs.YtepbjkkakfpjgaaGreatDoor.Instr

theorem refCode_any (l : Lst) (e : Int) (w : World) (hl : ListAt w.heap.size w l.a l.t.len l.t) (h1 : l.t.len ≤ 140737488351232) (h2 : l.t.count ≤ 1000000) :
    Calls Tryz.prog 184 #[.slice l.a l.t.len l.c, .int .i64 e] w fun x w' => x = .returned (.bool (checkP l.t == e)) ∧ Below w.heap.size w w' := by
  have C := hid (Body.checkDoc_any l.t l.a l.t.len l.c w hl h1 (by omega))
  obtain ⟨q, hq⟩ : ∃ q, checkP l.t = q := ⟨_, rfl⟩
  rw [hq] at C ⊢
  clear hq hl
  go_enter Tryz.func184, Tryz.ntmps184
  go_wp2_with fail
  refine C.out.mono ?_
  rintro e1 w1 ⟨rfl, hb⟩
  clear C
  go_wp2
  go_ret
  exact ⟨rfl, hb⟩
def Md.has (m : Md) (e : Int) : Bool := (m.fu.any fun x => checkP x.l.t == e) || ((m.gl.any fun x => checkP x.l.t == e) || ((m.el.any fun x => checkP x.l.t == e) || (m.da.any fun x => checkP x.l.t == e)))
set_option maxHeartbeats 4000000 in
set_option maxRecDepth 100000 in
theorem refInstrs_any (m : Md) (e : Int) (w : World) (hm : ModAt w.heap.size w m) (hf : m.few) :
    Calls Tryz.prog 131 #[.agg m.v, .int .i64 e] w fun x w' => x = .returned (.bool (m.has e)) ∧ Below w.heap.size w w' := by
  have hb0 := (Below.refl w.heap.size w).alloc (Nat.le_refl _) (.cells m.v 32)
  have HB := hid hb0
  have HM := hid (hm.on hb0)
  have HX := hid (BoxAt.made w m.v 32)
  have HF := hid hf
  unfold Md.v at HB HX HM ⊢
  clear hm hf hb0
  go_enter Tryz.func131, Tryz.ntmps131
  go_wp2
  generalize w.alloc (.cells #[.slice m.ty'.a m.ty.length m.ty'.c, .slice m.im'.a m.im.length m.im'.c, .slice m.fu'.a m.fu.length m.fu'.c, .slice m.tb'.a m.tb.length m.tb'.c, .slice m.me'.a m.me.length m.me'.c, .slice m.gl'.a m.gl.length m.gl'.c, .slice m.ex'.a m.ex.length m.ex'.c, .bool m.st, .int .u32 m.sn, .slice m.el'.a m.el.length m.el'.c, .slice m.da'.a m.da.length m.da'.c] 32) = W0 at HB HM HX ⊢
  obtain ⟨lf, hlf⟩ : ∃ n, m.fu.length = n := ⟨_, rfl⟩
  have Llf := hid hlf
  have blf : lf ≤ 140737488351232 := by have := HF.out.fit.fu; omega
  have zlf : lf ≤ 1000000 := by have := HF.out.lens; omega
  have Xfu := hid (show W0.cell? ⟨w.heap.size, 2, none⟩ = some (.slice m.fu'.a lf m.fu'.c) by rw [← hlf]; exact HX.out 2 _ rfl)
  have Rfu := hid HM.out.fu
  clear hlf
  obtain ⟨lg, hlg⟩ : ∃ n, m.gl.length = n := ⟨_, rfl⟩
  have Llg := hid hlg
  have blg : lg ≤ 140737488351232 := by have := HF.out.fit.gl; omega
  have zlg : lg ≤ 1000000 := by have := HF.out.lens; omega
  have Xgl := hid (show W0.cell? ⟨w.heap.size, 5, none⟩ = some (.slice m.gl'.a lg m.gl'.c) by rw [← hlg]; exact HX.out 5 _ rfl)
  have Rgl := hid HM.out.gl
  clear hlg
  obtain ⟨le, hle⟩ : ∃ n, m.el.length = n := ⟨_, rfl⟩
  have Lle := hid hle
  have ble : le ≤ 140737488351232 := by have := HF.out.fit.el; omega
  have zle : le ≤ 1000000 := by have := HF.out.lens; omega
  have Xel := hid (show W0.cell? ⟨w.heap.size, 9, none⟩ = some (.slice m.el'.a le m.el'.c) by rw [← hle]; exact HX.out 9 _ rfl)
  have Rel := hid HM.out.el
  clear hle
  obtain ⟨ld, hld⟩ : ∃ n, m.da.length = n := ⟨_, rfl⟩
  have Lld := hid hld
  have bld : ld ≤ 140737488351232 := by have := HF.out.fit.da; omega
  have zld : ld ≤ 1000000 := by have := HF.out.lens; omega
  have Xda := hid (show W0.cell? ⟨w.heap.size, 10, none⟩ = some (.slice m.da'.a ld m.da'.c) by rw [← hld]; exact HX.out 10 _ rfl)
  have Rda := hid HM.out.da
  clear hld
  clear HX
  go_loopw [5] (fun vi wr => ∃ k : Nat, vi = .int .i64 k ∧ k ≤ lf ∧ Hid (∀ j (hj : j < m.fu.length), j < k → (checkP (m.fu[j]).l.t == e) = false) ∧ Hid (Below W0.heap.size W0 wr)) (fun vi _ => lf - (intOf vi).toNat)
  case atStart => exact ⟨0, rfl, Nat.zero_le _, fun j _ h => absurd h (Nat.not_lt_zero _), Below.refl _ _⟩
  case round =>
    obtain ⟨k, rfl, hk, HQ, HW⟩ := hrel
    have hbx := Go.Proofs.YtepbjkkakfpjgaaGreatDoor.keep HW.out Xfu.out
    by_cases hlt : k < lf
    · have hkl : k < m.fu.length := by rw [Llf.out]; exact hlt
      obtain ⟨b, off, ha, hb, hc⟩ := Rows.get Rfu.out hkl
      rw [ha] at hbx
      have hx : m.fu[k] ∈ m.fu := List.getElem_mem hkl
      have hLs := HM.out.ls m.fu[k].l (by unfold Md.codes; exact List.mem_append_left _ (List.mem_map.2 ⟨_, hx, rfl⟩))
      have hLl := HF.out.fit.ls m.fu[k].l (by unfold Md.codes; exact List.mem_append_left _ (List.mem_map.2 ⟨_, hx, rfl⟩))
      have hLc := HF.out.cs m.fu[k].l (by unfold Md.codes; exact List.mem_append_left _ (List.mem_map.2 ⟨_, hx, rfl⟩))
      obtain ⟨x, hxe⟩ : ∃ x, m.fu[k] = x := ⟨_, rfl⟩
      have HXE := hid hxe
      rw [hxe] at hc hLs hLl hLc
      have cc : ∀ j, j < 3 → ∀ v, x.v[j]? = some v → wr.cell? ⟨b, off + k * 3 + j, none⟩ = some v := fun j hj v hv => (HW.out.cell (p := ⟨b, off + k * 3 + j, none⟩) hb).trans (hc j hj v hv)
      have c2 : wr.cell? ⟨b, off + k * 3 + 2, none⟩ = some (.slice x.l.a x.l.t.len x.l.c) := cc 2 (by omega) _ rfl
      have hki : (k : Int) < (lf : Int) := by omega
      have C := hid (refCode_any x.l e wr ((hLs.below HW.out).more HW.out.size) hLl hLc)
      obtain ⟨q, hq⟩ : ∃ q, (checkP x.l.t == e) = q := ⟨_, rfl⟩
      rw [hq] at C
      have HQK := hid (show (checkP (m.fu[k]).l.t == e) = q by rw [HXE.out]; exact hq)
      clear hx hxe hc cc hb ha hLs hLl hLc hq
      cases q with
      | true =>
        have HE := hid (show m.has e = true by unfold Md.has; rw [any_some hkl HQK.out]; simp)
        go_wp2_with fail
        refine C.out.mono ?_
        rintro e1 w1 ⟨rfl, hb1⟩
        have HW1 := hid (HW.out.trans (hb1.mono HW.out.size))
        clear C hb1
        go_wp2
        go_ret
        exact ⟨ret_bool HE.out.symm, HB.out.trans (HW1.out.mono HB.out.size)⟩
      | false =>
        have HQ' := hid (any_take (p := fun x => checkP x.l.t == e) hkl HQ.out HQK.out)
        go_wp2_with fail
        refine C.out.mono ?_
        rintro e1 w1 ⟨rfl, hb1⟩
        have HW1 := hid (HW.out.trans (hb1.mono HW.out.size))
        clear C hb1 hbx c2
        go_wp2
        go_roundw
        case rel => exact ⟨k + 1, by go_num, by omega, HQ', HW1⟩
        case measure => simp [intOf]; omega
    · obtain rfl : lf = k := by omega
      have HBL := HW
      have HAfu := hid (any_none (p := fun x => checkP x.l.t == e) (l := m.fu) (fun j hj => HQ.out j hj (by rw [← Llf.out]; exact hj)))
      clear HQ HW hlt hk
      go_wp2
      clear hbx
      go_loopw [6] (fun vi wr => ∃ k : Nat, vi = .int .i64 k ∧ k ≤ lg ∧ Hid (∀ j (hj : j < m.gl.length), j < k → (checkP (m.gl[j]).l.t == e) = false) ∧ Hid (Below W0.heap.size W0 wr)) (fun vi _ => lg - (intOf vi).toNat)
      case atStart => exact ⟨0, rfl, Nat.zero_le _, fun j _ h => absurd h (Nat.not_lt_zero _), HBL⟩
      case round =>
        clear HBL
        obtain ⟨k, rfl, hk, HQ, HW⟩ := hrel
        have hbx := Go.Proofs.YtepbjkkakfpjgaaGreatDoor.keep HW.out Xgl.out
        by_cases hlt : k < lg
        · have hkl : k < m.gl.length := by rw [Llg.out]; exact hlt
          obtain ⟨b, off, ha, hb, hc⟩ := Rows.get Rgl.out hkl
          rw [ha] at hbx
          have hx : m.gl[k] ∈ m.gl := List.getElem_mem hkl
          have hLs := HM.out.ls m.gl[k].l (by unfold Md.codes; exact List.mem_append_right _ (List.mem_append_left _ (List.mem_map.2 ⟨_, hx, rfl⟩)))
          have hLl := HF.out.fit.ls m.gl[k].l (by unfold Md.codes; exact List.mem_append_right _ (List.mem_append_left _ (List.mem_map.2 ⟨_, hx, rfl⟩)))
          have hLc := HF.out.cs m.gl[k].l (by unfold Md.codes; exact List.mem_append_right _ (List.mem_append_left _ (List.mem_map.2 ⟨_, hx, rfl⟩)))
          obtain ⟨x, hxe⟩ : ∃ x, m.gl[k] = x := ⟨_, rfl⟩
          have HXE := hid hxe
          rw [hxe] at hc hLs hLl hLc
          have cc : ∀ j, j < 2 → ∀ v, x.v[j]? = some v → wr.cell? ⟨b, off + k * 2 + j, none⟩ = some v := fun j hj v hv => (HW.out.cell (p := ⟨b, off + k * 2 + j, none⟩) hb).trans (hc j hj v hv)
          have c1 : wr.cell? ⟨b, off + k * 2 + 1, none⟩ = some (.slice x.l.a x.l.t.len x.l.c) := cc 1 (by omega) _ rfl
          have hki : (k : Int) < (lg : Int) := by omega
          have C := hid (refCode_any x.l e wr ((hLs.below HW.out).more HW.out.size) hLl hLc)
          obtain ⟨q, hq⟩ : ∃ q, (checkP x.l.t == e) = q := ⟨_, rfl⟩
          rw [hq] at C
          have HQK := hid (show (checkP (m.gl[k]).l.t == e) = q by rw [HXE.out]; exact hq)
          clear hx hxe hc cc hb ha hLs hLl hLc hq
          cases q with
          | true =>
            have HE := hid (show m.has e = true by unfold Md.has; rw [any_some hkl HQK.out]; simp)
            go_wp2_with fail
            refine C.out.mono ?_
            rintro e1 w1 ⟨rfl, hb1⟩
            have HW1 := hid (HW.out.trans (hb1.mono HW.out.size))
            clear C hb1
            go_wp2
            go_ret
            exact ⟨ret_bool HE.out.symm, HB.out.trans (HW1.out.mono HB.out.size)⟩
          | false =>
            have HQ' := hid (any_take (p := fun x => checkP x.l.t == e) hkl HQ.out HQK.out)
            go_wp2_with fail
            refine C.out.mono ?_
            rintro e1 w1 ⟨rfl, hb1⟩
            have HW1 := hid (HW.out.trans (hb1.mono HW.out.size))
            clear C hb1 hbx c1
            go_wp2
            go_roundw
            case rel => exact ⟨k + 1, by go_num, by omega, HQ', HW1⟩
            case measure => simp [intOf]; omega
        · obtain rfl : lg = k := by omega
          have HBL := HW
          have HAgl := hid (any_none (p := fun x => checkP x.l.t == e) (l := m.gl) (fun j hj => HQ.out j hj (by rw [← Llg.out]; exact hj)))
          clear HQ HW hlt hk
          go_wp2
          clear hbx
          go_loopw [7] (fun vi wr => ∃ k : Nat, vi = .int .i64 k ∧ k ≤ le ∧ Hid (∀ j (hj : j < m.el.length), j < k → (checkP (m.el[j]).l.t == e) = false) ∧ Hid (Below W0.heap.size W0 wr)) (fun vi _ => le - (intOf vi).toNat)
          case atStart => exact ⟨0, rfl, Nat.zero_le _, fun j _ h => absurd h (Nat.not_lt_zero _), HBL⟩
          case round =>
            clear HBL
            obtain ⟨k, rfl, hk, HQ, HW⟩ := hrel
            have hbx := Go.Proofs.YtepbjkkakfpjgaaGreatDoor.keep HW.out Xel.out
            by_cases hlt : k < le
            · have hkl : k < m.el.length := by rw [Lle.out]; exact hlt
              obtain ⟨b, off, ha, hb, hc⟩ := Rows.get Rel.out hkl
              rw [ha] at hbx
              have hx : m.el[k] ∈ m.el := List.getElem_mem hkl
              have hLs := HM.out.ls m.el[k].l (by unfold Md.codes; exact List.mem_append_right _ (List.mem_append_right _ (List.mem_append_left _ (List.mem_map.2 ⟨_, hx, rfl⟩))))
              have hLl := HF.out.fit.ls m.el[k].l (by unfold Md.codes; exact List.mem_append_right _ (List.mem_append_right _ (List.mem_append_left _ (List.mem_map.2 ⟨_, hx, rfl⟩))))
              have hLc := HF.out.cs m.el[k].l (by unfold Md.codes; exact List.mem_append_right _ (List.mem_append_right _ (List.mem_append_left _ (List.mem_map.2 ⟨_, hx, rfl⟩))))
              obtain ⟨x, hxe⟩ : ∃ x, m.el[k] = x := ⟨_, rfl⟩
              have HXE := hid hxe
              rw [hxe] at hc hLs hLl hLc
              have cc : ∀ j, j < 2 → ∀ v, x.v[j]? = some v → wr.cell? ⟨b, off + k * 2 + j, none⟩ = some v := fun j hj v hv => (HW.out.cell (p := ⟨b, off + k * 2 + j, none⟩) hb).trans (hc j hj v hv)
              have c0 : wr.cell? ⟨b, off + k * 2, none⟩ = some (.slice x.l.a x.l.t.len x.l.c) := cc 0 (by omega) _ rfl
              have hki : (k : Int) < (le : Int) := by omega
              have C := hid (refCode_any x.l e wr ((hLs.below HW.out).more HW.out.size) hLl hLc)
              obtain ⟨q, hq⟩ : ∃ q, (checkP x.l.t == e) = q := ⟨_, rfl⟩
              rw [hq] at C
              have HQK := hid (show (checkP (m.el[k]).l.t == e) = q by rw [HXE.out]; exact hq)
              clear hx hxe hc cc hb ha hLs hLl hLc hq
              cases q with
              | true =>
                have HE := hid (show m.has e = true by unfold Md.has; rw [any_some hkl HQK.out]; simp)
                go_wp2_with fail
                refine C.out.mono ?_
                rintro e1 w1 ⟨rfl, hb1⟩
                have HW1 := hid (HW.out.trans (hb1.mono HW.out.size))
                clear C hb1
                go_wp2
                go_ret
                exact ⟨ret_bool HE.out.symm, HB.out.trans (HW1.out.mono HB.out.size)⟩
              | false =>
                have HQ' := hid (any_take (p := fun x => checkP x.l.t == e) hkl HQ.out HQK.out)
                go_wp2_with fail
                refine C.out.mono ?_
                rintro e1 w1 ⟨rfl, hb1⟩
                have HW1 := hid (HW.out.trans (hb1.mono HW.out.size))
                clear C hb1 hbx c0
                go_wp2
                go_roundw
                case rel => exact ⟨k + 1, by go_num, by omega, HQ', HW1⟩
                case measure => simp [intOf]; omega
            · obtain rfl : le = k := by omega
              have HBL := HW
              have HAel := hid (any_none (p := fun x => checkP x.l.t == e) (l := m.el) (fun j hj => HQ.out j hj (by rw [← Lle.out]; exact hj)))
              clear HQ HW hlt hk
              go_wp2
              clear hbx
              go_loopw [8] (fun vi wr => ∃ k : Nat, vi = .int .i64 k ∧ k ≤ ld ∧ Hid (∀ j (hj : j < m.da.length), j < k → (checkP (m.da[j]).l.t == e) = false) ∧ Hid (Below W0.heap.size W0 wr)) (fun vi _ => ld - (intOf vi).toNat)
              case atStart => exact ⟨0, rfl, Nat.zero_le _, fun j _ h => absurd h (Nat.not_lt_zero _), HBL⟩
              case round =>
                clear HBL
                obtain ⟨k, rfl, hk, HQ, HW⟩ := hrel
                have hbx := Go.Proofs.YtepbjkkakfpjgaaGreatDoor.keep HW.out Xda.out
                by_cases hlt : k < ld
                · have hkl : k < m.da.length := by rw [Lld.out]; exact hlt
                  obtain ⟨b, off, ha, hb, hc⟩ := Rows.get Rda.out hkl
                  rw [ha] at hbx
                  have hx : m.da[k] ∈ m.da := List.getElem_mem hkl
                  have hLs := HM.out.ls m.da[k].l (by unfold Md.codes; exact List.mem_append_right _ (List.mem_append_right _ (List.mem_append_right _ (List.mem_map.2 ⟨_, hx, rfl⟩))))
                  have hLl := HF.out.fit.ls m.da[k].l (by unfold Md.codes; exact List.mem_append_right _ (List.mem_append_right _ (List.mem_append_right _ (List.mem_map.2 ⟨_, hx, rfl⟩))))
                  have hLc := HF.out.cs m.da[k].l (by unfold Md.codes; exact List.mem_append_right _ (List.mem_append_right _ (List.mem_append_right _ (List.mem_map.2 ⟨_, hx, rfl⟩))))
                  obtain ⟨x, hxe⟩ : ∃ x, m.da[k] = x := ⟨_, rfl⟩
                  have HXE := hid hxe
                  rw [hxe] at hc hLs hLl hLc
                  have cc : ∀ j, j < 2 → ∀ v, x.v[j]? = some v → wr.cell? ⟨b, off + k * 2 + j, none⟩ = some v := fun j hj v hv => (HW.out.cell (p := ⟨b, off + k * 2 + j, none⟩) hb).trans (hc j hj v hv)
                  have c0 : wr.cell? ⟨b, off + k * 2, none⟩ = some (.slice x.l.a x.l.t.len x.l.c) := cc 0 (by omega) _ rfl
                  have hki : (k : Int) < (ld : Int) := by omega
                  have C := hid (refCode_any x.l e wr ((hLs.below HW.out).more HW.out.size) hLl hLc)
                  obtain ⟨q, hq⟩ : ∃ q, (checkP x.l.t == e) = q := ⟨_, rfl⟩
                  rw [hq] at C
                  have HQK := hid (show (checkP (m.da[k]).l.t == e) = q by rw [HXE.out]; exact hq)
                  clear hx hxe hc cc hb ha hLs hLl hLc hq
                  cases q with
                  | true =>
                    have HE := hid (show m.has e = true by unfold Md.has; rw [any_some hkl HQK.out]; simp)
                    go_wp2_with fail
                    refine C.out.mono ?_
                    rintro e1 w1 ⟨rfl, hb1⟩
                    have HW1 := hid (HW.out.trans (hb1.mono HW.out.size))
                    clear C hb1
                    go_wp2
                    go_ret
                    exact ⟨ret_bool HE.out.symm, HB.out.trans (HW1.out.mono HB.out.size)⟩
                  | false =>
                    have HQ' := hid (any_take (p := fun x => checkP x.l.t == e) hkl HQ.out HQK.out)
                    go_wp2_with fail
                    refine C.out.mono ?_
                    rintro e1 w1 ⟨rfl, hb1⟩
                    have HW1 := hid (HW.out.trans (hb1.mono HW.out.size))
                    clear C hb1 hbx c0
                    go_wp2
                    go_roundw
                    case rel => exact ⟨k + 1, by go_num, by omega, HQ', HW1⟩
                    case measure => simp [intOf]; omega
                · obtain rfl : ld = k := by omega
                  have HBL := HW
                  have HAda := hid (any_none (p := fun x => checkP x.l.t == e) (l := m.da) (fun j hj => HQ.out j hj (by rw [← Lld.out]; exact hj)))
                  clear HQ HW hlt hk
                  have HE := hid (show m.has e = false by unfold Md.has; rw [HAfu.out, HAgl.out, HAel.out, HAda.out]; rfl)
                  go_wp2
                  go_ret
                  exact ⟨ret_bool HE.out.symm, HB.out.trans (HBL.out.mono HB.out.size)⟩
end Go.Proofs.YtepbjkkakfpjgaaGreatDoor.Mod

namespace Go.Proofs.YtepbjkkakfpjgaaGreatDoor.Mod
open Go.RowKit Go.Proofs.YtepbjkkakfpjgaaGreatDoor.Instr

/-- A list has too many items. -/
def Md.many (m : Md) : Bool := m.crowded || m.has 141
def Md.lens7 (m : Md) : List Nat := [m.ty.length, m.im.length, m.fu.length, m.gl.length, m.ex.length, m.el.length, m.da.length]
def longF (e : El) : Bool := decide (16384 < e.fs.length)
theorem many_two {m : Md} (h : 1 < m.tb.length ∨ 1 < m.me.length) : m.many = true := by
  unfold Md.many Md.crowded; simp only [Bool.or_eq_true, decide_eq_true_eq]; rcases h with h | h <;> simp [h]
theorem many_el {m : Md} {k : Nat} (hk : k < m.el.length) (h : longF m.el[k] = true) : m.many = true := by
  have : (m.el.any fun e => decide (16384 < e.fs.length)) = true := any_some (p := longF) hk h
  unfold Md.many Md.crowded; rw [this]; simp
theorem many_len {m : Md} {k : Nat} (hk : k < 7) (h : 16384 < m.lens7.getD k 0) : m.many = true := by
  unfold Md.many Md.crowded
  unfold Md.lens7 at h
  match k, hk with
  | 0, _ => simp only [List.getD_cons_zero] at h; simp [h]
  | 1, _ => simp only [List.getD_cons_zero, List.getD_cons_succ] at h; simp [h]
  | 2, _ => simp only [List.getD_cons_zero, List.getD_cons_succ] at h; simp [h]
  | 3, _ => simp only [List.getD_cons_zero, List.getD_cons_succ] at h; simp [h]
  | 4, _ => simp only [List.getD_cons_zero, List.getD_cons_succ] at h; simp [h]
  | 5, _ => simp only [List.getD_cons_zero, List.getD_cons_succ] at h; simp [h]
  | 6, _ => simp only [List.getD_cons_zero, List.getD_cons_succ] at h; simp [h]
theorem many_rest {m : Md} (h1 : ¬ 1 < m.tb.length) (h2 : ¬ 1 < m.me.length) (h3 : ∀ k, k < 7 → ¬ 16384 < m.lens7.getD k 0) (h4 : ∀ j (hj : j < m.el.length), j < 16385 → longF m.el[j] = false) : m.many = m.has 141 := by
  have a0 := h3 0 (by omega)
  have a1 := h3 1 (by omega)
  have a2 := h3 2 (by omega)
  have a3 := h3 3 (by omega)
  have a4 := h3 4 (by omega)
  have a5 := h3 5 (by omega)
  have a6 := h3 6 (by omega)
  unfold Md.lens7 at a0 a1 a2 a3 a4 a5 a6
  simp only [List.getD_cons_zero, List.getD_cons_succ] at a0 a1 a2 a3 a4 a5 a6
  have : (m.el.any fun e => decide (16384 < e.fs.length)) = false := any_none (p := longF) (fun j hj => h4 j hj (by omega))
  unfold Md.many Md.crowded
  rw [this]
  simp [a0, a1, a2, a3, a4, a5, a6, h1, h2]
theorem cell7 (w : World) (a b c d e f g : Int) (t : TypeId) {k : Nat} (hk : k < 7) : (w.alloc (.cells #[.int .i64 a, .int .i64 b, .int .i64 c, .int .i64 d, .int .i64 e, .int .i64 f, .int .i64 g] t)).cell? ⟨w.heap.size, k, none⟩ = some (.int .i64 ([a, b, c, d, e, f, g].getD k 0)) := by
  match k, hk with
  | 0, _ => simp [go_sem]
  | 1, _ => simp [go_sem]
  | 2, _ => simp [go_sem]
  | 3, _ => simp [go_sem]
  | 4, _ => simp [go_sem]
  | 5, _ => simp [go_sem]
  | 6, _ => simp [go_sem]
theorem getD7 (a b c d e f g : Nat) (k : Nat) : [(a : Int), b, c, d, e, f, g].getD k 0 = (([a, b, c, d, e, f, g].getD k 0 : Nat) : Int) := by
  match k with
  | 0 => rfl
  | 1 => rfl
  | 2 => rfl
  | 3 => rfl
  | 4 => rfl
  | 5 => rfl
  | 6 => rfl
  | k + 7 => simp
set_option maxHeartbeats 4000000 in
set_option maxRecDepth 100000 in
theorem refMany_any (m : Md) (w : World) (hm : ModAt w.heap.size w m) (hf : m.few) :
    Calls Tryz.prog 77 #[.agg m.v] w fun x w' => x = .returned (.bool m.many) ∧ Below w.heap.size w w' := by
  have hb0 := (Below.refl w.heap.size w).alloc (Nat.le_refl _) (.cells m.v 32)
  have HB := hid hb0
  have HM := hid (hm.on hb0)
  have X0 := (BoxAt.made w m.v 32)
  have HX := hid X0
  have HF := hid hf
  have HLF := hid (show ∀ e ∈ m.el, e.fs.length ≤ 140737488351232 from hf.fit.fs)
  have hle : m.el.length ≤ 1000000 := hf.lens.2.2.2.2.2.2.2.1
  have b0 := hf.fit.ty
  have b1 := hf.fit.im
  have b2 := hf.fit.fu
  have b3 := hf.fit.tb
  have b4 := hf.fit.me
  have b5 := hf.fit.gl
  have b6 := hf.fit.ex
  have b10 := hf.fit.da
  have HT2 := hid (fun h => many_two (m := m) h)
  have HTL := hid (fun k (hk : k < 7) h => many_len (m := m) hk h)
  have HRR := hid (fun h1 h2 h3 h4 => many_rest (m := m) h1 h2 h3 h4)
  have H7 : Hid (m.lens7 = [m.ty.length, m.im.length, m.fu.length, m.gl.length, m.ex.length, m.el.length, m.da.length]) := rfl
  unfold Md.v at HB HX HM X0 ⊢
  clear hm hf hb0
  have x0 := X0 0 _ rfl
  have x1 := X0 1 _ rfl
  have x2 := X0 2 _ rfl
  have x3 := X0 3 _ rfl
  have x4 := X0 4 _ rfl
  have x5 := X0 5 _ rfl
  have x6 := X0 6 _ rfl
  have x7 := X0 7 _ rfl
  have x8 := X0 8 _ rfl
  have x9 := X0 9 _ rfl
  have x10 := X0 10 _ rfl
  clear X0
  go_enter Tryz.func77, Tryz.ntmps77
  by_cases g1 : 1 < m.tb.length
  · have HE := hid (HT2.out (.inl g1))
    have g1i : (1 : Int) < (m.tb.length : Int) := by omega
    clear HT2 HTL HRR HX HM
    go_wp2
    go_ret
    exact ⟨ret_bool HE.out.symm, HB.out⟩
  · have g1i : ¬ (1 : Int) < (m.tb.length : Int) := by omega
    by_cases g2 : 1 < m.me.length
    · have HE := hid (HT2.out (.inr g2))
      have g2i : (1 : Int) < (m.me.length : Int) := by omega
      clear HT2 HTL HRR HX HM
      go_wp2
      go_ret
      exact ⟨ret_bool HE.out.symm, HB.out⟩
    · have g2i : ¬ (1 : Int) < (m.me.length : Int) := by omega
      have HR1 := hid (HRR.out g1 g2)
      clear HT2 HRR g1 g2
      have C := hid (fun (W : World) (h : ModAt W.heap.size W m) => refInstrs_any m 141 W h HF.out)
      unfold Md.v at C
      go_wp2
      generalize w.alloc (.cells #[.slice m.ty'.a m.ty.length m.ty'.c, .slice m.im'.a m.im.length m.im'.c, .slice m.fu'.a m.fu.length m.fu'.c, .slice m.tb'.a m.tb.length m.tb'.c, .slice m.me'.a m.me.length m.me'.c, .slice m.gl'.a m.gl.length m.gl'.c, .slice m.ex'.a m.ex.length m.ex'.c, .bool m.st, .int .u32 m.sn, .slice m.el'.a m.el.length m.el'.c, .slice m.da'.a m.da.length m.da'.c] 32) = W0 at *
      obtain ⟨le, hle0⟩ : ∃ n, m.el.length = n := ⟨_, rfl⟩
      have Lle := hid hle0
      rw [hle0] at x9 hle H7 C
      have RE := hid HM.out.el
      clear hle0
      go_loopw [3] (fun vi wr => ∃ k : Nat, vi = .int .i64 k ∧ k ≤ le ∧ k ≤ 16385 ∧ wr = W0 ∧ Hid (∀ j (hj : j < m.el.length), j < k → longF m.el[j] = false)) (fun vi _ => le - (intOf vi).toNat)
      case atStart => exact ⟨0, rfl, Nat.zero_le _, Nat.zero_le _, rfl, none_upto _ _⟩
      case round =>
        obtain ⟨k, rfl, hk, hk2, rfl, HQ⟩ := hrel
        by_cases hlt : k < le ∧ k < 16385
        · obtain ⟨l1, l2⟩ := hlt
          have hkl : k < m.el.length := by rw [Lle.out]; exact l1
          obtain ⟨b, off, ha, hb, hc⟩ := Rows.get RE.out hkl
          rw [ha] at x9
          have HT := hid (fun (h : longF m.el[k] = true) => many_el hkl h)
          have HO := hid (fun (h : longF m.el[k] = false) => any_take hkl HQ.out h)
          have hsz := HLF.out m.el[k] (List.getElem_mem hkl)
          have HWT : Hid (longF m.el[k] = decide (16384 < m.el[k].fs.length)) := rfl
          obtain ⟨x, hx⟩ : ∃ x, m.el[k] = x := ⟨_, rfl⟩
          rw [hx] at hc HT hsz HWT
          have HO1 : Hid (longF x = false → ∀ j (hj : j < m.el.length), j < k + 1 → longF m.el[j] = false) := by rw [← hx]; exact HO
          have c1 := hc 1 (by omega) (.slice x.fa x.fs.length x.fc) rfl
          obtain ⟨q, hq⟩ : ∃ q, x.fs.length = q := ⟨_, rfl⟩
          rw [hq] at c1 HWT hsz
          have hki : (k : Int) < (le : Int) := by omega
          have hki2 : (k : Int) ≤ 16384 := by omega
          clear hc hx hq hb ha hkl HO HQ
          by_cases g : 16384 < q
          · have HE := hid (HT.out (by rw [HWT.out]; simp [g]))
            have gi : (16384 : Int) < (q : Int) := by omega
            clear HT HO1 HWT
            go_wp2
            go_ret
            exact ⟨ret_bool HE.out.symm, HB.out⟩
          · have HE := hid (HO1.out (by rw [HWT.out]; simp [g]))
            have gi : ¬ (16384 : Int) < (q : Int) := by omega
            clear HT HO1 HWT
            go_wp2
            go_roundw
            case rel => exact ⟨k + 1, by go_num, by omega, by omega, trivial, HE⟩
            case measure => simp [intOf]; omega
        · have HQ9 := hid (show ∀ j (hj : j < m.el.length), j < 16385 → longF m.el[j] = false from fun j hj hj2 => HQ.out j hj (by have := Lle.out; omega))
          clear HQ
          by_cases l1 : k < le
          · have l2 : k = 16385 := by omega
            subst l2
            have l1i : (16385 : Int) < (le : Int) := by omega
            go_wp2
            have hbA := (Below.refl wr.heap.size wr).alloc (Nat.le_refl _) (.cells #[.int .i64 m.ty.length, .int .i64 m.im.length, .int .i64 m.fu.length, .int .i64 m.gl.length, .int .i64 m.ex.length, .int .i64 le, .int .i64 m.da.length] 3)
            have HC7 := hid (show ∀ j, j < 7 → (wr.alloc (.cells #[.int .i64 m.ty.length, .int .i64 m.im.length, .int .i64 m.fu.length, .int .i64 m.gl.length, .int .i64 m.ex.length, .int .i64 le, .int .i64 m.da.length] 3)).cell? ⟨wr.heap.size, j, none⟩ = some (.int .i64 ((m.lens7.getD j 0 : Nat) : Int)) from fun j hj => by rw [cell7 wr _ _ _ _ _ _ _ _ hj, getD7, H7.out])
            have HB7 := hid (HB.out.trans (hbA.mono HB.out.size))
            have C7 := hid (C.out _ (HM.out.on hbA))
            have y0 := Go.Proofs.YtepbjkkakfpjgaaGreatDoor.keep hbA x0
            have y1 := Go.Proofs.YtepbjkkakfpjgaaGreatDoor.keep hbA x1
            have y2 := Go.Proofs.YtepbjkkakfpjgaaGreatDoor.keep hbA x2
            have y3 := Go.Proofs.YtepbjkkakfpjgaaGreatDoor.keep hbA x3
            have y4 := Go.Proofs.YtepbjkkakfpjgaaGreatDoor.keep hbA x4
            have y5 := Go.Proofs.YtepbjkkakfpjgaaGreatDoor.keep hbA x5
            have y6 := Go.Proofs.YtepbjkkakfpjgaaGreatDoor.keep hbA x6
            have y7 := Go.Proofs.YtepbjkkakfpjgaaGreatDoor.keep hbA x7
            have y8 := Go.Proofs.YtepbjkkakfpjgaaGreatDoor.keep hbA x8
            have y9 := Go.Proofs.YtepbjkkakfpjgaaGreatDoor.keep hbA x9
            have y10 := Go.Proofs.YtepbjkkakfpjgaaGreatDoor.keep hbA x10
            clear C HM HX hbA HB RE x0 x1 x2 x3 x4 x5 x6 x7 x8 x9 x10
            generalize wr.alloc (.cells #[.int .i64 m.ty.length, .int .i64 m.im.length, .int .i64 m.fu.length, .int .i64 m.gl.length, .int .i64 m.ex.length, .int .i64 le, .int .i64 m.da.length] 3) = W1 at *
            go_loopw [5] (fun vi w9 => ∃ i : Nat, vi = .int .i64 i ∧ i ≤ 7 ∧ w9 = W1 ∧ Hid (∀ j, j < i → ¬ 16384 < m.lens7.getD j 0)) (fun vi _ => 7 - (intOf vi).toNat)
            case atStart => exact ⟨0, rfl, Nat.zero_le _, rfl, fun j h => absurd h (Nat.not_lt_zero _)⟩
            case round =>
              obtain ⟨i, rfl, hi, rfl, HI⟩ := hrel
              by_cases hi7 : i < 7
              · have c := HC7.out i hi7
                have HT := hid (HTL.out i hi7)
                have HO := hid (show ¬ 16384 < m.lens7.getD i 0 → ∀ j, j < i + 1 → ¬ 16384 < m.lens7.getD j 0 from fun h j hj => by
                  by_cases e : j = i
                  · rw [e]; exact h
                  · exact HI.out j (by omega))
                obtain ⟨q, hq⟩ : ∃ q, m.lens7.getD i 0 = q := ⟨_, rfl⟩
                rw [hq] at c HT HO
                have hii : (i : Int) < 7 := by omega
                clear hq HI
                by_cases g : 16384 < q
                · have HE := hid (HT.out g)
                  have gi : (16384 : Int) < (q : Int) := by omega
                  clear HT HO
                  go_wp2
                  go_ret
                  exact ⟨ret_bool HE.out.symm, HB7.out⟩
                · have HE := hid (HO.out g)
                  have gi : ¬ (16384 : Int) < (q : Int) := by omega
                  clear HT HO
                  go_wp2
                  go_roundw
                  case rel => exact ⟨i + 1, by go_num, by omega, trivial, HE⟩
                  case measure => simp [intOf]; omega
              · obtain rfl : i = 7 := by omega
                have HE := hid (HR1.out HI.out HQ9.out)
                clear HI HR1 HTL
                go_wp2_with fail
                refine C7.out.mono ?_
                rintro e1 w1 ⟨rfl, hb1⟩
                have HZ := hid (HB7.out.trans (hb1.mono HB7.out.size))
                clear C7 hb1
                go_wp2
                go_ret
                exact ⟨ret_bool HE.out.symm, HZ.out⟩
          · obtain rfl : le = k := by omega
            go_wp2
            have hbA := (Below.refl wr.heap.size wr).alloc (Nat.le_refl _) (.cells #[.int .i64 m.ty.length, .int .i64 m.im.length, .int .i64 m.fu.length, .int .i64 m.gl.length, .int .i64 m.ex.length, .int .i64 le, .int .i64 m.da.length] 3)
            have HC7 := hid (show ∀ j, j < 7 → (wr.alloc (.cells #[.int .i64 m.ty.length, .int .i64 m.im.length, .int .i64 m.fu.length, .int .i64 m.gl.length, .int .i64 m.ex.length, .int .i64 le, .int .i64 m.da.length] 3)).cell? ⟨wr.heap.size, j, none⟩ = some (.int .i64 ((m.lens7.getD j 0 : Nat) : Int)) from fun j hj => by rw [cell7 wr _ _ _ _ _ _ _ _ hj, getD7, H7.out])
            have HB7 := hid (HB.out.trans (hbA.mono HB.out.size))
            have C7 := hid (C.out _ (HM.out.on hbA))
            have y0 := Go.Proofs.YtepbjkkakfpjgaaGreatDoor.keep hbA x0
            have y1 := Go.Proofs.YtepbjkkakfpjgaaGreatDoor.keep hbA x1
            have y2 := Go.Proofs.YtepbjkkakfpjgaaGreatDoor.keep hbA x2
            have y3 := Go.Proofs.YtepbjkkakfpjgaaGreatDoor.keep hbA x3
            have y4 := Go.Proofs.YtepbjkkakfpjgaaGreatDoor.keep hbA x4
            have y5 := Go.Proofs.YtepbjkkakfpjgaaGreatDoor.keep hbA x5
            have y6 := Go.Proofs.YtepbjkkakfpjgaaGreatDoor.keep hbA x6
            have y7 := Go.Proofs.YtepbjkkakfpjgaaGreatDoor.keep hbA x7
            have y8 := Go.Proofs.YtepbjkkakfpjgaaGreatDoor.keep hbA x8
            have y9 := Go.Proofs.YtepbjkkakfpjgaaGreatDoor.keep hbA x9
            have y10 := Go.Proofs.YtepbjkkakfpjgaaGreatDoor.keep hbA x10
            clear C HM HX hbA HB RE x0 x1 x2 x3 x4 x5 x6 x7 x8 x9 x10
            generalize wr.alloc (.cells #[.int .i64 m.ty.length, .int .i64 m.im.length, .int .i64 m.fu.length, .int .i64 m.gl.length, .int .i64 m.ex.length, .int .i64 le, .int .i64 m.da.length] 3) = W1 at *
            go_loopw [5] (fun vi w9 => ∃ i : Nat, vi = .int .i64 i ∧ i ≤ 7 ∧ w9 = W1 ∧ Hid (∀ j, j < i → ¬ 16384 < m.lens7.getD j 0)) (fun vi _ => 7 - (intOf vi).toNat)
            case atStart => exact ⟨0, rfl, Nat.zero_le _, rfl, fun j h => absurd h (Nat.not_lt_zero _)⟩
            case round =>
              obtain ⟨i, rfl, hi, rfl, HI⟩ := hrel
              by_cases hi7 : i < 7
              · have c := HC7.out i hi7
                have HT := hid (HTL.out i hi7)
                have HO := hid (show ¬ 16384 < m.lens7.getD i 0 → ∀ j, j < i + 1 → ¬ 16384 < m.lens7.getD j 0 from fun h j hj => by
                  by_cases e : j = i
                  · rw [e]; exact h
                  · exact HI.out j (by omega))
                obtain ⟨q, hq⟩ : ∃ q, m.lens7.getD i 0 = q := ⟨_, rfl⟩
                rw [hq] at c HT HO
                have hii : (i : Int) < 7 := by omega
                clear hq HI
                by_cases g : 16384 < q
                · have HE := hid (HT.out g)
                  have gi : (16384 : Int) < (q : Int) := by omega
                  clear HT HO
                  go_wp2
                  go_ret
                  exact ⟨ret_bool HE.out.symm, HB7.out⟩
                · have HE := hid (HO.out g)
                  have gi : ¬ (16384 : Int) < (q : Int) := by omega
                  clear HT HO
                  go_wp2
                  go_roundw
                  case rel => exact ⟨i + 1, by go_num, by omega, trivial, HE⟩
                  case measure => simp [intOf]; omega
              · obtain rfl : i = 7 := by omega
                have HE := hid (HR1.out HI.out HQ9.out)
                clear HI HR1 HTL
                go_wp2_with fail
                refine C7.out.mono ?_
                rintro e1 w1 ⟨rfl, hb1⟩
                have HZ := hid (HB7.out.trans (hb1.mono HB7.out.size))
                clear C7 hb1
                go_wp2
                go_ret
                exact ⟨ret_bool HE.out.symm, HZ.out⟩
end Go.Proofs.YtepbjkkakfpjgaaGreatDoor.Mod

namespace Go.Proofs.YtepbjkkakfpjgaaGreatDoor.Mod
open Go.RowKit Go.Proofs.YtepbjkkakfpjgaaGreatDoor.Instr

theorem flat_length {α : Type} {sz : Nat} : ∀ (rs : List (List α)) (_ : ∀ r ∈ rs, r.length = sz), rs.flatten.length = rs.length * sz
  | [], _ => by simp
  | r :: rs, h => by
    rw [List.flatten_cons, List.length_append, h r (by simp), flat_length rs (fun x hx => h x (by simp [hx])), List.length_cons, Nat.succ_mul]
    omega
theorem flat_get {α : Type} {sz : Nat} : ∀ (rs : List (List α)) (_ : ∀ r ∈ rs, r.length = sz) (i j : Nat) (_ : i < rs.length) (_ : j < sz), rs.flatten[i * sz + j]? = (rs.getD i [])[j]?
  | [], _, i, _, hi, _ => by simp at hi
  | r :: rs, h, 0, j, _, hj => by
    rw [List.flatten_cons, Nat.zero_mul, Nat.zero_add, List.getElem?_append_left (by rw [h r (by simp)]; exact hj)]
    rfl
  | r :: rs, h, i + 1, j, hi, hj => by
    have hr := h r (by simp)
    have e : (i + 1) * sz = i * sz + sz := Nat.succ_mul i sz
    rw [List.flatten_cons, List.getElem?_append_right (by rw [hr, e]; omega), hr]
    have e2 : (i + 1) * sz + j - sz = i * sz + j := by rw [e]; omega
    rw [e2, flat_get rs (fun x hx => h x (by simp [hx])) i j (by simpa using hi) hj]
    rfl
/-- Rows that a call made itself, each of sz cells. -/
structure OwnR (e : TypeId) (sz base : Nat) (w : World) (v : Value) (rs : List (List Value)) : Prop where
  row : w.ownsRow base e sz v rs.length rs.flatten
  len : ∀ r ∈ rs, r.length = sz
theorem OwnR.start (e : TypeId) (sz base : Nat) (w : World) : OwnR e sz base w (.slice none 0 0) [] := ⟨World.ownsRow_nil _ _ _ _, by simp⟩
theorem OwnR.below {e : TypeId} {sz base : Nat} {w w' : World} {v : Value} {rs : List (List Value)} (h : OwnR e sz base w v rs) (hb : Below w.heap.size w w') : OwnR e sz base w' v rs := by
  refine ⟨⟨h.row.1, ?_⟩, h.len⟩
  rcases h.row.2 with h0 | ⟨g, cap, cur, hv, hg, hh, rest⟩
  · exact .inl h0
  · exact .inr ⟨g, cap, cur, hv, hg, (hb.block g (Array.getElem?_eq_some_iff.1 hh).1).trans hh, rest⟩
theorem OwnR.mono {e : TypeId} {sz base base' : Nat} {w : World} {v : Value} {rs : List (List Value)} (h : OwnR e sz base w v rs) (hb : base' ≤ base) : OwnR e sz base' w v rs := by
  refine ⟨⟨h.row.1, ?_⟩, h.len⟩
  rcases h.row.2 with h0 | ⟨g, cap, cur, hv, hg, rest⟩
  · exact .inl h0
  · exact .inr ⟨g, cap, cur, hv, Nat.le_trans hb hg, rest⟩
/-- As a slice in memory. -/
theorem OwnR.rows {e : TypeId} {sz base : Nat} {w : World} {v : Value} {rs : List (List Value)} (h : OwnR e sz base w v rs) : ∃ a c, v = .slice a rs.length c ∧ Rows w.heap.size w a sz rs ∧ ∀ g, v.ownBlock = some g → base ≤ g := by
  have hl := World.ownsRow.lt h.row
  rcases h.row.2 with ⟨rfl, h0⟩ | ⟨g, cap, cur, rfl, hg, hh, h2, h3, h4, h5⟩
  · exact ⟨none, 0, by rw [h0], .inl (List.eq_nil_of_length_eq_zero h0), fun g hg => (hl g hg).1⟩
  · refine ⟨_, cap, rfl, .inr ⟨g, 0, rfl, (hl g rfl).2, fun i hi j hj u hu => ?_⟩, fun g hg => (hl g hg).1⟩
    have hf := flat_get rs h.len i j hi hj
    rw [hu] at hf
    have := World.ownsRow.cells h.row (g := g) rfl (i * sz + j) u hf
    have hplain : (⟨g, 0, none⟩ : Addr).add (i * sz + j) = ⟨g, 0 + i * sz + j, none⟩ := by unfold Addr.add; split <;> simp_all <;> omega
    rw [hplain] at this
    exact this

section
variable {ops : Array Oper} {rest : List Oper} {o : Oper} {act : Act} {Q : Exit → Act → World → Prop}
/-- Rows that lie somewhere are appended. -/
theorem append_rows {e ts : TypeId} {sz nb : Nat} {z : Value} (inf : (Tryz.prog.info? e).map (fun i => (i.zero, i.size, i.bytes)) = some (some z, sz, nb)) (hz : z.cells.size = sz) (h0 : 0 < sz) (hnb : nb ≤ 1000) (ut : Tryz.prog.underlying ts = some (.slice e))
    (hgd : o.guard = none) (s x : Operand) (ho : o.op = .call { callee := .builtin .append, args := #[s, x], argTypes := #[ts, ts] })
    {base : Nat} {w0 wr : World} {v : Value} {xs : List (List Value)} (ys : List (List Value)) (hs : act.eval s = v) (hown : OwnR e sz base wr v xs) (hb : Below base w0 wr) (hbase : base ≤ wr.heap.size)
    (ad : Addr) (m c : Nat) (hm : ys.length = m) (hx : act.eval x = .slice (some ad) m c) (hy : ∀ r ∈ ys, r.length = sz) (hnews : ∀ j u, ys.flatten[j]? = some u → wr.cell? (ad.add j) = some u) (h1 : ∀ r ∈ ys, ∀ u ∈ r, u.oneCell' = true)
    (hl : xs.length + m ≤ 1000000000)
    (h : ∀ v' w', OwnR e sz base w' v' (xs ++ ys) → Below base w0 w' → base ≤ w'.heap.size → wr.grownBy w' v.ownBlock → wpList Tryz.prog ops Q rest (act.put o.dst v') w') :
    wpList Tryz.prog ops Q (o :: rest) act wr := by
  obtain ⟨i0, hi, hz0, hz1, hz2⟩ := info_parts inf
  subst hm
  refine wpList_append_own _ hgd s x ts ho base e i0 z sz nb ut hi hz0 hz1 hz2 hz h0 v xs.length _ hs hown.row ad ys.length c ys.flatten hx (flat_length ys hy)
    hnews (fun u hu => ?_) (by unfold maxLen; omega) ?_ hbase (fun v' w' hown' hgrow _ => ?_)
  · obtain ⟨r, hr, hur⟩ := List.mem_flatten.1 hu
    exact h1 r hr u hur
  · calc (xs.length + ys.length) * nb ≤ 1000000000 * 1000 := Nat.mul_le_mul hl hnb
      _ ≤ _ := by omega
  · refine h v' w' ⟨?_, ?_⟩ (hb.grown hgrow hbase (fun k hk => (World.ownsRow.lt hown.row k hk).1)) (by have := hgrow.size; omega) hgrow
    · rw [List.length_append, List.flatten_append]; exact hown'
    · intro r hr
      rcases List.mem_append.1 hr with hr | hr
      · exact hown.len r hr
      · exact hy r hr
/-- The same in a region that draws its order: a literal's rows, whose block is known. -/
theorem step_rows {e ts : TypeId} {sz nb : Nat} {z : Value} {E : Prop} {K : Act → World → Prop} (inf : (Tryz.prog.info? e).map (fun i => (i.zero, i.size, i.bytes)) = some (some z, sz, nb)) (hz : z.cells.size = sz) (h0 : 0 < sz) (hnb : nb ≤ 1000) (ut : Tryz.prog.underlying ts = some (.slice e))
    (hgd : o.guard = none) (s x : Operand) (ho : o.op = .call { callee := .builtin .append, args := #[s, x], argTypes := #[ts, ts] })
    {base : Nat} {w0 wr : World} {v : Value} {xs : List (List Value)} (ys : List (List Value)) (hs : act.eval s = v) (hown : OwnR e sz base wr v xs) (hb : Below base w0 wr) (hbase : base ≤ wr.heap.size)
    (ad : Addr) (m c : Nat) (hm : ys.length = m) (hx : act.eval x = .slice (some ad) m c) (hy : ∀ r ∈ ys, r.length = sz) (hnews : ∀ j u, ys.flatten[j]? = some u → wr.cell? (ad.add j) = some u) (h1 : ∀ r ∈ ys, ∀ u ∈ r, u.oneCell' = true)
    (hl : xs.length + m ≤ 1000000000)
    (h : ∀ v' w', OwnR e sz base w' v' (xs ++ ys) → Below base w0 w' → base ≤ w'.heap.size → wr.grownBy w' v.ownBlock → K (act.put o.dst v') w') :
    if Region.wanted o (yielded ops act.tmps) = true then Oper.wp Tryz.prog o act wr K Q else E := by
  obtain ⟨i0, hi, hz0, hz1, hz2⟩ := info_parts inf
  subst hm
  have hw : Region.wanted o (yielded ops act.tmps) = true := by simp [Region.wanted, hgd]
  rw [if_pos hw]
  refine wp_append_own _ s x ts ho base e i0 z sz nb ut hi hz0 hz1 hz2 hz h0 v xs.length _ hs hown.row ad ys.length c ys.flatten hx (flat_length ys hy)
    hnews (fun u hu => ?_) (by unfold maxLen; omega) ?_ hbase (fun v' w' hown' hgrow _ => ?_)
  · obtain ⟨r, hr, hur⟩ := List.mem_flatten.1 hu
    exact h1 r hr u hur
  · calc (xs.length + ys.length) * nb ≤ 1000000000 * 1000 := Nat.mul_le_mul hl hnb
      _ ≤ _ := by omega
  · refine h v' w' ⟨?_, ?_⟩ (hb.grown hgrow hbase (fun k hk => (World.ownsRow.lt hown.row k hk).1)) (by have := hgrow.size; omega) hgrow
    · rw [List.length_append, List.flatten_append]; exact hown'
    · intro r hr
      rcases List.mem_append.1 hr with hr | hr
      · exact hown.len r hr
      · exact hy r hr
end
end Go.Proofs.YtepbjkkakfpjgaaGreatDoor.Mod
