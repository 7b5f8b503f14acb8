import Derived.Test.YtepbjkkakfpjgaaGreatDoorEt16
import Derived.Test.YtepbjkkakfpjgaaGreatDoorEt05
import Derived.Deep.Cut
import Derived.RegionTactic
import Derived.BigQuiet
namespace Go.Proofs.YtepbjkkakfpjgaaGreatDoor.Enc
open Go.RowKit Leb Go.Proofs.YtepbjkkakfpjgaaGreatDoor.Instr Go.Proofs.YtepbjkkakfpjgaaGreatDoor.Mod
open Go.Proofs.YtepbjkkakfpjgaaGreatDoor.Body (encL codeL PutP)
set_option linter.unusedVariables false
set_option linter.unusedSimpArgs false
theorem flat_take {α : Type} (f : α → List Int) : ∀ (l : List α) (k : Nat), ((l.take k).flatMap f).length ≤ (l.flatMap f).length
 | [], k => by simp
 | x :: r, 0 => by simp
 | x :: r, k + 1 => by
  have := flat_take f r k
  rw [List.take_succ_cons, List.flatMap_cons, List.flatMap_cons, List.length_append, List.length_append]
  omega
theorem flat_item {α : Type} (f : α → List Int) {l : List α} {k : Nat} (hk : k < l.length) : (f l[k]).length ≤ (l.flatMap f).length := by
 have h1 := flat_take f l (k + 1)
 rw [flat_step f hk, List.length_append] at h1
 omega
theorem tags_some {n₀ : Nat} {w : World} {a : Option Addr} {zs : List Int} (h : TagsAt n₀ w a zs) {i : Nat} (hi : i < zs.length) : ∃ b off, a = some ⟨b, off, none⟩ ∧ b < n₀ ∧ ∀ j, j < zs.length → w.cell? ⟨b, off + j, none⟩ = some (.int .u32 (zs.getD j 0)) := by
 rcases h with h | h
 ·subst h; simp at hi
 ·exact h
theorem code_facts {w : World} {m : Md} (FI : Fine w m) {l : Lst} (hl : l ∈ m.codes) : ListAt w.heap.size w l.a l.t.len l.t ∧ l.t.len ≤ 140737488351232 ∧ l.t.count ≤ 1000000 ∧ (encL l.t).length ≤ 90000 ∧ checkP l.t = 0 :=
 ⟨FI.at_.ls l hl, FI.few.fit.ls l hl, FI.few.cs l hl, FI.enc l hl, (facts_of FI.chk).ck l hl⟩
set_option maxRecDepth 100000 in
set_option maxHeartbeats 8000000 in
theorem ref_sec1 (m : Md) (w : World) (FI : Fine w m) (hf : FitP tyB m.ty 0) : Calls Tryz.prog 41 #[.agg m.v, .int .i64 1] w (Gives w (encU m.ty.length ++ m.ty.flatMap tyB)) := by
 have FX := facts_of FI.chk
 have HB := hid ((Below.refl w.heap.size w).alloc (Nat.le_refl _) (.cells m.v 32))
 have X0 := BoxAt.made w m.v 32
 have HR := hid ((FI.at_.on HB.out).ty)
 have HFIT := hid hf
 have FS := hid FI
 have FXH := hid FX
 obtain ⟨n, hn⟩ : ∃ n, m.ty.length = n := ⟨_, rfl⟩
 have HN := hid hn
 have hn5 : n ≤ 16384 := by have := FX.lens; omega
 have h0 : 0 ≤ (n : Int) := by omega
 have h1 : (n : Int) < 4294967296 := by omega
 unfold Md.v at HB X0 HR ⊢
 rw [hn] at HB X0 HR ⊢
 clear FX hn hf FI
 have xm := X0 0 _ rfl
 have HXX := hid X0
 clear X0
 go_enter Tryz.func41, Tryz.ntmps41
 go_wp2_with fail
 generalize w.alloc (.cells #[.slice m.ty'.a n m.ty'.c, .slice m.im'.a m.im.length m.im'.c, .slice m.fu'.a m.fu.length m.fu'.c, .slice m.tb'.a m.tb.length m.tb'.c, .slice m.me'.a m.me.length m.me'.c, .slice m.gl'.a m.gl.length m.gl'.c, .slice m.ex'.a m.ex.length m.ex'.c, .bool m.st, .int .u32 m.sn, .slice m.el'.a m.el.length m.el'.c, .slice m.da'.a m.da.length m.da'.c] 32) = W0 at HB HR HXX xm ⊢
 refine (u8_gives (n : Int) _ h0 h1).mono ?_
 rintro e0 u0 h
 obtain ⟨a0, n0, c0, rfl, hn0, hy0, hz0, hb0⟩ := tl_own (encU_bytes _) (by have := encU_few (n : Int); omega) h
 have AS := hid ((Acc.start W0).call hb0)
 have HY := hid hy0
 have HN0 := hid hn0
 have HZ0 := hid hz0
 have HE0 := hid (encU_few (n : Int))
 clear h hn0 hy0 hz0 hb0 xm
 go_wp2_with (first | (at_builtin; (refine append_bytes rfl (.tmp 36) (.tmp 40) rfl rfl AS.out.own AS.out.bel AS.out.base a0 n0 c0 rfl HZ0.out HN0.out HY.out (by have := HE0.out; simp; omega) ?_); intro v0 z0 ho hb hs; refine Hid.out ?_))
 refine hid ?_
 have A0 := hid (Acc.mk ho hb hs)
 rw [List.nil_append] at A0
 clear ho hb hs AS HY HN0 HZ0 HE0
 have KM := hid (fun (X : World) (h : Below W0.heap.size W0 X) => (h.cell (p := ⟨w.heap.size, 0, none⟩) (by have := World.block_lt_of_cell? _ _ (HXX.out 0 _ rfl); simpa using this)).trans (HXX.out 0 _ rfl))
 have xm := KM.out _ A0.out.bel
 go_wp2
 clear xm
 go_loopw [5, 6, 7, 8] (fun vo vi y7 y8 wr => ∃ k : Nat, vi = .int .i64 k ∧ k ≤ n ∧ Hid (Acc W0 vo (encU (n : Int) ++ (m.ty.take k).flatMap tyB) wr)) (fun _ vi _ _ _ => n - (intOf vi).toNat)
 case atStart => exact ⟨0, rfl, Nat.zero_le _, by simpa using A0⟩
 case round =>
  clear A0
  obtain ⟨k, rfl, hk, A0⟩ := hrel
  by_cases hlt : k < n
  ·have hkl : k < m.ty.length := by rw [HN.out]; exact hlt
   have hki : (k : Int) < (n : Int) := by omega
   obtain ⟨b, off, ha, hb, hc⟩ := Rows.get HR.out hkl
   have FI := FS.out
   have FX := FXH.out
   have HX := hid (FX.ty _ (List.getElem_mem hkl))
   have HT := hid (flat_step tyB hkl)
   have LK := hid (show (encU (n : Int) ++ (m.ty.take k).flatMap tyB).length ≤ 1000000000 by have h2 := HFIT.out; unfold FitP at h2; have h3 := flat_take tyB m.ty k; rw [HN.out] at h2; rw [List.length_append] at h2 ⊢; omega)
   have LXX := hid (show (tyB m.ty[k]).length ≤ 1000000000 by have h2 := HFIT.out; unfold FitP at h2; have h3 := flat_item tyB hkl; rw [List.length_append] at h2; omega)
   clear FI FX
   obtain ⟨x, hxe⟩ : ∃ x, m.ty[k] = x := ⟨_, rfl⟩
   rw [hxe] at hc HT LXX HX
   obtain ⟨x0, x1⟩ := x
   skip
   have r0 : W0.cell? ⟨b, off + k * 2, none⟩ = some (.int .i64 x0) := hc 0 (by omega) _ rfl
   have r1 : W0.cell? ⟨b, off + k * 2 + 1, none⟩ = some (.int .i64 x1) := hc 1 (by omega) _ rfl
   have K0 := hid (fun (X : World) (h : Below W0.heap.size W0 X) => (h.cell (p := ⟨b, off + k * 2, none⟩) hb).trans r0)
   have K1 := hid (fun (X : World) (h : Below W0.heap.size W0 X) => (h.cell (p := ⟨b, off + k * 2 + 1, none⟩) hb).trans r1)
   have KB := hid (fun (X : World) (h : Below W0.heap.size W0 X) => KM.out X h)
   rw [ha] at KB
   clear hc hb hxe ha r0 r1
   have xm := KB.out _ A0.out.bel
   have c0 := K0.out _ A0.out.bel
   have c1 := K1.out _ A0.out.bel
   have L0 := hid LK.out
   go_wp2_with fail
   have C := (fun (X : World) (h : Below W0.heap.size W0 X) => type8_tl ⟨x0, x1⟩ HX.out X) _ A0.out.bel
   refine C.mono ?_
   clear C
   rintro e0 u0 ⟨pa0, pn0, pc0, rfl, hn, hy, hz, hb⟩
   have B0 := hid (A0.out.call hb)
   have HYY := hid hy
   have HNN := hid hn
   have HZZ := hid hz
   have LY := hid (show (tyB ⟨x0, x1⟩).length ≤ 1000000000 by exact LXX.out)
   clear hn hy hz hb A0
   clear xm c0 c1
   go_wp2_with (first | (at_builtin; (refine append_bytes rfl (.tmp 58) (.tmp 59) rfl rfl B0.out.own B0.out.bel B0.out.base pa0 pn0 pc0 rfl HZZ.out HNN.out HYY.out (by have := L0.out; have := LY.out; omega) ?_); intro v1 z1 ho hb hs; refine Hid.out ?_))
   refine hid ?_
   have A1 := hid (Acc.mk ho hb hs)
   have L1 := hid (show ((encU (n : Int) ++ (m.ty.take k).flatMap tyB) ++ tyB ⟨x0, x1⟩).length ≤ 2000000000 from by have h1 := L0.out; have h2 := LY.out; rw [List.length_append]; omega)
   clear ho hb hs HYY HNN HZZ LY B0 L0
   have xm := KB.out _ A1.out.bel
   have c0 := K0.out _ A1.out.bel
   have c1 := K1.out _ A1.out.bel
   clear L1
   go_wp2
   go_roundw
   case rel => exact ⟨k + 1, by go_num, by omega, by rw [HT.out]; simpa [tyB, List.append_assoc] using A1⟩
   case measure => simp [intOf]; omega
  ·obtain rfl : n = k := by omega
   have xm := KM.out _ A0.out.bel
   go_wp2
   go_ret
   exact Acc.gives HB.out A0.out (by rw [List.take_of_length_le (by rw [HN.out]; exact Nat.le_refl _)])
set_option maxRecDepth 100000 in
set_option maxHeartbeats 8000000 in
theorem ref_sec2 (m : Md) (w : World) (FI : Fine w m) (hf : FitP impB m.im 0) : Calls Tryz.prog 41 #[.agg m.v, .int .i64 2] w (Gives w (encU m.im.length ++ m.im.flatMap impB)) := by
 have FX := facts_of FI.chk
 have HB := hid ((Below.refl w.heap.size w).alloc (Nat.le_refl _) (.cells m.v 32))
 have X0 := BoxAt.made w m.v 32
 have HR := hid ((FI.at_.on HB.out).im)
 have HFIT := hid hf
 have FS := hid FI
 have FXH := hid FX
 obtain ⟨n, hn⟩ : ∃ n, m.im.length = n := ⟨_, rfl⟩
 have HN := hid hn
 have hn5 : n ≤ 16384 := by have := FX.lens; omega
 have h0 : 0 ≤ (n : Int) := by omega
 have h1 : (n : Int) < 4294967296 := by omega
 unfold Md.v at HB X0 HR ⊢
 rw [hn] at HB X0 HR ⊢
 clear FX hn hf FI
 have xm := X0 1 _ rfl
 have HXX := hid X0
 clear X0
 go_enter Tryz.func41, Tryz.ntmps41
 go_wp2_with fail
 generalize w.alloc (.cells #[.slice m.ty'.a m.ty.length m.ty'.c, .slice m.im'.a n m.im'.c, .slice m.fu'.a m.fu.length m.fu'.c, .slice m.tb'.a m.tb.length m.tb'.c, .slice m.me'.a m.me.length m.me'.c, .slice m.gl'.a m.gl.length m.gl'.c, .slice m.ex'.a m.ex.length m.ex'.c, .bool m.st, .int .u32 m.sn, .slice m.el'.a m.el.length m.el'.c, .slice m.da'.a m.da.length m.da'.c] 32) = W0 at HB HR HXX xm ⊢
 refine (u8_gives (n : Int) _ h0 h1).mono ?_
 rintro e0 u0 h
 obtain ⟨a0, n0, c0, rfl, hn0, hy0, hz0, hb0⟩ := tl_own (encU_bytes _) (by have := encU_few (n : Int); omega) h
 have AS := hid ((Acc.start W0).call hb0)
 have HY := hid hy0
 have HN0 := hid hn0
 have HZ0 := hid hz0
 have HE0 := hid (encU_few (n : Int))
 clear h hn0 hy0 hz0 hb0 xm
 go_wp2_with (first | (at_builtin; (refine append_bytes rfl (.tmp 63) (.tmp 67) rfl rfl AS.out.own AS.out.bel AS.out.base a0 n0 c0 rfl HZ0.out HN0.out HY.out (by have := HE0.out; simp; omega) ?_); intro v0 z0 ho hb hs; refine Hid.out ?_))
 refine hid ?_
 have A0 := hid (Acc.mk ho hb hs)
 rw [List.nil_append] at A0
 clear ho hb hs AS HY HN0 HZ0 HE0
 have KM := hid (fun (X : World) (h : Below W0.heap.size W0 X) => (h.cell (p := ⟨w.heap.size, 1, none⟩) (by have := World.block_lt_of_cell? _ _ (HXX.out 1 _ rfl); simpa using this)).trans (HXX.out 1 _ rfl))
 have xm := KM.out _ A0.out.bel
 go_wp2
 clear xm
 go_loopw [5, 9] (fun vo vi wr => ∃ k : Nat, vi = .int .i64 k ∧ k ≤ n ∧ Hid (Acc W0 vo (encU (n : Int) ++ (m.im.take k).flatMap impB) wr)) (fun _ vi _ => n - (intOf vi).toNat)
 case atStart => exact ⟨0, rfl, Nat.zero_le _, by simpa using A0⟩
 case round =>
  clear A0
  obtain ⟨k, rfl, hk, A0⟩ := hrel
  by_cases hlt : k < n
  ·have hkl : k < m.im.length := by rw [HN.out]; exact hlt
   have hki : (k : Int) < (n : Int) := by omega
   obtain ⟨b, off, ha, hb, hc⟩ := Rows.get HR.out hkl
   have FI := FS.out
   have FX := FXH.out
   have HX := hid (FX.im _ (List.getElem_mem hkl))
   have HT := hid (flat_step impB hkl)
   have LK := hid (show (encU (n : Int) ++ (m.im.take k).flatMap impB).length ≤ 1000000000 by have h2 := HFIT.out; unfold FitP at h2; have h3 := flat_take impB m.im k; rw [HN.out] at h2; rw [List.length_append] at h2 ⊢; omega)
   have LXX := hid (show (impB m.im[k]).length ≤ 1000000000 by have h2 := HFIT.out; unfold FitP at h2; have h3 := flat_item impB hkl; rw [List.length_append] at h2; omega)
   clear FI FX
   obtain ⟨x, hxe⟩ : ∃ x, m.im[k] = x := ⟨_, rfl⟩
   rw [hxe] at hc HT LXX HX
   obtain ⟨mo, na, ty⟩ := x
   skip
   have r0 : W0.cell? ⟨b, off + k * 3, none⟩ = some (.string mo) := hc 0 (by omega) _ rfl
   have r1 : W0.cell? ⟨b, off + k * 3 + 1, none⟩ = some (.string na) := hc 1 (by omega) _ rfl
   have r2 : W0.cell? ⟨b, off + k * 3 + 2, none⟩ = some (.int .i64 ty) := hc 2 (by omega) _ rfl
   have K0 := hid (fun (X : World) (h : Below W0.heap.size W0 X) => (h.cell (p := ⟨b, off + k * 3, none⟩) hb).trans r0)
   have K1 := hid (fun (X : World) (h : Below W0.heap.size W0 X) => (h.cell (p := ⟨b, off + k * 3 + 1, none⟩) hb).trans r1)
   have K2 := hid (fun (X : World) (h : Below W0.heap.size W0 X) => (h.cell (p := ⟨b, off + k * 3 + 2, none⟩) hb).trans r2)
   have KB := hid (fun (X : World) (h : Below W0.heap.size W0 X) => KM.out X h)
   rw [ha] at KB
   clear hc hb hxe ha r0 r1 r2
   have xm := KB.out _ A0.out.bel
   have c0 := K0.out _ A0.out.bel
   have c1 := K1.out _ A0.out.bel
   have c2 := K2.out _ A0.out.bel
   have L0 := hid LK.out
   go_wp2_with fail
   have C := (fun (X : World) (h : Below W0.heap.size W0 X) => name8_tl mo X (by have := HX.out.1; first | omega | (dsimp only at this; omega)) HX.out.2.2.1) _ A0.out.bel
   refine C.mono ?_
   clear C
   rintro e0 u0 ⟨pa0, pn0, pc0, rfl, hn, hy, hz, hb⟩
   have B0 := hid (A0.out.call hb)
   have HYY := hid hy
   have HNN := hid hn
   have HZZ := hid hz
   have LY := hid (show (nameB mo).length ≤ 1000000000 by have h := LXX.out; simp only [tyB, impB, fnB, tbB, meB, glB, exB, elB, coB, daB, List.length_append, List.length_cons] at h ⊢; omega)
   clear hn hy hz hb A0
   clear xm c0 c1 c2
   go_wp2_with (first | (at_builtin; (refine append_bytes rfl (.tmp 76) (.tmp 83) rfl rfl B0.out.own B0.out.bel B0.out.base pa0 pn0 pc0 rfl HZZ.out HNN.out HYY.out (by have := L0.out; have := LY.out; omega) ?_); intro v1 z1 ho hb hs; refine Hid.out ?_))
   refine hid ?_
   have A1 := hid (Acc.mk ho hb hs)
   have L1 := hid (show ((encU (n : Int) ++ (m.im.take k).flatMap impB) ++ nameB mo).length ≤ 2000000000 from by have h1 := L0.out; have h2 := LY.out; rw [List.length_append]; omega)
   clear ho hb hs HYY HNN HZZ LY B0 L0
   have xm := KB.out _ A1.out.bel
   have c0 := K0.out _ A1.out.bel
   have c1 := K1.out _ A1.out.bel
   have c2 := K2.out _ A1.out.bel
   go_wp2_with fail
   have C := (fun (X : World) (h : Below W0.heap.size W0 X) => name8_tl na X (by have := HX.out.2.1; first | omega | (dsimp only at this; omega)) HX.out.2.2.2.1) _ A1.out.bel
   refine C.mono ?_
   clear C
   rintro e1 u1 ⟨pa1, pn1, pc1, rfl, hn, hy, hz, hb⟩
   have B1 := hid (A1.out.call hb)
   have HYY := hid hy
   have HNN := hid hn
   have HZZ := hid hz
   have LY := hid (show (nameB na).length ≤ 1000000000 by have h := LXX.out; simp only [tyB, impB, fnB, tbB, meB, glB, exB, elB, coB, daB, List.length_append, List.length_cons] at h ⊢; omega)
   clear hn hy hz hb A1
   clear xm c0 c1 c2
   go_wp2_with (first | (at_builtin; (refine append_bytes rfl (.tmp 85) (.tmp 92) rfl rfl B1.out.own B1.out.bel B1.out.base pa1 pn1 pc1 rfl HZZ.out HNN.out HYY.out (by have := L1.out; have := LY.out; omega) ?_); intro v2 z2 ho hb hs; refine Hid.out ?_))
   refine hid ?_
   have A2 := hid (Acc.mk ho hb hs)
   have L2 := hid (show (((encU (n : Int) ++ (m.im.take k).flatMap impB) ++ nameB mo) ++ nameB na).length ≤ 3000000000 from by have h1 := L1.out; have h2 := LY.out; rw [List.length_append]; omega)
   clear ho hb hs HYY HNN HZZ LY B1 L1
   have xm := KB.out _ A2.out.bel
   have c0 := K0.out _ A2.out.bel
   have c1 := K1.out _ A2.out.bel
   have c2 := K2.out _ A2.out.bel
   go_wp2_with (first | (at_builtin; (refine append_byte rfl (.tmp 94) (.tmp 95) rfl (0) rfl A2.out.own A2.out.bel A2.out.base rfl (by have := L2.out; omega) ?_); intro v3 z3 ho hb hs; refine Hid.out ?_))
   refine hid ?_
   have A3 := hid (Acc.mk ho hb hs)
   have L3 := hid (show ((((encU (n : Int) ++ (m.im.take k).flatMap impB) ++ nameB mo) ++ nameB na) ++ [(0 : Int)]).length ≤ 4000000000 from by have h1 := L2.out; rw [List.length_append]; simp only [List.length_cons, List.length_nil]; omega)
   clear ho hb hs A2 L2
   clear xm c0 c1 c2
   have xm := KB.out _ A3.out.bel
   have c0 := K0.out _ A3.out.bel
   have c1 := K1.out _ A3.out.bel
   have c2 := K2.out _ A3.out.bel
   go_wp2_with fail
   have C := (fun (X : World) (h : Below W0.heap.size W0 X) => u8_tl ty X HX.out.2.2.2.2.1 (by have := HX.out.2.2.2.2.2; first | omega | (dsimp only at this; omega))) _ A3.out.bel
   refine C.mono ?_
   clear C
   rintro e3 u3 ⟨pa3, pn3, pc3, rfl, hn, hy, hz, hb⟩
   have B3 := hid (A3.out.call hb)
   have HYY := hid hy
   have HNN := hid hn
   have HZZ := hid hz
   have LY := hid (show (encU ty).length ≤ 1000000000 by have := encU_few (ty); omega)
   clear hn hy hz hb A3
   clear xm c0 c1 c2
   go_wp2_with (first | (at_builtin; (refine append_bytes rfl (.tmp 97) (.tmp 104) rfl rfl B3.out.own B3.out.bel B3.out.base pa3 pn3 pc3 rfl HZZ.out HNN.out HYY.out (by have := L3.out; have := LY.out; omega) ?_); intro v4 z4 ho hb hs; refine Hid.out ?_))
   refine hid ?_
   have A4 := hid (Acc.mk ho hb hs)
   have L4 := hid (show (((((encU (n : Int) ++ (m.im.take k).flatMap impB) ++ nameB mo) ++ nameB na) ++ [(0 : Int)]) ++ encU ty).length ≤ 5000000000 from by have h1 := L3.out; have h2 := LY.out; rw [List.length_append]; omega)
   clear ho hb hs HYY HNN HZZ LY B3 L3
   have xm := KB.out _ A4.out.bel
   have c0 := K0.out _ A4.out.bel
   have c1 := K1.out _ A4.out.bel
   have c2 := K2.out _ A4.out.bel
   clear L4
   go_wp2
   go_roundw
   case rel => exact ⟨k + 1, by go_num, by omega, by rw [HT.out]; simpa [impB, List.append_assoc] using A4⟩
   case measure => simp [intOf]; omega
  ·obtain rfl : n = k := by omega
   have xm := KM.out _ A0.out.bel
   go_wp2
   go_ret
   exact Acc.gives HB.out A0.out (by rw [List.take_of_length_le (by rw [HN.out]; exact Nat.le_refl _)])
set_option maxRecDepth 100000 in
set_option maxHeartbeats 8000000 in
theorem ref_sec3 (m : Md) (w : World) (FI : Fine w m) (hf : FitP fnB m.fu 0) : Calls Tryz.prog 41 #[.agg m.v, .int .i64 3] w (Gives w (encU m.fu.length ++ m.fu.flatMap fnB)) := by
 have FX := facts_of FI.chk
 have HB := hid ((Below.refl w.heap.size w).alloc (Nat.le_refl _) (.cells m.v 32))
 have X0 := BoxAt.made w m.v 32
 have HR := hid ((FI.at_.on HB.out).fu)
 have HFIT := hid hf
 have FS := hid FI
 have FXH := hid FX
 obtain ⟨n, hn⟩ : ∃ n, m.fu.length = n := ⟨_, rfl⟩
 have HN := hid hn
 have hn5 : n ≤ 16384 := by have := FX.lens; omega
 have h0 : 0 ≤ (n : Int) := by omega
 have h1 : (n : Int) < 4294967296 := by omega
 unfold Md.v at HB X0 HR ⊢
 rw [hn] at HB X0 HR ⊢
 clear FX hn hf FI
 have xm := X0 2 _ rfl
 have HXX := hid X0
 clear X0
 go_enter Tryz.func41, Tryz.ntmps41
 go_wp2_with fail
 generalize w.alloc (.cells #[.slice m.ty'.a m.ty.length m.ty'.c, .slice m.im'.a m.im.length m.im'.c, .slice m.fu'.a n m.fu'.c, .slice m.tb'.a m.tb.length m.tb'.c, .slice m.me'.a m.me.length m.me'.c, .slice m.gl'.a m.gl.length m.gl'.c, .slice m.ex'.a m.ex.length m.ex'.c, .bool m.st, .int .u32 m.sn, .slice m.el'.a m.el.length m.el'.c, .slice m.da'.a m.da.length m.da'.c] 32) = W0 at HB HR HXX xm ⊢
 refine (u8_gives (n : Int) _ h0 h1).mono ?_
 rintro e0 u0 h
 obtain ⟨a0, n0, c0, rfl, hn0, hy0, hz0, hb0⟩ := tl_own (encU_bytes _) (by have := encU_few (n : Int); omega) h
 have AS := hid ((Acc.start W0).call hb0)
 have HY := hid hy0
 have HN0 := hid hn0
 have HZ0 := hid hz0
 have HE0 := hid (encU_few (n : Int))
 clear h hn0 hy0 hz0 hb0 xm
 go_wp2_with (first | (at_builtin; (refine append_bytes rfl (.tmp 12) (.tmp 16) rfl rfl AS.out.own AS.out.bel AS.out.base a0 n0 c0 rfl HZ0.out HN0.out HY.out (by have := HE0.out; simp; omega) ?_); intro v0 z0 ho hb hs; refine Hid.out ?_))
 refine hid ?_
 have A0 := hid (Acc.mk ho hb hs)
 rw [List.nil_append] at A0
 clear ho hb hs AS HY HN0 HZ0 HE0
 have KM := hid (fun (X : World) (h : Below W0.heap.size W0 X) => (h.cell (p := ⟨w.heap.size, 2, none⟩) (by have := World.block_lt_of_cell? _ _ (HXX.out 2 _ rfl); simpa using this)).trans (HXX.out 2 _ rfl))
 have xm := KM.out _ A0.out.bel
 go_wp2
 clear xm
 go_loopw [5, 10] (fun vo vi wr => ∃ k : Nat, vi = .int .i64 k ∧ k ≤ n ∧ Hid (Acc W0 vo (encU (n : Int) ++ (m.fu.take k).flatMap fnB) wr)) (fun _ vi _ => n - (intOf vi).toNat)
 case atStart => exact ⟨0, rfl, Nat.zero_le _, by simpa using A0⟩
 case round =>
  clear A0
  obtain ⟨k, rfl, hk, A0⟩ := hrel
  by_cases hlt : k < n
  ·have hkl : k < m.fu.length := by rw [HN.out]; exact hlt
   have hki : (k : Int) < (n : Int) := by omega
   obtain ⟨b, off, ha, hb, hc⟩ := Rows.get HR.out hkl
   have FI := FS.out
   have FX := FXH.out
   have HX := hid (FX.fu _ (List.getElem_mem hkl))
   have HT := hid (flat_step fnB hkl)
   have LK := hid (show (encU (n : Int) ++ (m.fu.take k).flatMap fnB).length ≤ 1000000000 by have h2 := HFIT.out; unfold FitP at h2; have h3 := flat_take fnB m.fu k; rw [HN.out] at h2; rw [List.length_append] at h2 ⊢; omega)
   have LXX := hid (show (fnB m.fu[k]).length ≤ 1000000000 by have h2 := HFIT.out; unfold FitP at h2; have h3 := flat_item fnB hkl; rw [List.length_append] at h2; omega)
   clear FI FX
   obtain ⟨x, hxe⟩ : ∃ x, m.fu[k] = x := ⟨_, rfl⟩
   rw [hxe] at hc HT LXX HX
   obtain ⟨ty, lo, l⟩ := x
   skip
   have r0 : W0.cell? ⟨b, off + k * 3, none⟩ = some (.int .i64 ty) := hc 0 (by omega) _ rfl
   have K0 := hid (fun (X : World) (h : Below W0.heap.size W0 X) => (h.cell (p := ⟨b, off + k * 3, none⟩) hb).trans r0)
   have KB := hid (fun (X : World) (h : Below W0.heap.size W0 X) => KM.out X h)
   rw [ha] at KB
   clear hc hb hxe ha r0
   have xm := KB.out _ A0.out.bel
   have c0 := K0.out _ A0.out.bel
   have L0 := hid LK.out
   go_wp2_with fail
   have C := (fun (X : World) (h : Below W0.heap.size W0 X) => u8_tl ty X HX.out.1 (by have := HX.out.2.1; first | omega | (dsimp only at this; omega))) _ A0.out.bel
   refine C.mono ?_
   clear C
   rintro e0 u0 ⟨pa0, pn0, pc0, rfl, hn, hy, hz, hb⟩
   have B0 := hid (A0.out.call hb)
   have HYY := hid hy
   have HNN := hid hn
   have HZZ := hid hz
   have LY := hid (show (encU ty).length ≤ 1000000000 by have := encU_few (ty); omega)
   clear hn hy hz hb A0
   clear xm c0
   go_wp2_with (first | (at_builtin; (refine append_bytes rfl (.tmp 25) (.tmp 32) rfl rfl B0.out.own B0.out.bel B0.out.base pa0 pn0 pc0 rfl HZZ.out HNN.out HYY.out (by have := L0.out; have := LY.out; omega) ?_); intro v1 z1 ho hb hs; refine Hid.out ?_))
   refine hid ?_
   have A1 := hid (Acc.mk ho hb hs)
   have L1 := hid (show ((encU (n : Int) ++ (m.fu.take k).flatMap fnB) ++ encU ty).length ≤ 2000000000 from by have h1 := L0.out; have h2 := LY.out; rw [List.length_append]; omega)
   clear ho hb hs HYY HNN HZZ LY B0 L0
   have xm := KB.out _ A1.out.bel
   have c0 := K0.out _ A1.out.bel
   clear L1
   go_wp2
   go_roundw
   case rel => exact ⟨k + 1, by go_num, by omega, by rw [HT.out]; simpa [fnB, List.append_assoc] using A1⟩
   case measure => simp [intOf]; omega
  ·obtain rfl : n = k := by omega
   have xm := KM.out _ A0.out.bel
   go_wp2
   go_ret
   exact Acc.gives HB.out A0.out (by rw [List.take_of_length_le (by rw [HN.out]; exact Nat.le_refl _)])
set_option maxRecDepth 100000 in
set_option maxHeartbeats 8000000 in
theorem ref_sec4 (m : Md) (w : World) (FI : Fine w m) (hf : FitP tbB m.tb 0) : Calls Tryz.prog 42 #[.agg m.v, .int .i64 4] w (Gives w (encU m.tb.length ++ m.tb.flatMap tbB)) := by
 have FX := facts_of FI.chk
 have HB := hid ((Below.refl w.heap.size w).alloc (Nat.le_refl _) (.cells m.v 32))
 have X0 := BoxAt.made w m.v 32
 have HR := hid ((FI.at_.on HB.out).tb)
 have HFIT := hid hf
 have FS := hid FI
 have FXH := hid FX
 obtain ⟨n, hn⟩ : ∃ n, m.tb.length = n := ⟨_, rfl⟩
 have HN := hid hn
 have hn5 : n ≤ 16384 := by have := FX.lens; omega
 have h0 : 0 ≤ (n : Int) := by omega
 have h1 : (n : Int) < 4294967296 := by omega
 unfold Md.v at HB X0 HR ⊢
 rw [hn] at HB X0 HR ⊢
 clear FX hn hf FI
 have xm := X0 3 _ rfl
 have HXX := hid X0
 clear X0
 rcases Nat.eq_zero_or_pos n with hzr | hpos
 ·have HZR := hid hzr
  clear hzr
  go_enter Tryz.func42, Tryz.ntmps42
  have x3 := HXX.out 3 _ rfl
  go_wp2_with fail
  generalize w.alloc (.cells #[.slice m.ty'.a m.ty.length m.ty'.c, .slice m.im'.a m.im.length m.im'.c, .slice m.fu'.a m.fu.length m.fu'.c, .slice m.tb'.a n m.tb'.c, .slice m.me'.a m.me.length m.me'.c, .slice m.gl'.a m.gl.length m.gl'.c, .slice m.ex'.a m.ex.length m.ex'.c, .bool m.st, .int .u32 m.sn, .slice m.el'.a m.el.length m.el'.c, .slice m.da'.a m.da.length m.da'.c] 32) = W0 at HB HR HXX xm x3 ⊢
  refine (u8_gives (n : Int) _ h0 h1).mono ?_
  rintro e0 z0 h
  obtain ⟨v0, rfl, ha0⟩ := Acc.of h
  have A0 := hid ha0
  clear h ha0 xm x3
  have KM := hid (fun (X : World) (h : Below W0.heap.size W0 X) => (h.cell (p := ⟨w.heap.size, 3, none⟩) (by have := World.block_lt_of_cell? _ _ (HXX.out 3 _ rfl); simpa using this)).trans (HXX.out 3 _ rfl))
  have xm := KM.out _ A0.out.bel
  go_wp2
  clear xm
  go_loopw [7, 8, 9, 10] (fun vo vi y9 y10 wr => ∃ k : Nat, vi = .int .i64 k ∧ k ≤ n ∧ Hid (Acc W0 vo (encU (n : Int) ++ (m.tb.take k).flatMap tbB) wr)) (fun _ vi _ _ _ => n - (intOf vi).toNat)
  case atStart => exact ⟨0, rfl, Nat.zero_le _, by simpa using A0⟩
  case round =>
   clear A0
   obtain ⟨k, rfl, hk, A0⟩ := hrel
   by_cases hlt : k < n
   ·exact absurd hlt (by have := HZR.out; omega)
   ·obtain rfl : n = k := by omega
    have xm := KM.out _ A0.out.bel
    go_wp2
    go_ret
    exact Acc.gives HB.out A0.out (by rw [List.take_of_length_le (by rw [HN.out]; exact Nat.le_refl _)])
 ·obtain ⟨b, off, ha, hb, hc⟩ := Rows.get HR.out (k := 0) (by rw [HN.out]; exact hpos)
  rw [ha] at HB HR HXX xm ⊢
  clear hb hc hpos
  go_enter Tryz.func42, Tryz.ntmps42
  have x3 := HXX.out 3 _ rfl
  go_wp2_with fail
  generalize w.alloc (.cells #[.slice m.ty'.a m.ty.length m.ty'.c, .slice m.im'.a m.im.length m.im'.c, .slice m.fu'.a m.fu.length m.fu'.c, .slice (some ⟨b, off, none⟩) n m.tb'.c, .slice m.me'.a m.me.length m.me'.c, .slice m.gl'.a m.gl.length m.gl'.c, .slice m.ex'.a m.ex.length m.ex'.c, .bool m.st, .int .u32 m.sn, .slice m.el'.a m.el.length m.el'.c, .slice m.da'.a m.da.length m.da'.c] 32) = W0 at HB HR HXX xm x3 ⊢
  refine (u8_gives (n : Int) _ h0 h1).mono ?_
  rintro e0 z0 h
  obtain ⟨v0, rfl, ha0⟩ := Acc.of h
  have A0 := hid ha0
  clear h ha0 xm x3
  have KM := hid (fun (X : World) (h : Below W0.heap.size W0 X) => (h.cell (p := ⟨w.heap.size, 3, none⟩) (by have := World.block_lt_of_cell? _ _ (HXX.out 3 _ rfl); simpa using this)).trans (HXX.out 3 _ rfl))
  have xm := KM.out _ A0.out.bel
  go_wp2
  clear xm
  go_loopw [7, 8, 9, 10] (fun vo vi y9 y10 wr => ∃ k : Nat, vi = .int .i64 k ∧ k ≤ n ∧ Hid (Acc W0 vo (encU (n : Int) ++ (m.tb.take k).flatMap tbB) wr)) (fun _ vi _ _ _ => n - (intOf vi).toNat)
  case atStart => exact ⟨0, rfl, Nat.zero_le _, by simpa using A0⟩
  case round =>
   clear A0
   obtain ⟨k, rfl, hk, A0⟩ := hrel
   by_cases hlt : k < n
   ·have hkl : k < m.tb.length := by rw [HN.out]; exact hlt
    have hki : (k : Int) < (n : Int) := by omega
    obtain ⟨b2, off2, ha2, hb, hc⟩ := Rows.get HR.out hkl
    obtain ⟨rfl, rfl⟩ : b = b2 ∧ off = off2 := by simpa using ha2
    clear ha2
    have FI := FS.out
    have FX := FXH.out
    have HX := hid (FX.tb _ (List.getElem_mem hkl))
    have HN0 := FI.siz.n0 _ (List.mem_append_left _ (List.getElem_mem hkl))
    have LN := hid (okLim_le (FX.tb _ (List.getElem_mem hkl)) HN0 (by omega))
    have HT := hid (flat_step tbB hkl)
    have LK := hid (show (encU (n : Int) ++ (m.tb.take k).flatMap tbB).length ≤ 1000000000 by have h2 := HFIT.out; unfold FitP at h2; have h3 := flat_take tbB m.tb k; rw [HN.out] at h2; rw [List.length_append] at h2 ⊢; omega)
    have LXX := hid (show (tbB m.tb[k]).length ≤ 1000000000 by have h2 := HFIT.out; unfold FitP at h2; have h3 := flat_item tbB hkl; rw [List.length_append] at h2; omega)
    clear FI FX
    obtain ⟨x, hxe⟩ : ∃ x, m.tb[k] = x := ⟨_, rfl⟩
    rw [hxe] at hc HT LXX HX LN
    obtain ⟨ln, lx, lc⟩ := x
    skip
    dsimp only at HX LN
    have r0 : W0.cell? ⟨b, off + k * 3, none⟩ = some (.int .u32 ln) := hc 0 (by omega) _ rfl
    have r1 : W0.cell? ⟨b, off + k * 3 + 1, none⟩ = some (.int .u32 lx) := hc 1 (by omega) _ rfl
    have r2 : W0.cell? ⟨b, off + k * 3 + 2, none⟩ = some (.bool lc) := hc 2 (by omega) _ rfl
    have K0 := hid (fun (X : World) (h : Below W0.heap.size W0 X) => (h.cell (p := ⟨b, off + k * 3, none⟩) hb).trans r0)
    have K1 := hid (fun (X : World) (h : Below W0.heap.size W0 X) => (h.cell (p := ⟨b, off + k * 3 + 1, none⟩) hb).trans r1)
    have K2 := hid (fun (X : World) (h : Below W0.heap.size W0 X) => (h.cell (p := ⟨b, off + k * 3 + 2, none⟩) hb).trans r2)
    have KB := hid (fun (X : World) (h : Below W0.heap.size W0 X) => KM.out X h)
    clear hc hb hxe r0 r1 r2
    have xm := KB.out _ A0.out.bel
    have c0 := K0.out _ A0.out.bel
    have c1 := K1.out _ A0.out.bel
    have c2 := K2.out _ A0.out.bel
    have L0 := hid LK.out
    go_wp2_with (first | (at_builtin; (refine append_byte rfl (.tmp 28) (.tmp 29) rfl (112) rfl A0.out.own A0.out.bel A0.out.base rfl (by have := L0.out; omega) ?_); intro v1 z1 ho hb hs; refine Hid.out ?_))
    refine hid ?_
    have A1 := hid (Acc.mk ho hb hs)
    have L1 := hid (show ((encU (n : Int) ++ (m.tb.take k).flatMap tbB) ++ [(112 : Int)]).length ≤ 2000000000 from by have h1 := L0.out; rw [List.length_append]; simp only [List.length_cons, List.length_nil]; omega)
    clear ho hb hs A0 L0
    clear xm c0 c1 c2
    have xm := KB.out _ A1.out.bel
    have c0 := K0.out _ A1.out.bel
    have c1 := K1.out _ A1.out.bel
    have c2 := K2.out _ A1.out.bel
    go_wp2_with fail
    have C := (fun (X : World) (h : Below W0.heap.size W0 X) => lim8_tl ⟨ln, lx, lc⟩ 1048576 HX.out LN.out.1 LN.out.2 X) _ A1.out.bel
    refine C.mono ?_
    clear C
    rintro e1 u1 ⟨pa1, pn1, pc1, rfl, hn, hy, hz, hb⟩
    have B1 := hid (A1.out.call hb)
    have HYY := hid hy
    have HNN := hid hn
    have HZZ := hid hz
    have LY := hid (show (meB ⟨ln, lx, lc⟩).length ≤ 1000000000 by have h := LXX.out; first | exact h | (unfold tbB at h; rw [List.length_cons] at h; unfold meB; omega))
    clear hn hy hz hb A1
    clear xm c0 c1 c2
    go_wp2_with (first | (at_builtin; (refine append_bytes rfl (.tmp 40) (.tmp 41) rfl rfl B1.out.own B1.out.bel B1.out.base pa1 pn1 pc1 rfl HZZ.out HNN.out HYY.out (by have := L1.out; have := LY.out; omega) ?_); intro v2 z2 ho hb hs; refine Hid.out ?_))
    refine hid ?_
    have A2 := hid (Acc.mk ho hb hs)
    have L2 := hid (show (((encU (n : Int) ++ (m.tb.take k).flatMap tbB) ++ [(112 : Int)]) ++ meB ⟨ln, lx, lc⟩).length ≤ 3000000000 from by have h1 := L1.out; have h2 := LY.out; rw [List.length_append]; omega)
    clear ho hb hs HYY HNN HZZ LY B1 L1
    have xm := KB.out _ A2.out.bel
    have c0 := K0.out _ A2.out.bel
    have c1 := K1.out _ A2.out.bel
    have c2 := K2.out _ A2.out.bel
    clear L2
    go_wp2
    go_roundw
    case rel => exact ⟨k + 1, by go_num, by omega, by rw [HT.out]; simpa [tbB, meB, List.append_assoc] using A2⟩
    case measure => simp [intOf]; omega
   ·obtain rfl : n = k := by omega
    have xm := KM.out _ A0.out.bel
    go_wp2
    go_ret
    exact Acc.gives HB.out A0.out (by rw [List.take_of_length_le (by rw [HN.out]; exact Nat.le_refl _)])
set_option maxRecDepth 100000 in
set_option maxHeartbeats 8000000 in
theorem ref_sec5 (m : Md) (w : World) (FI : Fine w m) (hf : FitP meB m.me 0) : Calls Tryz.prog 42 #[.agg m.v, .int .i64 5] w (Gives w (encU m.me.length ++ m.me.flatMap meB)) := by
 have FX := facts_of FI.chk
 have HB := hid ((Below.refl w.heap.size w).alloc (Nat.le_refl _) (.cells m.v 32))
 have X0 := BoxAt.made w m.v 32
 have HR := hid ((FI.at_.on HB.out).me)
 have HFIT := hid hf
 have FS := hid FI
 have FXH := hid FX
 obtain ⟨n, hn⟩ : ∃ n, m.me.length = n := ⟨_, rfl⟩
 have HN := hid hn
 have hn5 : n ≤ 16384 := by have := FX.lens; omega
 have h0 : 0 ≤ (n : Int) := by omega
 have h1 : (n : Int) < 4294967296 := by omega
 unfold Md.v at HB X0 HR ⊢
 rw [hn] at HB X0 HR ⊢
 clear FX hn hf FI
 have xm := X0 4 _ rfl
 have HXX := hid X0
 clear X0
 rcases Nat.eq_zero_or_pos n with hzr | hpos
 ·have HZR := hid hzr
  clear hzr
  go_enter Tryz.func42, Tryz.ntmps42
  have x3 := HXX.out 3 _ rfl
  go_wp2_with fail
  generalize w.alloc (.cells #[.slice m.ty'.a m.ty.length m.ty'.c, .slice m.im'.a m.im.length m.im'.c, .slice m.fu'.a m.fu.length m.fu'.c, .slice m.tb'.a m.tb.length m.tb'.c, .slice m.me'.a n m.me'.c, .slice m.gl'.a m.gl.length m.gl'.c, .slice m.ex'.a m.ex.length m.ex'.c, .bool m.st, .int .u32 m.sn, .slice m.el'.a m.el.length m.el'.c, .slice m.da'.a m.da.length m.da'.c] 32) = W0 at HB HR HXX xm x3 ⊢
  refine (u8_gives (n : Int) _ h0 h1).mono ?_
  rintro e0 z0 h
  obtain ⟨v0, rfl, ha0⟩ := Acc.of h
  have A0 := hid ha0
  clear h ha0 xm x3
  have KM := hid (fun (X : World) (h : Below W0.heap.size W0 X) => (h.cell (p := ⟨w.heap.size, 4, none⟩) (by have := World.block_lt_of_cell? _ _ (HXX.out 4 _ rfl); simpa using this)).trans (HXX.out 4 _ rfl))
  have xm := KM.out _ A0.out.bel
  go_wp2
  clear xm
  go_loopw [7, 8, 9, 10] (fun vo vi y9 y10 wr => ∃ k : Nat, vi = .int .i64 k ∧ k ≤ n ∧ Hid (Acc W0 vo (encU (n : Int) ++ (m.me.take k).flatMap meB) wr)) (fun _ vi _ _ _ => n - (intOf vi).toNat)
  case atStart => exact ⟨0, rfl, Nat.zero_le _, by simpa using A0⟩
  case round =>
   clear A0
   obtain ⟨k, rfl, hk, A0⟩ := hrel
   by_cases hlt : k < n
   ·exact absurd hlt (by have := HZR.out; omega)
   ·obtain rfl : n = k := by omega
    have xm := KM.out _ A0.out.bel
    go_wp2
    go_ret
    exact Acc.gives HB.out A0.out (by rw [List.take_of_length_le (by rw [HN.out]; exact Nat.le_refl _)])
 ·obtain ⟨b, off, ha, hb, hc⟩ := Rows.get HR.out (k := 0) (by rw [HN.out]; exact hpos)
  rw [ha] at HB HR HXX xm ⊢
  clear hb hc hpos
  go_enter Tryz.func42, Tryz.ntmps42
  have x3 := HXX.out 3 _ rfl
  go_wp2_with fail
  generalize w.alloc (.cells #[.slice m.ty'.a m.ty.length m.ty'.c, .slice m.im'.a m.im.length m.im'.c, .slice m.fu'.a m.fu.length m.fu'.c, .slice m.tb'.a m.tb.length m.tb'.c, .slice (some ⟨b, off, none⟩) n m.me'.c, .slice m.gl'.a m.gl.length m.gl'.c, .slice m.ex'.a m.ex.length m.ex'.c, .bool m.st, .int .u32 m.sn, .slice m.el'.a m.el.length m.el'.c, .slice m.da'.a m.da.length m.da'.c] 32) = W0 at HB HR HXX xm x3 ⊢
  refine (u8_gives (n : Int) _ h0 h1).mono ?_
  rintro e0 z0 h
  obtain ⟨v0, rfl, ha0⟩ := Acc.of h
  have A0 := hid ha0
  clear h ha0 xm x3
  have KM := hid (fun (X : World) (h : Below W0.heap.size W0 X) => (h.cell (p := ⟨w.heap.size, 4, none⟩) (by have := World.block_lt_of_cell? _ _ (HXX.out 4 _ rfl); simpa using this)).trans (HXX.out 4 _ rfl))
  have xm := KM.out _ A0.out.bel
  go_wp2
  clear xm
  go_loopw [7, 8, 9, 10] (fun vo vi y9 y10 wr => ∃ k : Nat, vi = .int .i64 k ∧ k ≤ n ∧ Hid (Acc W0 vo (encU (n : Int) ++ (m.me.take k).flatMap meB) wr)) (fun _ vi _ _ _ => n - (intOf vi).toNat)
  case atStart => exact ⟨0, rfl, Nat.zero_le _, by simpa using A0⟩
  case round =>
   clear A0
   obtain ⟨k, rfl, hk, A0⟩ := hrel
   by_cases hlt : k < n
   ·have hkl : k < m.me.length := by rw [HN.out]; exact hlt
    have hki : (k : Int) < (n : Int) := by omega
    obtain ⟨b2, off2, ha2, hb, hc⟩ := Rows.get HR.out hkl
    obtain ⟨rfl, rfl⟩ : b = b2 ∧ off = off2 := by simpa using ha2
    clear ha2
    have FI := FS.out
    have FX := FXH.out
    have HX := hid (FX.me _ (List.getElem_mem hkl))
    have HN0 := FI.siz.n0 _ (List.mem_append_right _ (List.getElem_mem hkl))
    have LN := hid (okLim_le (FX.me _ (List.getElem_mem hkl)) HN0 (by omega))
    have HT := hid (flat_step meB hkl)
    have LK := hid (show (encU (n : Int) ++ (m.me.take k).flatMap meB).length ≤ 1000000000 by have h2 := HFIT.out; unfold FitP at h2; have h3 := flat_take meB m.me k; rw [HN.out] at h2; rw [List.length_append] at h2 ⊢; omega)
    have LXX := hid (show (meB m.me[k]).length ≤ 1000000000 by have h2 := HFIT.out; unfold FitP at h2; have h3 := flat_item meB hkl; rw [List.length_append] at h2; omega)
    clear FI FX
    obtain ⟨x, hxe⟩ : ∃ x, m.me[k] = x := ⟨_, rfl⟩
    rw [hxe] at hc HT LXX HX LN
    obtain ⟨ln, lx, lc⟩ := x
    skip
    dsimp only at HX LN
    have r0 : W0.cell? ⟨b, off + k * 3, none⟩ = some (.int .u32 ln) := hc 0 (by omega) _ rfl
    have r1 : W0.cell? ⟨b, off + k * 3 + 1, none⟩ = some (.int .u32 lx) := hc 1 (by omega) _ rfl
    have r2 : W0.cell? ⟨b, off + k * 3 + 2, none⟩ = some (.bool lc) := hc 2 (by omega) _ rfl
    have K0 := hid (fun (X : World) (h : Below W0.heap.size W0 X) => (h.cell (p := ⟨b, off + k * 3, none⟩) hb).trans r0)
    have K1 := hid (fun (X : World) (h : Below W0.heap.size W0 X) => (h.cell (p := ⟨b, off + k * 3 + 1, none⟩) hb).trans r1)
    have K2 := hid (fun (X : World) (h : Below W0.heap.size W0 X) => (h.cell (p := ⟨b, off + k * 3 + 2, none⟩) hb).trans r2)
    have KB := hid (fun (X : World) (h : Below W0.heap.size W0 X) => KM.out X h)
    clear hc hb hxe r0 r1 r2
    have xm := KB.out _ A0.out.bel
    have c0 := K0.out _ A0.out.bel
    have c1 := K1.out _ A0.out.bel
    have c2 := K2.out _ A0.out.bel
    have L0 := hid LK.out
    go_wp2_with fail
    have C := (fun (X : World) (h : Below W0.heap.size W0 X) => lim8_tl ⟨ln, lx, lc⟩ 65536 HX.out LN.out.1 LN.out.2 X) _ A0.out.bel
    refine C.mono ?_
    clear C
    rintro e0 u0 ⟨pa0, pn0, pc0, rfl, hn, hy, hz, hb⟩
    have B0 := hid (A0.out.call hb)
    have HYY := hid hy
    have HNN := hid hn
    have HZZ := hid hz
    have LY := hid (show (meB ⟨ln, lx, lc⟩).length ≤ 1000000000 by have h := LXX.out; first | exact h | (unfold tbB at h; rw [List.length_cons] at h; unfold meB; omega))
    clear hn hy hz hb A0
    clear xm c0 c1 c2
    go_wp2_with (first | (at_builtin; (refine append_bytes rfl (.tmp 40) (.tmp 41) rfl rfl B0.out.own B0.out.bel B0.out.base pa0 pn0 pc0 rfl HZZ.out HNN.out HYY.out (by have := L0.out; have := LY.out; omega) ?_); intro v1 z1 ho hb hs; refine Hid.out ?_))
    refine hid ?_
    have A1 := hid (Acc.mk ho hb hs)
    have L1 := hid (show ((encU (n : Int) ++ (m.me.take k).flatMap meB) ++ meB ⟨ln, lx, lc⟩).length ≤ 2000000000 from by have h1 := L0.out; have h2 := LY.out; rw [List.length_append]; omega)
    clear ho hb hs HYY HNN HZZ LY B0 L0
    have xm := KB.out _ A1.out.bel
    have c0 := K0.out _ A1.out.bel
    have c1 := K1.out _ A1.out.bel
    have c2 := K2.out _ A1.out.bel
    clear L1
    go_wp2
    go_roundw
    case rel => exact ⟨k + 1, by go_num, by omega, by rw [HT.out]; simpa [meB, List.append_assoc] using A1⟩
    case measure => simp [intOf]; omega
   ·obtain rfl : n = k := by omega
    have xm := KM.out _ A0.out.bel
    go_wp2
    go_ret
    exact Acc.gives HB.out A0.out (by rw [List.take_of_length_le (by rw [HN.out]; exact Nat.le_refl _)])
end Go.Proofs.YtepbjkkakfpjgaaGreatDoor.Enc
namespace Go.Proofs.YtepbjkkakfpjgaaGreatDoor.Enc
open Go.RowKit Leb Go.Proofs.YtepbjkkakfpjgaaGreatDoor.Instr Go.Proofs.YtepbjkkakfpjgaaGreatDoor.Mod
open Go.Proofs.YtepbjkkakfpjgaaGreatDoor.Body (encL codeL PutP)
set_option linter.unusedVariables false
set_option linter.unusedSimpArgs false
set_option maxRecDepth 100000 in
set_option maxHeartbeats 8000000 in
theorem ref_sec6 (m : Md) (w : World) (FI : Fine w m) (hf : FitP glB m.gl 0) : Calls Tryz.prog 43 #[.agg m.v, .int .i64 6] w (Gives w (encU m.gl.length ++ m.gl.flatMap glB)) := by
 have FX := facts_of FI.chk
 have HB := hid ((Below.refl w.heap.size w).alloc (Nat.le_refl _) (.cells m.v 32))
 have X0 := BoxAt.made w m.v 32
 have HR := hid ((FI.at_.on HB.out).gl)
 have HFIT := hid hf
 have FS := hid FI
 have FXH := hid FX
 obtain ⟨n, hn⟩ : ∃ n, m.gl.length = n := ⟨_, rfl⟩
 have HN := hid hn
 have hn5 : n ≤ 16384 := by have := FX.lens; omega
 have h0 : 0 ≤ (n : Int) := by omega
 have h1 : (n : Int) < 4294967296 := by omega
 unfold Md.v at HB X0 HR ⊢
 rw [hn] at HB X0 HR ⊢
 clear FX hn hf FI
 have xm := X0 5 _ rfl
 have HXX := hid X0
 clear X0
 go_enter Tryz.func43, Tryz.ntmps43
 go_wp2_with fail
 generalize w.alloc (.cells #[.slice m.ty'.a m.ty.length m.ty'.c, .slice m.im'.a m.im.length m.im'.c, .slice m.fu'.a m.fu.length m.fu'.c, .slice m.tb'.a m.tb.length m.tb'.c, .slice m.me'.a m.me.length m.me'.c, .slice m.gl'.a n m.gl'.c, .slice m.ex'.a m.ex.length m.ex'.c, .bool m.st, .int .u32 m.sn, .slice m.el'.a m.el.length m.el'.c, .slice m.da'.a m.da.length m.da'.c] 32) = W0 at HB HR HXX xm ⊢
 refine (u8_gives (n : Int) _ h0 h1).mono ?_
 rintro e0 u0 h
 obtain ⟨a0, n0, c0, rfl, hn0, hy0, hz0, hb0⟩ := tl_own (encU_bytes _) (by have := encU_few (n : Int); omega) h
 have AS := hid ((Acc.start W0).call hb0)
 have HY := hid hy0
 have HN0 := hid hn0
 have HZ0 := hid hz0
 have HE0 := hid (encU_few (n : Int))
 clear h hn0 hy0 hz0 hb0 xm
 go_wp2_with (first | (at_builtin; (refine append_bytes rfl (.tmp 15) (.tmp 19) rfl rfl AS.out.own AS.out.bel AS.out.base a0 n0 c0 rfl HZ0.out HN0.out HY.out (by have := HE0.out; simp; omega) ?_); intro v0 z0 ho hb hs; refine Hid.out ?_))
 refine hid ?_
 have A0 := hid (Acc.mk ho hb hs)
 rw [List.nil_append] at A0
 clear ho hb hs AS HY HN0 HZ0 HE0
 have KM := hid (fun (X : World) (h : Below W0.heap.size W0 X) => (h.cell (p := ⟨w.heap.size, 5, none⟩) (by have := World.block_lt_of_cell? _ _ (HXX.out 5 _ rfl); simpa using this)).trans (HXX.out 5 _ rfl))
 have xm := KM.out _ A0.out.bel
 go_wp2
 clear xm
 go_loopw [5, 6, 7] (fun vo vi y7 wr => ∃ k : Nat, vi = .int .i64 k ∧ k ≤ n ∧ Hid (Acc W0 vo (encU (n : Int) ++ (m.gl.take k).flatMap glB) wr)) (fun _ vi _ _ => n - (intOf vi).toNat)
 case atStart => exact ⟨0, rfl, Nat.zero_le _, by simpa using A0⟩
 case round =>
  clear A0
  obtain ⟨k, rfl, hk, A0⟩ := hrel
  by_cases hlt : k < n
  ·have hkl : k < m.gl.length := by rw [HN.out]; exact hlt
   have hki : (k : Int) < (n : Int) := by omega
   obtain ⟨b, off, ha, hb, hc⟩ := Rows.get HR.out hkl
   have FI := FS.out
   have FX := FXH.out
   have HX := hid (code_facts FI (mem_gl (List.getElem_mem hkl)))
   have HT := hid (flat_step glB hkl)
   have LK := hid (show (encU (n : Int) ++ (m.gl.take k).flatMap glB).length ≤ 1000000000 by have h2 := HFIT.out; unfold FitP at h2; have h3 := flat_take glB m.gl k; rw [HN.out] at h2; rw [List.length_append] at h2 ⊢; omega)
   have LXX := hid (show (glB m.gl[k]).length ≤ 1000000000 by have h2 := HFIT.out; unfold FitP at h2; have h3 := flat_item glB hkl; rw [List.length_append] at h2; omega)
   clear FI FX
   obtain ⟨x, hxe⟩ : ∃ x, m.gl[k] = x := ⟨_, rfl⟩
   rw [hxe] at hc HT LXX HX
   obtain ⟨mu, la, lc, lt⟩ := x
   skip
   obtain ⟨ln, hln⟩ : ∃ n, lt.len = n := ⟨_, rfl⟩
   have HLN := hid hln
   have r0 : W0.cell? ⟨b, off + k * 2, none⟩ = some (.bool mu) := hc 0 (by omega) _ rfl
   have r1 : W0.cell? ⟨b, off + k * 2 + 1, none⟩ = some (.slice la lt.len lc) := hc 1 (by omega) _ rfl
   rw [hln] at r1
   have K0 := hid (fun (X : World) (h : Below W0.heap.size W0 X) => (h.cell (p := ⟨b, off + k * 2, none⟩) hb).trans r0)
   have K1 := hid (fun (X : World) (h : Below W0.heap.size W0 X) => (h.cell (p := ⟨b, off + k * 2 + 1, none⟩) hb).trans r1)
   have KB := hid (fun (X : World) (h : Below W0.heap.size W0 X) => KM.out X h)
   rw [ha] at KB
   clear hc hb hxe ha r0 r1 hln
   cases mu with
   | true =>
    have xm := KB.out _ A0.out.bel
    have c0 := K0.out _ A0.out.bel
    have c1 := K1.out _ A0.out.bel
    have L0 := hid LK.out
    have HY2 := hid (lit_two wr 127 1 (by omega) (by omega) 5)
    have AL := hid (A0.out.call ((Below.refl _ _).alloc (Nat.le_refl _) (.cells #[.int .u8 127, .int .u8 1] 5)))
    go_wp2_with (first | (at_builtin; (refine append_lie rfl (.tmp 34) (.tmp 36) rfl rfl AL.out (some ⟨wr.heap.size, 0, none⟩) 2 2 rfl rfl HY2.out (by have := L0.out; simp only [List.length_cons, List.length_nil]; omega) ?_); intro v1 z1 ha1; refine Hid.out ?_))
    refine hid ?_
    have A1 := hid ha1
    have L1 := hid (show ((encU (n : Int) ++ (m.gl.take k).flatMap glB) ++ [(127 : Int), 1]).length ≤ 2000000000 from by have h1 := L0.out; rw [List.length_append]; simp only [List.length_cons, List.length_nil]; omega)
    clear ha1 A0 AL HY2 L0
    clear xm c0 c1
    have xm := KB.out _ A1.out.bel
    have c0 := K0.out _ A1.out.bel
    have c1 := K1.out _ A1.out.bel
    go_wp2_with fail
    have C := (fun (X : World) (h : Below W0.heap.size W0 X) => (by have C := code8_tl ⟨la, lc, lt⟩ X (HX.out.1.on (HB.out.trans (h.mono HB.out.size))) HX.out.2.1 HX.out.2.2.1 HX.out.2.2.2.1 HX.out.2.2.2.2; dsimp only at C; rw [HLN.out] at C; exact C)) _ A1.out.bel
    refine C.mono ?_
    clear C
    rintro e1 u1 ⟨pa1, pn1, pc1, rfl, hn, hy, hz, hb⟩
    have B1 := hid (A1.out.call hb)
    have HYY := hid hy
    have HNN := hid hn
    have HZZ := hid hz
    have LY := hid (show (insB ⟨la, lc, lt⟩).length ≤ 1000000000 by have h := LXX.out; simp only [tyB, impB, fnB, tbB, meB, glB, exB, elB, coB, daB, List.length_append, List.length_cons] at h ⊢; omega)
    clear hn hy hz hb A1
    clear xm c0 c1
    go_wp2_with (first | (at_builtin; (refine append_bytes rfl (.tmp 38) (.tmp 45) rfl rfl B1.out.own B1.out.bel B1.out.base pa1 pn1 pc1 rfl HZZ.out HNN.out HYY.out (by have := L1.out; have := LY.out; omega) ?_); intro v2 z2 ho hb hs; refine Hid.out ?_))
    refine hid ?_
    have A2 := hid (Acc.mk ho hb hs)
    have L2 := hid (show (((encU (n : Int) ++ (m.gl.take k).flatMap glB) ++ [(127 : Int), 1]) ++ insB ⟨la, lc, lt⟩).length ≤ 3000000000 from by have h1 := L1.out; have h2 := LY.out; rw [List.length_append]; omega)
    clear ho hb hs HYY HNN HZZ LY B1 L1
    have xm := KB.out _ A2.out.bel
    have c0 := K0.out _ A2.out.bel
    have c1 := K1.out _ A2.out.bel
    clear L2
    go_wp2
    go_roundw
    case rel => exact ⟨k + 1, by go_num, by omega, by rw [HT.out]; simpa [glB, List.append_assoc] using A2⟩
    case measure => simp [intOf]; omega
   | false =>
    have xm := KB.out _ A0.out.bel
    have c0 := K0.out _ A0.out.bel
    have c1 := K1.out _ A0.out.bel
    have L0 := hid LK.out
    have HY2 := hid (lit_two wr 127 0 (by omega) (by omega) 5)
    have AL := hid (A0.out.call ((Below.refl _ _).alloc (Nat.le_refl _) (.cells #[.int .u8 127, .int .u8 0] 5)))
    go_wp2_with (first | (at_builtin; (refine append_lie rfl (.tmp 34) (.tmp 36) rfl rfl AL.out (some ⟨wr.heap.size, 0, none⟩) 2 2 rfl rfl HY2.out (by have := L0.out; simp only [List.length_cons, List.length_nil]; omega) ?_); intro v1 z1 ha1; refine Hid.out ?_))
    refine hid ?_
    have A1 := hid ha1
    have L1 := hid (show ((encU (n : Int) ++ (m.gl.take k).flatMap glB) ++ [(127 : Int), 0]).length ≤ 2000000000 from by have h1 := L0.out; rw [List.length_append]; simp only [List.length_cons, List.length_nil]; omega)
    clear ha1 A0 AL HY2 L0
    clear xm c0 c1
    have xm := KB.out _ A1.out.bel
    have c0 := K0.out _ A1.out.bel
    have c1 := K1.out _ A1.out.bel
    go_wp2_with fail
    have C := (fun (X : World) (h : Below W0.heap.size W0 X) => (by have C := code8_tl ⟨la, lc, lt⟩ X (HX.out.1.on (HB.out.trans (h.mono HB.out.size))) HX.out.2.1 HX.out.2.2.1 HX.out.2.2.2.1 HX.out.2.2.2.2; dsimp only at C; rw [HLN.out] at C; exact C)) _ A1.out.bel
    refine C.mono ?_
    clear C
    rintro e1 u1 ⟨pa1, pn1, pc1, rfl, hn, hy, hz, hb⟩
    have B1 := hid (A1.out.call hb)
    have HYY := hid hy
    have HNN := hid hn
    have HZZ := hid hz
    have LY := hid (show (insB ⟨la, lc, lt⟩).length ≤ 1000000000 by have h := LXX.out; simp only [tyB, impB, fnB, tbB, meB, glB, exB, elB, coB, daB, List.length_append, List.length_cons] at h ⊢; omega)
    clear hn hy hz hb A1
    clear xm c0 c1
    go_wp2_with (first | (at_builtin; (refine append_bytes rfl (.tmp 38) (.tmp 45) rfl rfl B1.out.own B1.out.bel B1.out.base pa1 pn1 pc1 rfl HZZ.out HNN.out HYY.out (by have := L1.out; have := LY.out; omega) ?_); intro v2 z2 ho hb hs; refine Hid.out ?_))
    refine hid ?_
    have A2 := hid (Acc.mk ho hb hs)
    have L2 := hid (show (((encU (n : Int) ++ (m.gl.take k).flatMap glB) ++ [(127 : Int), 0]) ++ insB ⟨la, lc, lt⟩).length ≤ 3000000000 from by have h1 := L1.out; have h2 := LY.out; rw [List.length_append]; omega)
    clear ho hb hs HYY HNN HZZ LY B1 L1
    have xm := KB.out _ A2.out.bel
    have c0 := K0.out _ A2.out.bel
    have c1 := K1.out _ A2.out.bel
    clear L2
    go_wp2
    go_roundw
    case rel => exact ⟨k + 1, by go_num, by omega, by rw [HT.out]; simpa [glB, List.append_assoc] using A2⟩
    case measure => simp [intOf]; omega
  ·obtain rfl : n = k := by omega
   have xm := KM.out _ A0.out.bel
   go_wp2
   go_ret
   exact Acc.gives HB.out A0.out (by rw [List.take_of_length_le (by rw [HN.out]; exact Nat.le_refl _)])
set_option maxRecDepth 100000 in
set_option maxHeartbeats 8000000 in
theorem ref_sec7 (m : Md) (w : World) (FI : Fine w m) (hf : FitP exB m.ex 0) : Calls Tryz.prog 43 #[.agg m.v, .int .i64 7] w (Gives w (encU m.ex.length ++ m.ex.flatMap exB)) := by
 have FX := facts_of FI.chk
 have HB := hid ((Below.refl w.heap.size w).alloc (Nat.le_refl _) (.cells m.v 32))
 have X0 := BoxAt.made w m.v 32
 have HR := hid ((FI.at_.on HB.out).ex)
 have HFIT := hid hf
 have FS := hid FI
 have FXH := hid FX
 obtain ⟨n, hn⟩ : ∃ n, m.ex.length = n := ⟨_, rfl⟩
 have HN := hid hn
 have hn5 : n ≤ 16384 := by have := FX.lens; omega
 have h0 : 0 ≤ (n : Int) := by omega
 have h1 : (n : Int) < 4294967296 := by omega
 unfold Md.v at HB X0 HR ⊢
 rw [hn] at HB X0 HR ⊢
 clear FX hn hf FI
 have xm := X0 6 _ rfl
 have HXX := hid X0
 clear X0
 go_enter Tryz.func43, Tryz.ntmps43
 go_wp2_with fail
 generalize w.alloc (.cells #[.slice m.ty'.a m.ty.length m.ty'.c, .slice m.im'.a m.im.length m.im'.c, .slice m.fu'.a m.fu.length m.fu'.c, .slice m.tb'.a m.tb.length m.tb'.c, .slice m.me'.a m.me.length m.me'.c, .slice m.gl'.a m.gl.length m.gl'.c, .slice m.ex'.a n m.ex'.c, .bool m.st, .int .u32 m.sn, .slice m.el'.a m.el.length m.el'.c, .slice m.da'.a m.da.length m.da'.c] 32) = W0 at HB HR HXX xm ⊢
 refine (u8_gives (n : Int) _ h0 h1).mono ?_
 rintro e0 u0 h
 obtain ⟨a0, n0, c0, rfl, hn0, hy0, hz0, hb0⟩ := tl_own (encU_bytes _) (by have := encU_few (n : Int); omega) h
 have AS := hid ((Acc.start W0).call hb0)
 have HY := hid hy0
 have HN0 := hid hn0
 have HZ0 := hid hz0
 have HE0 := hid (encU_few (n : Int))
 clear h hn0 hy0 hz0 hb0 xm
 go_wp2_with (first | (at_builtin; (refine append_bytes rfl (.tmp 49) (.tmp 53) rfl rfl AS.out.own AS.out.bel AS.out.base a0 n0 c0 rfl HZ0.out HN0.out HY.out (by have := HE0.out; simp; omega) ?_); intro v0 z0 ho hb hs; refine Hid.out ?_))
 refine hid ?_
 have A0 := hid (Acc.mk ho hb hs)
 rw [List.nil_append] at A0
 clear ho hb hs AS HY HN0 HZ0 HE0
 have KM := hid (fun (X : World) (h : Below W0.heap.size W0 X) => (h.cell (p := ⟨w.heap.size, 6, none⟩) (by have := World.block_lt_of_cell? _ _ (HXX.out 6 _ rfl); simpa using this)).trans (HXX.out 6 _ rfl))
 have xm := KM.out _ A0.out.bel
 go_wp2
 clear xm
 go_loopw [5, 8] (fun vo vi wr => ∃ k : Nat, vi = .int .i64 k ∧ k ≤ n ∧ Hid (Acc W0 vo (encU (n : Int) ++ (m.ex.take k).flatMap exB) wr)) (fun _ vi _ => n - (intOf vi).toNat)
 case atStart => exact ⟨0, rfl, Nat.zero_le _, by simpa using A0⟩
 case round =>
  clear A0
  obtain ⟨k, rfl, hk, A0⟩ := hrel
  by_cases hlt : k < n
  ·have hkl : k < m.ex.length := by rw [HN.out]; exact hlt
   have hki : (k : Int) < (n : Int) := by omega
   obtain ⟨b, off, ha, hb, hc⟩ := Rows.get HR.out hkl
   have FI := FS.out
   have FX := FXH.out
   have HX := hid (FX.ex _ (List.getElem_mem hkl))
   have HI := hid (FI.siz.ei _ (List.getElem_mem hkl))
   have HT := hid (flat_step exB hkl)
   have LK := hid (show (encU (n : Int) ++ (m.ex.take k).flatMap exB).length ≤ 1000000000 by have h2 := HFIT.out; unfold FitP at h2; have h3 := flat_take exB m.ex k; rw [HN.out] at h2; rw [List.length_append] at h2 ⊢; omega)
   have LXX := hid (show (exB m.ex[k]).length ≤ 1000000000 by have h2 := HFIT.out; unfold FitP at h2; have h3 := flat_item exB hkl; rw [List.length_append] at h2; omega)
   clear FI FX
   obtain ⟨x, hxe⟩ : ∃ x, m.ex[k] = x := ⟨_, rfl⟩
   rw [hxe] at hc HT LXX HX HI
   obtain ⟨na, kk, ii⟩ := x
   skip
   dsimp only at HX HI
   have r0 : W0.cell? ⟨b, off + k * 3, none⟩ = some (.string na) := hc 0 (by omega) _ rfl
   have r1 : W0.cell? ⟨b, off + k * 3 + 1, none⟩ = some (.int .i64 kk) := hc 1 (by omega) _ rfl
   have r2 : W0.cell? ⟨b, off + k * 3 + 2, none⟩ = some (.int .u32 ii) := hc 2 (by omega) _ rfl
   have K0 := hid (fun (X : World) (h : Below W0.heap.size W0 X) => (h.cell (p := ⟨b, off + k * 3, none⟩) hb).trans r0)
   have K1 := hid (fun (X : World) (h : Below W0.heap.size W0 X) => (h.cell (p := ⟨b, off + k * 3 + 1, none⟩) hb).trans r1)
   have K2 := hid (fun (X : World) (h : Below W0.heap.size W0 X) => (h.cell (p := ⟨b, off + k * 3 + 2, none⟩) hb).trans r2)
   have KB := hid (fun (X : World) (h : Below W0.heap.size W0 X) => KM.out X h)
   rw [ha] at KB
   clear hc hb hxe ha r0 r1 r2
   have hw := u8_id kk HX.out.2.2.1 HX.out.2.2.2
   have xm := KB.out _ A0.out.bel
   have c0 := K0.out _ A0.out.bel
   have c1 := K1.out _ A0.out.bel
   have c2 := K2.out _ A0.out.bel
   have L0 := hid LK.out
   go_wp2_with fail
   have C := (fun (X : World) (h : Below W0.heap.size W0 X) => name8_tl na X (by have := HX.out.1; first | omega | (dsimp only at this; omega)) HX.out.2.1) _ A0.out.bel
   refine C.mono ?_
   clear C
   rintro e0 u0 ⟨pa0, pn0, pc0, rfl, hn, hy, hz, hb⟩
   have B0 := hid (A0.out.call hb)
   have HYY := hid hy
   have HNN := hid hn
   have HZZ := hid hz
   have LY := hid (show (nameB na).length ≤ 1000000000 by have h := LXX.out; simp only [tyB, impB, fnB, tbB, meB, glB, exB, elB, coB, daB, List.length_append, List.length_cons] at h ⊢; omega)
   clear hn hy hz hb A0
   clear xm c0 c1 c2
   go_wp2_with (first | (at_builtin; (refine append_bytes rfl (.tmp 62) (.tmp 69) rfl rfl B0.out.own B0.out.bel B0.out.base pa0 pn0 pc0 rfl HZZ.out HNN.out HYY.out (by have := L0.out; have := LY.out; omega) ?_); intro v1 z1 ho hb hs; refine Hid.out ?_))
   refine hid ?_
   have A1 := hid (Acc.mk ho hb hs)
   have L1 := hid (show ((encU (n : Int) ++ (m.ex.take k).flatMap exB) ++ nameB na).length ≤ 2000000000 from by have h1 := L0.out; have h2 := LY.out; rw [List.length_append]; omega)
   clear ho hb hs HYY HNN HZZ LY B0 L0
   have xm := KB.out _ A1.out.bel
   have c0 := K0.out _ A1.out.bel
   have c1 := K1.out _ A1.out.bel
   have c2 := K2.out _ A1.out.bel
   go_wp2_with (first | (at_builtin; (refine append_byte rfl (.tmp 71) (.tmp 79) rfl (kk) rfl A1.out.own A1.out.bel A1.out.base rfl (by have := L1.out; omega) ?_); intro v2 z2 ho hb hs; refine Hid.out ?_))
   refine hid ?_
   have A2 := hid (Acc.mk ho hb hs)
   have L2 := hid (show (((encU (n : Int) ++ (m.ex.take k).flatMap exB) ++ nameB na) ++ [(kk : Int)]).length ≤ 3000000000 from by have h1 := L1.out; rw [List.length_append]; simp only [List.length_cons, List.length_nil]; omega)
   clear ho hb hs A1 L1
   clear xm c0 c1 c2
   have xm := KB.out _ A2.out.bel
   have c0 := K0.out _ A2.out.bel
   have c1 := K1.out _ A2.out.bel
   have c2 := K2.out _ A2.out.bel
   go_wp2_with fail
   have C := (fun (X : World) (h : Below W0.heap.size W0 X) => U8_tl ii X HI.out.1 HI.out.2) _ A2.out.bel
   refine C.mono ?_
   clear C
   rintro e2 u2 ⟨pa2, pn2, pc2, rfl, hn, hy, hz, hb⟩
   have B2 := hid (A2.out.call hb)
   have HYY := hid hy
   have HNN := hid hn
   have HZZ := hid hz
   have LY := hid (show (encU ii).length ≤ 1000000000 by have := encU_few (ii); omega)
   clear hn hy hz hb A2
   clear xm c0 c1 c2
   go_wp2_with (first | (at_builtin; (refine append_bytes rfl (.tmp 81) (.tmp 88) rfl rfl B2.out.own B2.out.bel B2.out.base pa2 pn2 pc2 rfl HZZ.out HNN.out HYY.out (by have := L2.out; have := LY.out; omega) ?_); intro v3 z3 ho hb hs; refine Hid.out ?_))
   refine hid ?_
   have A3 := hid (Acc.mk ho hb hs)
   have L3 := hid (show ((((encU (n : Int) ++ (m.ex.take k).flatMap exB) ++ nameB na) ++ [(kk : Int)]) ++ encU ii).length ≤ 4000000000 from by have h1 := L2.out; have h2 := LY.out; rw [List.length_append]; omega)
   clear ho hb hs HYY HNN HZZ LY B2 L2
   have xm := KB.out _ A3.out.bel
   have c0 := K0.out _ A3.out.bel
   have c1 := K1.out _ A3.out.bel
   have c2 := K2.out _ A3.out.bel
   clear L3
   go_wp2
   go_roundw
   case rel => exact ⟨k + 1, by go_num, by omega, by rw [HT.out]; simpa [exB, List.append_assoc] using A3⟩
   case measure => simp [intOf]; omega
  ·obtain rfl : n = k := by omega
   have xm := KM.out _ A0.out.bel
   go_wp2
   go_ret
   exact Acc.gives HB.out A0.out (by rw [List.take_of_length_le (by rw [HN.out]; exact Nat.le_refl _)])
set_option maxRecDepth 100000 in
set_option maxHeartbeats 2000000 in
theorem ref_sec8 (m : Md) (w : World) (FI : Fine w m) : Calls Tryz.prog 43 #[.agg m.v, .int .i64 8] w (Gives w (encU m.sn)) := by
 have HB := hid ((Below.refl w.heap.size w).alloc (Nat.le_refl _) (.cells m.v 32))
 have X0 := BoxAt.made w m.v 32
 have h0 := FI.siz.sn.1
 have h1 := FI.siz.sn.2
 have xm := X0 8 _ rfl
 unfold Md.v at HB xm ⊢
 clear X0 FI
 go_enter Tryz.func43, Tryz.ntmps43
 go_wp2_with fail
 refine (refU_any m.sn _ h0 h1).mono ?_
 rintro e w1 ⟨v, rfl, ho, hb⟩
 go_wp2
 go_ret
 exact ⟨v, rfl, ho.mono HB.out.size, HB.out.trans (hb.mono HB.out.size)⟩
end Go.Proofs.YtepbjkkakfpjgaaGreatDoor.Enc
namespace Go.Proofs.YtepbjkkakfpjgaaGreatDoor.Enc
open Go.RowKit Leb Go.Proofs.YtepbjkkakfpjgaaGreatDoor.Instr Go.Proofs.YtepbjkkakfpjgaaGreatDoor.Mod
open Go.Proofs.YtepbjkkakfpjgaaGreatDoor.Body (encL codeL PutP)
set_option linter.unusedVariables false
set_option linter.unusedSimpArgs false
set_option maxRecDepth 100000 in
set_option maxHeartbeats 8000000 in
theorem ref_sec9 (m : Md) (w : World) (FI : Fine w m) (hf : FitP elB m.el 0) : Calls Tryz.prog 44 #[.agg m.v, .int .i64 9] w (Gives w (encU m.el.length ++ m.el.flatMap elB)) := by
 have FX := facts_of FI.chk
 have HB := hid ((Below.refl w.heap.size w).alloc (Nat.le_refl _) (.cells m.v 32))
 have X0 := BoxAt.made w m.v 32
 have HR := hid ((FI.at_.on HB.out).el)
 have HFIT := hid hf
 have FS := hid FI
 have FXH := hid FX
 obtain ⟨n, hn⟩ : ∃ n, m.el.length = n := ⟨_, rfl⟩
 have HN := hid hn
 have hn5 : n ≤ 16384 := by have := FX.lens; omega
 have h0 : 0 ≤ (n : Int) := by omega
 have h1 : (n : Int) < 4294967296 := by omega
 unfold Md.v at HB X0 HR ⊢
 rw [hn] at HB X0 HR ⊢
 clear FX hn hf FI
 have xm := X0 9 _ rfl
 have HXX := hid X0
 clear X0
 go_enter Tryz.func44, Tryz.ntmps44
 go_wp2_with fail
 generalize w.alloc (.cells #[.slice m.ty'.a m.ty.length m.ty'.c, .slice m.im'.a m.im.length m.im'.c, .slice m.fu'.a m.fu.length m.fu'.c, .slice m.tb'.a m.tb.length m.tb'.c, .slice m.me'.a m.me.length m.me'.c, .slice m.gl'.a m.gl.length m.gl'.c, .slice m.ex'.a m.ex.length m.ex'.c, .bool m.st, .int .u32 m.sn, .slice m.el'.a n m.el'.c, .slice m.da'.a m.da.length m.da'.c] 32) = W0 at HB HR HXX xm ⊢
 refine (u8_gives (n : Int) _ h0 h1).mono ?_
 rintro e0 u0 h
 obtain ⟨a0, n0, c0, rfl, hn0, hy0, hz0, hb0⟩ := tl_own (encU_bytes _) (by have := encU_few (n : Int); omega) h
 have AS := hid ((Acc.start W0).call hb0)
 have HY := hid hy0
 have HN0 := hid hn0
 have HZ0 := hid hz0
 have HE0 := hid (encU_few (n : Int))
 clear h hn0 hy0 hz0 hb0 xm
 go_wp2_with (first | (at_builtin; (refine append_bytes rfl (.tmp 58) (.tmp 62) rfl rfl AS.out.own AS.out.bel AS.out.base a0 n0 c0 rfl HZ0.out HN0.out HY.out (by have := HE0.out; simp; omega) ?_); intro v0 z0 ho hb hs; refine Hid.out ?_))
 refine hid ?_
 have A0 := hid (Acc.mk ho hb hs)
 rw [List.nil_append] at A0
 clear ho hb hs AS HY HN0 HZ0 HE0
 have KM := hid (fun (X : World) (h : Below W0.heap.size W0 X) => (h.cell (p := ⟨w.heap.size, 9, none⟩) (by have := World.block_lt_of_cell? _ _ (HXX.out 9 _ rfl); simpa using this)).trans (HXX.out 9 _ rfl))
 have xm := KM.out _ A0.out.bel
 go_wp2
 clear xm
 go_loopw [5, 6, 7] (fun vo vi y7 wr => ∃ k : Nat, vi = .int .i64 k ∧ k ≤ n ∧ Hid (Acc W0 vo (encU (n : Int) ++ (m.el.take k).flatMap elB) wr)) (fun _ vi _ _ => n - (intOf vi).toNat)
 case atStart => exact ⟨0, rfl, Nat.zero_le _, by simpa using A0⟩
 case round =>
  clear A0
  obtain ⟨k, rfl, hk, A0⟩ := hrel
  by_cases hlt : k < n
  ·have hkl : k < m.el.length := by rw [HN.out]; exact hlt
   have hki : (k : Int) < (n : Int) := by omega
   obtain ⟨b, off, ha, hb, hc⟩ := Rows.get HR.out hkl
   have FI := FS.out
   have FX := FXH.out
   have HX := hid (code_facts FI (mem_el (List.getElem_mem hkl)))
   have HF := hid (FX.el _ (List.getElem_mem hkl))
   have HZ := hid (FI.siz.ef _ (List.getElem_mem hkl))
   have HTG := hid (FI.at_.fs _ (List.getElem_mem hkl))
   have HT := hid (flat_step elB hkl)
   have LK := hid (show (encU (n : Int) ++ (m.el.take k).flatMap elB).length ≤ 1000000000 by have h2 := HFIT.out; unfold FitP at h2; have h3 := flat_take elB m.el k; rw [HN.out] at h2; rw [List.length_append] at h2 ⊢; omega)
   have LXX := hid (show (elB m.el[k]).length ≤ 1000000000 by have h2 := HFIT.out; unfold FitP at h2; have h3 := flat_item elB hkl; rw [List.length_append] at h2; omega)
   clear FI FX
   obtain ⟨x, hxe⟩ : ∃ x, m.el[k] = x := ⟨_, rfl⟩
   rw [hxe] at hc HT LXX HX HF HZ HTG
   obtain ⟨⟨la, lc, lt⟩, fa, fc, fs⟩ := x
   skip
   dsimp only at HX HF HZ HTG
   obtain ⟨ln, hln⟩ : ∃ n, lt.len = n := ⟨_, rfl⟩
   have HLN := hid hln
   obtain ⟨fn, hfn⟩ : ∃ n, fs.length = n := ⟨_, rfl⟩
   have HFN := hid hfn
   have r0 : W0.cell? ⟨b, off + k * 2, none⟩ = some (.slice la lt.len lc) := hc 0 (by omega) _ rfl
   rw [hln] at r0
   have r1 : W0.cell? ⟨b, off + k * 2 + 1, none⟩ = some (.slice fa fs.length fc) := hc 1 (by omega) _ rfl
   rw [hfn] at r1
   have K0 := hid (fun (X : World) (h : Below W0.heap.size W0 X) => (h.cell (p := ⟨b, off + k * 2, none⟩) hb).trans r0)
   have K1 := hid (fun (X : World) (h : Below W0.heap.size W0 X) => (h.cell (p := ⟨b, off + k * 2 + 1, none⟩) hb).trans r1)
   have KB := hid (fun (X : World) (h : Below W0.heap.size W0 X) => KM.out X h)
   rw [ha] at KB
   clear hc hb hxe ha r0 r1 hln hfn
   have xm := KB.out _ A0.out.bel
   have c0 := K0.out _ A0.out.bel
   have c1 := K1.out _ A0.out.bel
   have L0 := hid LK.out
   go_wp2_with (first | (at_builtin; (refine append_byte rfl (.tmp 71) (.tmp 72) rfl (0) rfl A0.out.own A0.out.bel A0.out.base rfl (by have := L0.out; omega) ?_); intro v1 z1 ho hb hs; refine Hid.out ?_))
   refine hid ?_
   have A1 := hid (Acc.mk ho hb hs)
   have L1 := hid (show ((encU (n : Int) ++ (m.el.take k).flatMap elB) ++ [(0 : Int)]).length ≤ 2000000000 from by have h1 := L0.out; rw [List.length_append]; simp only [List.length_cons, List.length_nil]; omega)
   clear ho hb hs A0 L0
   clear xm c0 c1
   have xm := KB.out _ A1.out.bel
   have c0 := K0.out _ A1.out.bel
   have c1 := K1.out _ A1.out.bel
   go_wp2_with fail
   have C := (fun (X : World) (h : Below W0.heap.size W0 X) => (by have C := code8_tl ⟨la, lc, lt⟩ X (HX.out.1.on (HB.out.trans (h.mono HB.out.size))) HX.out.2.1 HX.out.2.2.1 HX.out.2.2.2.1 HX.out.2.2.2.2; dsimp only at C; rw [HLN.out] at C; exact C)) _ A1.out.bel
   refine C.mono ?_
   clear C
   rintro e1 u1 ⟨pa1, pn1, pc1, rfl, hn, hy, hz, hb⟩
   have B1 := hid (A1.out.call hb)
   have HYY := hid hy
   have HNN := hid hn
   have HZZ := hid hz
   have LY := hid (show (insB ⟨la, lc, lt⟩).length ≤ 1000000000 by have h := LXX.out; simp only [tyB, impB, fnB, tbB, meB, glB, exB, elB, coB, daB, List.length_append, List.length_cons] at h ⊢; omega)
   clear hn hy hz hb A1
   clear xm c0 c1
   go_wp2_with (first | (at_builtin; (refine append_bytes rfl (.tmp 74) (.tmp 81) rfl rfl B1.out.own B1.out.bel B1.out.base pa1 pn1 pc1 rfl HZZ.out HNN.out HYY.out (by have := L1.out; have := LY.out; omega) ?_); intro v2 z2 ho hb hs; refine Hid.out ?_))
   refine hid ?_
   have A2 := hid (Acc.mk ho hb hs)
   have L2 := hid (show (((encU (n : Int) ++ (m.el.take k).flatMap elB) ++ [(0 : Int)]) ++ insB ⟨la, lc, lt⟩).length ≤ 3000000000 from by have h1 := L1.out; have h2 := LY.out; rw [List.length_append]; omega)
   clear ho hb hs HYY HNN HZZ LY B1 L1
   have xm := KB.out _ A2.out.bel
   have c0 := K0.out _ A2.out.bel
   have c1 := K1.out _ A2.out.bel
   go_wp2_with fail
   have C := (fun (X : World) (h : Below W0.heap.size W0 X) => u8_tl (fn : Int) X (by omega) (by have := HF.out; have := HFN.out; first | omega | (dsimp only at *; omega))) _ A2.out.bel
   refine C.mono ?_
   clear C
   rintro e2 u2 ⟨pa2, pn2, pc2, rfl, hn, hy, hz, hb⟩
   have B2 := hid (A2.out.call hb)
   have HYY := hid hy
   have HNN := hid hn
   have HZZ := hid hz
   have LY := hid (show (encU (fn : Int)).length ≤ 1000000000 by have := encU_few ((fn : Int)); omega)
   clear hn hy hz hb A2
   clear xm c0 c1
   go_wp2_with (first | (at_builtin; (refine append_bytes rfl (.tmp 83) (.tmp 91) rfl rfl B2.out.own B2.out.bel B2.out.base pa2 pn2 pc2 rfl HZZ.out HNN.out HYY.out (by have := L2.out; have := LY.out; omega) ?_); intro v3 z3 ho hb hs; refine Hid.out ?_))
   refine hid ?_
   have A3 := hid (Acc.mk ho hb hs)
   have L3 := hid (show ((((encU (n : Int) ++ (m.el.take k).flatMap elB) ++ [(0 : Int)]) ++ insB ⟨la, lc, lt⟩) ++ encU (fn : Int)).length ≤ 4000000000 from by have h1 := L2.out; have h2 := LY.out; rw [List.length_append]; omega)
   clear ho hb hs HYY HNN HZZ LY B2 L2
   have xm := KB.out _ A3.out.bel
   have c0 := K0.out _ A3.out.bel
   have c1 := K1.out _ A3.out.bel
   clear xm c0 c1
   have xm := KB.out _ A3.out.bel
   have c0 := K0.out _ A3.out.bel
   have c1 := K1.out _ A3.out.bel
   go_wp2
   clear xm c0 c1
   go_loopw [5, 7] (fun vo vi wq => ∃ i : Nat, vi = .int .i64 i ∧ i ≤ fn ∧ Hid (Acc W0 vo (((((encU (n : Int) ++ (m.el.take k).flatMap elB) ++ [(0 : Int)]) ++ insB ⟨la, lc, lt⟩) ++ encU (fn : Int)) ++ (fs.take i).flatMap encU) wq)) (fun _ vi _ => fn - (intOf vi).toNat)
   case atStart => exact ⟨0, rfl, Nat.zero_le _, by simpa using A3⟩
   case round =>
    clear A3
    obtain ⟨i, rfl, hi, AI⟩ := hrel
    by_cases hil : i < fn
    ·have hil2 : i < fs.length := by rw [HFN.out]; exact hil
     have hii : (i : Int) < (fn : Int) := by omega
     have hfn5 : fn ≤ 16384 := by have h1 := HF.out; have h2 := HFN.out; first | omega | (dsimp only at *; omega)
     have xm := KB.out _ AI.out.bel
     have c0 := K0.out _ AI.out.bel
     have c1 := K1.out _ AI.out.bel
     obtain ⟨b2, o2, hfa, hb2, hc2⟩ := tags_some HTG.out hil2
     try dsimp only at hfa
     rw [hfa] at c1
     have ce := (HB.out.trans (AI.out.bel.mono HB.out.size)).cell (p := ⟨b2, o2 + i, none⟩) hb2
     rw [hc2 i hil2] at ce
     have hzz := HZ.out _ (List.getElem_mem hil2)
     obtain ⟨zi, hzi⟩ : ∃ z, fs[i] = z := ⟨_, rfl⟩
     rw [getD_lt hil2] at ce
     try dsimp only at hzz ce
     rw [hzi] at ce hzz
     have HI := hid (show (fs.take (i + 1)).flatMap encU = (fs.take i).flatMap encU ++ encU zi by rw [flat_step encU hil2, hzi])
     have HZI := hid hzz
     have LI := hid (show (((((encU (n : Int) ++ (m.el.take k).flatMap elB) ++ [(0 : Int)]) ++ insB ⟨la, lc, lt⟩) ++ encU (fn : Int)) ++ (fs.take i).flatMap encU).length ≤ 5000000000 from by have h1 := L3.out; have h2 := flat_five (fs.take i); have h3 : (fs.take i).length ≤ fs.length := (by rw [List.length_take]; omega); have h4 := HFN.out; rw [List.length_append]; omega)
     clear hfa hb2 hc2 hzi hzz
     go_wp2_with fail
     refine (U8_tl zi _ HZI.out.1 HZI.out.2).mono ?_
     rintro e8 u8 ⟨qa, qn, qc, rfl, hn, hy, hz, hb⟩
     have BI := hid (AI.out.call hb)
     have HYY := hid hy
     have HNN := hid hn
     have HZZ := hid hz
     clear hn hy hz hb AI ce
     clear xm c0 c1
     go_wp2_with (first | (at_builtin; (refine append_bytes rfl (.tmp 104) (.tmp 114) rfl rfl BI.out.own BI.out.bel BI.out.base qa qn qc rfl HZZ.out HNN.out HYY.out (by have := LI.out; have := encU_few zi; omega) ?_); intro v9 z9 ho hb hs; refine Hid.out ?_))
     refine hid ?_
     have A9 := hid (Acc.mk ho hb hs)
     clear ho hb hs HYY HNN HZZ BI LI
     go_wp2
     go_roundw
     case rel => exact ⟨i + 1, by go_num, by omega, by rw [HI.out, ← List.append_assoc]; exact A9⟩
     case measure => simp [intOf]; omega
    ·obtain rfl : fn = i := by omega
     have xm := KB.out _ AI.out.bel
     have c0 := K0.out _ AI.out.bel
     have c1 := K1.out _ AI.out.bel
     have HTK := hid (show fs.take fn = fs from List.take_of_length_le (by rw [HFN.out]; exact Nat.le_refl _))
     go_wp2
     go_roundw
     case rel => exact ⟨k + 1, by go_num, by omega, by rw [HT.out]; have e1 := HFN.out; have h9 := AI; rw [HTK.out] at h9; simpa [elB, e1, List.append_assoc] using h9⟩
     case measure => simp [intOf]; omega
  ·obtain rfl : n = k := by omega
   have xm := KM.out _ A0.out.bel
   go_wp2
   go_ret
   exact Acc.gives HB.out A0.out (by rw [List.take_of_length_le (by rw [HN.out]; exact Nat.le_refl _)])
set_option maxRecDepth 100000 in
set_option maxHeartbeats 8000000 in
theorem ref_sec10 (m : Md) (w : World) (FI : Fine w m) (hf : FitP coB m.fu 0) : Calls Tryz.prog 44 #[.agg m.v, .int .i64 10] w (Gives w (encU m.fu.length ++ m.fu.flatMap coB)) := by
 have FX := facts_of FI.chk
 have HB := hid ((Below.refl w.heap.size w).alloc (Nat.le_refl _) (.cells m.v 32))
 have X0 := BoxAt.made w m.v 32
 have HR := hid ((FI.at_.on HB.out).fu)
 have HFIT := hid hf
 have FS := hid FI
 have FXH := hid FX
 obtain ⟨n, hn⟩ : ∃ n, m.fu.length = n := ⟨_, rfl⟩
 have HN := hid hn
 have hn5 : n ≤ 16384 := by have := FX.lens; omega
 have h0 : 0 ≤ (n : Int) := by omega
 have h1 : (n : Int) < 4294967296 := by omega
 unfold Md.v at HB X0 HR ⊢
 rw [hn] at HB X0 HR ⊢
 clear FX hn hf FI
 have xm := X0 2 _ rfl
 have HXX := hid X0
 clear X0
 go_enter Tryz.func44, Tryz.ntmps44
 go_wp2_with fail
 generalize w.alloc (.cells #[.slice m.ty'.a m.ty.length m.ty'.c, .slice m.im'.a m.im.length m.im'.c, .slice m.fu'.a n m.fu'.c, .slice m.tb'.a m.tb.length m.tb'.c, .slice m.me'.a m.me.length m.me'.c, .slice m.gl'.a m.gl.length m.gl'.c, .slice m.ex'.a m.ex.length m.ex'.c, .bool m.st, .int .u32 m.sn, .slice m.el'.a m.el.length m.el'.c, .slice m.da'.a m.da.length m.da'.c] 32) = W0 at HB HR HXX xm ⊢
 refine (u8_gives (n : Int) _ h0 h1).mono ?_
 rintro e0 u0 h
 obtain ⟨a0, n0, c0, rfl, hn0, hy0, hz0, hb0⟩ := tl_own (encU_bytes _) (by have := encU_few (n : Int); omega) h
 have AS := hid ((Acc.start W0).call hb0)
 have HY := hid hy0
 have HN0 := hid hn0
 have HZ0 := hid hz0
 have HE0 := hid (encU_few (n : Int))
 clear h hn0 hy0 hz0 hb0 xm
 go_wp2_with (first | (at_builtin; (refine append_bytes rfl (.tmp 118) (.tmp 122) rfl rfl AS.out.own AS.out.bel AS.out.base a0 n0 c0 rfl HZ0.out HN0.out HY.out (by have := HE0.out; simp; omega) ?_); intro v0 z0 ho hb hs; refine Hid.out ?_))
 refine hid ?_
 have A0 := hid (Acc.mk ho hb hs)
 rw [List.nil_append] at A0
 clear ho hb hs AS HY HN0 HZ0 HE0
 have KM := hid (fun (X : World) (h : Below W0.heap.size W0 X) => (h.cell (p := ⟨w.heap.size, 2, none⟩) (by have := World.block_lt_of_cell? _ _ (HXX.out 2 _ rfl); simpa using this)).trans (HXX.out 2 _ rfl))
 have xm := KM.out _ A0.out.bel
 go_wp2
 clear xm
 go_loopw [5, 8, 9, 10] (fun vo vi y9 y10 wr => ∃ k : Nat, vi = .int .i64 k ∧ k ≤ n ∧ Hid (Acc W0 vo (encU (n : Int) ++ (m.fu.take k).flatMap coB) wr)) (fun _ vi _ _ _ => n - (intOf vi).toNat)
 case atStart => exact ⟨0, rfl, Nat.zero_le _, by simpa using A0⟩
 case round =>
  clear A0
  obtain ⟨k, rfl, hk, A0⟩ := hrel
  by_cases hlt : k < n
  ·have hkl : k < m.fu.length := by rw [HN.out]; exact hlt
   have hki : (k : Int) < (n : Int) := by omega
   obtain ⟨b, off, ha, hb, hc⟩ := Rows.get HR.out hkl
   have FI := FS.out
   have FX := FXH.out
   have HX := hid (code_facts FI (mem_fu (List.getElem_mem hkl)))
   have HL := hid (FX.fu _ (List.getElem_mem hkl))
   have HT := hid (flat_step coB hkl)
   have LK := hid (show (encU (n : Int) ++ (m.fu.take k).flatMap coB).length ≤ 1000000000 by have h2 := HFIT.out; unfold FitP at h2; have h3 := flat_take coB m.fu k; rw [HN.out] at h2; rw [List.length_append] at h2 ⊢; omega)
   have LXX := hid (show (coB m.fu[k]).length ≤ 1000000000 by have h2 := HFIT.out; unfold FitP at h2; have h3 := flat_item coB hkl; rw [List.length_append] at h2; omega)
   clear FI FX
   obtain ⟨x, hxe⟩ : ∃ x, m.fu[k] = x := ⟨_, rfl⟩
   rw [hxe] at hc HT LXX HX HL
   obtain ⟨ty, lo, la, lc, lt⟩ := x
   skip
   dsimp only at HX HL
   obtain ⟨ln, hln⟩ : ∃ n, lt.len = n := ⟨_, rfl⟩
   have HLN := hid hln
   have r1 : W0.cell? ⟨b, off + k * 3 + 1, none⟩ = some (.int .i64 lo) := hc 1 (by omega) _ rfl
   have r2 : W0.cell? ⟨b, off + k * 3 + 2, none⟩ = some (.slice la lt.len lc) := hc 2 (by omega) _ rfl
   rw [hln] at r2
   have K1 := hid (fun (X : World) (h : Below W0.heap.size W0 X) => (h.cell (p := ⟨b, off + k * 3 + 1, none⟩) hb).trans r1)
   have K2 := hid (fun (X : World) (h : Below W0.heap.size W0 X) => (h.cell (p := ⟨b, off + k * 3 + 2, none⟩) hb).trans r2)
   have KB := hid (fun (X : World) (h : Below W0.heap.size W0 X) => KM.out X h)
   rw [ha] at KB
   clear hc hb hxe ha r1 r2 hln
   have xm := KB.out _ A0.out.bel
   have c1 := K1.out _ A0.out.bel
   have c2 := K2.out _ A0.out.bel
   have L0 := hid LK.out
   go_wp2_with fail
   have C := (fun (X : World) (h : Below W0.heap.size W0 X) => (by have C := fcode8_new ⟨ty, lo, la, lc, lt⟩ X (HX.out.1.on (HB.out.trans (h.mono HB.out.size))) HX.out.2.1 HX.out.2.2.1 HX.out.2.2.2.1 HX.out.2.2.2.2 HL.out.2.2.1 HL.out.2.2.2; dsimp only at C; rw [HLN.out] at C; exact C)) _ A0.out.bel
   have HVO := hid (fun q hq => (World.ownsRow.lt A0.out.own q hq).2)
   refine C.mono ?_
   clear C
   rintro e0 u0 ⟨ah, hn, ch, rfl, hhn, hhy, hho, hb⟩
   have HHL := hid (show (codeL lo lt).length ≤ 1000000000 by have h := LXX.out; simp only [tyB, impB, fnB, tbB, meB, glB, exB, elB, coB, daB, List.length_append, List.length_cons] at h ⊢; omega)
   have HHN := hid (show hn ≤ 1000000000 by rw [← hhn]; exact HHL.out)
   have HHE := hid hhn
   have HHY := hid hhy
   have HHO := hid hho
   have A0h := hid (A0.out.call hb)
   clear hhn hhy hho hb A0
   clear xm c1 c2
   have A0 := A0h
   clear A0h
   have hn4 : (hn : Int) < 4294967296 := by have := HHN.out; omega
   have hn0 : 0 ≤ (hn : Int) := by omega
   have xm := KB.out _ A0.out.bel
   have c1 := K1.out _ A0.out.bel
   have c2 := K2.out _ A0.out.bel
   go_wp2_with fail
   refine (u8_tl (hn : Int) _ hn0 hn4).mono ?_
   rintro e0 u0b ⟨pa0, pn0, pc0, rfl, hn1, hy, hz, hb⟩
   have B0 := hid (A0.out.call hb)
   have HYY := hid hy
   have HNN := hid hn1
   have HHY2 := hid (HHY.out.below hb)
   have LY := hid (show (encU (hn : Int)).length ≤ 1000000000 by have := encU_few ((hn : Int)); omega)
   clear hn1 hy hz hb A0 HHY
   clear xm c1 c2
   go_wp2_with (first | (at_builtin; (refine append_tch rfl (.tmp 141) (.tmp 144) rfl rfl B0.out pa0 pn0 pc0 rfl HNN.out HYY.out (by have := L0.out; have := LY.out; omega) ?_); intro v1 z1 ha1 ht1; refine Hid.out ?_))
   refine hid ?_
   have A1 := hid ha1
   have HHY3 := hid (Bytes.touchE HHY2.out ht1 (fun b3 o3 h3 _ h4 => by have h5 := HVO.out b3 h4; have h6 := HHO.out b3 o3 h3; omega))
   have L1 := hid (show ((encU (n : Int) ++ (m.fu.take k).flatMap coB) ++ encU (hn : Int)).length ≤ 2000000000 from by have h1 := L0.out; have h2 := LY.out; rw [List.length_append]; omega)
   clear ha1 ht1 HYY HNN HHY2 HVO HHO LY B0 L0
   have xm := KB.out _ A1.out.bel
   have c1 := K1.out _ A1.out.bel
   have c2 := K2.out _ A1.out.bel
   go_wp2_with (first | (at_builtin; (refine append_lie rfl (.tmp 146) (.tmp 147) rfl rfl A1.out ah hn ch rfl HHE.out HHY3.out (by have := L1.out; have := HHL.out; omega) ?_); intro v2 z2 ha1; refine Hid.out ?_))
   refine hid ?_
   have A2 := hid ha1
   clear ha1 A1 HHY3 L1
   clear xm c1 c2
   have xm := KB.out _ A2.out.bel
   have c1 := K1.out _ A2.out.bel
   have c2 := K2.out _ A2.out.bel
   go_wp2
   go_roundw
   case rel => exact ⟨k + 1, by go_num, by omega, by rw [HT.out]; have e1 := HHE.out; simpa [coB, e1, List.append_assoc] using A2⟩
   case measure => simp [intOf]; omega
  ·obtain rfl : n = k := by omega
   have xm := KM.out _ A0.out.bel
   go_wp2
   go_ret
   exact Acc.gives HB.out A0.out (by rw [List.take_of_length_le (by rw [HN.out]; exact Nat.le_refl _)])
set_option maxRecDepth 100000 in
set_option maxHeartbeats 8000000 in
theorem ref_sec11 (m : Md) (w : World) (FI : Fine w m) (hf : FitP daB m.da 0) : Calls Tryz.prog 44 #[.agg m.v, .int .i64 11] w (Gives w (encU m.da.length ++ m.da.flatMap daB)) := by
 have FX := facts_of FI.chk
 have HB := hid ((Below.refl w.heap.size w).alloc (Nat.le_refl _) (.cells m.v 32))
 have X0 := BoxAt.made w m.v 32
 have HR := hid ((FI.at_.on HB.out).da)
 have HFIT := hid hf
 have FS := hid FI
 have FXH := hid FX
 obtain ⟨n, hn⟩ : ∃ n, m.da.length = n := ⟨_, rfl⟩
 have HN := hid hn
 have hn5 : n ≤ 16384 := by have := FX.lens; omega
 have h0 : 0 ≤ (n : Int) := by omega
 have h1 : (n : Int) < 4294967296 := by omega
 unfold Md.v at HB X0 HR ⊢
 rw [hn] at HB X0 HR ⊢
 clear FX hn hf FI
 have xm := X0 10 _ rfl
 have HXX := hid X0
 clear X0
 go_enter Tryz.func44, Tryz.ntmps44
 go_wp2_with fail
 generalize w.alloc (.cells #[.slice m.ty'.a m.ty.length m.ty'.c, .slice m.im'.a m.im.length m.im'.c, .slice m.fu'.a m.fu.length m.fu'.c, .slice m.tb'.a m.tb.length m.tb'.c, .slice m.me'.a m.me.length m.me'.c, .slice m.gl'.a m.gl.length m.gl'.c, .slice m.ex'.a m.ex.length m.ex'.c, .bool m.st, .int .u32 m.sn, .slice m.el'.a m.el.length m.el'.c, .slice m.da'.a n m.da'.c] 32) = W0 at HB HR HXX xm ⊢
 refine (u8_gives (n : Int) _ h0 h1).mono ?_
 rintro e0 u0 h
 obtain ⟨a0, n0, c0, rfl, hn0, hy0, hz0, hb0⟩ := tl_own (encU_bytes _) (by have := encU_few (n : Int); omega) h
 have AS := hid ((Acc.start W0).call hb0)
 have HY := hid hy0
 have HN0 := hid hn0
 have HZ0 := hid hz0
 have HE0 := hid (encU_few (n : Int))
 clear h hn0 hy0 hz0 hb0 xm
 go_wp2_with (first | (at_builtin; (refine append_bytes rfl (.tmp 13) (.tmp 17) rfl rfl AS.out.own AS.out.bel AS.out.base a0 n0 c0 rfl HZ0.out HN0.out HY.out (by have := HE0.out; simp; omega) ?_); intro v0 z0 ho hb hs; refine Hid.out ?_))
 refine hid ?_
 have A0 := hid (Acc.mk ho hb hs)
 rw [List.nil_append] at A0
 clear ho hb hs AS HY HN0 HZ0 HE0
 have KM := hid (fun (X : World) (h : Below W0.heap.size W0 X) => (h.cell (p := ⟨w.heap.size, 10, none⟩) (by have := World.block_lt_of_cell? _ _ (HXX.out 10 _ rfl); simpa using this)).trans (HXX.out 10 _ rfl))
 have xm := KM.out _ A0.out.bel
 go_wp2
 clear xm
 go_loopw [5, 11] (fun vo vi wr => ∃ k : Nat, vi = .int .i64 k ∧ k ≤ n ∧ Hid (Acc W0 vo (encU (n : Int) ++ (m.da.take k).flatMap daB) wr)) (fun _ vi _ => n - (intOf vi).toNat)
 case atStart => exact ⟨0, rfl, Nat.zero_le _, by simpa using A0⟩
 case round =>
  clear A0
  obtain ⟨k, rfl, hk, A0⟩ := hrel
  by_cases hlt : k < n
  ·have hkl : k < m.da.length := by rw [HN.out]; exact hlt
   have hki : (k : Int) < (n : Int) := by omega
   obtain ⟨b, off, ha, hb, hc⟩ := Rows.get HR.out hkl
   have FI := FS.out
   have FX := FXH.out
   have HX := hid (code_facts FI (mem_da (List.getElem_mem hkl)))
   have HBY := hid (FI.siz.db _ (List.getElem_mem hkl))
   have HBA := hid (FI.at_.bs _ (List.getElem_mem hkl))
   have HSB := hid (Nat.le_trans (bytes_few (List.getElem_mem hkl)) FX.da)
   have HT := hid (flat_step daB hkl)
   have LK := hid (show (encU (n : Int) ++ (m.da.take k).flatMap daB).length ≤ 1000000000 by have h2 := HFIT.out; unfold FitP at h2; have h3 := flat_take daB m.da k; rw [HN.out] at h2; rw [List.length_append] at h2 ⊢; omega)
   have LXX := hid (show (daB m.da[k]).length ≤ 1000000000 by have h2 := HFIT.out; unfold FitP at h2; have h3 := flat_item daB hkl; rw [List.length_append] at h2; omega)
   clear FI FX
   obtain ⟨x, hxe⟩ : ∃ x, m.da[k] = x := ⟨_, rfl⟩
   rw [hxe] at hc HT LXX HX HBY HBA HSB
   obtain ⟨⟨la, lc, lt⟩, ba, bc, bs⟩ := x
   skip
   dsimp only at HX HBY HBA HSB
   obtain ⟨ln, hln⟩ : ∃ n, lt.len = n := ⟨_, rfl⟩
   have HLN := hid hln
   obtain ⟨bn, hbn⟩ : ∃ n, bs.length = n := ⟨_, rfl⟩
   have HBN := hid hbn
   have r0 : W0.cell? ⟨b, off + k * 2, none⟩ = some (.slice la lt.len lc) := hc 0 (by omega) _ rfl
   rw [hln] at r0
   have r1 : W0.cell? ⟨b, off + k * 2 + 1, none⟩ = some (.slice ba bs.length bc) := hc 1 (by omega) _ rfl
   rw [hbn] at r1
   have K0 := hid (fun (X : World) (h : Below W0.heap.size W0 X) => (h.cell (p := ⟨b, off + k * 2, none⟩) hb).trans r0)
   have K1 := hid (fun (X : World) (h : Below W0.heap.size W0 X) => (h.cell (p := ⟨b, off + k * 2 + 1, none⟩) hb).trans r1)
   have KB := hid (fun (X : World) (h : Below W0.heap.size W0 X) => KM.out X h)
   rw [ha] at KB
   clear hc hb hxe ha r0 r1 hln hbn
   have xm := KB.out _ A0.out.bel
   have c0 := K0.out _ A0.out.bel
   have c1 := K1.out _ A0.out.bel
   have L0 := hid LK.out
   go_wp2_with (first | (at_builtin; (refine append_byte rfl (.tmp 26) (.tmp 27) rfl (0) rfl A0.out.own A0.out.bel A0.out.base rfl (by have := L0.out; omega) ?_); intro v1 z1 ho hb hs; refine Hid.out ?_))
   refine hid ?_
   have A1 := hid (Acc.mk ho hb hs)
   have L1 := hid (show ((encU (n : Int) ++ (m.da.take k).flatMap daB) ++ [(0 : Int)]).length ≤ 2000000000 from by have h1 := L0.out; rw [List.length_append]; simp only [List.length_cons, List.length_nil]; omega)
   clear ho hb hs A0 L0
   clear xm c0 c1
   have xm := KB.out _ A1.out.bel
   have c0 := K0.out _ A1.out.bel
   have c1 := K1.out _ A1.out.bel
   go_wp2_with fail
   have C := (fun (X : World) (h : Below W0.heap.size W0 X) => (by have C := code8_tl ⟨la, lc, lt⟩ X (HX.out.1.on (HB.out.trans (h.mono HB.out.size))) HX.out.2.1 HX.out.2.2.1 HX.out.2.2.2.1 HX.out.2.2.2.2; dsimp only at C; rw [HLN.out] at C; exact C)) _ A1.out.bel
   refine C.mono ?_
   clear C
   rintro e1 u1 ⟨pa1, pn1, pc1, rfl, hn, hy, hz, hb⟩
   have B1 := hid (A1.out.call hb)
   have HYY := hid hy
   have HNN := hid hn
   have HZZ := hid hz
   have LY := hid (show (insB ⟨la, lc, lt⟩).length ≤ 1000000000 by have h := LXX.out; simp only [tyB, impB, fnB, tbB, meB, glB, exB, elB, coB, daB, List.length_append, List.length_cons] at h ⊢; omega)
   clear hn hy hz hb A1
   clear xm c0 c1
   go_wp2_with (first | (at_builtin; (refine append_bytes rfl (.tmp 29) (.tmp 36) rfl rfl B1.out.own B1.out.bel B1.out.base pa1 pn1 pc1 rfl HZZ.out HNN.out HYY.out (by have := L1.out; have := LY.out; omega) ?_); intro v2 z2 ho hb hs; refine Hid.out ?_))
   refine hid ?_
   have A2 := hid (Acc.mk ho hb hs)
   have L2 := hid (show (((encU (n : Int) ++ (m.da.take k).flatMap daB) ++ [(0 : Int)]) ++ insB ⟨la, lc, lt⟩).length ≤ 3000000000 from by have h1 := L1.out; have h2 := LY.out; rw [List.length_append]; omega)
   clear ho hb hs HYY HNN HZZ LY B1 L1
   have xm := KB.out _ A2.out.bel
   have c0 := K0.out _ A2.out.bel
   have c1 := K1.out _ A2.out.bel
   go_wp2_with fail
   have C := (fun (X : World) (h : Below W0.heap.size W0 X) => u8_tl (bn : Int) X (by omega) (by have := HSB.out; have := HBN.out; first | omega | (dsimp only at *; omega))) _ A2.out.bel
   refine C.mono ?_
   clear C
   rintro e2 u2 ⟨pa2, pn2, pc2, rfl, hn, hy, hz, hb⟩
   have B2 := hid (A2.out.call hb)
   have HYY := hid hy
   have HNN := hid hn
   have HZZ := hid hz
   have LY := hid (show (encU (bn : Int)).length ≤ 1000000000 by have := encU_few ((bn : Int)); omega)
   clear hn hy hz hb A2
   clear xm c0 c1
   go_wp2_with (first | (at_builtin; (refine append_bytes rfl (.tmp 38) (.tmp 46) rfl rfl B2.out.own B2.out.bel B2.out.base pa2 pn2 pc2 rfl HZZ.out HNN.out HYY.out (by have := L2.out; have := LY.out; omega) ?_); intro v3 z3 ho hb hs; refine Hid.out ?_))
   refine hid ?_
   have A3 := hid (Acc.mk ho hb hs)
   have L3 := hid (show ((((encU (n : Int) ++ (m.da.take k).flatMap daB) ++ [(0 : Int)]) ++ insB ⟨la, lc, lt⟩) ++ encU (bn : Int)).length ≤ 4000000000 from by have h1 := L2.out; have h2 := LY.out; rw [List.length_append]; omega)
   clear ho hb hs HYY HNN HZZ LY B2 L2
   have xm := KB.out _ A3.out.bel
   have c0 := K0.out _ A3.out.bel
   have c1 := K1.out _ A3.out.bel
   have HYB := hid (bytes_at (HBA.out.below (HB.out.trans (A3.out.bel.mono HB.out.size))) HBY.out (by have := HSB.out; first | omega | (dsimp only at this; omega)))
   go_wp2_with (first | (at_builtin; (refine append_lie rfl (.tmp 48) (.tmp 54) rfl rfl A3.out ba bn bc rfl HBN.out HYB.out (by have := L3.out; have := HSB.out; first | omega | (dsimp only at *; omega)) ?_); intro v4 z4 ha1; refine Hid.out ?_))
   refine hid ?_
   have A4 := hid ha1
   clear ha1 A3 HYB L3
   clear xm c0 c1
   have xm := KB.out _ A4.out.bel
   have c0 := K0.out _ A4.out.bel
   have c1 := K1.out _ A4.out.bel
   go_wp2
   go_roundw
   case rel => exact ⟨k + 1, by go_num, by omega, by rw [HT.out]; have e1 := HBN.out; simpa [daB, e1, List.append_assoc] using A4⟩
   case measure => simp [intOf]; omega
  ·obtain rfl : n = k := by omega
   have xm := KM.out _ A0.out.bel
   go_wp2
   go_ret
   exact Acc.gives HB.out A0.out (by rw [List.take_of_length_le (by rw [HN.out]; exact Nat.le_refl _)])
end Go.Proofs.YtepbjkkakfpjgaaGreatDoor.Enc
namespace Go.Proofs.YtepbjkkakfpjgaaGreatDoor.Body
open Go.RowKit Go.Proofs.YtepbjkkakfpjgaaGreatDoor.Instr
theorem drewn {B : Nat} {a w : World} (h : Below B a w) (n : Nat) : Below B a (w.drewN n) := ⟨h.os, h.tape, h.output, h.size, h.block⟩
def Eight (x : Ix) (b off : Nat) (w : World) : Prop :=
 w.cell? ⟨b, off, none⟩ = some (.int .i64 x.op) ∧ w.cell? ⟨b, off + 1, none⟩ = some (.int .i64 x.res) ∧ w.cell? ⟨b, off + 2, none⟩ = some (.int .u32 x.a) ∧ w.cell? ⟨b, off + 3, none⟩ = some (.int .u32 x.b) ∧
  w.cell? ⟨b, off + 4, none⟩ = some (.int .i32 x.n) ∧ w.cell? ⟨b, off + 5, none⟩ = some (.slice x.ta x.tags.length x.tc) ∧ w.cell? ⟨b, off + 6, none⟩ = some (.slice x.la x.ln x.lc) ∧ w.cell? ⟨b, off + 7, none⟩ = some (.slice x.ea x.en x.ec)
theorem two_boxes (w : World) (x y : Ix) : At x w.heap.size (((w.alloc (.cells x.vals 126)).alloc (.cells y.vals 126)).drew) ∧ At y (w.heap.size + 1) (((w.alloc (.cells x.vals 126)).alloc (.cells y.vals 126)).drew) ∧
  Below w.heap.size w (((w.alloc (.cells x.vals 126)).alloc (.cells y.vals 126)).drew) := by
 have hb : Below w.heap.size w (((w.alloc (.cells x.vals 126)).alloc (.cells y.vals 126)).drew) :=
  drewn ((((Below.refl w.heap.size w).alloc (Nat.le_refl _) _)).alloc (by simp) _) 1
 have h1 : At x w.heap.size ((w.alloc (.cells x.vals 126)).alloc (.cells y.vals 126)) := (At.made x w).below ((Below.refl _ _).alloc (Nat.le_refl _) _)
 have h2 : At y (w.alloc (.cells x.vals 126)).heap.size ((w.alloc (.cells x.vals 126)).alloc (.cells y.vals 126)) := At.made y _
 rw [World.size_alloc] at h2
 exact ⟨⟨h1.c0, h1.c1, h1.c2, h1.c3, h1.c4, h1.c5, h1.c6, h1.c7⟩, ⟨h2.c0, h2.c1, h2.c2, h2.c3, h2.c4, h2.c5, h2.c6, h2.c7⟩, hb⟩
end Go.Proofs.YtepbjkkakfpjgaaGreatDoor.Body
