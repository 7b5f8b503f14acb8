/-
  MODULE: typeNumber, TypeOf, Find, by contract.
-/
import Derived.Test.YtlfflomeaplidaaDoorModChk
import Derived.Deep.QuietTactic
import Derived.BigQuiet
namespace Go.Proofs.YtlfflomeaplidaaDoor.Mod
open Go.RowKit Go.Shelf Go.Proofs.YtlfflomeaplidaaDoor.Instr

theorem drewM {B : Nat} {w w' : World} (h : Below B w w') (n : Nat) : Below B w (w'.drewN n) := ⟨h.os, h.tape, h.output, h.size, h.block⟩
theorem u64_in (x : Int) (h0 : 0 ≤ x) (h1 : x ≤ 1000000000000000) : IntKind.u64.wrap x = x := by rw [IntKind.wrap_u64]; omega
set_option maxHeartbeats 1000000 in
theorem typeN_any (m : Md) (n : Nat) (w : World) (hm : ModAt w.heap.size w m) (hf : m.fits) (hn : n < 4294967296) :
    Calls Tryd.prog 62 #[.agg m.v, .int .u32 (n : Int)] w fun e w' => e = .returned (.int .i64 (m.typeN n)) ∧ Below w.heap.size w w' := by
  have hb0 := (Below.refl w.heap.size w).alloc (Nat.le_refl _) (.cells m.v 46)
  have HI := hid (hm.on hb0).im
  have HF := hid (hm.on hb0).fu
  have HB := hid hb0
  have HX := hid (BoxAt.made w m.v 46)
  have HE : Hid (m.typeN n = if n < m.im.length then ((m.im.map (·.ty)).getD n 0) else if n < m.im.length + m.fu.length then ((m.fu.map (·.ty)).getD (n - m.im.length) 0) else -1) := rfl
  have li := hf.im
  have lf := hf.fu
  have HG := hid (show ∀ k (hk : k < m.im.length), (m.im.map (·.ty)).getD k 0 = m.im[k].ty from fun k hk => by simp [hk])
  have HH := hid (show ∀ k (hk : k < m.fu.length), (m.fu.map (·.ty)).getD k 0 = m.fu[k].ty from fun k hk => by simp [hk])
  have HV := hid (BoxAt.all (m := m) (BoxAt.made w m.v 46))
  unfold Md.v at HI HF HB HV ⊢
  clear hm hf hb0 HX
  have uz := u64_in (n : Int) (by omega) (by omega)
  have ui := u64_in (m.im.length : Int) (by omega) (by omega)
  have uf := u64_in (m.fu.length : Int) (by omega) (by omega)
  by_cases h1 : n < m.im.length
  · have HR := hid (show m.typeN n = m.im[n].ty by rw [HE.out, if_pos h1, HG.out n h1])
    obtain ⟨b, off, ha, hb, hc⟩ := Rows.get HI.out h1
    obtain ⟨x, hx⟩ : ∃ x, m.im[n] = x := ⟨_, rfl⟩
    rw [hx] at hc HR
    generalize m.im'.a = ai at ha HB HI HF HV hc ⊢
    subst ha
    have c2 := hc 2 (by omega) (.int .i64 x.ty) rfl
    obtain ⟨d0, d1, d2, _⟩ := HV.out
    have h1i : (n : Int) < (m.im.length : Int) := by omega
    clear hx hc HE HG HH HI HF HV hb
    go_enter Tryd.func62, Tryd.ntmps62
    go_wp2
    go_quiet (fail)
    go_wp2
    go_ret
    exact ⟨ret_int HR.out.symm, drewM HB.out _⟩
  · have h1i : ¬ (n : Int) < (m.im.length : Int) := by omega
    have us := u64_in ((m.im.length : Int) + (m.fu.length : Int)) (by omega) (by omega)
    by_cases h2 : n < m.im.length + m.fu.length
    · obtain ⟨k, rfl⟩ : ∃ k, n = m.im.length + k := ⟨n - m.im.length, by omega⟩
      have hk : k < m.fu.length := by omega
      have HR := hid (show m.typeN (m.im.length + k) = m.fu[k].ty by rw [HE.out, if_neg h1, if_pos h2, Nat.add_sub_cancel_left, HH.out k hk])
      obtain ⟨b, off, ha, hb, hc⟩ := Rows.get HF.out hk
      obtain ⟨x, hx⟩ : ∃ x, m.fu[k] = x := ⟨_, rfl⟩
      rw [hx] at hc HR
      generalize m.fu'.a = ai at ha HB HI HF HV hc ⊢
      subst ha
      have c0 : (w.alloc (.cells #[.slice m.ty'.a m.ty.length m.ty'.c, .slice m.im'.a m.im.length m.im'.c, .slice (some ⟨b, off, none⟩) m.fu.length m.fu'.c, .slice m.tb'.a m.tb.length m.tb'.c, .slice m.me'.a m.me.length m.me'.c, .slice m.gl'.a m.gl.length m.gl'.c, .slice m.ex'.a m.ex.length m.ex'.c, .bool m.st, .int .u32 m.sn, .slice m.el'.a m.el.length m.el'.c, .slice m.da'.a m.da.length m.da'.c] 46)).cell? ⟨b, off + k * 3, none⟩ = some (.int .i64 x.ty) := hc 0 (by omega) (.int .i64 x.ty) rfl
      obtain ⟨d0, d1, d2, _⟩ := HV.out
      clear hx hc HE HG HH HI HF HV hb h1 h2
      generalize m.im.length = A at *
      generalize m.fu.length = F at *
      have e1 : ((A + k : Nat) : Int) = (A : Int) + (k : Int) := by omega
      rw [e1] at uz h1i ⊢
      have ud : IntKind.u64.wrap ((A : Int) + (k : Int) - (A : Int)) = (k : Int) := by rw [u64_in _ (by omega) (by omega)]; omega
      have ud2 : (A : Int) + (k : Int) - (A : Int) = (k : Int) := by omega
      have h2i : (A : Int) + (k : Int) < (A : Int) + (F : Int) := by omega
      have hki : (k : Int) < (F : Int) := by omega
      clear e1
      go_enter Tryd.func62, Tryd.ntmps62
      go_wp2
      go_quiet (fail)
      go_wp2
      go_ret
      exact ⟨ret_int HR.out.symm, drewM HB.out _⟩
    · have HR := hid (show m.typeN n = -1 by rw [HE.out, if_neg h1, if_neg h2])
      have h2i : ¬ (n : Int) < (m.im.length : Int) + (m.fu.length : Int) := by omega
      obtain ⟨d0, d1, d2, _⟩ := HV.out
      clear HE HG HH HI HF HV
      go_enter Tryd.func62, Tryd.ntmps62
      go_wp2
      go_quiet (fail)
      go_wp2
      go_ret
      exact ⟨ret_int HR.out.symm, drewM HB.out _⟩

theorem typeOf_no {m : Md} {n : Nat} (h : m.typeN n < 0 ∨ (m.ty.length : Int) ≤ m.typeN n) : m.typeOf n = ((0, 0), false) := by unfold Md.typeOf; rw [if_pos h]
theorem typeOf_yes {m : Md} {n k : Nat} (h : m.typeN n = k) (hk : k < m.ty.length) : m.typeOf n = (m.ty[k], true) := by
  unfold Md.typeOf
  rw [if_neg (by rw [h]; omega), h]
  simp [hk]
theorem ret_ty {a b a' b' : Int} {c c' : Bool} (h : ((a, b), c) = ((a', b'), c')) : Ending.returned (.tuple #[.agg #[.int .i64 a, .int .i64 b], .bool c]) = .returned (.tuple #[.agg #[.int .i64 a', .int .i64 b'], .bool c']) := by
  simp only [Prod.mk.injEq] at h
  obtain ⟨⟨rfl, rfl⟩, rfl⟩ := h
  rfl
set_option maxHeartbeats 1000000 in
theorem TypeOf_any (m : Md) (n : Nat) (w : World) (hm : ModAt w.heap.size w m) (hf : m.fits) (hn : n < 4294967296) :
    Calls Tryd.prog 20 #[.agg m.v, .int .u32 (n : Int)] w fun e w' => e = .returned (.tuple #[.agg #[.int .i64 (m.typeOf n).1.1, .int .i64 (m.typeOf n).1.2], .bool (m.typeOf n).2]) ∧ Below w.heap.size w w' := by
  have hb1 : Below w.heap.size w ((w.alloc (.cells m.v 46)).alloc (.cells #[.int .i64 0, .int .i64 0] 52)) := thenA (thenA (Below.refl _ _) _) _
  have HB := hid hb1
  have hm1 := hm.on hb1
  have C := hid (typeN_any m n _ hm1 hf hn)
  have hx := (BoxAt.made w m.v 46).keep ((Below.refl _ _).alloc (Nat.le_refl _) (.cells #[.int .i64 0, .int .i64 0] 52))
  have hr0 : ((w.alloc (.cells m.v 46)).alloc (.cells #[.int .i64 0, .int .i64 0] 52)).cell? ⟨w.heap.size + 1, 0, none⟩ = some (.int .i64 0) := by go_simp
  have hr1 : ((w.alloc (.cells m.v 46)).alloc (.cells #[.int .i64 0, .int .i64 0] 52)).cell? ⟨w.heap.size + 1, 1, none⟩ = some (.int .i64 0) := by go_simp
  have hf0 : ((w.alloc (.cells m.v 46)).alloc (.cells #[.int .i64 0, .int .i64 0] 52)).frozen? ⟨w.heap.size + 1, 0, none⟩ = false := by go_simp
  have hf1 : ((w.alloc (.cells m.v 46)).alloc (.cells #[.int .i64 0, .int .i64 0] 52)).frozen? ⟨w.heap.size + 1, 1, none⟩ = false := by go_simp
  have HK := hid (show ∀ w1, Below ((w.alloc (.cells m.v 46)).alloc (.cells #[.int .i64 0, .int .i64 0] 52)).heap.size ((w.alloc (.cells m.v 46)).alloc (.cells #[.int .i64 0, .int .i64 0] 52)) w1 →
      (w1.cell? ⟨w.heap.size, 0, none⟩ = some (.slice m.ty'.a m.ty.length m.ty'.c) ∧ w1.cell? ⟨w.heap.size + 1, 0, none⟩ = some (.int .i64 0) ∧ w1.cell? ⟨w.heap.size + 1, 1, none⟩ = some (.int .i64 0) ∧ w1.frozen? ⟨w.heap.size + 1, 0, none⟩ = false ∧ w1.frozen? ⟨w.heap.size + 1, 1, none⟩ = false) ∧ Rows w1.heap.size w1 m.ty'.a 2 (m.ty.map tyV) from fun w1 hb =>
    ⟨⟨(hx.keep hb).all.1, Go.Proofs.YtlfflomeaplidaaDoor.keep hb hr0, Go.Proofs.YtlfflomeaplidaaDoor.keep hb hr1, (hb.frozen (p := ⟨w.heap.size + 1, 0, none⟩) (World.block_lt_of_cell? _ _ hr0)).trans hf0, (hb.frozen (p := ⟨w.heap.size + 1, 1, none⟩) (World.block_lt_of_cell? _ _ hr1)).trans hf1⟩, (hm1.on hb).ty⟩)
  have hl := hf.ty
  have HN := hid (fun h => typeOf_no (m := m) (n := n) h)
  have HY := hid (fun k h hk => typeOf_yes (m := m) (n := n) (k := k) h hk)
  obtain ⟨t, ht⟩ : ∃ t, m.typeN n = t := ⟨_, rfl⟩
  rw [ht] at C HN
  have HT := hid ht
  unfold Md.v at C HB HK ⊢
  clear hm hf hb1 hm1 hx hr0 hr1 hf0 hf1 ht
  by_cases h1 : t < 0
  · have HR := hid (HN.out (.inl h1))
    clear HN HY
    go_enter Tryd.func20, Tryd.ntmps20
    go_wp2_with fail
    refine C.out.mono ?_
    rintro e w1 ⟨rfl, hb1⟩
    obtain ⟨⟨k0, k1, k2, k3, k4⟩, _⟩ := HK.out w1 hb1
    have HB1 := hid (HB.out.trans (hb1.mono HB.out.size))
    clear C HK hb1 HB
    go_wp2
    refine bodyPost_ret (v := .tuple #[.agg #[.int .i64 0, .int .i64 0], .bool false]) (by simp [results, Tryd.results20, go_sem, k1, k2]) rfl ⟨ret_ty (by rw [HR.out]), (HB1.out.setCell (p := ⟨w.heap.size + 1, 0, none⟩) (by simp) _).setCell (p := ⟨w.heap.size + 1, 1, none⟩) (by simp) _⟩
  · by_cases h2 : (m.ty.length : Int) ≤ t
    · have HR := hid (HN.out (.inr h2))
      clear HN HY
      go_enter Tryd.func20, Tryd.ntmps20
      go_wp2_with fail
      refine C.out.mono ?_
      rintro e w1 ⟨rfl, hb1⟩
      obtain ⟨⟨k0, k1, k2, k3, k4⟩, _⟩ := HK.out w1 hb1
      have HB1 := hid (HB.out.trans (hb1.mono HB.out.size))
      clear C HK hb1 HB
      go_wp2
      refine bodyPost_ret (v := .tuple #[.agg #[.int .i64 0, .int .i64 0], .bool false]) (by simp [results, Tryd.results20, go_sem, k1, k2]) rfl ⟨ret_ty (by rw [HR.out]), (HB1.out.setCell (p := ⟨w.heap.size + 1, 0, none⟩) (by simp) _).setCell (p := ⟨w.heap.size + 1, 1, none⟩) (by simp) _⟩
    · obtain ⟨k, rfl⟩ : ∃ k : Nat, t = k := ⟨t.toNat, by omega⟩
      have hk : k < m.ty.length := by omega
      have HR := hid (HY.out k HT.out hk)
      clear HN HY HT
      go_enter Tryd.func20, Tryd.ntmps20
      go_wp2_with fail
      refine C.out.mono ?_
      rintro e w1 ⟨rfl, hb1⟩
      obtain ⟨⟨k0, k1, k2, k3, k4⟩, hrw⟩ := HK.out w1 hb1
      obtain ⟨b, off, ha, hb, hc⟩ := Rows.get hrw hk
      rw [ha] at k0
      obtain ⟨x, hx⟩ : ∃ x, m.ty[k] = x := ⟨_, rfl⟩
      rw [hx] at hc HR
      have c0 : w1.cell? ⟨b, off + k * 2, none⟩ = some (.int .i64 x.1) := hc 0 (by omega) _ rfl
      have c1 : w1.cell? ⟨b, off + k * 2 + 1, none⟩ = some (.int .i64 x.2) := hc 1 (by omega) _ rfl
      have HB1 := hid (HB.out.trans (hb1.mono HB.out.size))
      have hki : (k : Int) < (m.ty.length : Int) := by omega
      clear C HK hb1 HB hrw hc hx hb ha h1 h2
      go_wp2
      refine bodyPost_ret (v := .tuple #[.agg #[.int .i64 x.1, .int .i64 x.2], .bool true]) (by simp [results, Tryd.results20, go_sem, k1, k2]) rfl ⟨ret_ty (by rw [HR.out]), (HB1.out.setCell (p := ⟨w.heap.size + 1, 0, none⟩) (by simp) _).setCell (p := ⟨w.heap.size + 1, 1, none⟩) (by simp) _⟩
end Go.Proofs.YtlfflomeaplidaaDoor.Mod
