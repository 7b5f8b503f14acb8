/-
  STACK: awake, by contract (tools/gen_stkwalk.py).
-/
import Derived.Test.YtnfpfagojeieeaaStkSame
import Derived.Test.YtnfpfagojeieeaaStkPop
import Derived.Deep.Cut
namespace Go.Proofs.Ytnfpfagojeieeaa.Stk
open Go.RowKit
set_option linter.unusedVariables false

/-- A stand's box is no row of frames. -/
theorem StAt.set {n₀ : Nat} {w : World} {a : Option Addr} {n c : Nat} {l : List Fr} {g : Nat} {x y : Value} (h : StAt n₀ w a n c l) (hx : Bx w g x y) (j : Nat) (u : Value) : StAt n₀ (w.setCell ⟨g, j, none⟩ u) a n c l := by
  refine ⟨?_, h.len, h.cap, h.fit⟩
  by_cases h0 : n = 0
  · have := h.len
    rw [h0] at this
    rw [List.eq_nil_of_length_eq_zero this]
    exact .inl rfl
  obtain ⟨b, off, ha, hb, hc⟩ := h.get (by omega)
  have hl := h.len
  have hbg : g ≠ b := by
    intro e
    subst e
    obtain ⟨-, -, c2, c3⟩ := hc 0 (by omega)
    rw [cell_of_row _ _ _ _ _ _ hx] at c2 c3
    simp only [Nat.zero_mul, Nat.add_zero] at c2 c3
    have h3 := (Array.getElem?_eq_some_iff.1 c3).1
    simp at h3
    omega
  rcases h.rows with h1 | ⟨b', off', ha', hb', hc'⟩
  · exact .inl h1
  · have e : b' = b := by rw [ha] at ha'; simp at ha'; exact ha'.1.symm
    subst e
    exact .inr ⟨b', off', ha', hb', fun i hi q hq v hv => (World.cell?_setCell_far _ ⟨g, j, none⟩ _ _ hbg).trans (hc' i hi q hq v hv)⟩
theorem StAt.set2 {w : World} {a : Option Addr} {n c : Nat} {l : List Fr} {g : Nat} {x y : Value} (h : StAt w.heap.size w a n c l) (hx : Bx w g x y) (u v : Value) :
    StAt ((w.setCell ⟨g, 0, none⟩ u).setCell ⟨g, 1, none⟩ v).heap.size ((w.setCell ⟨g, 0, none⟩ u).setCell ⟨g, 1, none⟩ v) a n c l := by
  have h1 := (h.set hx 0 u).set (hx.set0 u) 1 v
  have e : ((w.setCell ⟨g, 0, none⟩ u).setCell ⟨g, 1, none⟩ v).heap.size = w.heap.size := by simp [World.setCell]
  rw [e]; exact h1
/-- What a call gave, written out. -/
theorem MadeP.at {w : World} {r : R} {e : Ending} {w' : World} (hm : MadeP w r e w') {h er : Int} {l : List Fr} {n : Nat} (hr : r = ⟨h, l, er⟩) (hn : l.length = n) (hl : n ≤ 1000000) :
    ∃ a c, e = .returned (.tuple #[.agg #[.int .i64 h, .slice a n c], .int .i64 er]) ∧ OwnF w.heap.size w' (.slice a n c) l ∧ StAt w'.heap.size w' a n c l ∧ Below w.heap.size w w' := by
  subst hr
  obtain ⟨a, m, c, rfl, ho, hb⟩ := hm
  dsimp only at ho ⊢
  obtain ⟨a', c', hv, hst⟩ := ho.slice (by omega)
  rw [hn] at hv hst
  simp only [Value.slice.injEq] at hv
  obtain ⟨rfl, rfl, rfl⟩ := hv
  exact ⟨a, c, rfl, ho, hst, hb⟩
set_option maxRecDepth 100000 in
set_option maxHeartbeats 4000000 in
theorem awake_any (w : World) : Calls Try.prog 25 #[] w fun e w' => e = .returned (.bool true) ∧ Below w.heap.size w w' := by
  have HB := hid (Below.refl w.heap.size w)
  go_enter Try.func25, Try.ntmps25
  have CC1 := hid (new_any 1 w)
  go_wp2_with fail
  refine CC1.out.mono ?_
  intro e1 v1 hm1
  obtain ⟨a1, c1, rfl, ho1, hst1, hb1⟩ := hm1.at (h := 0) (l := [⟨0, 0, 1, false⟩]) (n := 1) (er := 0) (by rfl) (by decide) (by omega)
  clear hm1 CC1
  replace HB := hid (HB.out.trans (hb1.mono HB.out.size))
  have HT1 := hid hst1
  clear ho1 hst1 hb1
  go_upto_region 2 with fail
  obtain ⟨u1, hu1⟩ : ∃ u, u = v1.alloc (.cells #[.int .i64 0, .slice a1 1 c1] 24) := ⟨_, rfl⟩
  rw [← hu1]
  have hA1 : Below v1.heap.size v1 u1 := by rw [hu1]; exact (Below.refl _ _).alloc (Nat.le_refl _) _
  have hx1 : Bx u1 v1.heap.size (.int .i64 0) (.slice a1 1 c1) := by rw [hu1]; exact Bx.made _ _ _
  have HS1 := hid (HT1.out.on hA1)
  replace HB := hid (HB.out.trans (hA1.mono HB.out.size))
  obtain ⟨g1, hg1⟩ : ∃ g, g = v1.heap.size := ⟨_, rfl⟩
  rw [← hg1] at hx1 ⊢
  have HX1 := hid hx1
  clear hg1 hx1 hA1 hu1 HT1
  have p1x := HX1.out.c0
  have p1y := HX1.out.c1
  have CC2 := hid (push_any 0 a1 1 c1 [⟨0, 0, 1, false⟩] 2 u1 HS1.out)
  go_wp2_with fail
  refine CC2.out.mono ?_
  intro e2 v2 hm2
  obtain ⟨a2, c2, rfl, ho2, hst2, hb2⟩ := hm2.at (h := 2) (l := [⟨0, 0, 1, false⟩]) (n := 1) (er := 0) (by rfl) (by decide) (by omega)
  clear p1x p1y
  clear hm2 CC2
  replace HX1 := hid (HX1.out.below hb2)
  replace HS1 := hid (HS1.out.on hb2)
  replace HB := hid (HB.out.trans (hb2.mono HB.out.size))
  have HT2 := hid hst2
  clear ho2 hst2 hb2
  go_upto_region 3 with fail
  obtain ⟨u2, hu2⟩ : ∃ u, u = v2.alloc (.cells #[.int .i64 2, .slice a2 1 c2] 24) := ⟨_, rfl⟩
  rw [← hu2]
  have hA2 : Below v2.heap.size v2 u2 := by rw [hu2]; exact (Below.refl _ _).alloc (Nat.le_refl _) _
  have hx2 : Bx u2 v2.heap.size (.int .i64 2) (.slice a2 1 c2) := by rw [hu2]; exact Bx.made _ _ _
  have HS3 := hid (HT2.out.on hA2)
  replace HX1 := hid (HX1.out.below hA2)
  replace HS1 := hid (HS1.out.on hA2)
  replace HB := hid (HB.out.trans (hA2.mono HB.out.size))
  obtain ⟨g3, hg3⟩ : ∃ g, g = v2.heap.size := ⟨_, rfl⟩
  rw [← hg3] at hx2 ⊢
  have HX3 := hid hx2
  clear hg3 hx2 hA2 hu2 HT2
  have p3x := HX3.out.c0
  have p3y := HX3.out.c1
  have CC3 := hid (pop_any 2 a2 1 c2 [⟨0, 0, 1, false⟩] 1 u2 HS3.out (by omega))
  go_wp2_with fail
  refine CC3.out.mono ?_
  intro e3 v3 hm3
  obtain ⟨a3, c3, rfl, ho3, hst3, hb3⟩ := hm3.at (h := 1) (l := [⟨0, 0, 1, false⟩]) (n := 1) (er := 0) (by rfl) (by decide) (by omega)
  clear p3x p3y
  clear hm3 CC3
  replace HX1 := hid (HX1.out.below hb3)
  replace HS1 := hid (HS1.out.on hb3)
  replace HX3 := hid (HX3.out.below hb3)
  replace HS3 := hid (HS3.out.on hb3)
  replace HB := hid (HB.out.trans (hb3.mono HB.out.size))
  have HT3 := hid hst3
  clear ho3 hst3 hb3
  go_upto_region 4 with fail
  obtain ⟨u3, hu3⟩ : ∃ u, u = v3.alloc (.cells #[.int .i64 1, .slice a3 1 c3] 24) := ⟨_, rfl⟩
  rw [← hu3]
  have hA3 : Below v3.heap.size v3 u3 := by rw [hu3]; exact (Below.refl _ _).alloc (Nat.le_refl _) _
  have hx3 : Bx u3 v3.heap.size (.int .i64 1) (.slice a3 1 c3) := by rw [hu3]; exact Bx.made _ _ _
  have HS5 := hid (HT3.out.on hA3)
  replace HX1 := hid (HX1.out.below hA3)
  replace HS1 := hid (HS1.out.on hA3)
  replace HX3 := hid (HX3.out.below hA3)
  replace HS3 := hid (HS3.out.on hA3)
  replace HB := hid (HB.out.trans (hA3.mono HB.out.size))
  obtain ⟨g5, hg5⟩ : ∃ g, g = v3.heap.size := ⟨_, rfl⟩
  rw [← hg5] at hx3 ⊢
  have HX5 := hid hx3
  clear hg5 hx3 hA3 hu3 HT3
  have p5x := HX5.out.c0
  have p5y := HX5.out.c1
  have CC4 := hid (label_any 1 a3 1 c3 [⟨0, 0, 1, false⟩] 0 u3 HS5.out)
  rw [show labelR 1 [⟨0, 0, 1, false⟩] 0 = (1, 0) from by rfl] at CC4
  go_wp2_with fail
  refine CC4.out.mono ?_
  rintro e4 v4 ⟨rfl, hb4⟩
  clear p5x p5y
  clear CC4
  replace HX1 := hid (HX1.out.below hb4)
  replace HS1 := hid (HS1.out.on hb4)
  replace HX3 := hid (HX3.out.below hb4)
  replace HS3 := hid (HS3.out.on hb4)
  replace HX5 := hid (HX5.out.below hb4)
  replace HS5 := hid (HS5.out.on hb4)
  replace HB := hid (HB.out.trans (hb4.mono HB.out.size))
  clear hb4
  have p3x := HX3.out.c0
  have p3y := HX3.out.c1
  have p5x := HX5.out.c0
  have p5y := HX5.out.c1
  go_wp2
  go_ret
  exact ⟨rfl, HB.out⟩
end Go.Proofs.Ytnfpfagojeieeaa.Stk
