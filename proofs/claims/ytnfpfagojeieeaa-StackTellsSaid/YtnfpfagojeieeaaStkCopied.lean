/-
  STACK: a copy of a valid stand, and the place of its innermost frame, by contract.
-/
import Derived.Test.YtnfpfagojeieeaaStkMake
import Derived.Deep.RegionHeld3
namespace Go.Proofs.Ytnfpfagojeieeaa.Stk
open Go.RowKit
set_option linter.unusedVariables false

theorem results_cs {fn : Func} {p q : Tmp} (h : fn.results = #[.cell p 24, .tmp q]) (tmps : Array Value) (w : World) (g : Nat) {x y : Value} (hp : tmps.getD p undef = .pointer (some ⟨g, 0, none⟩)) (hb : Bx w g x y) :
    (results fn tmps).run Try.prog w = .ok (.tuple #[.agg #[x, y], tmps.getD q undef]) w := by
  have hp' : tmps[p]?.getD undef = .pointer (some ⟨g, 0, none⟩) := by simpa using hp
  simp [results, h, hp', asAddr, run_loadVar_row w g _ 24 _ _ _ hb Try.underlying24 rfl (by kernel_rfl)]
theorem results_css {fn : Func} {p q r : Tmp} (h : fn.results = #[.cell p 24, .tmp q, .tmp r]) (tmps : Array Value) (w : World) (g : Nat) {x y : Value} (hp : tmps.getD p undef = .pointer (some ⟨g, 0, none⟩)) (hb : Bx w g x y) :
    (results fn tmps).run Try.prog w = .ok (.tuple #[.agg #[x, y], tmps.getD q undef, tmps.getD r undef]) w := by
  have hp' : tmps[p]?.getD undef = .pointer (some ⟨g, 0, none⟩) := by simpa using hp
  simp [results, h, hp', asAddr, run_loadVar_row w g _ 24 _ _ _ hb Try.underlying24 rfl (by kernel_rfl)]
/-- Two boxes: what came in, and the result. -/
theorem two_boxes (w : World) (x y : Value) : ∃ W0, W0 = (w.alloc (.cells #[x, y] 24)).alloc (.cells #[.int .i64 0, .slice none 0 0] 24) ∧ Below w.heap.size w W0 ∧ Bx W0 w.heap.size x y ∧ Bx W0 (w.heap.size + 1) (.int .i64 0) (.slice none 0 0) ∧ W0.heap.size = w.heap.size + 2 := by
  refine ⟨_, rfl, ((Below.refl w.heap.size w).alloc (Nat.le_refl _) _).alloc (by simp) _, (Bx.made w _ _).below ((Below.refl _ _).alloc (Nat.le_refl _) _), ?_, by simp⟩
  have h := Bx.made (w.alloc (.cells #[x, y] 24)) (.int .i64 0) (.slice none 0 0)
  rw [World.size_alloc] at h
  exact h
set_option maxHeartbeats 2000000 in
theorem copied_no (h : Int) (a : Option Addr) (n c : Nat) (l : List Fr) (w : World) (hs : StAt w.heap.size w a n c l) (hv : valid h l = false) :
    Calls Try.prog 27 #[.agg #[.int .i64 h, .slice a n c]] w fun e w' => e = .returned (.tuple #[.agg #[.int .i64 0, .slice none 0 0], .pointer none, .int .i64 2]) ∧ Below w.heap.size w w' := by
  obtain ⟨W0, hW0, hb, hx, hy, hsz⟩ := two_boxes w (.int .i64 h) (.slice a n c)
  have CC := hid (check_any h a n c l W0 (hs.on hb))
  have he : chk h l = 2 := by unfold chk; rw [hv]; rfl
  rw [he] at CC
  have c0 := hx.c0
  have c1 := hx.c1
  have HB := hid hb
  have HY := hid hy
  have HW := hid hW0
  have HS := hid hsz
  clear hs hv he hb hx hy hW0 hsz
  go_enter Try.func27, Try.ntmps27
  go_upto_region 1 with fail
  rw [← HW.out]
  go_wp2_with fail
  refine CC.out.mono ?_
  rintro e w1 ⟨rfl, hb1⟩
  have hy1 := HY.out.below hb1
  have f0 := hy1.f 0
  have f1 := hy1.f 1
  have k0 := hy1.c0
  have k1 := hy1.c1
  have HY1 := hid hy1
  have HB1 := hid (HB.out.trans (hb1.mono HB.out.size))
  clear hy1 hb1
  go_wp2
  exact bodyPost_ret (results_css Try.results27 _ _ (w.heap.size + 1) rfl (box2 HY1.out _ _)) rfl ⟨rfl, (HB1.out.setCell (by simp) _).setCell (by simp) _⟩
theorem Bx.drew {W : World} {g : Nat} {x y : Value} (h : Bx W g x y) : Bx W.drew g x y := h
theorem OwnF.drew {base : Nat} {w : World} {v : Value} {l : List Fr} (h : OwnF base w v l) : OwnF base w.drew v l := ⟨h.row, h.len⟩
theorem bx_keep {w W W' : World} {x y : Value} (hx : Bx W w.heap.size x y) (h : Below (w.heap.size + 1) W W') : W'.cell? ⟨w.heap.size, 0, none⟩ = some x ∧ W'.cell? ⟨w.heap.size, 1, none⟩ = some y :=
  ⟨(hx.belowB h (by omega)).c0, (hx.belowB h (by omega)).c1⟩
set_option maxHeartbeats 2000000 in
theorem copied_yes (h : Int) (a : Option Addr) (n c : Nat) (l : List Fr) (w : World) (hs : StAt w.heap.size w a n c l) (hv : valid h l = true) :
    Calls Try.prog 27 #[.agg #[.int .i64 h, .slice a n c]] w fun e w' => ∃ g c', e = .returned (.tuple #[.agg #[.int .i64 h, .slice (some ⟨g, 0, none⟩) n c'], .pointer (some ⟨g, (n - 1) * 4, none⟩), .int .i64 0]) ∧ OwnF w.heap.size w' (.slice (some ⟨g, 0, none⟩) n c') l ∧ Below w.heap.size w w' := by
  obtain ⟨W0, hW0, hb, hx, hy, hsz⟩ := two_boxes w (.int .i64 h) (.slice a n c)
  obtain ⟨-, -, hne, hle⟩ := valid_yes hv
  have hl := hs.len
  have CC := hid (check_any h a n c l W0 (hs.on hb))
  have CL := hid (fun W (hB : Below W0.heap.size W0 W) => clone_any W a n c l hl (((hs.on hb).below hB).more hB.size).rows (by omega))
  have he : chk h l = 0 := by unfold chk; rw [hv]; rfl
  rw [he] at CC
  obtain ⟨m, rfl⟩ : ∃ m, n = m + 1 := ⟨n - 1, by have := List.length_pos_iff.2 hne; omega⟩
  rw [Nat.add_sub_cancel]
  have hmm : m ≤ 1000 := by omega
  have hm0 : (m : Int) < (m : Int) + 1 := by omega
  have km : IntKind.i64.wrap (m : Int) = m := s64_in (by omega) (by omega)
  have c0 := hx.c0
  have c1 := hx.c1
  have HL := hid hl
  have HB := hid hb
  have HX := hid hx
  have HY := hid hy
  have HW := hid hW0
  have HS := hid hsz
  clear hs hv he hb hx hy hW0 hsz hl hne hle
  go_enter Try.func27, Try.ntmps27
  go_upto_region 1 with fail
  rw [← HW.out]
  go_wp2_with fail
  refine CC.out.mono ?_
  rintro e w1 ⟨rfl, hb1⟩
  have hx1 := HX.out.below hb1
  have d0 := hx1.c0
  have d1 := hx1.c1
  have HX1 := hid hx1
  have HB1 := hid hb1
  clear hb1 hx1 c0 c1
  go_wp2_with fail
  refine (CL.out _ HB1.out).mono ?_
  rintro e w2 ⟨v, rfl, ho, hb2⟩
  obtain ⟨a1, c1, hv1, hst⟩ := OwnF.slice ho (by rw [HL.out]; omega)
  rw [HL.out] at hv1
  have hpos : ∃ g, a1 = some ⟨g, 0, none⟩ ∧ w1.heap.size ≤ g := by
    rcases ho.row.2 with ⟨h1, h0⟩ | ⟨g, cap, cur, h1, hg, _⟩
    · rw [List.length_map, HL.out] at h0; omega
    · rw [hv1] at h1
      simp only [Value.slice.injEq] at h1
      exact ⟨g, h1.1, hg⟩
  obtain ⟨g, rfl, hg⟩ := hpos
  subst hv1
  have hx2 := HX1.out.below hb2
  have e0 := hx2.c0
  have e1 := hx2.c1
  have f1 := hx2.f 1
  have HX2 := hid hx2
  have HY2 := hid ((HY.out.below HB1.out).below hb2)
  have HO := hid ho
  have HB2 := hid (HB.out.trans ((HB1.out.trans (hb2.mono HB1.out.size)).mono HB.out.size))
  have HZ := hid (show w.heap.size + 2 ≤ w1.heap.size by have := HB1.out.size; have := HS.out; omega)
  have HG := hid hg
  clear ho hst hb2 hx2 CC CL HX1 hg d0 d1
  go_wp2
  obtain ⟨w3, hw3⟩ : ∃ w3, w3 = w2.setCell ⟨w.heap.size, 1, none⟩ (.slice (some ⟨g, 0, none⟩) (m + 1) c1) := ⟨_, rfl⟩
  rw [← hw3]
  have hx3 : Bx w3 w.heap.size (.int .i64 h) (.slice (some ⟨g, 0, none⟩) (m + 1) c1) := by rw [hw3]; exact HX2.out.set1 _
  have hy3 : Bx w3 (w.heap.size + 1) (.int .i64 0) (.slice none 0 0) := by rw [hw3]; exact HY2.out.far (by simp) _
  have HO3 : Hid (OwnF w1.heap.size w3 (.slice (some ⟨g, 0, none⟩) (m + 1) c1) l) := hid (by rw [hw3]; exact HO.out.set (by have := HZ.out; show w.heap.size < _; omega) _)
  have HB3 : Hid (Below w.heap.size w w3) := hid (by rw [hw3]; exact HB2.out.setCell (by simp) _)
  have HY3 := hid hy3
  have e0 := hx3.c0
  have e1 := hx3.c1
  have f0 := hy3.f 0
  have f1 := hy3.f 1
  have k0 := hy3.c0
  have k1 := hy3.c1
  have hS : w3.cell? ⟨w.heap.size, 0, none⟩ = some (.int .i64 h) ∧ w3.cell? ⟨w.heap.size, 1, none⟩ = some (.slice (some ⟨g, 0, none⟩) (m + 1) c1) := ⟨e0, e1⟩
  have HK := hid (fun (W' : World) (h : Below (w.heap.size + 1) w3 W') => bx_keep hx3 h)
  clear hw3 hx3 hy3 HO HB2 HX2 HY2 HX HY HB HB1
  go_region_held3 (fun w' => w'.cell? ⟨w.heap.size, 0, none⟩ = some (.int .i64 h) ∧ w'.cell? ⟨w.heap.size, 1, none⟩ = some (.slice (some ⟨g, 0, none⟩) (m + 1) c1))
    (first
      | (with_reducible assumption)
      | (with_reducible exact HK.out _ ((Below.refl _ _).drew))
      | (with_reducible exact HK.out _ ((((Below.refl _ _).drew).setCell (by simp) _).setCell (by simp) _))
      | (with_reducible exact HK.out _ (((Below.refl _ _).setCell (by simp) _).setCell (by simp) _)))
    (fail)
  go_wp2
  have hz := HZ.out
  exact bodyPost_ret (results_css Try.results27 _ _ (w.heap.size + 1) rfl (Bx.drew (box2 HY3.out _ _))) rfl ⟨g, c1, rfl, OwnF.drew (((HO3.out.set (by show w.heap.size + 1 < _; omega) _).set (by show w.heap.size + 1 < _; omega) _).mono (by omega)), ((HB3.out.setCell (by simp) _).setCell (by simp) _).drew⟩
end Go.Proofs.Ytnfpfagojeieeaa.Stk
