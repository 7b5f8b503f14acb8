/-
  Kind: Get, by contract.
-/
import Derived.Test.YtgndekmmeknfpaaKindNew
import Derived.Deep.RegionHeld3
namespace Go.Proofs.Ytgndekmmeknfpaa.Kind
set_option linter.unusedSimpArgs false
set_option linter.unusedVariables false
open Go.RowKit Go.Proofs.Ytgndekmmeknfpaa.Leb

/-- The frame's own variables: the answer (two cells from ⟨T, 0⟩ on), the place behind (⟨N, 0⟩), the fault (⟨F, 0⟩, ⟨F, 1⟩). -/
structure FrT (w : World) (T N F : Nat) (x y : Value) : Prop where
  t0 : w.cell? ⟨T, 0, none⟩ = some x
  t1 : w.cell? ⟨T, 1, none⟩ = some y
  n0 : w.cell? ⟨N, 0, none⟩ = some (.int .i64 0)
  f0 : w.cell? ⟨F, 0, none⟩ = some (.int .i64 0)
  f1 : w.cell? ⟨F, 1, none⟩ = some (.int .i64 0)
  i0 : w.frozen? ⟨T, 0, none⟩ = false
  i1 : w.frozen? ⟨T, 1, none⟩ = false
  j0 : w.frozen? ⟨N, 0, none⟩ = false
  g0 : w.frozen? ⟨F, 0, none⟩ = false
  g1 : w.frozen? ⟨F, 1, none⟩ = false
theorem FrT.save {w w' : World} {T N F k : Nat} {x y : Value} (h : FrT w T N F x y) (s : Save k w w') (hT : T ≠ k) (hN : N ≠ k) (hF : F ≠ k) : FrT w' T N F x y := by
  have lT := World.block_lt_of_cell? w _ h.t0
  have lN := World.block_lt_of_cell? w _ h.n0
  have lF := World.block_lt_of_cell? w _ h.f0
  exact ⟨s.cell hT h.t0, s.cell hT h.t1, s.cell hN h.n0, s.cell hF h.f0, s.cell hF h.f1, s.frozen lT hT h.i0, s.frozen lT hT h.i1, s.frozen lN hN h.j0, s.frozen lF hF h.g0, s.frozen lF hF h.g1⟩
theorem FrT.below {w w' : World} {T N F : Nat} {x y : Value} (h : FrT w T N F x y) (hb : Below w.heap.size w w') : FrT w' T N F x y :=
  h.save (k := w.heap.size) (.of_below hb) (Nat.ne_of_lt (World.block_lt_of_cell? w _ h.t0)) (Nat.ne_of_lt (World.block_lt_of_cell? w _ h.n0)) (Nat.ne_of_lt (World.block_lt_of_cell? w _ h.f0))
theorem RdIs.set {w : World} {k : Nat} {v : Value} {s : Rd} (h : RdIs w k v s) (a : Addr) (u : Value) (ha : k ≠ a.block) : RdIs (w.setCell a u) k v s :=
  h.save ((Save.refl a.block w).setCell (.inl rfl) u) ha
theorem FrT.set0 {w : World} {T N F : Nat} {x y u : Value} (h : FrT w T N F x y) (hN : N ≠ T) (hF : F ≠ T) : FrT (w.setCell ⟨T, 0, none⟩ u) T N F u y := by
  refine ⟨?_, ?_, ?_, ?_, ?_, ?_, ?_, ?_, ?_, ?_⟩ <;> simp [go_sem, h.t0, h.t1, h.n0, h.f0, h.f1, h.i0, h.i1, h.j0, h.g0, h.g1, hN, hF, Ne.symm hN, Ne.symm hF]
theorem FrT.set1 {w : World} {T N F : Nat} {x y u : Value} (h : FrT w T N F x y) (hN : N ≠ T) (hF : F ≠ T) : FrT (w.setCell ⟨T, 1, none⟩ u) T N F x u := by
  refine ⟨?_, ?_, ?_, ?_, ?_, ?_, ?_, ?_, ?_, ?_⟩ <;> simp [go_sem, h.t0, h.t1, h.n0, h.f0, h.f1, h.i0, h.i1, h.j0, h.g0, h.g1, hN, hF, Ne.symm hN, Ne.symm hF]
theorem frT_start (w : World) (x y : Value) (t t' t'' : TypeId) : FrT (((w.alloc (.cells #[x, y] t)).alloc (.cells #[.int .i64 0] t')).alloc (.cells #[.int .i64 0, .int .i64 0] t'')) w.heap.size (w.heap.size + 1) (w.heap.size + 1 + 1) x y := by
  refine ⟨?_, ?_, ?_, ?_, ?_, ?_, ?_, ?_, ?_, ?_⟩ <;> go_simp

/-- What the loads of the last statement read. -/
abbrev Reads (T R k F : Nat) (x y : Value) (pe : Int) (w' : World) : Prop := w'.cell? ⟨T, 0, none⟩ = some x ∧ w'.cell? ⟨T, 1, none⟩ = some y ∧ w'.cell? ⟨R, 0, none⟩ = some (.pointer (some ⟨k, 0, none⟩)) ∧ w'.cell? ⟨k, 1, none⟩ = some (.int .i64 pe) ∧ w'.cell? ⟨F, 0, none⟩ = some (.int .i64 0) ∧ w'.cell? ⟨F, 1, none⟩ = some (.int .i64 0)
theorem reads_T {W : World} {T R k F : Nat} {x y : Value} {pe : Int} (h : Reads T R k F x y pe W.drew) (nR : ¬ R = T) (nk : ¬ k = T) (nF : ¬ F = T) : Reads T R k F x y pe ((W.setCell ⟨T, 0, none⟩ x).setCell ⟨T, 1, none⟩ y).drew := by
  obtain ⟨h1, h2, h3, h4, h5, h6⟩ := h
  simp at h1 h2 h3 h4 h5 h6
  refine ⟨?_, ?_, ?_, ?_, ?_, ?_⟩ <;> simp [go_sem, h1, h2, h3, h4, h5, h6, nR, nk, nF, Ne.symm nR, Ne.symm nk, Ne.symm nF]
theorem reads_N {W : World} {T R k F N : Nat} {x y u : Value} {pe : Int} (h : Reads T R k F x y pe W.drew) (nT : ¬ T = N) (nR : ¬ R = N) (nk : ¬ k = N) (nF : ¬ F = N) : Reads T R k F x y pe (W.setCell ⟨N, 0, none⟩ u).drew := by
  obtain ⟨h1, h2, h3, h4, h5, h6⟩ := h
  simp at h1 h2 h3 h4 h5 h6
  refine ⟨?_, ?_, ?_, ?_, ?_, ?_⟩ <;> simp [go_sem, h1, h2, h3, h4, h5, h6, nT, nR, nk, nF, Ne.symm nT, Ne.symm nR, Ne.symm nk, Ne.symm nF]
theorem reads_F {W : World} {T R k F : Nat} {x y : Value} {pe : Int} (h : Reads T R k F x y pe W.drew) (nT : ¬ T = F) (nR : ¬ R = F) (nk : ¬ k = F) : Reads T R k F x y pe ((W.setCell ⟨F, 0, none⟩ (.int .i64 0)).setCell ⟨F, 1, none⟩ (.int .i64 0)).drew := by
  obtain ⟨h1, h2, h3, h4, h5, h6⟩ := h
  simp at h1 h2 h3 h4 h5 h6
  refine ⟨?_, ?_, ?_, ?_, ?_, ?_⟩ <;> simp [go_sem, h1, h2, h3, h4, h5, h6, nT, nR, nk, Ne.symm nT, Ne.symm nR, Ne.symm nk]

/-- The cells at the door, ahead of the deferred closure. -/
structure FrD (W : World) (T N F R k : Nat) (x y : Value) (pe er fa : Int) : Prop where
  t0 : W.cell? ⟨T, 0, none⟩ = some x
  t1 : W.cell? ⟨T, 1, none⟩ = some y
  n0 : W.cell? ⟨N, 0, none⟩ = some (.int .i64 pe)
  f0 : W.cell? ⟨F, 0, none⟩ = some (.int .i64 0)
  f1 : W.cell? ⟨F, 1, none⟩ = some (.int .i64 0)
  i0 : W.frozen? ⟨T, 0, none⟩ = false
  i1 : W.frozen? ⟨T, 1, none⟩ = false
  j0 : W.frozen? ⟨N, 0, none⟩ = false
  g0 : W.frozen? ⟨F, 0, none⟩ = false
  g1 : W.frozen? ⟨F, 1, none⟩ = false
  r0 : W.cell? ⟨R, 0, none⟩ = some (.pointer (some ⟨k, 0, none⟩))
  c2 : W.cell? ⟨k, 2, none⟩ = some (.int .i64 er)
  c3 : W.cell? ⟨k, 3, none⟩ = some (.int .i64 fa)
theorem frD_of {w : World} {T N F R k : Nat} {x y v : Value} {pe er fa : Int} (h : FrT w T N F x y) (hr : RdIs w k v (pe, er, fa)) (r0 : w.cell? ⟨R, 0, none⟩ = some (.pointer (some ⟨k, 0, none⟩)))
    (nTN : ¬ T = N) (nTF : ¬ T = F) (nNF : ¬ N = F) (nRT : ¬ R = T) (nRN : ¬ R = N) (nRF : ¬ R = F) (nkT : ¬ k = T) (nkN : ¬ k = N) (nkF : ¬ k = F) :
    FrD (((((w.setCell ⟨T, 0, none⟩ x).setCell ⟨T, 1, none⟩ y).setCell ⟨N, 0, none⟩ (.int .i64 pe)).setCell ⟨F, 0, none⟩ (.int .i64 0)).setCell ⟨F, 1, none⟩ (.int .i64 0)).drew T N F R k x y pe er fa := by
  have c2 := hr.c2
  have c3 := hr.c3
  simp only at c2 c3
  refine ⟨?_, ?_, ?_, ?_, ?_, ?_, ?_, ?_, ?_, ?_, ?_, ?_, ?_⟩ <;>
    simp [go_sem, h.t0, h.t1, h.n0, h.f0, h.f1, h.i0, h.i1, h.j0, h.g0, h.g1, r0, c2, c3, nTN, nTF, nNF, nRT, nRN, nRF, nkT, nkN, nkF, Ne.symm nTN, Ne.symm nTF, Ne.symm nNF, Ne.symm nRT, Ne.symm nRN, Ne.symm nRF, Ne.symm nkT, Ne.symm nkN, Ne.symm nkF]

def GotT (w : World) (r : Int × Int × Int × Int × Int) (e : Ending) (w' : World) : Prop :=
  e = .returned (.tuple #[.agg #[.int .i64 r.1, .int .i64 r.2.1], .int .i64 r.2.2.1, .agg #[.int .i64 r.2.2.2.1, .int .i64 r.2.2.2.2]]) ∧ Below w.heap.size w w'

set_option maxHeartbeats 3200000 in
theorem getT_any (av : Option Addr) (len cap : Nat) (zs : List Int) (p : Int) (w : World) (hlen : zs.length = len) (hz : Bytes w av zs) :
    Calls Try.prog 16 #[.slice av len cap, .int .i64 p] w (GotT w (getT zs p)) := by
  have hav := hz.lt
  have hmf : ∀ (fn : Fn) (first cap : Array Value) (w : World), (Instr.makeFunc fn first cap).run Try.prog w = .ok (.func fn first cap) w := fun _ _ _ _ => rfl
  go_enter_defers Try.func16, Try.ntmps16
  go_wp2_with fail
  refine (newReader_any av len cap zs p _ hlen).mono ?_
  rintro e w4 ⟨rfl, hr, hb⟩
  have hF3 := (frT_start w (.int .i64 0) (.int .i64 0) 23 3 38).below hb
  have hs := hb.size
  have hA4 : Below w.heap.size w w4 := ((((Below.refl _ _).alloc (Nat.le_refl _) _).alloc (by simp) _).alloc (by simp; omega) _).trans (hb.mono (by simp; omega))
  have hk0 : (((w.alloc (.cells #[.int .i64 0, .int .i64 0] 23)).alloc (.cells #[.int .i64 0] 3)).alloc (.cells #[.int .i64 0, .int .i64 0] 38)).heap.size = w.heap.size + 1 + 1 + 1 := by simp
  rw [hk0] at hr hs
  clear hb hk0
  have hk4 := World.block_lt_of_cell? w4 _ hr.c0
  simp only at hk4
  -- the reader's variable
  have hr5 := hr.below ((Below.refl _ _).alloc (Nat.le_refl _) (.cells #[.pointer (some ⟨w.heap.size + 1 + 1 + 1, 0, none⟩)] 49))
  have hF5 := hF3.below ((Below.refl _ _).alloc (Nat.le_refl _) (.cells #[.pointer (some ⟨w.heap.size + 1 + 1 + 1, 0, none⟩)] 49))
  have r05 : (w4.alloc (.cells #[.pointer (some ⟨w.heap.size + 1 + 1 + 1, 0, none⟩)] 49)).cell? ⟨w4.heap.size, 0, none⟩ = some (.pointer (some ⟨w.heap.size + 1 + 1 + 1, 0, none⟩)) := by go_simp
  have hA5 := thenA hA4 (.cells #[.pointer (some ⟨w.heap.size + 1 + 1 + 1, 0, none⟩)] 49)
  have hR5 : w4.heap.size + 1 = (w4.alloc (.cells #[.pointer (some ⟨w.heap.size + 1 + 1 + 1, 0, none⟩)] 49)).heap.size := by simp
  have HR5 := hid hR5
  clear hr hF3 hA4 hR5
  go_wp2_with fail
  generalize w4.alloc (.cells #[.pointer (some ⟨w.heap.size + 1 + 1 + 1, 0, none⟩)] 49) = w5 at *
  rw [HR5.out]
  have hT5 : w.heap.size ≤ w5.heap.size := hA5.size
  clear HR5
  generalize hk : w.heap.size + 1 + 1 + 1 = k at *
  generalize hF : w.heap.size + 1 + 1 = F at *
  generalize hN : w.heap.size + 1 = N at *
  generalize w4.heap.size = R at *
  generalize hT : w.heap.size = T at *
  have nTk : ¬ T = k := by omega
  have nNk : ¬ N = k := by omega
  have nFk : ¬ F = k := by omega
  have nRk : ¬ R = k := by omega
  have nRT : ¬ R = T := by omega
  have nTR : ¬ T = R := by omega
  have nkT : ¬ k = T := by omega
  have nNT : ¬ N = T := by omega
  have nFT : ¬ F = T := by omega
  have nTN : ¬ T = N := by omega
  have nTF : ¬ T = F := by omega
  have nNF : ¬ N = F := by omega
  have nFN : ¬ F = N := by omega
  have nkN : ¬ k = N := by omega
  have nkF : ¬ k = F := by omega
  have nRN : ¬ R = N := by omega
  have nRF : ¬ R = F := by omega
  have lTk : T ≤ k := by omega
  have lTN : T ≤ N := by omega
  have lTF : T ≤ F := by omega
  have HT := hid hT
  have hak : ∀ b off, av = some ⟨b, off, none⟩ → zs ≠ [] → b ≠ k := fun b off h hne => by have := hav b off h hne; omega
  have haT : ∀ b off, av = some ⟨b, off, none⟩ → zs ≠ [] → b ≠ T := fun b off h hne => by have := hav b off h hne; omega
  have HAK := hid hak
  have HAT := hid haT
  have HL := hid hlen
  have hz5 : Bytes w5 av zs := hz.below (by rw [HT.out]; exact hA5)
  clear hk hF hN hT hs hk4 hak haT hav hz hlen
  have hO := oneOf_any k av len cap zs (startR zs p) (some ⟨w5.heap.size, 0, none⟩) 1 1 [96] is96 _ (hr5.below ((Below.refl _ _).alloc (Nat.le_refl _) (.cells #[.int .u8 96] 5))) (startR_good zs p) HL.out (hz5.alloc _) rfl
    ⟨by simp, by simp, .inr ⟨_, 0, rfl, fun i hi => by
      match i, hi with
      | 0, _ => go_simp⟩⟩ is96_in
  have hg6 := oneR_good (ok := is96) (startR_good zs p)
  have HGT : Hid (getT zs p = let a := wordsR zs 255 (oneR zs is96 (startR zs p)).2; let b := wordsR zs 1 a.2; if b.2.2.1 = 0 then (a.1, b.1, b.2.1, 0, b.2.2.2) else (0, 0, 0, b.2.2.1, b.2.2.2)) := rfl
  generalize (oneR zs is96 (startR zs p)).1 = c6 at *
  generalize (oneR zs is96 (startR zs p)).2 = q6 at *
  refine hO.mono ?_
  rintro e w6 ⟨rfl, h6, s6⟩
  have sv6 : Save k w5 w6 := (Save.of_below ((Below.refl _ _).alloc (Nat.le_refl _) _)).trans s6
  have hF6 := hF5.save sv6 nTk nNk nFk
  have r06 := sv6.cell nRk r05
  have hz6 := hz5.save sv6 HAK.out
  have hA6 := hA5.trans (sv6.below hT5 lTk)
  have hT6 := Nat.le_trans hT5 sv6.size
  clear hO s6 sv6 hF5 r05 hz5 hA5 hr5
  have hW := words_any k av len cap zs q6 255 w6 h6 hg6 HL.out hz6 HAK.out (by omega)
  have hg7 : Good zs (wordsR zs 255 q6).2 := by unfold wordsR; split; exact refuseR_good (by decide) (numR_good hg6); exact runR_good _ (numR_good hg6)
  generalize wordsR zs 255 q6 = a7 at *
  obtain ⟨p7, q7⟩ := a7
  simp only at hW hg7
  go_wp2_with fail
  refine hW.mono ?_
  rintro e w7 ⟨rfl, h7, s7⟩
  have hF7 := hF6.save s7 nTk nNk nFk
  have r07 := s7.cell nRk r06
  have hz7 := hz6.save s7 HAK.out
  have hA7 := hA6.trans (s7.below hT6 lTk)
  have hT7 := Nat.le_trans hT6 s7.size
  clear hW s7 hF6 r06 hz6 hA6 h6 hg6 hT6
  have t0 := hF7.t0
  have i0 := hF7.i0
  go_wp2_with fail
  have hF8 := hF7.set0 (u := .int .i64 p7) nNT nFT
  have h8 := h7.set ⟨T, 0, none⟩ (.int .i64 p7) nkT
  have r08 : (w7.setCell ⟨T, 0, none⟩ (.int .i64 p7)).cell? ⟨R, 0, none⟩ = some (.pointer (some ⟨k, 0, none⟩)) := ((Save.refl T w7).setCell (p := ⟨T, 0, none⟩) (.inl rfl) _).cell nRT r07
  have hz8 := hz7.save ((Save.refl T w7).setCell (p := ⟨T, 0, none⟩) (.inl rfl) (.int .i64 p7)) HAT.out
  have hA8 := hA7.setCell (p := ⟨T, 0, none⟩) (Nat.le_refl _) (.int .i64 p7)
  have hT8 : T ≤ (w7.setCell ⟨T, 0, none⟩ (.int .i64 p7)).heap.size := by simpa [World.setCell] using hT7
  clear hF7 h7 r07 hz7 hA7 hT7 t0 i0
  generalize w7.setCell ⟨T, 0, none⟩ (.int .i64 p7) = w8 at *
  have hW := words_any k av len cap zs q7 1 w8 h8 hg7 HL.out hz8 HAK.out (by omega)
  generalize wordsR zs 1 q7 = a9 at *
  obtain ⟨p9, q9⟩ := a9
  simp only at hW
  refine hW.mono ?_
  rintro e w9 ⟨rfl, h9, s9⟩
  have hF9 := hF8.save s9 nTk nNk nFk
  have r09 := s9.cell nRk r08
  have hA9 := hA8.trans (s9.below hT8 lTk)
  clear hW s9 hF8 r08 hz8 hA8 h8 hg7 hT8
  have t1 := hF9.t1
  have i1 := hF9.i1
  go_wp2
  have hFt := hF9.set1 (u := .int .i64 p9) nNT nFT
  have ht := h9.set ⟨T, 1, none⟩ (.int .i64 p9) nkT
  have r0t : (w9.setCell ⟨T, 1, none⟩ (.int .i64 p9)).cell? ⟨R, 0, none⟩ = some (.pointer (some ⟨k, 0, none⟩)) := ((Save.refl T w9).setCell (p := ⟨T, 1, none⟩) (.inl rfl) _).cell nRT r09
  have hAt := hA9.setCell (p := ⟨T, 1, none⟩) (Nat.le_refl _) (.int .i64 p9)
  clear hF9 h9 r09 hA9 t1 i1
  generalize w9.setCell ⟨T, 1, none⟩ (.int .i64 p9) = wt at *
  obtain ⟨pe, er, fa⟩ := q9
  have t0 := hFt.t0
  have t1 := hFt.t1
  have n0 := hFt.n0
  have f0 := hFt.f0
  have f1 := hFt.f1
  have i0 := hFt.i0
  have i1 := hFt.i1
  have j0 := hFt.j0
  have g0 := hFt.g0
  have g1 := hFt.g1
  have c1 := ht.c1
  have c2 := ht.c2
  have c3 := ht.c3
  simp only at c1 c2 c3
  have hS0 : Reads T R k F (.int .i64 p7) (.int .i64 p9) pe wt.drew := ⟨t0, t1, r0t, c1, f0, f1⟩
  have HD := frD_of hFt ht r0t nTN nTF nNF nRT nRN nRF nkT nkN nkF
  have hBt := ((((hAt.setCell (p := ⟨T, 0, none⟩) (Nat.le_refl _) (.int .i64 p7)).setCell (p := ⟨T, 1, none⟩) (Nat.le_refl _) (.int .i64 p9)).setCell (p := ⟨N, 0, none⟩) lTN (.int .i64 pe)).setCell (p := ⟨F, 0, none⟩) lTF (.int .i64 0)).setCell (p := ⟨F, 1, none⟩) lTF (.int .i64 0) |>.drew
  clear hFt ht hAt
  go_region_held3 (fun w' => w'.cell? ⟨T, 0, none⟩ = some (.int .i64 p7) ∧ w'.cell? ⟨T, 1, none⟩ = some (.int .i64 p9) ∧ w'.cell? ⟨R, 0, none⟩ = some (.pointer (some ⟨k, 0, none⟩)) ∧ w'.cell? ⟨k, 1, none⟩ = some (.int .i64 pe) ∧ w'.cell? ⟨F, 0, none⟩ = some (.int .i64 0) ∧ w'.cell? ⟨F, 1, none⟩ = some (.int .i64 0))
    (first
      | (with_reducible assumption)
      | (with_reducible refine reads_T ?_ nRT nkT nFT; with_reducible assumption)
      | (with_reducible refine reads_N ?_ nTN nRN nkN nFN; with_reducible assumption)
      | (with_reducible refine reads_F ?_ nTF nRF nkF; with_reducible assumption))
    (fail)
  go_wp2
  generalize (((((wt.setCell ⟨T, 0, none⟩ (.int .i64 p7)).setCell ⟨T, 1, none⟩ (.int .i64 p9)).setCell ⟨N, 0, none⟩ (.int .i64 pe)).setCell ⟨F, 0, none⟩ (.int .i64 0)).setCell ⟨F, 1, none⟩ (.int .i64 0)).drew = W at *
  clear t0 t1 n0 f0 f1 i0 i1 j0 g0 g1 c1 c2 c3 r0t hS0
  obtain ⟨t0, t1, n0, f0, f1, i0, i1, j0, g0, g1, r0, c2, c3⟩ := HD
  refine leaves_cons (f := 26) (args := #[.pointer (some ⟨R, 0, none⟩), .pointer (some ⟨F, 0, none⟩), .pointer (some ⟨T, 0, none⟩), .pointer (some ⟨N, 0, none⟩)]) (by simp) (by simp [go_sem]) ?_
  by_cases he : er = 0
  · subst he
    have HE : Hid (getT zs p = (p7, p9, pe, 0, fa)) := by show _ = _; rw [HGT.out]; rfl
    refine (closeT_ok R F T N k fa _ _ W r0 c2 c3 f0 f1 g0 g1).mono ?_
    rintro e u' w'' ⟨rfl, rfl, rfl⟩
    refine ⟨.tuple #[.agg #[.int .i64 p7, .int .i64 p9], .int .i64 pe, .agg #[.int .i64 0, .int .i64 fa]], ?_, ?_⟩
    · simp [settle, results, Try.results16, go_sem, t0, t1, n0, f0, f1, nTN, nTF, nNF, nFN, nFT, nNT]
    · rw [HE.out]
      refine ⟨rfl, ?_⟩
      rw [HT.out]
      exact (hBt.setCell (p := ⟨F, 0, none⟩) lTF _).setCell (p := ⟨F, 1, none⟩) lTF _
  · have HE : Hid (getT zs p = (0, 0, 0, er, fa)) := by show _ = _; rw [HGT.out]; exact if_neg he
    refine (closeT_no R F T N k er fa _ _ _ _ _ W he r0 c2 c3 f0 f1 g0 g1 t0 t1 i0 i1 n0 j0 nTF nNF nNT).mono ?_
    rintro e u' w'' ⟨rfl, rfl, rfl⟩
    refine ⟨.tuple #[.agg #[.int .i64 0, .int .i64 0], .int .i64 0, .agg #[.int .i64 er, .int .i64 fa]], ?_, ?_⟩
    · simp [settle, results, Try.results16, go_sem, t0, t1, n0, f0, f1, nTN, nTF, nNF, nFN, nFT, nNT]
    · rw [HE.out]
      refine ⟨rfl, ?_⟩
      rw [HT.out]
      exact ((((hBt.setCell (p := ⟨F, 0, none⟩) lTF _).setCell (p := ⟨F, 1, none⟩) lTF _).setCell (p := ⟨T, 0, none⟩) (Nat.le_refl _) _).setCell (p := ⟨T, 1, none⟩) (Nat.le_refl _) _).setCell (p := ⟨N, 0, none⟩) lTN _
end Go.Proofs.Ytgndekmmeknfpaa.Kind
