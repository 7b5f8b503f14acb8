/-
  Kind: GetLimits, by contract, one theorem for each way. (Written by wip/tools/gen_kindlim.py.)
-/
import Derived.Test.YtgndekmmeknfpaaKindLimKit
namespace Go.Proofs.Ytgndekmmeknfpaa.Kind
set_option linter.unusedSimpArgs false
set_option linter.unusedVariables false
open Go.RowKit Go.Proofs.Ytgndekmmeknfpaa.Leb


set_option maxHeartbeats 3200000 in
theorem getLim_000 (av : Option Addr) (len cap : Nat) (zs : List Int) (p most : Int) (w : World) (hlen : zs.length = len) (hz : Bytes w av zs)
    (c6 n x : Int) (q6 q7 q8 : Rd) (e6 : oneR zs is01 (startR zs p) = (c6, q6)) (e7 : numR zs q6 = (n, q7)) (e8 : numR zs q7 = (x, q8)) (hm : 0 ≤ most ∧ most ≤ 4294967295) (hc : ¬ c6 = 1) (hn : ¬ most < n) :
    Calls Try.prog 17 #[.slice av len cap, .int .i64 p, .int .u32 most] w (GotL w (finL n 0 false q7)) := by
  have hav := hz.lt
  have hmf : ∀ (fn : Fn) (first cap : Array Value) (w : World), (Instr.makeFunc fn first cap).run Try.prog w = .ok (.func fn first cap) w := fun _ _ _ _ => rfl
  have hcb : (c6 == 1) = false := by simp [hc]
  have hg6 : Good zs q6 := by have := oneR_good (ok := is01) (startR_good zs p); rw [e6] at this; exact this
  have hg7 : Good zs q7 := by have := numR_good hg6; rw [e7] at this; exact this
  obtain ⟨bn0, bn1⟩ : 0 ≤ n ∧ n < 4294967296 := by have := numR_bounds (s := q6) hz.byte; rw [e7] at this; exact this
  obtain ⟨bx0, bx1⟩ : 0 ≤ x ∧ x < 4294967296 := by have := numR_bounds (s := q7) hz.byte; rw [e8] at this; exact this
  have E6 := hid e6
  have E7 := hid e7
  have E8 := hid e8
  clear e6 e7 e8 hc
  go_enter_defers Try.func17, Try.ntmps17
  go_wp2_with fail
  refine (newReader_any av len cap zs p _ hlen).mono ?_
  rintro e w4 ⟨rfl, hr, hb⟩
  have hF3 := (frL_start w 26 3 38).below hb
  have hs := hb.size
  have hA4 : Below w.heap.size w w4 := ((((Below.refl _ _).alloc (Nat.le_refl _) _).alloc (by simp) _).alloc (by simp; omega) _).trans (hb.mono (by simp; omega))
  have hk0 : (((w.alloc (.cells #[.int .u32 0, .int .u32 0, .bool false] 26)).alloc (.cells #[.int .i64 0] 3)).alloc (.cells #[.int .i64 0, .int .i64 0] 38)).heap.size = w.heap.size + 1 + 1 + 1 := by simp
  rw [hk0] at hr hs
  clear hb hk0
  have hk4 := World.block_lt_of_cell? w4 _ hr.c0
  simp only at hk4
  have hr5 := hr.below ((Below.refl _ _).alloc (Nat.le_refl _) (.cells #[.pointer (some ⟨w.heap.size + 1 + 1 + 1, 0, none⟩)] 49))
  have hF5 := hF3.below ((Below.refl _ _).alloc (Nat.le_refl _) (.cells #[.pointer (some ⟨w.heap.size + 1 + 1 + 1, 0, none⟩)] 49))
  have r05 : (w4.alloc (.cells #[.pointer (some ⟨w.heap.size + 1 + 1 + 1, 0, none⟩)] 49)).cell? ⟨w4.heap.size, 0, none⟩ = some (.pointer (some ⟨w.heap.size + 1 + 1 + 1, 0, none⟩)) := by go_simp
  have hA5 := thenA hA4 (.cells #[.pointer (some ⟨w.heap.size + 1 + 1 + 1, 0, none⟩)] 49)
  have hR5 : w4.heap.size + 1 = (w4.alloc (.cells #[.pointer (some ⟨w.heap.size + 1 + 1 + 1, 0, none⟩)] 49)).heap.size := by simp
  have HR5 := hid hR5
  clear hr hF3 hA4 hR5
  go_wp2_with fail
  generalize w4.alloc (.cells #[.pointer (some ⟨w.heap.size + 1 + 1 + 1, 0, none⟩)] 49) = w5 at *
  rw [HR5.out]
  have hT5 : w.heap.size ≤ w5.heap.size := hA5.size
  clear HR5
  generalize hk : w.heap.size + 1 + 1 + 1 = k at *
  generalize hF : w.heap.size + 1 + 1 = F at *
  generalize hN : w.heap.size + 1 = N at *
  generalize w4.heap.size = R at *
  generalize hT : w.heap.size = T at *
  have nTk : ¬ T = k := by omega
  have nNk : ¬ N = k := by omega
  have nFk : ¬ F = k := by omega
  have nRk : ¬ R = k := by omega
  have nRT : ¬ R = T := by omega
  have nTR : ¬ T = R := by omega
  have nkT : ¬ k = T := by omega
  have nNT : ¬ N = T := by omega
  have nFT : ¬ F = T := by omega
  have nTN : ¬ T = N := by omega
  have nTF : ¬ T = F := by omega
  have nNF : ¬ N = F := by omega
  have nFN : ¬ F = N := by omega
  have nkN : ¬ k = N := by omega
  have nkF : ¬ k = F := by omega
  have nRN : ¬ R = N := by omega
  have nRF : ¬ R = F := by omega
  have lTk : T ≤ k := by omega
  have lTN : T ≤ N := by omega
  have lTF : T ≤ F := by omega
  have HT := hid hT
  have hak : ∀ b off, av = some ⟨b, off, none⟩ → zs ≠ [] → b ≠ k := fun b off h hne => by have := hav b off h hne; omega
  have haT : ∀ b off, av = some ⟨b, off, none⟩ → zs ≠ [] → b ≠ T := fun b off h hne => by have := hav b off h hne; omega
  have HAK := hid hak
  have HAT := hid haT
  have HL := hid hlen
  have hz5 : Bytes w5 av zs := hz.below (by rw [HT.out]; exact hA5)
  clear hk hF hN hT hs hk4 hak haT hav hz hlen
  have hO := oneOf_any k av len cap zs (startR zs p) (some ⟨w5.heap.size, 0, none⟩) 2 2 [0, 1] is01 _ (hr5.below ((Below.refl _ _).alloc (Nat.le_refl _) (.cells #[.int .u8 0, .int .u8 1] 5))) (startR_good zs p) HL.out (hz5.alloc _) rfl
    ⟨by simp, by simp, .inr ⟨_, 0, rfl, fun i hi => by
      match i, hi with
      | 0, _ => go_simp
      | 1, _ => go_simp⟩⟩ is01_in
  rw [E6.out] at hO
  refine hO.mono ?_
  rintro e w6 ⟨rfl, h6, s6⟩
  have sv6 : Save k w5 w6 := (Save.of_below ((Below.refl _ _).alloc (Nat.le_refl _) _)).trans s6
  have hF6 := hF5.save sv6 nTk nNk nFk
  have r06 := sv6.cell nRk r05
  have hz6 := hz5.save sv6 HAK.out
  have hA6 := hA5.trans (sv6.below hT5 lTk)
  have hT6 := Nat.le_trans hT5 sv6.size
  clear hO s6 sv6 hF5 r05 hz5 hA5 hr5 hT5
  have t2 := hF6.t2
  have i2 := hF6.i2
  simp only at h6
  obtain ⟨p6, r6⟩ : ∃ p6, q6.1 = p6 := ⟨_, rfl⟩
  have c1 : (w6.setCell ⟨T, 2, none⟩ (.bool false)).cell? ⟨k, 1, none⟩ = some (.int .i64 p6) := by rw [← r6]; exact (h6.set ⟨T, 2, none⟩ (.bool false) nkT).c1
  have R6 := hid r6
  have r07 : (w6.setCell ⟨T, 2, none⟩ (.bool false)).cell? ⟨R, 0, none⟩ = some (.pointer (some ⟨k, 0, none⟩)) := ((Save.refl T w6).setCell (p := ⟨T, 2, none⟩) (.inl rfl) _).cell nRT r06
  clear r6
  go_wp2_with fail
  have hF7 := hF6.set2 (u := .bool false) nNT nFT
  have h7 := h6.set ⟨T, 2, none⟩ (.bool false) nkT
  have hz7 := hz6.save ((Save.refl T w6).setCell (p := ⟨T, 2, none⟩) (.inl rfl) (.bool false)) HAT.out
  have hA7 := hA6.setCell (p := ⟨T, 2, none⟩) (Nat.le_refl _) (.bool false)
  have hT7 : T ≤ (w6.setCell ⟨T, 2, none⟩ (.bool false)).heap.size := by simpa [World.setCell] using hT6
  clear hF6 h6 r06 hz6 hA6 hT6 t2 i2 c1
  generalize w6.setCell ⟨T, 2, none⟩ (.bool false) = w7 at *
  have hW := number_any k av len cap zs q6 w7 h7 hg6 HL.out hz7
  rw [E7.out] at hW
  refine hW.mono ?_
  rintro e w8 ⟨rfl, h8, s8⟩
  have hF8 := hF7.save s8 nTk nNk nFk
  have r08 := s8.cell nRk r07
  have hz8 := hz7.save s8 HAK.out
  have hA8 := hA7.trans (s8.below hT7 lTk)
  have hT8 := Nat.le_trans hT7 s8.size
  clear hW s8 hF7 r07 hz7 hA7 h7 hT7
  have t0 := hF8.t0
  have i0 := hF8.i0
  simp only at h8
  have hF9 := hF8.set0 (u := .int .u32 n) nNT nFT
  have h9 := h8.set ⟨T, 0, none⟩ (.int .u32 n) nkT
  have r09 : (w8.setCell ⟨T, 0, none⟩ (.int .u32 n)).cell? ⟨R, 0, none⟩ = some (.pointer (some ⟨k, 0, none⟩)) := ((Save.refl T w8).setCell (p := ⟨T, 0, none⟩) (.inl rfl) _).cell nRT r08
  have hz9 := hz8.save ((Save.refl T w8).setCell (p := ⟨T, 0, none⟩) (.inl rfl) (.int .u32 n)) HAT.out
  have hA9 := hA8.setCell (p := ⟨T, 0, none⟩) (Nat.le_refl _) (.int .u32 n)
  have hT9 : T ≤ (w8.setCell ⟨T, 0, none⟩ (.int .u32 n)).heap.size := by simpa [World.setCell] using hT8
  obtain ⟨p7, r7⟩ : ∃ p7, q7.1 = p7 := ⟨_, rfl⟩
  have R7 := hid r7
  have c1 := h9.c1
  rw [r7] at c1
  have t0' := hF9.t0
  have t2' := hF9.t2
  clear r7
  have hFb := hF9
  have hb := h9
  have r0b := r09
  have hAb := hA9
  have hTb := hT9
  have t1' := hFb.t1
  clear hF9 h9 r09 hA9 hT9
  go_wp2
  clear hF8 h8 r08 hz8 hA8 hT8 t0 i0 hz9 c1
  generalize (w8.setCell ⟨T, 0, none⟩ (.int .u32 n)) = wt at *
  have hFt := hFb
  have ht := hb
  have r0t := r0b
  have hAt := hAb
  clear hFb hb r0b hAb
  generalize q7 = q9 at *
  obtain ⟨pe, er, fa⟩ := q9
  have t0 := hFt.t0
  have t1 := hFt.t1
  have t2 := hFt.t2
  have n0 := hFt.n0
  have f0 := hFt.f0
  have f1 := hFt.f1
  have i0 := hFt.i0
  have i1 := hFt.i1
  have i2 := hFt.i2
  have j0 := hFt.j0
  have g0 := hFt.g0
  have g1 := hFt.g1
  have c1 := ht.c1
  have c2 := ht.c2
  have c3 := ht.c3
  simp only at c1 c2 c3
  have hS0 : ReadsL T R k F (.int .u32 n) (.int .u32 0) (.bool false) pe wt.drew := ⟨t0, t1, t2, r0t, c1, f0, f1⟩
  have HD := frLD_of hFt ht r0t nTN nTF nNF nRT nRN nRF nkT nkN nkF
  have hBt := (((((hAt.setCell (p := ⟨T, 0, none⟩) (Nat.le_refl _) (.int .u32 n)).setCell (p := ⟨T, 1, none⟩) (Nat.le_refl _) (.int .u32 0)).setCell (p := ⟨T, 2, none⟩) (Nat.le_refl _) (.bool false)).setCell (p := ⟨N, 0, none⟩) lTN (.int .i64 pe)).setCell (p := ⟨F, 0, none⟩) lTF (.int .i64 0)).setCell (p := ⟨F, 1, none⟩) lTF (.int .i64 0) |>.drew
  clear hFt ht hAt
  go_region_held3 (fun w' => w'.cell? ⟨T, 0, none⟩ = some (.int .u32 n) ∧ w'.cell? ⟨T, 1, none⟩ = some (.int .u32 0) ∧ w'.cell? ⟨T, 2, none⟩ = some (.bool false) ∧ w'.cell? ⟨R, 0, none⟩ = some (.pointer (some ⟨k, 0, none⟩)) ∧ w'.cell? ⟨k, 1, none⟩ = some (.int .i64 pe) ∧ w'.cell? ⟨F, 0, none⟩ = some (.int .i64 0) ∧ w'.cell? ⟨F, 1, none⟩ = some (.int .i64 0))
    (first
      | (with_reducible assumption)
      | (with_reducible refine readsL_T ?_ nRT nkT nFT; with_reducible assumption)
      | (with_reducible refine readsL_N ?_ nTN nRN nkN nFN; with_reducible assumption)
      | (with_reducible refine readsL_F ?_ nTF nRF nkF; with_reducible assumption))
    (fail)
  go_wp2
  generalize ((((((wt.setCell ⟨T, 0, none⟩ (.int .u32 n)).setCell ⟨T, 1, none⟩ (.int .u32 0)).setCell ⟨T, 2, none⟩ (.bool false)).setCell ⟨N, 0, none⟩ (.int .i64 pe)).setCell ⟨F, 0, none⟩ (.int .i64 0)).setCell ⟨F, 1, none⟩ (.int .i64 0)).drew = W at *
  clear t0 t1 t2 n0 f0 f1 i0 i1 i2 j0 g0 g1 c1 c2 c3 r0t hS0
  obtain ⟨t0, t1, t2, n0, f0, f1, i0, i1, i2, j0, g0, g1, r0, c2, c3⟩ := HD
  refine leaves_cons (f := 29) (args := #[.pointer (some ⟨R, 0, none⟩), .pointer (some ⟨F, 0, none⟩), .pointer (some ⟨T, 0, none⟩), .pointer (some ⟨N, 0, none⟩)]) (by simp) (by simp [go_sem]) ?_
  by_cases he : er = 0
  · subst he
    refine (closeL_ok R F T N k fa _ _ W r0 c2 c3 f0 f1 g0 g1).mono ?_
    rintro e u' w'' ⟨rfl, rfl, rfl⟩
    refine ⟨.tuple #[.agg #[.int .u32 n, (.int .u32 0), .bool false], .int .i64 pe, .agg #[.int .i64 0, .int .i64 fa]], ?_, ?_⟩
    · simp [settle, results, Try.results17, go_sem, t0, t1, t2, n0, f0, f1, nTN, nTF, nNF, nFN, nFT, nNT]
    · rw [finL_ok]
      refine ⟨rfl, ?_⟩
      rw [HT.out]
      exact (hBt.setCell (p := ⟨F, 0, none⟩) lTF _).setCell (p := ⟨F, 1, none⟩) lTF _
  · refine (closeL_no R F T N k er fa _ _ _ _ _ _ W he r0 c2 c3 f0 f1 g0 g1 t0 t1 t2 i0 i1 i2 n0 j0 nTF nNF nNT).mono ?_
    rintro e u' w'' ⟨rfl, rfl, rfl⟩
    refine ⟨.tuple #[.agg #[.int .u32 0, .int .u32 0, .bool false], .int .i64 0, .agg #[.int .i64 er, .int .i64 fa]], ?_, ?_⟩
    · simp [settle, results, Try.results17, go_sem, t0, t1, t2, n0, f0, f1, nTN, nTF, nNF, nFN, nFT, nNT]
    · rw [finL_no he]
      refine ⟨rfl, ?_⟩
      rw [HT.out]
      exact (((((hBt.setCell (p := ⟨F, 0, none⟩) lTF _).setCell (p := ⟨F, 1, none⟩) lTF _).setCell (p := ⟨T, 0, none⟩) (Nat.le_refl _) _).setCell (p := ⟨T, 1, none⟩) (Nat.le_refl _) _).setCell (p := ⟨T, 2, none⟩) (Nat.le_refl _) _).setCell (p := ⟨N, 0, none⟩) lTN _

set_option maxHeartbeats 3200000 in
theorem getLim_010 (av : Option Addr) (len cap : Nat) (zs : List Int) (p most : Int) (w : World) (hlen : zs.length = len) (hz : Bytes w av zs)
    (c6 n x : Int) (q6 q7 q8 : Rd) (e6 : oneR zs is01 (startR zs p) = (c6, q6)) (e7 : numR zs q6 = (n, q7)) (e8 : numR zs q7 = (x, q8)) (hm : 0 ≤ most ∧ most ≤ 4294967295) (hc : ¬ c6 = 1) (hn : most < n) :
    Calls Try.prog 17 #[.slice av len cap, .int .i64 p, .int .u32 most] w (GotL w (finL n 0 false (refuseR q7 141 q6.1))) := by
  have hav := hz.lt
  have hmf : ∀ (fn : Fn) (first cap : Array Value) (w : World), (Instr.makeFunc fn first cap).run Try.prog w = .ok (.func fn first cap) w := fun _ _ _ _ => rfl
  have hcb : (c6 == 1) = false := by simp [hc]
  have hg6 : Good zs q6 := by have := oneR_good (ok := is01) (startR_good zs p); rw [e6] at this; exact this
  have hg7 : Good zs q7 := by have := numR_good hg6; rw [e7] at this; exact this
  obtain ⟨bn0, bn1⟩ : 0 ≤ n ∧ n < 4294967296 := by have := numR_bounds (s := q6) hz.byte; rw [e7] at this; exact this
  obtain ⟨bx0, bx1⟩ : 0 ≤ x ∧ x < 4294967296 := by have := numR_bounds (s := q7) hz.byte; rw [e8] at this; exact this
  have E6 := hid e6
  have E7 := hid e7
  have E8 := hid e8
  clear e6 e7 e8 hc
  go_enter_defers Try.func17, Try.ntmps17
  go_wp2_with fail
  refine (newReader_any av len cap zs p _ hlen).mono ?_
  rintro e w4 ⟨rfl, hr, hb⟩
  have hF3 := (frL_start w 26 3 38).below hb
  have hs := hb.size
  have hA4 : Below w.heap.size w w4 := ((((Below.refl _ _).alloc (Nat.le_refl _) _).alloc (by simp) _).alloc (by simp; omega) _).trans (hb.mono (by simp; omega))
  have hk0 : (((w.alloc (.cells #[.int .u32 0, .int .u32 0, .bool false] 26)).alloc (.cells #[.int .i64 0] 3)).alloc (.cells #[.int .i64 0, .int .i64 0] 38)).heap.size = w.heap.size + 1 + 1 + 1 := by simp
  rw [hk0] at hr hs
  clear hb hk0
  have hk4 := World.block_lt_of_cell? w4 _ hr.c0
  simp only at hk4
  have hr5 := hr.below ((Below.refl _ _).alloc (Nat.le_refl _) (.cells #[.pointer (some ⟨w.heap.size + 1 + 1 + 1, 0, none⟩)] 49))
  have hF5 := hF3.below ((Below.refl _ _).alloc (Nat.le_refl _) (.cells #[.pointer (some ⟨w.heap.size + 1 + 1 + 1, 0, none⟩)] 49))
  have r05 : (w4.alloc (.cells #[.pointer (some ⟨w.heap.size + 1 + 1 + 1, 0, none⟩)] 49)).cell? ⟨w4.heap.size, 0, none⟩ = some (.pointer (some ⟨w.heap.size + 1 + 1 + 1, 0, none⟩)) := by go_simp
  have hA5 := thenA hA4 (.cells #[.pointer (some ⟨w.heap.size + 1 + 1 + 1, 0, none⟩)] 49)
  have hR5 : w4.heap.size + 1 = (w4.alloc (.cells #[.pointer (some ⟨w.heap.size + 1 + 1 + 1, 0, none⟩)] 49)).heap.size := by simp
  have HR5 := hid hR5
  clear hr hF3 hA4 hR5
  go_wp2_with fail
  generalize w4.alloc (.cells #[.pointer (some ⟨w.heap.size + 1 + 1 + 1, 0, none⟩)] 49) = w5 at *
  rw [HR5.out]
  have hT5 : w.heap.size ≤ w5.heap.size := hA5.size
  clear HR5
  generalize hk : w.heap.size + 1 + 1 + 1 = k at *
  generalize hF : w.heap.size + 1 + 1 = F at *
  generalize hN : w.heap.size + 1 = N at *
  generalize w4.heap.size = R at *
  generalize hT : w.heap.size = T at *
  have nTk : ¬ T = k := by omega
  have nNk : ¬ N = k := by omega
  have nFk : ¬ F = k := by omega
  have nRk : ¬ R = k := by omega
  have nRT : ¬ R = T := by omega
  have nTR : ¬ T = R := by omega
  have nkT : ¬ k = T := by omega
  have nNT : ¬ N = T := by omega
  have nFT : ¬ F = T := by omega
  have nTN : ¬ T = N := by omega
  have nTF : ¬ T = F := by omega
  have nNF : ¬ N = F := by omega
  have nFN : ¬ F = N := by omega
  have nkN : ¬ k = N := by omega
  have nkF : ¬ k = F := by omega
  have nRN : ¬ R = N := by omega
  have nRF : ¬ R = F := by omega
  have lTk : T ≤ k := by omega
  have lTN : T ≤ N := by omega
  have lTF : T ≤ F := by omega
  have HT := hid hT
  have hak : ∀ b off, av = some ⟨b, off, none⟩ → zs ≠ [] → b ≠ k := fun b off h hne => by have := hav b off h hne; omega
  have haT : ∀ b off, av = some ⟨b, off, none⟩ → zs ≠ [] → b ≠ T := fun b off h hne => by have := hav b off h hne; omega
  have HAK := hid hak
  have HAT := hid haT
  have HL := hid hlen
  have hz5 : Bytes w5 av zs := hz.below (by rw [HT.out]; exact hA5)
  clear hk hF hN hT hs hk4 hak haT hav hz hlen
  have hO := oneOf_any k av len cap zs (startR zs p) (some ⟨w5.heap.size, 0, none⟩) 2 2 [0, 1] is01 _ (hr5.below ((Below.refl _ _).alloc (Nat.le_refl _) (.cells #[.int .u8 0, .int .u8 1] 5))) (startR_good zs p) HL.out (hz5.alloc _) rfl
    ⟨by simp, by simp, .inr ⟨_, 0, rfl, fun i hi => by
      match i, hi with
      | 0, _ => go_simp
      | 1, _ => go_simp⟩⟩ is01_in
  rw [E6.out] at hO
  refine hO.mono ?_
  rintro e w6 ⟨rfl, h6, s6⟩
  have sv6 : Save k w5 w6 := (Save.of_below ((Below.refl _ _).alloc (Nat.le_refl _) _)).trans s6
  have hF6 := hF5.save sv6 nTk nNk nFk
  have r06 := sv6.cell nRk r05
  have hz6 := hz5.save sv6 HAK.out
  have hA6 := hA5.trans (sv6.below hT5 lTk)
  have hT6 := Nat.le_trans hT5 sv6.size
  clear hO s6 sv6 hF5 r05 hz5 hA5 hr5 hT5
  have t2 := hF6.t2
  have i2 := hF6.i2
  simp only at h6
  obtain ⟨p6, r6⟩ : ∃ p6, q6.1 = p6 := ⟨_, rfl⟩
  have c1 : (w6.setCell ⟨T, 2, none⟩ (.bool false)).cell? ⟨k, 1, none⟩ = some (.int .i64 p6) := by rw [← r6]; exact (h6.set ⟨T, 2, none⟩ (.bool false) nkT).c1
  have R6 := hid r6
  have r07 : (w6.setCell ⟨T, 2, none⟩ (.bool false)).cell? ⟨R, 0, none⟩ = some (.pointer (some ⟨k, 0, none⟩)) := ((Save.refl T w6).setCell (p := ⟨T, 2, none⟩) (.inl rfl) _).cell nRT r06
  clear r6
  go_wp2_with fail
  have hF7 := hF6.set2 (u := .bool false) nNT nFT
  have h7 := h6.set ⟨T, 2, none⟩ (.bool false) nkT
  have hz7 := hz6.save ((Save.refl T w6).setCell (p := ⟨T, 2, none⟩) (.inl rfl) (.bool false)) HAT.out
  have hA7 := hA6.setCell (p := ⟨T, 2, none⟩) (Nat.le_refl _) (.bool false)
  have hT7 : T ≤ (w6.setCell ⟨T, 2, none⟩ (.bool false)).heap.size := by simpa [World.setCell] using hT6
  clear hF6 h6 r06 hz6 hA6 hT6 t2 i2 c1
  generalize w6.setCell ⟨T, 2, none⟩ (.bool false) = w7 at *
  have hW := number_any k av len cap zs q6 w7 h7 hg6 HL.out hz7
  rw [E7.out] at hW
  refine hW.mono ?_
  rintro e w8 ⟨rfl, h8, s8⟩
  have hF8 := hF7.save s8 nTk nNk nFk
  have r08 := s8.cell nRk r07
  have hz8 := hz7.save s8 HAK.out
  have hA8 := hA7.trans (s8.below hT7 lTk)
  have hT8 := Nat.le_trans hT7 s8.size
  clear hW s8 hF7 r07 hz7 hA7 h7 hT7
  have t0 := hF8.t0
  have i0 := hF8.i0
  simp only at h8
  have hF9 := hF8.set0 (u := .int .u32 n) nNT nFT
  have h9 := h8.set ⟨T, 0, none⟩ (.int .u32 n) nkT
  have r09 : (w8.setCell ⟨T, 0, none⟩ (.int .u32 n)).cell? ⟨R, 0, none⟩ = some (.pointer (some ⟨k, 0, none⟩)) := ((Save.refl T w8).setCell (p := ⟨T, 0, none⟩) (.inl rfl) _).cell nRT r08
  have hz9 := hz8.save ((Save.refl T w8).setCell (p := ⟨T, 0, none⟩) (.inl rfl) (.int .u32 n)) HAT.out
  have hA9 := hA8.setCell (p := ⟨T, 0, none⟩) (Nat.le_refl _) (.int .u32 n)
  have hT9 : T ≤ (w8.setCell ⟨T, 0, none⟩ (.int .u32 n)).heap.size := by simpa [World.setCell] using hT8
  obtain ⟨p7, r7⟩ : ∃ p7, q7.1 = p7 := ⟨_, rfl⟩
  have R7 := hid r7
  have c1 := h9.c1
  rw [r7] at c1
  have t0' := hF9.t0
  have t2' := hF9.t2
  clear r7
  have hFb := hF9
  have hb := h9
  have r0b := r09
  have hAb := hA9
  have hTb := hT9
  have t1' := hFb.t1
  clear hF9 h9 r09 hA9 hT9
  go_wp2_with fail
  clear hF8 h8 r08 hz8 hA8 hT8 t0 i0 hz9 c1
  generalize (w8.setCell ⟨T, 0, none⟩ (.int .u32 n)) = wb at *
  refine (refuse_any k _ q7 141 p6 _ hb).mono ?_
  rintro e w1 ⟨rfl, h1, s1⟩
  rw [← R6.out] at h1
  have hFb := hFb.save s1 nTk nNk nFk
  have r0b := s1.cell nRk r0b
  have hAb := hAb.trans (s1.below hTb lTk)
  have hTb := Nat.le_trans hTb s1.size
  have t0' := hFb.t0
  have t1' := hFb.t1
  have t2' := hFb.t2
  have hb := h1
  clear s1 h1
  go_wp2
  generalize w1 = wt at *
  have hFt := hFb
  have ht := hb
  have r0t := r0b
  have hAt := hAb
  clear hFb hb r0b hAb
  generalize (refuseR q7 141 q6.1) = q9 at *
  obtain ⟨pe, er, fa⟩ := q9
  have t0 := hFt.t0
  have t1 := hFt.t1
  have t2 := hFt.t2
  have n0 := hFt.n0
  have f0 := hFt.f0
  have f1 := hFt.f1
  have i0 := hFt.i0
  have i1 := hFt.i1
  have i2 := hFt.i2
  have j0 := hFt.j0
  have g0 := hFt.g0
  have g1 := hFt.g1
  have c1 := ht.c1
  have c2 := ht.c2
  have c3 := ht.c3
  simp only at c1 c2 c3
  have hS0 : ReadsL T R k F (.int .u32 n) (.int .u32 0) (.bool false) pe wt.drew := ⟨t0, t1, t2, r0t, c1, f0, f1⟩
  have HD := frLD_of hFt ht r0t nTN nTF nNF nRT nRN nRF nkT nkN nkF
  have hBt := (((((hAt.setCell (p := ⟨T, 0, none⟩) (Nat.le_refl _) (.int .u32 n)).setCell (p := ⟨T, 1, none⟩) (Nat.le_refl _) (.int .u32 0)).setCell (p := ⟨T, 2, none⟩) (Nat.le_refl _) (.bool false)).setCell (p := ⟨N, 0, none⟩) lTN (.int .i64 pe)).setCell (p := ⟨F, 0, none⟩) lTF (.int .i64 0)).setCell (p := ⟨F, 1, none⟩) lTF (.int .i64 0) |>.drew
  clear hFt ht hAt
  go_region_held3 (fun w' => w'.cell? ⟨T, 0, none⟩ = some (.int .u32 n) ∧ w'.cell? ⟨T, 1, none⟩ = some (.int .u32 0) ∧ w'.cell? ⟨T, 2, none⟩ = some (.bool false) ∧ w'.cell? ⟨R, 0, none⟩ = some (.pointer (some ⟨k, 0, none⟩)) ∧ w'.cell? ⟨k, 1, none⟩ = some (.int .i64 pe) ∧ w'.cell? ⟨F, 0, none⟩ = some (.int .i64 0) ∧ w'.cell? ⟨F, 1, none⟩ = some (.int .i64 0))
    (first
      | (with_reducible assumption)
      | (with_reducible refine readsL_T ?_ nRT nkT nFT; with_reducible assumption)
      | (with_reducible refine readsL_N ?_ nTN nRN nkN nFN; with_reducible assumption)
      | (with_reducible refine readsL_F ?_ nTF nRF nkF; with_reducible assumption))
    (fail)
  go_wp2
  generalize ((((((wt.setCell ⟨T, 0, none⟩ (.int .u32 n)).setCell ⟨T, 1, none⟩ (.int .u32 0)).setCell ⟨T, 2, none⟩ (.bool false)).setCell ⟨N, 0, none⟩ (.int .i64 pe)).setCell ⟨F, 0, none⟩ (.int .i64 0)).setCell ⟨F, 1, none⟩ (.int .i64 0)).drew = W at *
  clear t0 t1 t2 n0 f0 f1 i0 i1 i2 j0 g0 g1 c1 c2 c3 r0t hS0
  obtain ⟨t0, t1, t2, n0, f0, f1, i0, i1, i2, j0, g0, g1, r0, c2, c3⟩ := HD
  refine leaves_cons (f := 29) (args := #[.pointer (some ⟨R, 0, none⟩), .pointer (some ⟨F, 0, none⟩), .pointer (some ⟨T, 0, none⟩), .pointer (some ⟨N, 0, none⟩)]) (by simp) (by simp [go_sem]) ?_
  by_cases he : er = 0
  · subst he
    refine (closeL_ok R F T N k fa _ _ W r0 c2 c3 f0 f1 g0 g1).mono ?_
    rintro e u' w'' ⟨rfl, rfl, rfl⟩
    refine ⟨.tuple #[.agg #[.int .u32 n, (.int .u32 0), .bool false], .int .i64 pe, .agg #[.int .i64 0, .int .i64 fa]], ?_, ?_⟩
    · simp [settle, results, Try.results17, go_sem, t0, t1, t2, n0, f0, f1, nTN, nTF, nNF, nFN, nFT, nNT]
    · rw [finL_ok]
      refine ⟨rfl, ?_⟩
      rw [HT.out]
      exact (hBt.setCell (p := ⟨F, 0, none⟩) lTF _).setCell (p := ⟨F, 1, none⟩) lTF _
  · refine (closeL_no R F T N k er fa _ _ _ _ _ _ W he r0 c2 c3 f0 f1 g0 g1 t0 t1 t2 i0 i1 i2 n0 j0 nTF nNF nNT).mono ?_
    rintro e u' w'' ⟨rfl, rfl, rfl⟩
    refine ⟨.tuple #[.agg #[.int .u32 0, .int .u32 0, .bool false], .int .i64 0, .agg #[.int .i64 er, .int .i64 fa]], ?_, ?_⟩
    · simp [settle, results, Try.results17, go_sem, t0, t1, t2, n0, f0, f1, nTN, nTF, nNF, nFN, nFT, nNT]
    · rw [finL_no he]
      refine ⟨rfl, ?_⟩
      rw [HT.out]
      exact (((((hBt.setCell (p := ⟨F, 0, none⟩) lTF _).setCell (p := ⟨F, 1, none⟩) lTF _).setCell (p := ⟨T, 0, none⟩) (Nat.le_refl _) _).setCell (p := ⟨T, 1, none⟩) (Nat.le_refl _) _).setCell (p := ⟨T, 2, none⟩) (Nat.le_refl _) _).setCell (p := ⟨N, 0, none⟩) lTN _

set_option maxHeartbeats 3200000 in
theorem getLim_100 (av : Option Addr) (len cap : Nat) (zs : List Int) (p most : Int) (w : World) (hlen : zs.length = len) (hz : Bytes w av zs)
    (c6 n x : Int) (q6 q7 q8 : Rd) (e6 : oneR zs is01 (startR zs p) = (c6, q6)) (e7 : numR zs q6 = (n, q7)) (e8 : numR zs q7 = (x, q8)) (hm : 0 ≤ most ∧ most ≤ 4294967295) (hc : c6 = 1) (hn : ¬ most < n) (hx : ¬ most < x) (hy : ¬ x < n) :
    Calls Try.prog 17 #[.slice av len cap, .int .i64 p, .int .u32 most] w (GotL w (finL n x true q8)) := by
  have hav := hz.lt
  have hmf : ∀ (fn : Fn) (first cap : Array Value) (w : World), (Instr.makeFunc fn first cap).run Try.prog w = .ok (.func fn first cap) w := fun _ _ _ _ => rfl
  have hcb : (c6 == 1) = true := by simp [hc]
  have hg6 : Good zs q6 := by have := oneR_good (ok := is01) (startR_good zs p); rw [e6] at this; exact this
  have hg7 : Good zs q7 := by have := numR_good hg6; rw [e7] at this; exact this
  obtain ⟨bn0, bn1⟩ : 0 ≤ n ∧ n < 4294967296 := by have := numR_bounds (s := q6) hz.byte; rw [e7] at this; exact this
  obtain ⟨bx0, bx1⟩ : 0 ≤ x ∧ x < 4294967296 := by have := numR_bounds (s := q7) hz.byte; rw [e8] at this; exact this
  have E6 := hid e6
  have E7 := hid e7
  have E8 := hid e8
  clear e6 e7 e8 hc
  go_enter_defers Try.func17, Try.ntmps17
  go_wp2_with fail
  refine (newReader_any av len cap zs p _ hlen).mono ?_
  rintro e w4 ⟨rfl, hr, hb⟩
  have hF3 := (frL_start w 26 3 38).below hb
  have hs := hb.size
  have hA4 : Below w.heap.size w w4 := ((((Below.refl _ _).alloc (Nat.le_refl _) _).alloc (by simp) _).alloc (by simp; omega) _).trans (hb.mono (by simp; omega))
  have hk0 : (((w.alloc (.cells #[.int .u32 0, .int .u32 0, .bool false] 26)).alloc (.cells #[.int .i64 0] 3)).alloc (.cells #[.int .i64 0, .int .i64 0] 38)).heap.size = w.heap.size + 1 + 1 + 1 := by simp
  rw [hk0] at hr hs
  clear hb hk0
  have hk4 := World.block_lt_of_cell? w4 _ hr.c0
  simp only at hk4
  have hr5 := hr.below ((Below.refl _ _).alloc (Nat.le_refl _) (.cells #[.pointer (some ⟨w.heap.size + 1 + 1 + 1, 0, none⟩)] 49))
  have hF5 := hF3.below ((Below.refl _ _).alloc (Nat.le_refl _) (.cells #[.pointer (some ⟨w.heap.size + 1 + 1 + 1, 0, none⟩)] 49))
  have r05 : (w4.alloc (.cells #[.pointer (some ⟨w.heap.size + 1 + 1 + 1, 0, none⟩)] 49)).cell? ⟨w4.heap.size, 0, none⟩ = some (.pointer (some ⟨w.heap.size + 1 + 1 + 1, 0, none⟩)) := by go_simp
  have hA5 := thenA hA4 (.cells #[.pointer (some ⟨w.heap.size + 1 + 1 + 1, 0, none⟩)] 49)
  have hR5 : w4.heap.size + 1 = (w4.alloc (.cells #[.pointer (some ⟨w.heap.size + 1 + 1 + 1, 0, none⟩)] 49)).heap.size := by simp
  have HR5 := hid hR5
  clear hr hF3 hA4 hR5
  go_wp2_with fail
  generalize w4.alloc (.cells #[.pointer (some ⟨w.heap.size + 1 + 1 + 1, 0, none⟩)] 49) = w5 at *
  rw [HR5.out]
  have hT5 : w.heap.size ≤ w5.heap.size := hA5.size
  clear HR5
  generalize hk : w.heap.size + 1 + 1 + 1 = k at *
  generalize hF : w.heap.size + 1 + 1 = F at *
  generalize hN : w.heap.size + 1 = N at *
  generalize w4.heap.size = R at *
  generalize hT : w.heap.size = T at *
  have nTk : ¬ T = k := by omega
  have nNk : ¬ N = k := by omega
  have nFk : ¬ F = k := by omega
  have nRk : ¬ R = k := by omega
  have nRT : ¬ R = T := by omega
  have nTR : ¬ T = R := by omega
  have nkT : ¬ k = T := by omega
  have nNT : ¬ N = T := by omega
  have nFT : ¬ F = T := by omega
  have nTN : ¬ T = N := by omega
  have nTF : ¬ T = F := by omega
  have nNF : ¬ N = F := by omega
  have nFN : ¬ F = N := by omega
  have nkN : ¬ k = N := by omega
  have nkF : ¬ k = F := by omega
  have nRN : ¬ R = N := by omega
  have nRF : ¬ R = F := by omega
  have lTk : T ≤ k := by omega
  have lTN : T ≤ N := by omega
  have lTF : T ≤ F := by omega
  have HT := hid hT
  have hak : ∀ b off, av = some ⟨b, off, none⟩ → zs ≠ [] → b ≠ k := fun b off h hne => by have := hav b off h hne; omega
  have haT : ∀ b off, av = some ⟨b, off, none⟩ → zs ≠ [] → b ≠ T := fun b off h hne => by have := hav b off h hne; omega
  have HAK := hid hak
  have HAT := hid haT
  have HL := hid hlen
  have hz5 : Bytes w5 av zs := hz.below (by rw [HT.out]; exact hA5)
  clear hk hF hN hT hs hk4 hak haT hav hz hlen
  have hO := oneOf_any k av len cap zs (startR zs p) (some ⟨w5.heap.size, 0, none⟩) 2 2 [0, 1] is01 _ (hr5.below ((Below.refl _ _).alloc (Nat.le_refl _) (.cells #[.int .u8 0, .int .u8 1] 5))) (startR_good zs p) HL.out (hz5.alloc _) rfl
    ⟨by simp, by simp, .inr ⟨_, 0, rfl, fun i hi => by
      match i, hi with
      | 0, _ => go_simp
      | 1, _ => go_simp⟩⟩ is01_in
  rw [E6.out] at hO
  refine hO.mono ?_
  rintro e w6 ⟨rfl, h6, s6⟩
  have sv6 : Save k w5 w6 := (Save.of_below ((Below.refl _ _).alloc (Nat.le_refl _) _)).trans s6
  have hF6 := hF5.save sv6 nTk nNk nFk
  have r06 := sv6.cell nRk r05
  have hz6 := hz5.save sv6 HAK.out
  have hA6 := hA5.trans (sv6.below hT5 lTk)
  have hT6 := Nat.le_trans hT5 sv6.size
  clear hO s6 sv6 hF5 r05 hz5 hA5 hr5 hT5
  have t2 := hF6.t2
  have i2 := hF6.i2
  simp only at h6
  obtain ⟨p6, r6⟩ : ∃ p6, q6.1 = p6 := ⟨_, rfl⟩
  have c1 : (w6.setCell ⟨T, 2, none⟩ (.bool true)).cell? ⟨k, 1, none⟩ = some (.int .i64 p6) := by rw [← r6]; exact (h6.set ⟨T, 2, none⟩ (.bool true) nkT).c1
  have R6 := hid r6
  have r07 : (w6.setCell ⟨T, 2, none⟩ (.bool true)).cell? ⟨R, 0, none⟩ = some (.pointer (some ⟨k, 0, none⟩)) := ((Save.refl T w6).setCell (p := ⟨T, 2, none⟩) (.inl rfl) _).cell nRT r06
  clear r6
  go_wp2_with fail
  have hF7 := hF6.set2 (u := .bool true) nNT nFT
  have h7 := h6.set ⟨T, 2, none⟩ (.bool true) nkT
  have hz7 := hz6.save ((Save.refl T w6).setCell (p := ⟨T, 2, none⟩) (.inl rfl) (.bool true)) HAT.out
  have hA7 := hA6.setCell (p := ⟨T, 2, none⟩) (Nat.le_refl _) (.bool true)
  have hT7 : T ≤ (w6.setCell ⟨T, 2, none⟩ (.bool true)).heap.size := by simpa [World.setCell] using hT6
  clear hF6 h6 r06 hz6 hA6 hT6 t2 i2 c1
  generalize w6.setCell ⟨T, 2, none⟩ (.bool true) = w7 at *
  have hW := number_any k av len cap zs q6 w7 h7 hg6 HL.out hz7
  rw [E7.out] at hW
  refine hW.mono ?_
  rintro e w8 ⟨rfl, h8, s8⟩
  have hF8 := hF7.save s8 nTk nNk nFk
  have r08 := s8.cell nRk r07
  have hz8 := hz7.save s8 HAK.out
  have hA8 := hA7.trans (s8.below hT7 lTk)
  have hT8 := Nat.le_trans hT7 s8.size
  clear hW s8 hF7 r07 hz7 hA7 h7 hT7
  have t0 := hF8.t0
  have i0 := hF8.i0
  simp only at h8
  have hF9 := hF8.set0 (u := .int .u32 n) nNT nFT
  have h9 := h8.set ⟨T, 0, none⟩ (.int .u32 n) nkT
  have r09 : (w8.setCell ⟨T, 0, none⟩ (.int .u32 n)).cell? ⟨R, 0, none⟩ = some (.pointer (some ⟨k, 0, none⟩)) := ((Save.refl T w8).setCell (p := ⟨T, 0, none⟩) (.inl rfl) _).cell nRT r08
  have hz9 := hz8.save ((Save.refl T w8).setCell (p := ⟨T, 0, none⟩) (.inl rfl) (.int .u32 n)) HAT.out
  have hA9 := hA8.setCell (p := ⟨T, 0, none⟩) (Nat.le_refl _) (.int .u32 n)
  have hT9 : T ≤ (w8.setCell ⟨T, 0, none⟩ (.int .u32 n)).heap.size := by simpa [World.setCell] using hT8
  obtain ⟨p7, r7⟩ : ∃ p7, q7.1 = p7 := ⟨_, rfl⟩
  have R7 := hid r7
  have c1 := h9.c1
  rw [r7] at c1
  have t0' := hF9.t0
  have t2' := hF9.t2
  clear r7
  go_wp2_with fail
  clear hF8 h8 r08 hz8 hA8 hT8 t0 i0 c1 t0' t2'
  generalize w8.setCell ⟨T, 0, none⟩ (.int .u32 n) = w9 at *
  have hW := number_any k av len cap zs q7 w9 h9 hg7 HL.out hz9
  rw [E8.out] at hW
  refine hW.mono ?_
  rintro e wa ⟨rfl, ha, sa⟩
  have hFa := hF9.save sa nTk nNk nFk
  have r0a := sa.cell nRk r09
  have hAa := hA9.trans (sa.below hT9 lTk)
  have hTa := Nat.le_trans hT9 sa.size
  clear hW sa hF9 r09 hz9 hA9 h9 hT9
  have t1 := hFa.t1
  have i1 := hFa.i1
  simp only at ha
  have hFb := hFa.set1 (u := .int .u32 x) nNT nFT
  have hb := ha.set ⟨T, 1, none⟩ (.int .u32 x) nkT
  have r0b : (wa.setCell ⟨T, 1, none⟩ (.int .u32 x)).cell? ⟨R, 0, none⟩ = some (.pointer (some ⟨k, 0, none⟩)) := ((Save.refl T wa).setCell (p := ⟨T, 1, none⟩) (.inl rfl) _).cell nRT r0a
  have hAb := hAa.setCell (p := ⟨T, 1, none⟩) (Nat.le_refl _) (.int .u32 x)
  have hTb : T ≤ (wa.setCell ⟨T, 1, none⟩ (.int .u32 x)).heap.size := by simpa [World.setCell] using hTa
  have t0' := hFb.t0
  have t1' := hFb.t1
  have t2' := hFb.t2
  go_wp2
  clear hFa ha r0a hAa hTa t1 i1
  generalize (wa.setCell ⟨T, 1, none⟩ (.int .u32 x)) = wt at *
  have hFt := hFb
  have ht := hb
  have r0t := r0b
  have hAt := hAb
  clear hFb hb r0b hAb
  generalize q8 = q9 at *
  obtain ⟨pe, er, fa⟩ := q9
  have t0 := hFt.t0
  have t1 := hFt.t1
  have t2 := hFt.t2
  have n0 := hFt.n0
  have f0 := hFt.f0
  have f1 := hFt.f1
  have i0 := hFt.i0
  have i1 := hFt.i1
  have i2 := hFt.i2
  have j0 := hFt.j0
  have g0 := hFt.g0
  have g1 := hFt.g1
  have c1 := ht.c1
  have c2 := ht.c2
  have c3 := ht.c3
  simp only at c1 c2 c3
  have hS0 : ReadsL T R k F (.int .u32 n) (.int .u32 x) (.bool true) pe wt.drew := ⟨t0, t1, t2, r0t, c1, f0, f1⟩
  have HD := frLD_of hFt ht r0t nTN nTF nNF nRT nRN nRF nkT nkN nkF
  have hBt := (((((hAt.setCell (p := ⟨T, 0, none⟩) (Nat.le_refl _) (.int .u32 n)).setCell (p := ⟨T, 1, none⟩) (Nat.le_refl _) (.int .u32 x)).setCell (p := ⟨T, 2, none⟩) (Nat.le_refl _) (.bool true)).setCell (p := ⟨N, 0, none⟩) lTN (.int .i64 pe)).setCell (p := ⟨F, 0, none⟩) lTF (.int .i64 0)).setCell (p := ⟨F, 1, none⟩) lTF (.int .i64 0) |>.drew
  clear hFt ht hAt
  go_region_held3 (fun w' => w'.cell? ⟨T, 0, none⟩ = some (.int .u32 n) ∧ w'.cell? ⟨T, 1, none⟩ = some (.int .u32 x) ∧ w'.cell? ⟨T, 2, none⟩ = some (.bool true) ∧ w'.cell? ⟨R, 0, none⟩ = some (.pointer (some ⟨k, 0, none⟩)) ∧ w'.cell? ⟨k, 1, none⟩ = some (.int .i64 pe) ∧ w'.cell? ⟨F, 0, none⟩ = some (.int .i64 0) ∧ w'.cell? ⟨F, 1, none⟩ = some (.int .i64 0))
    (first
      | (with_reducible assumption)
      | (with_reducible refine readsL_T ?_ nRT nkT nFT; with_reducible assumption)
      | (with_reducible refine readsL_N ?_ nTN nRN nkN nFN; with_reducible assumption)
      | (with_reducible refine readsL_F ?_ nTF nRF nkF; with_reducible assumption))
    (fail)
  go_wp2
  generalize ((((((wt.setCell ⟨T, 0, none⟩ (.int .u32 n)).setCell ⟨T, 1, none⟩ (.int .u32 x)).setCell ⟨T, 2, none⟩ (.bool true)).setCell ⟨N, 0, none⟩ (.int .i64 pe)).setCell ⟨F, 0, none⟩ (.int .i64 0)).setCell ⟨F, 1, none⟩ (.int .i64 0)).drew = W at *
  clear t0 t1 t2 n0 f0 f1 i0 i1 i2 j0 g0 g1 c1 c2 c3 r0t hS0
  obtain ⟨t0, t1, t2, n0, f0, f1, i0, i1, i2, j0, g0, g1, r0, c2, c3⟩ := HD
  refine leaves_cons (f := 29) (args := #[.pointer (some ⟨R, 0, none⟩), .pointer (some ⟨F, 0, none⟩), .pointer (some ⟨T, 0, none⟩), .pointer (some ⟨N, 0, none⟩)]) (by simp) (by simp [go_sem]) ?_
  by_cases he : er = 0
  · subst he
    refine (closeL_ok R F T N k fa _ _ W r0 c2 c3 f0 f1 g0 g1).mono ?_
    rintro e u' w'' ⟨rfl, rfl, rfl⟩
    refine ⟨.tuple #[.agg #[.int .u32 n, (.int .u32 x), .bool true], .int .i64 pe, .agg #[.int .i64 0, .int .i64 fa]], ?_, ?_⟩
    · simp [settle, results, Try.results17, go_sem, t0, t1, t2, n0, f0, f1, nTN, nTF, nNF, nFN, nFT, nNT]
    · rw [finL_ok]
      refine ⟨rfl, ?_⟩
      rw [HT.out]
      exact (hBt.setCell (p := ⟨F, 0, none⟩) lTF _).setCell (p := ⟨F, 1, none⟩) lTF _
  · refine (closeL_no R F T N k er fa _ _ _ _ _ _ W he r0 c2 c3 f0 f1 g0 g1 t0 t1 t2 i0 i1 i2 n0 j0 nTF nNF nNT).mono ?_
    rintro e u' w'' ⟨rfl, rfl, rfl⟩
    refine ⟨.tuple #[.agg #[.int .u32 0, .int .u32 0, .bool false], .int .i64 0, .agg #[.int .i64 er, .int .i64 fa]], ?_, ?_⟩
    · simp [settle, results, Try.results17, go_sem, t0, t1, t2, n0, f0, f1, nTN, nTF, nNF, nFN, nFT, nNT]
    · rw [finL_no he]
      refine ⟨rfl, ?_⟩
      rw [HT.out]
      exact (((((hBt.setCell (p := ⟨F, 0, none⟩) lTF _).setCell (p := ⟨F, 1, none⟩) lTF _).setCell (p := ⟨T, 0, none⟩) (Nat.le_refl _) _).setCell (p := ⟨T, 1, none⟩) (Nat.le_refl _) _).setCell (p := ⟨T, 2, none⟩) (Nat.le_refl _) _).setCell (p := ⟨N, 0, none⟩) lTN _

set_option maxHeartbeats 3200000 in
theorem getLim_101 (av : Option Addr) (len cap : Nat) (zs : List Int) (p most : Int) (w : World) (hlen : zs.length = len) (hz : Bytes w av zs)
    (c6 n x : Int) (q6 q7 q8 : Rd) (e6 : oneR zs is01 (startR zs p) = (c6, q6)) (e7 : numR zs q6 = (n, q7)) (e8 : numR zs q7 = (x, q8)) (hm : 0 ≤ most ∧ most ≤ 4294967295) (hc : c6 = 1) (hn : ¬ most < n) (hx : most < x) :
    Calls Try.prog 17 #[.slice av len cap, .int .i64 p, .int .u32 most] w (GotL w (finL n x true (refuseR q8 141 q7.1))) := by
  have hav := hz.lt
  have hmf : ∀ (fn : Fn) (first cap : Array Value) (w : World), (Instr.makeFunc fn first cap).run Try.prog w = .ok (.func fn first cap) w := fun _ _ _ _ => rfl
  have hcb : (c6 == 1) = true := by simp [hc]
  have hg6 : Good zs q6 := by have := oneR_good (ok := is01) (startR_good zs p); rw [e6] at this; exact this
  have hg7 : Good zs q7 := by have := numR_good hg6; rw [e7] at this; exact this
  obtain ⟨bn0, bn1⟩ : 0 ≤ n ∧ n < 4294967296 := by have := numR_bounds (s := q6) hz.byte; rw [e7] at this; exact this
  obtain ⟨bx0, bx1⟩ : 0 ≤ x ∧ x < 4294967296 := by have := numR_bounds (s := q7) hz.byte; rw [e8] at this; exact this
  have E6 := hid e6
  have E7 := hid e7
  have E8 := hid e8
  clear e6 e7 e8 hc
  go_enter_defers Try.func17, Try.ntmps17
  go_wp2_with fail
  refine (newReader_any av len cap zs p _ hlen).mono ?_
  rintro e w4 ⟨rfl, hr, hb⟩
  have hF3 := (frL_start w 26 3 38).below hb
  have hs := hb.size
  have hA4 : Below w.heap.size w w4 := ((((Below.refl _ _).alloc (Nat.le_refl _) _).alloc (by simp) _).alloc (by simp; omega) _).trans (hb.mono (by simp; omega))
  have hk0 : (((w.alloc (.cells #[.int .u32 0, .int .u32 0, .bool false] 26)).alloc (.cells #[.int .i64 0] 3)).alloc (.cells #[.int .i64 0, .int .i64 0] 38)).heap.size = w.heap.size + 1 + 1 + 1 := by simp
  rw [hk0] at hr hs
  clear hb hk0
  have hk4 := World.block_lt_of_cell? w4 _ hr.c0
  simp only at hk4
  have hr5 := hr.below ((Below.refl _ _).alloc (Nat.le_refl _) (.cells #[.pointer (some ⟨w.heap.size + 1 + 1 + 1, 0, none⟩)] 49))
  have hF5 := hF3.below ((Below.refl _ _).alloc (Nat.le_refl _) (.cells #[.pointer (some ⟨w.heap.size + 1 + 1 + 1, 0, none⟩)] 49))
  have r05 : (w4.alloc (.cells #[.pointer (some ⟨w.heap.size + 1 + 1 + 1, 0, none⟩)] 49)).cell? ⟨w4.heap.size, 0, none⟩ = some (.pointer (some ⟨w.heap.size + 1 + 1 + 1, 0, none⟩)) := by go_simp
  have hA5 := thenA hA4 (.cells #[.pointer (some ⟨w.heap.size + 1 + 1 + 1, 0, none⟩)] 49)
  have hR5 : w4.heap.size + 1 = (w4.alloc (.cells #[.pointer (some ⟨w.heap.size + 1 + 1 + 1, 0, none⟩)] 49)).heap.size := by simp
  have HR5 := hid hR5
  clear hr hF3 hA4 hR5
  go_wp2_with fail
  generalize w4.alloc (.cells #[.pointer (some ⟨w.heap.size + 1 + 1 + 1, 0, none⟩)] 49) = w5 at *
  rw [HR5.out]
  have hT5 : w.heap.size ≤ w5.heap.size := hA5.size
  clear HR5
  generalize hk : w.heap.size + 1 + 1 + 1 = k at *
  generalize hF : w.heap.size + 1 + 1 = F at *
  generalize hN : w.heap.size + 1 = N at *
  generalize w4.heap.size = R at *
  generalize hT : w.heap.size = T at *
  have nTk : ¬ T = k := by omega
  have nNk : ¬ N = k := by omega
  have nFk : ¬ F = k := by omega
  have nRk : ¬ R = k := by omega
  have nRT : ¬ R = T := by omega
  have nTR : ¬ T = R := by omega
  have nkT : ¬ k = T := by omega
  have nNT : ¬ N = T := by omega
  have nFT : ¬ F = T := by omega
  have nTN : ¬ T = N := by omega
  have nTF : ¬ T = F := by omega
  have nNF : ¬ N = F := by omega
  have nFN : ¬ F = N := by omega
  have nkN : ¬ k = N := by omega
  have nkF : ¬ k = F := by omega
  have nRN : ¬ R = N := by omega
  have nRF : ¬ R = F := by omega
  have lTk : T ≤ k := by omega
  have lTN : T ≤ N := by omega
  have lTF : T ≤ F := by omega
  have HT := hid hT
  have hak : ∀ b off, av = some ⟨b, off, none⟩ → zs ≠ [] → b ≠ k := fun b off h hne => by have := hav b off h hne; omega
  have haT : ∀ b off, av = some ⟨b, off, none⟩ → zs ≠ [] → b ≠ T := fun b off h hne => by have := hav b off h hne; omega
  have HAK := hid hak
  have HAT := hid haT
  have HL := hid hlen
  have hz5 : Bytes w5 av zs := hz.below (by rw [HT.out]; exact hA5)
  clear hk hF hN hT hs hk4 hak haT hav hz hlen
  have hO := oneOf_any k av len cap zs (startR zs p) (some ⟨w5.heap.size, 0, none⟩) 2 2 [0, 1] is01 _ (hr5.below ((Below.refl _ _).alloc (Nat.le_refl _) (.cells #[.int .u8 0, .int .u8 1] 5))) (startR_good zs p) HL.out (hz5.alloc _) rfl
    ⟨by simp, by simp, .inr ⟨_, 0, rfl, fun i hi => by
      match i, hi with
      | 0, _ => go_simp
      | 1, _ => go_simp⟩⟩ is01_in
  rw [E6.out] at hO
  refine hO.mono ?_
  rintro e w6 ⟨rfl, h6, s6⟩
  have sv6 : Save k w5 w6 := (Save.of_below ((Below.refl _ _).alloc (Nat.le_refl _) _)).trans s6
  have hF6 := hF5.save sv6 nTk nNk nFk
  have r06 := sv6.cell nRk r05
  have hz6 := hz5.save sv6 HAK.out
  have hA6 := hA5.trans (sv6.below hT5 lTk)
  have hT6 := Nat.le_trans hT5 sv6.size
  clear hO s6 sv6 hF5 r05 hz5 hA5 hr5 hT5
  have t2 := hF6.t2
  have i2 := hF6.i2
  simp only at h6
  obtain ⟨p6, r6⟩ : ∃ p6, q6.1 = p6 := ⟨_, rfl⟩
  have c1 : (w6.setCell ⟨T, 2, none⟩ (.bool true)).cell? ⟨k, 1, none⟩ = some (.int .i64 p6) := by rw [← r6]; exact (h6.set ⟨T, 2, none⟩ (.bool true) nkT).c1
  have R6 := hid r6
  have r07 : (w6.setCell ⟨T, 2, none⟩ (.bool true)).cell? ⟨R, 0, none⟩ = some (.pointer (some ⟨k, 0, none⟩)) := ((Save.refl T w6).setCell (p := ⟨T, 2, none⟩) (.inl rfl) _).cell nRT r06
  clear r6
  go_wp2_with fail
  have hF7 := hF6.set2 (u := .bool true) nNT nFT
  have h7 := h6.set ⟨T, 2, none⟩ (.bool true) nkT
  have hz7 := hz6.save ((Save.refl T w6).setCell (p := ⟨T, 2, none⟩) (.inl rfl) (.bool true)) HAT.out
  have hA7 := hA6.setCell (p := ⟨T, 2, none⟩) (Nat.le_refl _) (.bool true)
  have hT7 : T ≤ (w6.setCell ⟨T, 2, none⟩ (.bool true)).heap.size := by simpa [World.setCell] using hT6
  clear hF6 h6 r06 hz6 hA6 hT6 t2 i2 c1
  generalize w6.setCell ⟨T, 2, none⟩ (.bool true) = w7 at *
  have hW := number_any k av len cap zs q6 w7 h7 hg6 HL.out hz7
  rw [E7.out] at hW
  refine hW.mono ?_
  rintro e w8 ⟨rfl, h8, s8⟩
  have hF8 := hF7.save s8 nTk nNk nFk
  have r08 := s8.cell nRk r07
  have hz8 := hz7.save s8 HAK.out
  have hA8 := hA7.trans (s8.below hT7 lTk)
  have hT8 := Nat.le_trans hT7 s8.size
  clear hW s8 hF7 r07 hz7 hA7 h7 hT7
  have t0 := hF8.t0
  have i0 := hF8.i0
  simp only at h8
  have hF9 := hF8.set0 (u := .int .u32 n) nNT nFT
  have h9 := h8.set ⟨T, 0, none⟩ (.int .u32 n) nkT
  have r09 : (w8.setCell ⟨T, 0, none⟩ (.int .u32 n)).cell? ⟨R, 0, none⟩ = some (.pointer (some ⟨k, 0, none⟩)) := ((Save.refl T w8).setCell (p := ⟨T, 0, none⟩) (.inl rfl) _).cell nRT r08
  have hz9 := hz8.save ((Save.refl T w8).setCell (p := ⟨T, 0, none⟩) (.inl rfl) (.int .u32 n)) HAT.out
  have hA9 := hA8.setCell (p := ⟨T, 0, none⟩) (Nat.le_refl _) (.int .u32 n)
  have hT9 : T ≤ (w8.setCell ⟨T, 0, none⟩ (.int .u32 n)).heap.size := by simpa [World.setCell] using hT8
  obtain ⟨p7, r7⟩ : ∃ p7, q7.1 = p7 := ⟨_, rfl⟩
  have R7 := hid r7
  have c1 := h9.c1
  rw [r7] at c1
  have t0' := hF9.t0
  have t2' := hF9.t2
  clear r7
  go_wp2_with fail
  clear hF8 h8 r08 hz8 hA8 hT8 t0 i0 c1 t0' t2'
  generalize w8.setCell ⟨T, 0, none⟩ (.int .u32 n) = w9 at *
  have hW := number_any k av len cap zs q7 w9 h9 hg7 HL.out hz9
  rw [E8.out] at hW
  refine hW.mono ?_
  rintro e wa ⟨rfl, ha, sa⟩
  have hFa := hF9.save sa nTk nNk nFk
  have r0a := sa.cell nRk r09
  have hAa := hA9.trans (sa.below hT9 lTk)
  have hTa := Nat.le_trans hT9 sa.size
  clear hW sa hF9 r09 hz9 hA9 h9 hT9
  have t1 := hFa.t1
  have i1 := hFa.i1
  simp only at ha
  have hFb := hFa.set1 (u := .int .u32 x) nNT nFT
  have hb := ha.set ⟨T, 1, none⟩ (.int .u32 x) nkT
  have r0b : (wa.setCell ⟨T, 1, none⟩ (.int .u32 x)).cell? ⟨R, 0, none⟩ = some (.pointer (some ⟨k, 0, none⟩)) := ((Save.refl T wa).setCell (p := ⟨T, 1, none⟩) (.inl rfl) _).cell nRT r0a
  have hAb := hAa.setCell (p := ⟨T, 1, none⟩) (Nat.le_refl _) (.int .u32 x)
  have hTb : T ≤ (wa.setCell ⟨T, 1, none⟩ (.int .u32 x)).heap.size := by simpa [World.setCell] using hTa
  have t0' := hFb.t0
  have t1' := hFb.t1
  have t2' := hFb.t2
  go_wp2_with fail
  clear hFa ha r0a hAa hTa t1 i1
  generalize (wa.setCell ⟨T, 1, none⟩ (.int .u32 x)) = wb at *
  refine (refuse_any k _ q8 141 p7 _ hb).mono ?_
  rintro e w1 ⟨rfl, h1, s1⟩
  rw [← R7.out] at h1
  have hFb := hFb.save s1 nTk nNk nFk
  have r0b := s1.cell nRk r0b
  have hAb := hAb.trans (s1.below hTb lTk)
  have hTb := Nat.le_trans hTb s1.size
  have t0' := hFb.t0
  have t1' := hFb.t1
  have t2' := hFb.t2
  have hb := h1
  clear s1 h1
  go_wp2
  generalize w1 = wt at *
  have hFt := hFb
  have ht := hb
  have r0t := r0b
  have hAt := hAb
  clear hFb hb r0b hAb
  generalize (refuseR q8 141 q7.1) = q9 at *
  obtain ⟨pe, er, fa⟩ := q9
  have t0 := hFt.t0
  have t1 := hFt.t1
  have t2 := hFt.t2
  have n0 := hFt.n0
  have f0 := hFt.f0
  have f1 := hFt.f1
  have i0 := hFt.i0
  have i1 := hFt.i1
  have i2 := hFt.i2
  have j0 := hFt.j0
  have g0 := hFt.g0
  have g1 := hFt.g1
  have c1 := ht.c1
  have c2 := ht.c2
  have c3 := ht.c3
  simp only at c1 c2 c3
  have hS0 : ReadsL T R k F (.int .u32 n) (.int .u32 x) (.bool true) pe wt.drew := ⟨t0, t1, t2, r0t, c1, f0, f1⟩
  have HD := frLD_of hFt ht r0t nTN nTF nNF nRT nRN nRF nkT nkN nkF
  have hBt := (((((hAt.setCell (p := ⟨T, 0, none⟩) (Nat.le_refl _) (.int .u32 n)).setCell (p := ⟨T, 1, none⟩) (Nat.le_refl _) (.int .u32 x)).setCell (p := ⟨T, 2, none⟩) (Nat.le_refl _) (.bool true)).setCell (p := ⟨N, 0, none⟩) lTN (.int .i64 pe)).setCell (p := ⟨F, 0, none⟩) lTF (.int .i64 0)).setCell (p := ⟨F, 1, none⟩) lTF (.int .i64 0) |>.drew
  clear hFt ht hAt
  go_region_held3 (fun w' => w'.cell? ⟨T, 0, none⟩ = some (.int .u32 n) ∧ w'.cell? ⟨T, 1, none⟩ = some (.int .u32 x) ∧ w'.cell? ⟨T, 2, none⟩ = some (.bool true) ∧ w'.cell? ⟨R, 0, none⟩ = some (.pointer (some ⟨k, 0, none⟩)) ∧ w'.cell? ⟨k, 1, none⟩ = some (.int .i64 pe) ∧ w'.cell? ⟨F, 0, none⟩ = some (.int .i64 0) ∧ w'.cell? ⟨F, 1, none⟩ = some (.int .i64 0))
    (first
      | (with_reducible assumption)
      | (with_reducible refine readsL_T ?_ nRT nkT nFT; with_reducible assumption)
      | (with_reducible refine readsL_N ?_ nTN nRN nkN nFN; with_reducible assumption)
      | (with_reducible refine readsL_F ?_ nTF nRF nkF; with_reducible assumption))
    (fail)
  go_wp2
  generalize ((((((wt.setCell ⟨T, 0, none⟩ (.int .u32 n)).setCell ⟨T, 1, none⟩ (.int .u32 x)).setCell ⟨T, 2, none⟩ (.bool true)).setCell ⟨N, 0, none⟩ (.int .i64 pe)).setCell ⟨F, 0, none⟩ (.int .i64 0)).setCell ⟨F, 1, none⟩ (.int .i64 0)).drew = W at *
  clear t0 t1 t2 n0 f0 f1 i0 i1 i2 j0 g0 g1 c1 c2 c3 r0t hS0
  obtain ⟨t0, t1, t2, n0, f0, f1, i0, i1, i2, j0, g0, g1, r0, c2, c3⟩ := HD
  refine leaves_cons (f := 29) (args := #[.pointer (some ⟨R, 0, none⟩), .pointer (some ⟨F, 0, none⟩), .pointer (some ⟨T, 0, none⟩), .pointer (some ⟨N, 0, none⟩)]) (by simp) (by simp [go_sem]) ?_
  by_cases he : er = 0
  · subst he
    refine (closeL_ok R F T N k fa _ _ W r0 c2 c3 f0 f1 g0 g1).mono ?_
    rintro e u' w'' ⟨rfl, rfl, rfl⟩
    refine ⟨.tuple #[.agg #[.int .u32 n, (.int .u32 x), .bool true], .int .i64 pe, .agg #[.int .i64 0, .int .i64 fa]], ?_, ?_⟩
    · simp [settle, results, Try.results17, go_sem, t0, t1, t2, n0, f0, f1, nTN, nTF, nNF, nFN, nFT, nNT]
    · rw [finL_ok]
      refine ⟨rfl, ?_⟩
      rw [HT.out]
      exact (hBt.setCell (p := ⟨F, 0, none⟩) lTF _).setCell (p := ⟨F, 1, none⟩) lTF _
  · refine (closeL_no R F T N k er fa _ _ _ _ _ _ W he r0 c2 c3 f0 f1 g0 g1 t0 t1 t2 i0 i1 i2 n0 j0 nTF nNF nNT).mono ?_
    rintro e u' w'' ⟨rfl, rfl, rfl⟩
    refine ⟨.tuple #[.agg #[.int .u32 0, .int .u32 0, .bool false], .int .i64 0, .agg #[.int .i64 er, .int .i64 fa]], ?_, ?_⟩
    · simp [settle, results, Try.results17, go_sem, t0, t1, t2, n0, f0, f1, nTN, nTF, nNF, nFN, nFT, nNT]
    · rw [finL_no he]
      refine ⟨rfl, ?_⟩
      rw [HT.out]
      exact (((((hBt.setCell (p := ⟨F, 0, none⟩) lTF _).setCell (p := ⟨F, 1, none⟩) lTF _).setCell (p := ⟨T, 0, none⟩) (Nat.le_refl _) _).setCell (p := ⟨T, 1, none⟩) (Nat.le_refl _) _).setCell (p := ⟨T, 2, none⟩) (Nat.le_refl _) _).setCell (p := ⟨N, 0, none⟩) lTN _

set_option maxHeartbeats 3200000 in
theorem getLim_102 (av : Option Addr) (len cap : Nat) (zs : List Int) (p most : Int) (w : World) (hlen : zs.length = len) (hz : Bytes w av zs)
    (c6 n x : Int) (q6 q7 q8 : Rd) (e6 : oneR zs is01 (startR zs p) = (c6, q6)) (e7 : numR zs q6 = (n, q7)) (e8 : numR zs q7 = (x, q8)) (hm : 0 ≤ most ∧ most ≤ 4294967295) (hc : c6 = 1) (hn : ¬ most < n) (hx : ¬ most < x) (hy : x < n) :
    Calls Try.prog 17 #[.slice av len cap, .int .i64 p, .int .u32 most] w (GotL w (finL n x true (refuseR q8 141 q7.1))) := by
  have hav := hz.lt
  have hmf : ∀ (fn : Fn) (first cap : Array Value) (w : World), (Instr.makeFunc fn first cap).run Try.prog w = .ok (.func fn first cap) w := fun _ _ _ _ => rfl
  have hcb : (c6 == 1) = true := by simp [hc]
  have hg6 : Good zs q6 := by have := oneR_good (ok := is01) (startR_good zs p); rw [e6] at this; exact this
  have hg7 : Good zs q7 := by have := numR_good hg6; rw [e7] at this; exact this
  obtain ⟨bn0, bn1⟩ : 0 ≤ n ∧ n < 4294967296 := by have := numR_bounds (s := q6) hz.byte; rw [e7] at this; exact this
  obtain ⟨bx0, bx1⟩ : 0 ≤ x ∧ x < 4294967296 := by have := numR_bounds (s := q7) hz.byte; rw [e8] at this; exact this
  have E6 := hid e6
  have E7 := hid e7
  have E8 := hid e8
  clear e6 e7 e8 hc
  go_enter_defers Try.func17, Try.ntmps17
  go_wp2_with fail
  refine (newReader_any av len cap zs p _ hlen).mono ?_
  rintro e w4 ⟨rfl, hr, hb⟩
  have hF3 := (frL_start w 26 3 38).below hb
  have hs := hb.size
  have hA4 : Below w.heap.size w w4 := ((((Below.refl _ _).alloc (Nat.le_refl _) _).alloc (by simp) _).alloc (by simp; omega) _).trans (hb.mono (by simp; omega))
  have hk0 : (((w.alloc (.cells #[.int .u32 0, .int .u32 0, .bool false] 26)).alloc (.cells #[.int .i64 0] 3)).alloc (.cells #[.int .i64 0, .int .i64 0] 38)).heap.size = w.heap.size + 1 + 1 + 1 := by simp
  rw [hk0] at hr hs
  clear hb hk0
  have hk4 := World.block_lt_of_cell? w4 _ hr.c0
  simp only at hk4
  have hr5 := hr.below ((Below.refl _ _).alloc (Nat.le_refl _) (.cells #[.pointer (some ⟨w.heap.size + 1 + 1 + 1, 0, none⟩)] 49))
  have hF5 := hF3.below ((Below.refl _ _).alloc (Nat.le_refl _) (.cells #[.pointer (some ⟨w.heap.size + 1 + 1 + 1, 0, none⟩)] 49))
  have r05 : (w4.alloc (.cells #[.pointer (some ⟨w.heap.size + 1 + 1 + 1, 0, none⟩)] 49)).cell? ⟨w4.heap.size, 0, none⟩ = some (.pointer (some ⟨w.heap.size + 1 + 1 + 1, 0, none⟩)) := by go_simp
  have hA5 := thenA hA4 (.cells #[.pointer (some ⟨w.heap.size + 1 + 1 + 1, 0, none⟩)] 49)
  have hR5 : w4.heap.size + 1 = (w4.alloc (.cells #[.pointer (some ⟨w.heap.size + 1 + 1 + 1, 0, none⟩)] 49)).heap.size := by simp
  have HR5 := hid hR5
  clear hr hF3 hA4 hR5
  go_wp2_with fail
  generalize w4.alloc (.cells #[.pointer (some ⟨w.heap.size + 1 + 1 + 1, 0, none⟩)] 49) = w5 at *
  rw [HR5.out]
  have hT5 : w.heap.size ≤ w5.heap.size := hA5.size
  clear HR5
  generalize hk : w.heap.size + 1 + 1 + 1 = k at *
  generalize hF : w.heap.size + 1 + 1 = F at *
  generalize hN : w.heap.size + 1 = N at *
  generalize w4.heap.size = R at *
  generalize hT : w.heap.size = T at *
  have nTk : ¬ T = k := by omega
  have nNk : ¬ N = k := by omega
  have nFk : ¬ F = k := by omega
  have nRk : ¬ R = k := by omega
  have nRT : ¬ R = T := by omega
  have nTR : ¬ T = R := by omega
  have nkT : ¬ k = T := by omega
  have nNT : ¬ N = T := by omega
  have nFT : ¬ F = T := by omega
  have nTN : ¬ T = N := by omega
  have nTF : ¬ T = F := by omega
  have nNF : ¬ N = F := by omega
  have nFN : ¬ F = N := by omega
  have nkN : ¬ k = N := by omega
  have nkF : ¬ k = F := by omega
  have nRN : ¬ R = N := by omega
  have nRF : ¬ R = F := by omega
  have lTk : T ≤ k := by omega
  have lTN : T ≤ N := by omega
  have lTF : T ≤ F := by omega
  have HT := hid hT
  have hak : ∀ b off, av = some ⟨b, off, none⟩ → zs ≠ [] → b ≠ k := fun b off h hne => by have := hav b off h hne; omega
  have haT : ∀ b off, av = some ⟨b, off, none⟩ → zs ≠ [] → b ≠ T := fun b off h hne => by have := hav b off h hne; omega
  have HAK := hid hak
  have HAT := hid haT
  have HL := hid hlen
  have hz5 : Bytes w5 av zs := hz.below (by rw [HT.out]; exact hA5)
  clear hk hF hN hT hs hk4 hak haT hav hz hlen
  have hO := oneOf_any k av len cap zs (startR zs p) (some ⟨w5.heap.size, 0, none⟩) 2 2 [0, 1] is01 _ (hr5.below ((Below.refl _ _).alloc (Nat.le_refl _) (.cells #[.int .u8 0, .int .u8 1] 5))) (startR_good zs p) HL.out (hz5.alloc _) rfl
    ⟨by simp, by simp, .inr ⟨_, 0, rfl, fun i hi => by
      match i, hi with
      | 0, _ => go_simp
      | 1, _ => go_simp⟩⟩ is01_in
  rw [E6.out] at hO
  refine hO.mono ?_
  rintro e w6 ⟨rfl, h6, s6⟩
  have sv6 : Save k w5 w6 := (Save.of_below ((Below.refl _ _).alloc (Nat.le_refl _) _)).trans s6
  have hF6 := hF5.save sv6 nTk nNk nFk
  have r06 := sv6.cell nRk r05
  have hz6 := hz5.save sv6 HAK.out
  have hA6 := hA5.trans (sv6.below hT5 lTk)
  have hT6 := Nat.le_trans hT5 sv6.size
  clear hO s6 sv6 hF5 r05 hz5 hA5 hr5 hT5
  have t2 := hF6.t2
  have i2 := hF6.i2
  simp only at h6
  obtain ⟨p6, r6⟩ : ∃ p6, q6.1 = p6 := ⟨_, rfl⟩
  have c1 : (w6.setCell ⟨T, 2, none⟩ (.bool true)).cell? ⟨k, 1, none⟩ = some (.int .i64 p6) := by rw [← r6]; exact (h6.set ⟨T, 2, none⟩ (.bool true) nkT).c1
  have R6 := hid r6
  have r07 : (w6.setCell ⟨T, 2, none⟩ (.bool true)).cell? ⟨R, 0, none⟩ = some (.pointer (some ⟨k, 0, none⟩)) := ((Save.refl T w6).setCell (p := ⟨T, 2, none⟩) (.inl rfl) _).cell nRT r06
  clear r6
  go_wp2_with fail
  have hF7 := hF6.set2 (u := .bool true) nNT nFT
  have h7 := h6.set ⟨T, 2, none⟩ (.bool true) nkT
  have hz7 := hz6.save ((Save.refl T w6).setCell (p := ⟨T, 2, none⟩) (.inl rfl) (.bool true)) HAT.out
  have hA7 := hA6.setCell (p := ⟨T, 2, none⟩) (Nat.le_refl _) (.bool true)
  have hT7 : T ≤ (w6.setCell ⟨T, 2, none⟩ (.bool true)).heap.size := by simpa [World.setCell] using hT6
  clear hF6 h6 r06 hz6 hA6 hT6 t2 i2 c1
  generalize w6.setCell ⟨T, 2, none⟩ (.bool true) = w7 at *
  have hW := number_any k av len cap zs q6 w7 h7 hg6 HL.out hz7
  rw [E7.out] at hW
  refine hW.mono ?_
  rintro e w8 ⟨rfl, h8, s8⟩
  have hF8 := hF7.save s8 nTk nNk nFk
  have r08 := s8.cell nRk r07
  have hz8 := hz7.save s8 HAK.out
  have hA8 := hA7.trans (s8.below hT7 lTk)
  have hT8 := Nat.le_trans hT7 s8.size
  clear hW s8 hF7 r07 hz7 hA7 h7 hT7
  have t0 := hF8.t0
  have i0 := hF8.i0
  simp only at h8
  have hF9 := hF8.set0 (u := .int .u32 n) nNT nFT
  have h9 := h8.set ⟨T, 0, none⟩ (.int .u32 n) nkT
  have r09 : (w8.setCell ⟨T, 0, none⟩ (.int .u32 n)).cell? ⟨R, 0, none⟩ = some (.pointer (some ⟨k, 0, none⟩)) := ((Save.refl T w8).setCell (p := ⟨T, 0, none⟩) (.inl rfl) _).cell nRT r08
  have hz9 := hz8.save ((Save.refl T w8).setCell (p := ⟨T, 0, none⟩) (.inl rfl) (.int .u32 n)) HAT.out
  have hA9 := hA8.setCell (p := ⟨T, 0, none⟩) (Nat.le_refl _) (.int .u32 n)
  have hT9 : T ≤ (w8.setCell ⟨T, 0, none⟩ (.int .u32 n)).heap.size := by simpa [World.setCell] using hT8
  obtain ⟨p7, r7⟩ : ∃ p7, q7.1 = p7 := ⟨_, rfl⟩
  have R7 := hid r7
  have c1 := h9.c1
  rw [r7] at c1
  have t0' := hF9.t0
  have t2' := hF9.t2
  clear r7
  go_wp2_with fail
  clear hF8 h8 r08 hz8 hA8 hT8 t0 i0 c1 t0' t2'
  generalize w8.setCell ⟨T, 0, none⟩ (.int .u32 n) = w9 at *
  have hW := number_any k av len cap zs q7 w9 h9 hg7 HL.out hz9
  rw [E8.out] at hW
  refine hW.mono ?_
  rintro e wa ⟨rfl, ha, sa⟩
  have hFa := hF9.save sa nTk nNk nFk
  have r0a := sa.cell nRk r09
  have hAa := hA9.trans (sa.below hT9 lTk)
  have hTa := Nat.le_trans hT9 sa.size
  clear hW sa hF9 r09 hz9 hA9 h9 hT9
  have t1 := hFa.t1
  have i1 := hFa.i1
  simp only at ha
  have hFb := hFa.set1 (u := .int .u32 x) nNT nFT
  have hb := ha.set ⟨T, 1, none⟩ (.int .u32 x) nkT
  have r0b : (wa.setCell ⟨T, 1, none⟩ (.int .u32 x)).cell? ⟨R, 0, none⟩ = some (.pointer (some ⟨k, 0, none⟩)) := ((Save.refl T wa).setCell (p := ⟨T, 1, none⟩) (.inl rfl) _).cell nRT r0a
  have hAb := hAa.setCell (p := ⟨T, 1, none⟩) (Nat.le_refl _) (.int .u32 x)
  have hTb : T ≤ (wa.setCell ⟨T, 1, none⟩ (.int .u32 x)).heap.size := by simpa [World.setCell] using hTa
  have t0' := hFb.t0
  have t1' := hFb.t1
  have t2' := hFb.t2
  go_wp2_with fail
  clear hFa ha r0a hAa hTa t1 i1
  generalize (wa.setCell ⟨T, 1, none⟩ (.int .u32 x)) = wb at *
  refine (refuse_any k _ q8 141 p7 _ hb).mono ?_
  rintro e w1 ⟨rfl, h1, s1⟩
  rw [← R7.out] at h1
  have hFb := hFb.save s1 nTk nNk nFk
  have r0b := s1.cell nRk r0b
  have hAb := hAb.trans (s1.below hTb lTk)
  have hTb := Nat.le_trans hTb s1.size
  have t0' := hFb.t0
  have t1' := hFb.t1
  have t2' := hFb.t2
  have hb := h1
  clear s1 h1
  go_wp2
  generalize w1 = wt at *
  have hFt := hFb
  have ht := hb
  have r0t := r0b
  have hAt := hAb
  clear hFb hb r0b hAb
  generalize (refuseR q8 141 q7.1) = q9 at *
  obtain ⟨pe, er, fa⟩ := q9
  have t0 := hFt.t0
  have t1 := hFt.t1
  have t2 := hFt.t2
  have n0 := hFt.n0
  have f0 := hFt.f0
  have f1 := hFt.f1
  have i0 := hFt.i0
  have i1 := hFt.i1
  have i2 := hFt.i2
  have j0 := hFt.j0
  have g0 := hFt.g0
  have g1 := hFt.g1
  have c1 := ht.c1
  have c2 := ht.c2
  have c3 := ht.c3
  simp only at c1 c2 c3
  have hS0 : ReadsL T R k F (.int .u32 n) (.int .u32 x) (.bool true) pe wt.drew := ⟨t0, t1, t2, r0t, c1, f0, f1⟩
  have HD := frLD_of hFt ht r0t nTN nTF nNF nRT nRN nRF nkT nkN nkF
  have hBt := (((((hAt.setCell (p := ⟨T, 0, none⟩) (Nat.le_refl _) (.int .u32 n)).setCell (p := ⟨T, 1, none⟩) (Nat.le_refl _) (.int .u32 x)).setCell (p := ⟨T, 2, none⟩) (Nat.le_refl _) (.bool true)).setCell (p := ⟨N, 0, none⟩) lTN (.int .i64 pe)).setCell (p := ⟨F, 0, none⟩) lTF (.int .i64 0)).setCell (p := ⟨F, 1, none⟩) lTF (.int .i64 0) |>.drew
  clear hFt ht hAt
  go_region_held3 (fun w' => w'.cell? ⟨T, 0, none⟩ = some (.int .u32 n) ∧ w'.cell? ⟨T, 1, none⟩ = some (.int .u32 x) ∧ w'.cell? ⟨T, 2, none⟩ = some (.bool true) ∧ w'.cell? ⟨R, 0, none⟩ = some (.pointer (some ⟨k, 0, none⟩)) ∧ w'.cell? ⟨k, 1, none⟩ = some (.int .i64 pe) ∧ w'.cell? ⟨F, 0, none⟩ = some (.int .i64 0) ∧ w'.cell? ⟨F, 1, none⟩ = some (.int .i64 0))
    (first
      | (with_reducible assumption)
      | (with_reducible refine readsL_T ?_ nRT nkT nFT; with_reducible assumption)
      | (with_reducible refine readsL_N ?_ nTN nRN nkN nFN; with_reducible assumption)
      | (with_reducible refine readsL_F ?_ nTF nRF nkF; with_reducible assumption))
    (fail)
  go_wp2
  generalize ((((((wt.setCell ⟨T, 0, none⟩ (.int .u32 n)).setCell ⟨T, 1, none⟩ (.int .u32 x)).setCell ⟨T, 2, none⟩ (.bool true)).setCell ⟨N, 0, none⟩ (.int .i64 pe)).setCell ⟨F, 0, none⟩ (.int .i64 0)).setCell ⟨F, 1, none⟩ (.int .i64 0)).drew = W at *
  clear t0 t1 t2 n0 f0 f1 i0 i1 i2 j0 g0 g1 c1 c2 c3 r0t hS0
  obtain ⟨t0, t1, t2, n0, f0, f1, i0, i1, i2, j0, g0, g1, r0, c2, c3⟩ := HD
  refine leaves_cons (f := 29) (args := #[.pointer (some ⟨R, 0, none⟩), .pointer (some ⟨F, 0, none⟩), .pointer (some ⟨T, 0, none⟩), .pointer (some ⟨N, 0, none⟩)]) (by simp) (by simp [go_sem]) ?_
  by_cases he : er = 0
  · subst he
    refine (closeL_ok R F T N k fa _ _ W r0 c2 c3 f0 f1 g0 g1).mono ?_
    rintro e u' w'' ⟨rfl, rfl, rfl⟩
    refine ⟨.tuple #[.agg #[.int .u32 n, (.int .u32 x), .bool true], .int .i64 pe, .agg #[.int .i64 0, .int .i64 fa]], ?_, ?_⟩
    · simp [settle, results, Try.results17, go_sem, t0, t1, t2, n0, f0, f1, nTN, nTF, nNF, nFN, nFT, nNT]
    · rw [finL_ok]
      refine ⟨rfl, ?_⟩
      rw [HT.out]
      exact (hBt.setCell (p := ⟨F, 0, none⟩) lTF _).setCell (p := ⟨F, 1, none⟩) lTF _
  · refine (closeL_no R F T N k er fa _ _ _ _ _ _ W he r0 c2 c3 f0 f1 g0 g1 t0 t1 t2 i0 i1 i2 n0 j0 nTF nNF nNT).mono ?_
    rintro e u' w'' ⟨rfl, rfl, rfl⟩
    refine ⟨.tuple #[.agg #[.int .u32 0, .int .u32 0, .bool false], .int .i64 0, .agg #[.int .i64 er, .int .i64 fa]], ?_, ?_⟩
    · simp [settle, results, Try.results17, go_sem, t0, t1, t2, n0, f0, f1, nTN, nTF, nNF, nFN, nFT, nNT]
    · rw [finL_no he]
      refine ⟨rfl, ?_⟩
      rw [HT.out]
      exact (((((hBt.setCell (p := ⟨F, 0, none⟩) lTF _).setCell (p := ⟨F, 1, none⟩) lTF _).setCell (p := ⟨T, 0, none⟩) (Nat.le_refl _) _).setCell (p := ⟨T, 1, none⟩) (Nat.le_refl _) _).setCell (p := ⟨T, 2, none⟩) (Nat.le_refl _) _).setCell (p := ⟨N, 0, none⟩) lTN _

set_option maxHeartbeats 3200000 in
theorem getLim_111 (av : Option Addr) (len cap : Nat) (zs : List Int) (p most : Int) (w : World) (hlen : zs.length = len) (hz : Bytes w av zs)
    (c6 n x : Int) (q6 q7 q8 : Rd) (e6 : oneR zs is01 (startR zs p) = (c6, q6)) (e7 : numR zs q6 = (n, q7)) (e8 : numR zs q7 = (x, q8)) (hm : 0 ≤ most ∧ most ≤ 4294967295) (hc : c6 = 1) (hn : most < n) (hx : most < x) :
    Calls Try.prog 17 #[.slice av len cap, .int .i64 p, .int .u32 most] w (GotL w (finL n x true (refuseR (refuseR q8 141 q6.1) 141 q7.1))) := by
  have hav := hz.lt
  have hmf : ∀ (fn : Fn) (first cap : Array Value) (w : World), (Instr.makeFunc fn first cap).run Try.prog w = .ok (.func fn first cap) w := fun _ _ _ _ => rfl
  have hcb : (c6 == 1) = true := by simp [hc]
  have hg6 : Good zs q6 := by have := oneR_good (ok := is01) (startR_good zs p); rw [e6] at this; exact this
  have hg7 : Good zs q7 := by have := numR_good hg6; rw [e7] at this; exact this
  obtain ⟨bn0, bn1⟩ : 0 ≤ n ∧ n < 4294967296 := by have := numR_bounds (s := q6) hz.byte; rw [e7] at this; exact this
  obtain ⟨bx0, bx1⟩ : 0 ≤ x ∧ x < 4294967296 := by have := numR_bounds (s := q7) hz.byte; rw [e8] at this; exact this
  have E6 := hid e6
  have E7 := hid e7
  have E8 := hid e8
  clear e6 e7 e8 hc
  go_enter_defers Try.func17, Try.ntmps17
  go_wp2_with fail
  refine (newReader_any av len cap zs p _ hlen).mono ?_
  rintro e w4 ⟨rfl, hr, hb⟩
  have hF3 := (frL_start w 26 3 38).below hb
  have hs := hb.size
  have hA4 : Below w.heap.size w w4 := ((((Below.refl _ _).alloc (Nat.le_refl _) _).alloc (by simp) _).alloc (by simp; omega) _).trans (hb.mono (by simp; omega))
  have hk0 : (((w.alloc (.cells #[.int .u32 0, .int .u32 0, .bool false] 26)).alloc (.cells #[.int .i64 0] 3)).alloc (.cells #[.int .i64 0, .int .i64 0] 38)).heap.size = w.heap.size + 1 + 1 + 1 := by simp
  rw [hk0] at hr hs
  clear hb hk0
  have hk4 := World.block_lt_of_cell? w4 _ hr.c0
  simp only at hk4
  have hr5 := hr.below ((Below.refl _ _).alloc (Nat.le_refl _) (.cells #[.pointer (some ⟨w.heap.size + 1 + 1 + 1, 0, none⟩)] 49))
  have hF5 := hF3.below ((Below.refl _ _).alloc (Nat.le_refl _) (.cells #[.pointer (some ⟨w.heap.size + 1 + 1 + 1, 0, none⟩)] 49))
  have r05 : (w4.alloc (.cells #[.pointer (some ⟨w.heap.size + 1 + 1 + 1, 0, none⟩)] 49)).cell? ⟨w4.heap.size, 0, none⟩ = some (.pointer (some ⟨w.heap.size + 1 + 1 + 1, 0, none⟩)) := by go_simp
  have hA5 := thenA hA4 (.cells #[.pointer (some ⟨w.heap.size + 1 + 1 + 1, 0, none⟩)] 49)
  have hR5 : w4.heap.size + 1 = (w4.alloc (.cells #[.pointer (some ⟨w.heap.size + 1 + 1 + 1, 0, none⟩)] 49)).heap.size := by simp
  have HR5 := hid hR5
  clear hr hF3 hA4 hR5
  go_wp2_with fail
  generalize w4.alloc (.cells #[.pointer (some ⟨w.heap.size + 1 + 1 + 1, 0, none⟩)] 49) = w5 at *
  rw [HR5.out]
  have hT5 : w.heap.size ≤ w5.heap.size := hA5.size
  clear HR5
  generalize hk : w.heap.size + 1 + 1 + 1 = k at *
  generalize hF : w.heap.size + 1 + 1 = F at *
  generalize hN : w.heap.size + 1 = N at *
  generalize w4.heap.size = R at *
  generalize hT : w.heap.size = T at *
  have nTk : ¬ T = k := by omega
  have nNk : ¬ N = k := by omega
  have nFk : ¬ F = k := by omega
  have nRk : ¬ R = k := by omega
  have nRT : ¬ R = T := by omega
  have nTR : ¬ T = R := by omega
  have nkT : ¬ k = T := by omega
  have nNT : ¬ N = T := by omega
  have nFT : ¬ F = T := by omega
  have nTN : ¬ T = N := by omega
  have nTF : ¬ T = F := by omega
  have nNF : ¬ N = F := by omega
  have nFN : ¬ F = N := by omega
  have nkN : ¬ k = N := by omega
  have nkF : ¬ k = F := by omega
  have nRN : ¬ R = N := by omega
  have nRF : ¬ R = F := by omega
  have lTk : T ≤ k := by omega
  have lTN : T ≤ N := by omega
  have lTF : T ≤ F := by omega
  have HT := hid hT
  have hak : ∀ b off, av = some ⟨b, off, none⟩ → zs ≠ [] → b ≠ k := fun b off h hne => by have := hav b off h hne; omega
  have haT : ∀ b off, av = some ⟨b, off, none⟩ → zs ≠ [] → b ≠ T := fun b off h hne => by have := hav b off h hne; omega
  have HAK := hid hak
  have HAT := hid haT
  have HL := hid hlen
  have hz5 : Bytes w5 av zs := hz.below (by rw [HT.out]; exact hA5)
  clear hk hF hN hT hs hk4 hak haT hav hz hlen
  have hO := oneOf_any k av len cap zs (startR zs p) (some ⟨w5.heap.size, 0, none⟩) 2 2 [0, 1] is01 _ (hr5.below ((Below.refl _ _).alloc (Nat.le_refl _) (.cells #[.int .u8 0, .int .u8 1] 5))) (startR_good zs p) HL.out (hz5.alloc _) rfl
    ⟨by simp, by simp, .inr ⟨_, 0, rfl, fun i hi => by
      match i, hi with
      | 0, _ => go_simp
      | 1, _ => go_simp⟩⟩ is01_in
  rw [E6.out] at hO
  refine hO.mono ?_
  rintro e w6 ⟨rfl, h6, s6⟩
  have sv6 : Save k w5 w6 := (Save.of_below ((Below.refl _ _).alloc (Nat.le_refl _) _)).trans s6
  have hF6 := hF5.save sv6 nTk nNk nFk
  have r06 := sv6.cell nRk r05
  have hz6 := hz5.save sv6 HAK.out
  have hA6 := hA5.trans (sv6.below hT5 lTk)
  have hT6 := Nat.le_trans hT5 sv6.size
  clear hO s6 sv6 hF5 r05 hz5 hA5 hr5 hT5
  have t2 := hF6.t2
  have i2 := hF6.i2
  simp only at h6
  obtain ⟨p6, r6⟩ : ∃ p6, q6.1 = p6 := ⟨_, rfl⟩
  have c1 : (w6.setCell ⟨T, 2, none⟩ (.bool true)).cell? ⟨k, 1, none⟩ = some (.int .i64 p6) := by rw [← r6]; exact (h6.set ⟨T, 2, none⟩ (.bool true) nkT).c1
  have R6 := hid r6
  have r07 : (w6.setCell ⟨T, 2, none⟩ (.bool true)).cell? ⟨R, 0, none⟩ = some (.pointer (some ⟨k, 0, none⟩)) := ((Save.refl T w6).setCell (p := ⟨T, 2, none⟩) (.inl rfl) _).cell nRT r06
  clear r6
  go_wp2_with fail
  have hF7 := hF6.set2 (u := .bool true) nNT nFT
  have h7 := h6.set ⟨T, 2, none⟩ (.bool true) nkT
  have hz7 := hz6.save ((Save.refl T w6).setCell (p := ⟨T, 2, none⟩) (.inl rfl) (.bool true)) HAT.out
  have hA7 := hA6.setCell (p := ⟨T, 2, none⟩) (Nat.le_refl _) (.bool true)
  have hT7 : T ≤ (w6.setCell ⟨T, 2, none⟩ (.bool true)).heap.size := by simpa [World.setCell] using hT6
  clear hF6 h6 r06 hz6 hA6 hT6 t2 i2 c1
  generalize w6.setCell ⟨T, 2, none⟩ (.bool true) = w7 at *
  have hW := number_any k av len cap zs q6 w7 h7 hg6 HL.out hz7
  rw [E7.out] at hW
  refine hW.mono ?_
  rintro e w8 ⟨rfl, h8, s8⟩
  have hF8 := hF7.save s8 nTk nNk nFk
  have r08 := s8.cell nRk r07
  have hz8 := hz7.save s8 HAK.out
  have hA8 := hA7.trans (s8.below hT7 lTk)
  have hT8 := Nat.le_trans hT7 s8.size
  clear hW s8 hF7 r07 hz7 hA7 h7 hT7
  have t0 := hF8.t0
  have i0 := hF8.i0
  simp only at h8
  have hF9 := hF8.set0 (u := .int .u32 n) nNT nFT
  have h9 := h8.set ⟨T, 0, none⟩ (.int .u32 n) nkT
  have r09 : (w8.setCell ⟨T, 0, none⟩ (.int .u32 n)).cell? ⟨R, 0, none⟩ = some (.pointer (some ⟨k, 0, none⟩)) := ((Save.refl T w8).setCell (p := ⟨T, 0, none⟩) (.inl rfl) _).cell nRT r08
  have hz9 := hz8.save ((Save.refl T w8).setCell (p := ⟨T, 0, none⟩) (.inl rfl) (.int .u32 n)) HAT.out
  have hA9 := hA8.setCell (p := ⟨T, 0, none⟩) (Nat.le_refl _) (.int .u32 n)
  have hT9 : T ≤ (w8.setCell ⟨T, 0, none⟩ (.int .u32 n)).heap.size := by simpa [World.setCell] using hT8
  obtain ⟨p7, r7⟩ : ∃ p7, q7.1 = p7 := ⟨_, rfl⟩
  have R7 := hid r7
  have c1 := h9.c1
  rw [r7] at c1
  have t0' := hF9.t0
  have t2' := hF9.t2
  clear r7
  go_wp2_with fail
  clear hF8 h8 r08 hz8 hA8 hT8 t0 i0 c1 t0' t2'
  generalize w8.setCell ⟨T, 0, none⟩ (.int .u32 n) = w9 at *
  have hW := number_any k av len cap zs q7 w9 h9 hg7 HL.out hz9
  rw [E8.out] at hW
  refine hW.mono ?_
  rintro e wa ⟨rfl, ha, sa⟩
  have hFa := hF9.save sa nTk nNk nFk
  have r0a := sa.cell nRk r09
  have hAa := hA9.trans (sa.below hT9 lTk)
  have hTa := Nat.le_trans hT9 sa.size
  clear hW sa hF9 r09 hz9 hA9 h9 hT9
  have t1 := hFa.t1
  have i1 := hFa.i1
  simp only at ha
  have hFb := hFa.set1 (u := .int .u32 x) nNT nFT
  have hb := ha.set ⟨T, 1, none⟩ (.int .u32 x) nkT
  have r0b : (wa.setCell ⟨T, 1, none⟩ (.int .u32 x)).cell? ⟨R, 0, none⟩ = some (.pointer (some ⟨k, 0, none⟩)) := ((Save.refl T wa).setCell (p := ⟨T, 1, none⟩) (.inl rfl) _).cell nRT r0a
  have hAb := hAa.setCell (p := ⟨T, 1, none⟩) (Nat.le_refl _) (.int .u32 x)
  have hTb : T ≤ (wa.setCell ⟨T, 1, none⟩ (.int .u32 x)).heap.size := by simpa [World.setCell] using hTa
  have t0' := hFb.t0
  have t1' := hFb.t1
  have t2' := hFb.t2
  go_wp2_with fail
  clear hFa ha r0a hAa hTa t1 i1
  generalize (wa.setCell ⟨T, 1, none⟩ (.int .u32 x)) = wb at *
  refine (refuse_any k _ q8 141 p6 _ hb).mono ?_
  rintro e w1 ⟨rfl, h1, s1⟩
  rw [← R6.out] at h1
  have hFb := hFb.save s1 nTk nNk nFk
  have r0b := s1.cell nRk r0b
  have hAb := hAb.trans (s1.below hTb lTk)
  have hTb := Nat.le_trans hTb s1.size
  have t0' := hFb.t0
  have t1' := hFb.t1
  have t2' := hFb.t2
  have hb := h1
  clear s1 h1
  go_wp2_with fail
  refine (refuse_any k _ (refuseR q8 141 q6.1) 141 p7 _ hb).mono ?_
  rintro e w2 ⟨rfl, h1, s1⟩
  rw [← R7.out] at h1
  have hFb := hFb.save s1 nTk nNk nFk
  have r0b := s1.cell nRk r0b
  have hAb := hAb.trans (s1.below hTb lTk)
  have hTb := Nat.le_trans hTb s1.size
  have t0' := hFb.t0
  have t1' := hFb.t1
  have t2' := hFb.t2
  have hb := h1
  clear s1 h1
  go_wp2
  generalize w2 = wt at *
  have hFt := hFb
  have ht := hb
  have r0t := r0b
  have hAt := hAb
  clear hFb hb r0b hAb
  generalize (refuseR (refuseR q8 141 q6.1) 141 q7.1) = q9 at *
  obtain ⟨pe, er, fa⟩ := q9
  have t0 := hFt.t0
  have t1 := hFt.t1
  have t2 := hFt.t2
  have n0 := hFt.n0
  have f0 := hFt.f0
  have f1 := hFt.f1
  have i0 := hFt.i0
  have i1 := hFt.i1
  have i2 := hFt.i2
  have j0 := hFt.j0
  have g0 := hFt.g0
  have g1 := hFt.g1
  have c1 := ht.c1
  have c2 := ht.c2
  have c3 := ht.c3
  simp only at c1 c2 c3
  have hS0 : ReadsL T R k F (.int .u32 n) (.int .u32 x) (.bool true) pe wt.drew := ⟨t0, t1, t2, r0t, c1, f0, f1⟩
  have HD := frLD_of hFt ht r0t nTN nTF nNF nRT nRN nRF nkT nkN nkF
  have hBt := (((((hAt.setCell (p := ⟨T, 0, none⟩) (Nat.le_refl _) (.int .u32 n)).setCell (p := ⟨T, 1, none⟩) (Nat.le_refl _) (.int .u32 x)).setCell (p := ⟨T, 2, none⟩) (Nat.le_refl _) (.bool true)).setCell (p := ⟨N, 0, none⟩) lTN (.int .i64 pe)).setCell (p := ⟨F, 0, none⟩) lTF (.int .i64 0)).setCell (p := ⟨F, 1, none⟩) lTF (.int .i64 0) |>.drew
  clear hFt ht hAt
  go_region_held3 (fun w' => w'.cell? ⟨T, 0, none⟩ = some (.int .u32 n) ∧ w'.cell? ⟨T, 1, none⟩ = some (.int .u32 x) ∧ w'.cell? ⟨T, 2, none⟩ = some (.bool true) ∧ w'.cell? ⟨R, 0, none⟩ = some (.pointer (some ⟨k, 0, none⟩)) ∧ w'.cell? ⟨k, 1, none⟩ = some (.int .i64 pe) ∧ w'.cell? ⟨F, 0, none⟩ = some (.int .i64 0) ∧ w'.cell? ⟨F, 1, none⟩ = some (.int .i64 0))
    (first
      | (with_reducible assumption)
      | (with_reducible refine readsL_T ?_ nRT nkT nFT; with_reducible assumption)
      | (with_reducible refine readsL_N ?_ nTN nRN nkN nFN; with_reducible assumption)
      | (with_reducible refine readsL_F ?_ nTF nRF nkF; with_reducible assumption))
    (fail)
  go_wp2
  generalize ((((((wt.setCell ⟨T, 0, none⟩ (.int .u32 n)).setCell ⟨T, 1, none⟩ (.int .u32 x)).setCell ⟨T, 2, none⟩ (.bool true)).setCell ⟨N, 0, none⟩ (.int .i64 pe)).setCell ⟨F, 0, none⟩ (.int .i64 0)).setCell ⟨F, 1, none⟩ (.int .i64 0)).drew = W at *
  clear t0 t1 t2 n0 f0 f1 i0 i1 i2 j0 g0 g1 c1 c2 c3 r0t hS0
  obtain ⟨t0, t1, t2, n0, f0, f1, i0, i1, i2, j0, g0, g1, r0, c2, c3⟩ := HD
  refine leaves_cons (f := 29) (args := #[.pointer (some ⟨R, 0, none⟩), .pointer (some ⟨F, 0, none⟩), .pointer (some ⟨T, 0, none⟩), .pointer (some ⟨N, 0, none⟩)]) (by simp) (by simp [go_sem]) ?_
  by_cases he : er = 0
  · subst he
    refine (closeL_ok R F T N k fa _ _ W r0 c2 c3 f0 f1 g0 g1).mono ?_
    rintro e u' w'' ⟨rfl, rfl, rfl⟩
    refine ⟨.tuple #[.agg #[.int .u32 n, (.int .u32 x), .bool true], .int .i64 pe, .agg #[.int .i64 0, .int .i64 fa]], ?_, ?_⟩
    · simp [settle, results, Try.results17, go_sem, t0, t1, t2, n0, f0, f1, nTN, nTF, nNF, nFN, nFT, nNT]
    · rw [finL_ok]
      refine ⟨rfl, ?_⟩
      rw [HT.out]
      exact (hBt.setCell (p := ⟨F, 0, none⟩) lTF _).setCell (p := ⟨F, 1, none⟩) lTF _
  · refine (closeL_no R F T N k er fa _ _ _ _ _ _ W he r0 c2 c3 f0 f1 g0 g1 t0 t1 t2 i0 i1 i2 n0 j0 nTF nNF nNT).mono ?_
    rintro e u' w'' ⟨rfl, rfl, rfl⟩
    refine ⟨.tuple #[.agg #[.int .u32 0, .int .u32 0, .bool false], .int .i64 0, .agg #[.int .i64 er, .int .i64 fa]], ?_, ?_⟩
    · simp [settle, results, Try.results17, go_sem, t0, t1, t2, n0, f0, f1, nTN, nTF, nNF, nFN, nFT, nNT]
    · rw [finL_no he]
      refine ⟨rfl, ?_⟩
      rw [HT.out]
      exact (((((hBt.setCell (p := ⟨F, 0, none⟩) lTF _).setCell (p := ⟨F, 1, none⟩) lTF _).setCell (p := ⟨T, 0, none⟩) (Nat.le_refl _) _).setCell (p := ⟨T, 1, none⟩) (Nat.le_refl _) _).setCell (p := ⟨T, 2, none⟩) (Nat.le_refl _) _).setCell (p := ⟨N, 0, none⟩) lTN _

set_option maxHeartbeats 3200000 in
theorem getLim_112 (av : Option Addr) (len cap : Nat) (zs : List Int) (p most : Int) (w : World) (hlen : zs.length = len) (hz : Bytes w av zs)
    (c6 n x : Int) (q6 q7 q8 : Rd) (e6 : oneR zs is01 (startR zs p) = (c6, q6)) (e7 : numR zs q6 = (n, q7)) (e8 : numR zs q7 = (x, q8)) (hm : 0 ≤ most ∧ most ≤ 4294967295) (hc : c6 = 1) (hn : most < n) (hx : ¬ most < x) (hy : x < n) :
    Calls Try.prog 17 #[.slice av len cap, .int .i64 p, .int .u32 most] w (GotL w (finL n x true (refuseR (refuseR q8 141 q6.1) 141 q7.1))) := by
  have hav := hz.lt
  have hmf : ∀ (fn : Fn) (first cap : Array Value) (w : World), (Instr.makeFunc fn first cap).run Try.prog w = .ok (.func fn first cap) w := fun _ _ _ _ => rfl
  have hcb : (c6 == 1) = true := by simp [hc]
  have hg6 : Good zs q6 := by have := oneR_good (ok := is01) (startR_good zs p); rw [e6] at this; exact this
  have hg7 : Good zs q7 := by have := numR_good hg6; rw [e7] at this; exact this
  obtain ⟨bn0, bn1⟩ : 0 ≤ n ∧ n < 4294967296 := by have := numR_bounds (s := q6) hz.byte; rw [e7] at this; exact this
  obtain ⟨bx0, bx1⟩ : 0 ≤ x ∧ x < 4294967296 := by have := numR_bounds (s := q7) hz.byte; rw [e8] at this; exact this
  have E6 := hid e6
  have E7 := hid e7
  have E8 := hid e8
  clear e6 e7 e8 hc
  go_enter_defers Try.func17, Try.ntmps17
  go_wp2_with fail
  refine (newReader_any av len cap zs p _ hlen).mono ?_
  rintro e w4 ⟨rfl, hr, hb⟩
  have hF3 := (frL_start w 26 3 38).below hb
  have hs := hb.size
  have hA4 : Below w.heap.size w w4 := ((((Below.refl _ _).alloc (Nat.le_refl _) _).alloc (by simp) _).alloc (by simp; omega) _).trans (hb.mono (by simp; omega))
  have hk0 : (((w.alloc (.cells #[.int .u32 0, .int .u32 0, .bool false] 26)).alloc (.cells #[.int .i64 0] 3)).alloc (.cells #[.int .i64 0, .int .i64 0] 38)).heap.size = w.heap.size + 1 + 1 + 1 := by simp
  rw [hk0] at hr hs
  clear hb hk0
  have hk4 := World.block_lt_of_cell? w4 _ hr.c0
  simp only at hk4
  have hr5 := hr.below ((Below.refl _ _).alloc (Nat.le_refl _) (.cells #[.pointer (some ⟨w.heap.size + 1 + 1 + 1, 0, none⟩)] 49))
  have hF5 := hF3.below ((Below.refl _ _).alloc (Nat.le_refl _) (.cells #[.pointer (some ⟨w.heap.size + 1 + 1 + 1, 0, none⟩)] 49))
  have r05 : (w4.alloc (.cells #[.pointer (some ⟨w.heap.size + 1 + 1 + 1, 0, none⟩)] 49)).cell? ⟨w4.heap.size, 0, none⟩ = some (.pointer (some ⟨w.heap.size + 1 + 1 + 1, 0, none⟩)) := by go_simp
  have hA5 := thenA hA4 (.cells #[.pointer (some ⟨w.heap.size + 1 + 1 + 1, 0, none⟩)] 49)
  have hR5 : w4.heap.size + 1 = (w4.alloc (.cells #[.pointer (some ⟨w.heap.size + 1 + 1 + 1, 0, none⟩)] 49)).heap.size := by simp
  have HR5 := hid hR5
  clear hr hF3 hA4 hR5
  go_wp2_with fail
  generalize w4.alloc (.cells #[.pointer (some ⟨w.heap.size + 1 + 1 + 1, 0, none⟩)] 49) = w5 at *
  rw [HR5.out]
  have hT5 : w.heap.size ≤ w5.heap.size := hA5.size
  clear HR5
  generalize hk : w.heap.size + 1 + 1 + 1 = k at *
  generalize hF : w.heap.size + 1 + 1 = F at *
  generalize hN : w.heap.size + 1 = N at *
  generalize w4.heap.size = R at *
  generalize hT : w.heap.size = T at *
  have nTk : ¬ T = k := by omega
  have nNk : ¬ N = k := by omega
  have nFk : ¬ F = k := by omega
  have nRk : ¬ R = k := by omega
  have nRT : ¬ R = T := by omega
  have nTR : ¬ T = R := by omega
  have nkT : ¬ k = T := by omega
  have nNT : ¬ N = T := by omega
  have nFT : ¬ F = T := by omega
  have nTN : ¬ T = N := by omega
  have nTF : ¬ T = F := by omega
  have nNF : ¬ N = F := by omega
  have nFN : ¬ F = N := by omega
  have nkN : ¬ k = N := by omega
  have nkF : ¬ k = F := by omega
  have nRN : ¬ R = N := by omega
  have nRF : ¬ R = F := by omega
  have lTk : T ≤ k := by omega
  have lTN : T ≤ N := by omega
  have lTF : T ≤ F := by omega
  have HT := hid hT
  have hak : ∀ b off, av = some ⟨b, off, none⟩ → zs ≠ [] → b ≠ k := fun b off h hne => by have := hav b off h hne; omega
  have haT : ∀ b off, av = some ⟨b, off, none⟩ → zs ≠ [] → b ≠ T := fun b off h hne => by have := hav b off h hne; omega
  have HAK := hid hak
  have HAT := hid haT
  have HL := hid hlen
  have hz5 : Bytes w5 av zs := hz.below (by rw [HT.out]; exact hA5)
  clear hk hF hN hT hs hk4 hak haT hav hz hlen
  have hO := oneOf_any k av len cap zs (startR zs p) (some ⟨w5.heap.size, 0, none⟩) 2 2 [0, 1] is01 _ (hr5.below ((Below.refl _ _).alloc (Nat.le_refl _) (.cells #[.int .u8 0, .int .u8 1] 5))) (startR_good zs p) HL.out (hz5.alloc _) rfl
    ⟨by simp, by simp, .inr ⟨_, 0, rfl, fun i hi => by
      match i, hi with
      | 0, _ => go_simp
      | 1, _ => go_simp⟩⟩ is01_in
  rw [E6.out] at hO
  refine hO.mono ?_
  rintro e w6 ⟨rfl, h6, s6⟩
  have sv6 : Save k w5 w6 := (Save.of_below ((Below.refl _ _).alloc (Nat.le_refl _) _)).trans s6
  have hF6 := hF5.save sv6 nTk nNk nFk
  have r06 := sv6.cell nRk r05
  have hz6 := hz5.save sv6 HAK.out
  have hA6 := hA5.trans (sv6.below hT5 lTk)
  have hT6 := Nat.le_trans hT5 sv6.size
  clear hO s6 sv6 hF5 r05 hz5 hA5 hr5 hT5
  have t2 := hF6.t2
  have i2 := hF6.i2
  simp only at h6
  obtain ⟨p6, r6⟩ : ∃ p6, q6.1 = p6 := ⟨_, rfl⟩
  have c1 : (w6.setCell ⟨T, 2, none⟩ (.bool true)).cell? ⟨k, 1, none⟩ = some (.int .i64 p6) := by rw [← r6]; exact (h6.set ⟨T, 2, none⟩ (.bool true) nkT).c1
  have R6 := hid r6
  have r07 : (w6.setCell ⟨T, 2, none⟩ (.bool true)).cell? ⟨R, 0, none⟩ = some (.pointer (some ⟨k, 0, none⟩)) := ((Save.refl T w6).setCell (p := ⟨T, 2, none⟩) (.inl rfl) _).cell nRT r06
  clear r6
  go_wp2_with fail
  have hF7 := hF6.set2 (u := .bool true) nNT nFT
  have h7 := h6.set ⟨T, 2, none⟩ (.bool true) nkT
  have hz7 := hz6.save ((Save.refl T w6).setCell (p := ⟨T, 2, none⟩) (.inl rfl) (.bool true)) HAT.out
  have hA7 := hA6.setCell (p := ⟨T, 2, none⟩) (Nat.le_refl _) (.bool true)
  have hT7 : T ≤ (w6.setCell ⟨T, 2, none⟩ (.bool true)).heap.size := by simpa [World.setCell] using hT6
  clear hF6 h6 r06 hz6 hA6 hT6 t2 i2 c1
  generalize w6.setCell ⟨T, 2, none⟩ (.bool true) = w7 at *
  have hW := number_any k av len cap zs q6 w7 h7 hg6 HL.out hz7
  rw [E7.out] at hW
  refine hW.mono ?_
  rintro e w8 ⟨rfl, h8, s8⟩
  have hF8 := hF7.save s8 nTk nNk nFk
  have r08 := s8.cell nRk r07
  have hz8 := hz7.save s8 HAK.out
  have hA8 := hA7.trans (s8.below hT7 lTk)
  have hT8 := Nat.le_trans hT7 s8.size
  clear hW s8 hF7 r07 hz7 hA7 h7 hT7
  have t0 := hF8.t0
  have i0 := hF8.i0
  simp only at h8
  have hF9 := hF8.set0 (u := .int .u32 n) nNT nFT
  have h9 := h8.set ⟨T, 0, none⟩ (.int .u32 n) nkT
  have r09 : (w8.setCell ⟨T, 0, none⟩ (.int .u32 n)).cell? ⟨R, 0, none⟩ = some (.pointer (some ⟨k, 0, none⟩)) := ((Save.refl T w8).setCell (p := ⟨T, 0, none⟩) (.inl rfl) _).cell nRT r08
  have hz9 := hz8.save ((Save.refl T w8).setCell (p := ⟨T, 0, none⟩) (.inl rfl) (.int .u32 n)) HAT.out
  have hA9 := hA8.setCell (p := ⟨T, 0, none⟩) (Nat.le_refl _) (.int .u32 n)
  have hT9 : T ≤ (w8.setCell ⟨T, 0, none⟩ (.int .u32 n)).heap.size := by simpa [World.setCell] using hT8
  obtain ⟨p7, r7⟩ : ∃ p7, q7.1 = p7 := ⟨_, rfl⟩
  have R7 := hid r7
  have c1 := h9.c1
  rw [r7] at c1
  have t0' := hF9.t0
  have t2' := hF9.t2
  clear r7
  go_wp2_with fail
  clear hF8 h8 r08 hz8 hA8 hT8 t0 i0 c1 t0' t2'
  generalize w8.setCell ⟨T, 0, none⟩ (.int .u32 n) = w9 at *
  have hW := number_any k av len cap zs q7 w9 h9 hg7 HL.out hz9
  rw [E8.out] at hW
  refine hW.mono ?_
  rintro e wa ⟨rfl, ha, sa⟩
  have hFa := hF9.save sa nTk nNk nFk
  have r0a := sa.cell nRk r09
  have hAa := hA9.trans (sa.below hT9 lTk)
  have hTa := Nat.le_trans hT9 sa.size
  clear hW sa hF9 r09 hz9 hA9 h9 hT9
  have t1 := hFa.t1
  have i1 := hFa.i1
  simp only at ha
  have hFb := hFa.set1 (u := .int .u32 x) nNT nFT
  have hb := ha.set ⟨T, 1, none⟩ (.int .u32 x) nkT
  have r0b : (wa.setCell ⟨T, 1, none⟩ (.int .u32 x)).cell? ⟨R, 0, none⟩ = some (.pointer (some ⟨k, 0, none⟩)) := ((Save.refl T wa).setCell (p := ⟨T, 1, none⟩) (.inl rfl) _).cell nRT r0a
  have hAb := hAa.setCell (p := ⟨T, 1, none⟩) (Nat.le_refl _) (.int .u32 x)
  have hTb : T ≤ (wa.setCell ⟨T, 1, none⟩ (.int .u32 x)).heap.size := by simpa [World.setCell] using hTa
  have t0' := hFb.t0
  have t1' := hFb.t1
  have t2' := hFb.t2
  go_wp2_with fail
  clear hFa ha r0a hAa hTa t1 i1
  generalize (wa.setCell ⟨T, 1, none⟩ (.int .u32 x)) = wb at *
  refine (refuse_any k _ q8 141 p6 _ hb).mono ?_
  rintro e w1 ⟨rfl, h1, s1⟩
  rw [← R6.out] at h1
  have hFb := hFb.save s1 nTk nNk nFk
  have r0b := s1.cell nRk r0b
  have hAb := hAb.trans (s1.below hTb lTk)
  have hTb := Nat.le_trans hTb s1.size
  have t0' := hFb.t0
  have t1' := hFb.t1
  have t2' := hFb.t2
  have hb := h1
  clear s1 h1
  go_wp2_with fail
  refine (refuse_any k _ (refuseR q8 141 q6.1) 141 p7 _ hb).mono ?_
  rintro e w2 ⟨rfl, h1, s1⟩
  rw [← R7.out] at h1
  have hFb := hFb.save s1 nTk nNk nFk
  have r0b := s1.cell nRk r0b
  have hAb := hAb.trans (s1.below hTb lTk)
  have hTb := Nat.le_trans hTb s1.size
  have t0' := hFb.t0
  have t1' := hFb.t1
  have t2' := hFb.t2
  have hb := h1
  clear s1 h1
  go_wp2
  generalize w2 = wt at *
  have hFt := hFb
  have ht := hb
  have r0t := r0b
  have hAt := hAb
  clear hFb hb r0b hAb
  generalize (refuseR (refuseR q8 141 q6.1) 141 q7.1) = q9 at *
  obtain ⟨pe, er, fa⟩ := q9
  have t0 := hFt.t0
  have t1 := hFt.t1
  have t2 := hFt.t2
  have n0 := hFt.n0
  have f0 := hFt.f0
  have f1 := hFt.f1
  have i0 := hFt.i0
  have i1 := hFt.i1
  have i2 := hFt.i2
  have j0 := hFt.j0
  have g0 := hFt.g0
  have g1 := hFt.g1
  have c1 := ht.c1
  have c2 := ht.c2
  have c3 := ht.c3
  simp only at c1 c2 c3
  have hS0 : ReadsL T R k F (.int .u32 n) (.int .u32 x) (.bool true) pe wt.drew := ⟨t0, t1, t2, r0t, c1, f0, f1⟩
  have HD := frLD_of hFt ht r0t nTN nTF nNF nRT nRN nRF nkT nkN nkF
  have hBt := (((((hAt.setCell (p := ⟨T, 0, none⟩) (Nat.le_refl _) (.int .u32 n)).setCell (p := ⟨T, 1, none⟩) (Nat.le_refl _) (.int .u32 x)).setCell (p := ⟨T, 2, none⟩) (Nat.le_refl _) (.bool true)).setCell (p := ⟨N, 0, none⟩) lTN (.int .i64 pe)).setCell (p := ⟨F, 0, none⟩) lTF (.int .i64 0)).setCell (p := ⟨F, 1, none⟩) lTF (.int .i64 0) |>.drew
  clear hFt ht hAt
  go_region_held3 (fun w' => w'.cell? ⟨T, 0, none⟩ = some (.int .u32 n) ∧ w'.cell? ⟨T, 1, none⟩ = some (.int .u32 x) ∧ w'.cell? ⟨T, 2, none⟩ = some (.bool true) ∧ w'.cell? ⟨R, 0, none⟩ = some (.pointer (some ⟨k, 0, none⟩)) ∧ w'.cell? ⟨k, 1, none⟩ = some (.int .i64 pe) ∧ w'.cell? ⟨F, 0, none⟩ = some (.int .i64 0) ∧ w'.cell? ⟨F, 1, none⟩ = some (.int .i64 0))
    (first
      | (with_reducible assumption)
      | (with_reducible refine readsL_T ?_ nRT nkT nFT; with_reducible assumption)
      | (with_reducible refine readsL_N ?_ nTN nRN nkN nFN; with_reducible assumption)
      | (with_reducible refine readsL_F ?_ nTF nRF nkF; with_reducible assumption))
    (fail)
  go_wp2
  generalize ((((((wt.setCell ⟨T, 0, none⟩ (.int .u32 n)).setCell ⟨T, 1, none⟩ (.int .u32 x)).setCell ⟨T, 2, none⟩ (.bool true)).setCell ⟨N, 0, none⟩ (.int .i64 pe)).setCell ⟨F, 0, none⟩ (.int .i64 0)).setCell ⟨F, 1, none⟩ (.int .i64 0)).drew = W at *
  clear t0 t1 t2 n0 f0 f1 i0 i1 i2 j0 g0 g1 c1 c2 c3 r0t hS0
  obtain ⟨t0, t1, t2, n0, f0, f1, i0, i1, i2, j0, g0, g1, r0, c2, c3⟩ := HD
  refine leaves_cons (f := 29) (args := #[.pointer (some ⟨R, 0, none⟩), .pointer (some ⟨F, 0, none⟩), .pointer (some ⟨T, 0, none⟩), .pointer (some ⟨N, 0, none⟩)]) (by simp) (by simp [go_sem]) ?_
  by_cases he : er = 0
  · subst he
    refine (closeL_ok R F T N k fa _ _ W r0 c2 c3 f0 f1 g0 g1).mono ?_
    rintro e u' w'' ⟨rfl, rfl, rfl⟩
    refine ⟨.tuple #[.agg #[.int .u32 n, (.int .u32 x), .bool true], .int .i64 pe, .agg #[.int .i64 0, .int .i64 fa]], ?_, ?_⟩
    · simp [settle, results, Try.results17, go_sem, t0, t1, t2, n0, f0, f1, nTN, nTF, nNF, nFN, nFT, nNT]
    · rw [finL_ok]
      refine ⟨rfl, ?_⟩
      rw [HT.out]
      exact (hBt.setCell (p := ⟨F, 0, none⟩) lTF _).setCell (p := ⟨F, 1, none⟩) lTF _
  · refine (closeL_no R F T N k er fa _ _ _ _ _ _ W he r0 c2 c3 f0 f1 g0 g1 t0 t1 t2 i0 i1 i2 n0 j0 nTF nNF nNT).mono ?_
    rintro e u' w'' ⟨rfl, rfl, rfl⟩
    refine ⟨.tuple #[.agg #[.int .u32 0, .int .u32 0, .bool false], .int .i64 0, .agg #[.int .i64 er, .int .i64 fa]], ?_, ?_⟩
    · simp [settle, results, Try.results17, go_sem, t0, t1, t2, n0, f0, f1, nTN, nTF, nNF, nFN, nFT, nNT]
    · rw [finL_no he]
      refine ⟨rfl, ?_⟩
      rw [HT.out]
      exact (((((hBt.setCell (p := ⟨F, 0, none⟩) lTF _).setCell (p := ⟨F, 1, none⟩) lTF _).setCell (p := ⟨T, 0, none⟩) (Nat.le_refl _) _).setCell (p := ⟨T, 1, none⟩) (Nat.le_refl _) _).setCell (p := ⟨T, 2, none⟩) (Nat.le_refl _) _).setCell (p := ⟨N, 0, none⟩) lTN _
end Go.Proofs.Ytgndekmmeknfpaa.Kind
