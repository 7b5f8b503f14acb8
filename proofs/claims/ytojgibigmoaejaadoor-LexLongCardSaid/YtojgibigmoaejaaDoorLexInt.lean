/-
  LEX: numbers cut off; how long a note is: by contract.
-/
import Derived.Test.YtojgibigmoaejaaDoorLexCut3
namespace Go.Proofs.YtojgibigmoaejaaDoor.Lex
open Go.RowKit Go.Proofs.YtojgibigmoaejaaDoor.Utf
set_option linter.unusedSimpArgs false
set_option linter.unusedVariables false

theorem wrap64_small {n : Int} (h0 : -9223372036854775808 ≤ n) (h1 : n ≤ 9223372036854775807) : wrap64 n = n := by unfold wrap64; omega
theorem w32_digit (n : Int) (h0 : 0 ≤ n) (h1 : n < 128) : IntKind.i32.wrap (n - 48) = n - 48 := by rw [IntKind.wrap_i32]; omega
set_option maxHeartbeats 1000000 in
theorem cutInt_any (zs : List Int) (hb : ∀ z ∈ zs, 0 ≤ z ∧ z < 256) (w : World) :
    Calls Tryd.prog 28 #[.string (strOfNums zs)] w fun e w' => e = .returned (cutInt zs).v ∧ Below w.heap.size w w' := by
  have R := hid (fun W => run_digit zs hb W)
  have hs : (strOfNums (zs.takeWhile digitB)).size = (zs.takeWhile digitB).length := strOfNums_size _
  have HD : ∀ z ∈ zs.takeWhile digitB, 0 ≤ z ∧ z < 256 := fun z hz => hb z ((List.takeWhile_sublist digitB).subset hz)
  have HA : Hid (∀ pos, pos < (zs.takeWhile digitB).length → 48 ≤ (zs.takeWhile digitB).getD pos 0 ∧ (zs.takeWhile digitB).getD pos 0 ≤ 57) := hid fun pos h => by
    have := takeWhile_all digitB zs _ (List.getElem_mem h)
    rw [getD_lt h]
    generalize (zs.takeWhile digitB)[pos] = c at *
    unfold digitB at this
    simpa using this
  have HR := hid (fun pos (h : pos < (zs.takeWhile digitB).length) => dec_any HD h)
  have HE : Hid (cutInt zs = match numGo 0 (zs.takeWhile digitB) with | none => .bad 254 | some n => ⟨1, wordN n, [], (zs.takeWhile digitB).length, 0⟩) := rfl
  have HB := hid (thenA (Below.refl _ w) (.cells zeroW 31))
  have HW := hid (WBox.made w)
  generalize zs.takeWhile digitB = xs at *
  generalize cutInt zs = o at *
  generalize strOfNums zs = s at *
  have HP := hid (fun pos (h : pos < xs.length) => drop_at h)
  generalize hx : strOfNums xs = t at *
  clear hx hb HD
  go_enter Tryd.func28, Tryd.ntmps28
  go_wp2_with fail
  refine (R.out _).mono ?_
  rintro e w1 ⟨rfl, hb1⟩
  have HB1 := hid (HB.out.trans (hb1.mono HB.out.size))
  have HW1 := hid (HW.out.below hb1)
  clear R HB HW hb1
  go_wp2
  go_loopw [6] (fun nv wr => ∃ pos : Nat, ∃ n : Int, nv = .int .i64 n ∧ wr.heap[w1.heap.size]? = some (.stringIter t pos) ∧ Below w1.heap.size w1 wr ∧ pos ≤ xs.length ∧ 0 ≤ n ∧ n ≤ 2147483647 ∧ Hid (numGo 0 xs = numGo n (xs.drop pos)))
    (fun _ wr => xs.length - wr.iterPos w1.heap.size)
  case atStart => exact ⟨0, 0, rfl, World.iter_heap w1 t 0, (Below.refl _ _).alloc (Nat.le_refl _) _, Nat.zero_le _, by omega, by omega, hid (by simp)⟩
  case round =>
    obtain ⟨pos, n, rfl, hk, hbw, hpos, hn0, hn1, HN⟩ := hrel
    by_cases hp : pos < t.size
    · have hpx : pos < xs.length := by omega
      obtain ⟨r, k, hd, hk1, hkl, hlow, _⟩ := HR.out pos hpx
      obtain ⟨a0, a1⟩ := HA.out pos hpx
      obtain ⟨hr, rfl⟩ := hlow (by omega)
      have hstep := HP.out pos hpx
      have hnx : ∀ ty, (Instr.next (.pointer (some ⟨w1.heap.size, 0, none⟩)) true ty).run Tryd.prog wr = .ok (.tuple #[.bool true, .int .i64 pos, .int .i32 r]) (wr.iterAt w1.heap.size t (pos + 1)) := fun ty => by
        rw [Lib.run_next_any_at wr w1.heap.size t pos ty hk hp, hd]
      have hw1 := Lib.below_iterAt hbw (Nat.le_refl _) t (pos + 1)
      have hk1' := Lib.iterAt_heap wr w1.heap.size t pos (pos + 1) hk
      have hit : (wr.iterAt w1.heap.size t (pos + 1)).iterPos w1.heap.size = pos + 1 := by unfold World.iterPos; rw [hk1']
      have hit0 : wr.iterPos w1.heap.size = pos := by unfold World.iterPos; rw [hk]
      rw [← hr] at a0 a1 hstep
      have e1 : wrap64 (10 * n) = 10 * n := wrap64_small (by omega) (by omega)
      have e2 : wrap32 ((r : Int) - 48) = (r : Int) - 48 := by unfold wrap32; omega
      have e3 : wrap64 ((r : Int) - 48) = (r : Int) - 48 := wrap64_small (by omega) (by omega)
      have e4 : wrap64 (10 * n + ((r : Int) - 48)) = 10 * n + ((r : Int) - 48) := wrap64_small (by omega) (by omega)
      have HN' := HN.out
      rw [hstep] at HN'
      simp only [numGo] at HN'
      by_cases hbig : 10 * n + ((r : Int) - 48) > 2147483647
      · rw [if_pos hbig] at HN'
        have HO : Hid (o = .bad 254) := by
          show _ = _
          rw [HE.out, HN']
        have HW2 := HW1.out.below hw1
        have HB2 := hid (HB1.out.trans (hw1.mono HB1.out.size))
        obtain ⟨⟨k0, k1, k2, k3⟩, ⟨g0, g1, g2, g3⟩, _⟩ := HW2.cells
        clear HN' HN HE HP HA HR hd hlow hstep hr HW1 HB1 hk1' hit hit0 HW2
        generalize wr.iterAt w1.heap.size t (pos + 1) = w2 at *
        go_wp2
        refine bodyPost_ret (v := (Cut.bad 254).v) (by simp [results, Tryd.results28, go_sem, k0, k1, k2, k3, Cut.v, Cut.bad, strOfNums]) rfl ⟨ret_cut HO.out.symm, set4 HB2.out _ _ _ _⟩
      · rw [if_neg hbig] at HN'
        have HN2 := hid HN'
        clear HN' HN HE HP HA HR hd hlow hstep hr
        generalize wr.iterAt w1.heap.size t (pos + 1) = w2 at *
        go_wp2
        go_roundw
        case rel => exact ⟨pos + 1, _, rfl, hk1', hw1, hkl, by omega, by omega, HN2⟩
        case measure => rw [hit, hit0]; omega
    · have hnx : ∀ ty, (Instr.next (.pointer (some ⟨w1.heap.size, 0, none⟩)) true ty).run Tryd.prog wr = _ := fun ty => Lib.run_next_end_at wr w1.heap.size t pos ty hk hp
      have HN' := HN.out
      rw [List.drop_eq_nil_of_le (by omega)] at HN'
      simp only [numGo] at HN'
      have HO : Hid (o = ⟨1, wordN n, [], xs.length, 0⟩) := by
        show _ = _
        rw [HE.out, HN']
      have HW2 := HW1.out.below hbw
      have HB2 := hid (HB1.out.trans (hbw.mono HB1.out.size))
      obtain ⟨⟨k0, k1, k2, k3⟩, ⟨g0, g1, g2, g3⟩, _⟩ := HW2.cells
      clear HN' HN HE HP HA HR HW1 HB1 HW2
      by_cases hbig : n > 1073741823
      · have hw : wordN n = n - 2147483648 := if_pos hbig
        have e5 : wrap64 (n - 2147483648) = n - 2147483648 := wrap64_small (by omega) (by omega)
        rw [hw] at HO
        clear hw
        go_wp2
        refine bodyPost_ret (v := Cut.v ⟨1, n - 2147483648, [], xs.length, 0⟩) (by simp [results, Tryd.results28, go_sem, k0, k1, k2, k3, Cut.v, strOfNums]) rfl ⟨ret_cut HO.out.symm, set4 HB2.out _ _ _ _⟩
      · have hw : wordN n = n := if_neg hbig
        rw [hw] at HO
        clear hw
        go_wp2
        refine bodyPost_ret (v := Cut.v ⟨1, n, [], xs.length, 0⟩) (by simp [results, Tryd.results28, go_sem, k0, k1, k2, k3, Cut.v, strOfNums]) rfl ⟨ret_cut HO.out.symm, set4 HB2.out _ _ _ _⟩
end Go.Proofs.YtojgibigmoaejaaDoor.Lex
