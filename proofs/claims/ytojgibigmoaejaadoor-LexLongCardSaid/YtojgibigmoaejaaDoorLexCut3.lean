/-
  LEX: names and numbers cut off: by contract.
-/
import Derived.Test.YtojgibigmoaejaaDoorLexCut2
namespace Go.Proofs.YtojgibigmoaejaaDoor.Lex
open Go.RowKit Go.Proofs.YtojgibigmoaejaaDoor.Utf
set_option linter.unusedSimpArgs false
set_option linter.unusedVariables false

theorem keys_bytes : ∀ p ∈ keysL, ∀ z ∈ p, 0 ≤ z ∧ z < 256 := by decide
theorem signs_bytes : ∀ p ∈ signsL, ∀ z ∈ p, 0 ≤ z ∧ z < 256 := by decide
theorem nums_inj {xs ys : List Int} (hx : ∀ z ∈ xs, 0 ≤ z ∧ z < 256) (hy : ∀ z ∈ ys, 0 ≤ z ∧ z < 256) : strOfNums xs = strOfNums ys ↔ xs = ys := by
  refine ⟨fun h => ?_, fun h => by rw [h]⟩
  have h' := congrArg (fun s => s.data.toList.map fun b : UInt8 => (b.toNat : Int)) h
  simp only [strOfNums_data, List.map_map] at h'
  have e : ∀ l : List Int, (∀ z ∈ l, 0 ≤ z ∧ z < 256) → l.map ((fun b : UInt8 => (b.toNat : Int)) ∘ fun z => UInt8.ofNat z.toNat) = l := fun l hl => by
    refine (List.map_congr_left (g := id) fun z hz => ?_).trans (List.map_id _)
    have := hl z hz
    simp
    omega
  rw [e xs hx, e ys hy] at h'
  exact h'
theorem contains_any {ks : List (List Int)} (hk : ∀ p ∈ ks, ∀ z ∈ p, 0 ≤ z ∧ z < 256) (hn : ks.length ≤ 100) (xs : List Int) (hx : ∀ z ∈ xs, 0 ≤ z ∧ z < 256) (b off n c : Nat) (hnn : ks.length = n) (W : World) (hc : ∀ j, j < n → W.cell? ⟨b, off + j, none⟩ = some (.string (strOfNums (ks.getD j [])))) :
    Calls Tryd.prog 55 #[.slice (some ⟨b, off, none⟩) n c, .string (strOfNums xs)] W fun e w' => e = .returned (.bool (ks.contains xs)) ∧ w' = W := by
  have hlen : (ks.map strOfNums).length = n := by rw [List.length_map]; exact hnn
  refine (Tryd.slices_Contains_string b off n c (ks.map strOfNums) (strOfNums xs) W (by omega) (by omega) (fun j hj => ?_)).mono ?_
  · rw [hc j (by omega)]
    congr 2
    rw [List.getD_eq_getElem?_getD, List.getD_eq_getElem?_getD, List.getElem?_map, List.getElem?_eq_getElem (by omega)]
    rfl
  · rintro e w' ⟨rfl, rfl⟩
    refine ⟨ret_bool ?_, rfl⟩
    rw [List.take_of_length_le (by omega)]
    rw [Bool.eq_iff_iff, Lib.containsS_iff, List.contains_iff_mem, List.mem_map]
    constructor
    · rintro ⟨p, hp, he⟩
      rw [nums_inj (hk p hp) hx] at he
      subst he
      exact hp
    · exact fun h => ⟨xs, h, rfl⟩

set_option maxHeartbeats 1000000 in
theorem cutName_any (zs : List Int) (hb : ∀ z ∈ zs, 0 ≤ z ∧ z < 256) (hl : zs.length ≤ 65536) (w : World) (hT : Words w) :
    Calls Tryd.prog 34 #[.string (strOfNums zs)] w fun e w' => e = .returned (cutName zs).v ∧ Below w.heap.size w w' := by
  have R := hid (fun W => run_letter zs hb W)
  have hs : (strOfNums (zs.takeWhile letterB)).size = (zs.takeWhile letterB).length := strOfNums_size _
  have hle := takeWhile_le letterB zs
  have C := hid (fun W => clone_any (strOfNums (zs.takeWhile letterB)) (by omega) W)
  have HD : ∀ z ∈ zs.takeWhile letterB, 0 ≤ z ∧ z < 256 := fun z hz => hb z ((List.takeWhile_sublist letterB).subset hz)
  have K := hid (fun b off c W hc => contains_any keys_bytes (by decide) (zs.takeWhile letterB) HD b off 20 c rfl W hc)
  have G := hid (fun W hw => cutSign_any zs hb W hw)
  have HU := hid (nums_inj HD (ys := [95]) (by decide))
  have HE : Hid (cutName zs = if zs.takeWhile letterB = [95] then cutSign zs else if keysL.contains (zs.takeWhile letterB) then ⟨6, 0, zs.takeWhile letterB, (zs.takeWhile letterB).length, 0⟩
    else if (zs.takeWhile letterB).length > 64 then .bad 255 else ⟨3, 0, zs.takeWhile letterB, (zs.takeWhile letterB).length, 0⟩) := rfl
  have HB := hid (thenA (Below.refl _ w) (.cells zeroW 31))
  have HW := hid (WBox.made w)
  generalize zs.takeWhile letterB = xs at *
  generalize cutName zs = o at *
  generalize cutSign zs = og at *
  generalize hz : strOfNums zs = s at *
  have hu : strOfNums [95] = ⟨#[95]⟩ := rfl
  rw [hu] at HU
  generalize hx : strOfNums xs = t at *
  have HX := hid hx
  clear hz hx hb hl hle HD hu
  by_cases hxu : xs = [95]
  · have HO := hid (HE.out.trans (if_pos hxu))
    have ht : t = ⟨#[95]⟩ := HU.out.2 hxu
    have HT := hid hT
    clear HE hxu HU K C hT hs
    obtain ⟨k, n, os, osz, oe⟩ := og
    have hg' : Cut.v ⟨k, n, os, osz, oe⟩ = .tuple #[.agg #[.int .i64 k, .int .i64 n, .int .i64 0, .string (strOfNums os)], .int .i64 osz, .int .i64 oe] := rfl
    rw [hg'] at G
    have HG := hid hg'
    clear hg'
    generalize strOfNums os = ost at *
    subst ht
    go_enter Tryd.func34, Tryd.ntmps34
    go_wp2_with fail
    refine (R.out _).mono ?_
    rintro e w1 ⟨rfl, hb1⟩
    have HB1 := hid (HB.out.trans (hb1.mono HB.out.size))
    have HW1 := hid (HW.out.below hb1)
    have HT1 := hid (HT.out.below HB1.out)
    clear R HB HW hb1 HT
    go_wp2_with fail
    refine (G.out _ HT1.out).mono ?_
    rintro e w2 ⟨rfl, hb2⟩
    have HB2 := hid (HB1.out.trans (hb2.mono HB1.out.size))
    have HW2 := hid (HW1.out.below hb2)
    obtain ⟨⟨k0, k1, k2, k3⟩, ⟨g0, g1, g2, g3⟩, _⟩ := HW2.out.cells
    clear HW1 HW2 HB1 hb2 G HT1
    go_wp2
    refine bodyPost_ret (v := .tuple #[.agg #[.int .i64 k, .int .i64 n, .int .i64 0, .string ost], .int .i64 osz, .int .i64 oe]) (by simp [results, Tryd.results34, go_sem, k0, k1, k2, k3]) rfl ⟨by rw [HO.out, HG.out], set4 HB2.out _ _ _ _⟩
  · have HE1 := hid (HE.out.trans (if_neg hxu))
    have ht : (t.toList == [95]) = false := by
      rw [beq_eq_false_iff_ne]
      intro h
      refine hxu (HU.out.1 ?_)
      apply ByteArray.ext
      apply Array.toList_inj.1
      rw [← Go.ByteArray.toList_eq, h]
    have HT := hid hT
    clear HE hxu HU G hT
    go_enter Tryd.func34, Tryd.ntmps34
    go_wp2_with fail
    refine (R.out _).mono ?_
    rintro e w1 ⟨rfl, hb1⟩
    have HB1 := hid (HB.out.trans (hb1.mono HB.out.size))
    have HW1 := hid (HW.out.below hb1)
    obtain ⟨⟨b, off, c, hg, hc⟩, _⟩ := HT.out.below HB1.out
    have K1 := hid (K.out b off c w1 hc)
    clear R HB HW hb1 HT hc K
    cases hq : keysL.contains xs with
    | true =>
      rw [hq] at K1 HE1
      have HO := hid (HE1.out.trans (if_pos rfl))
      clear HE1 hq
      go_wp2_with (go_at_call 55; refine K1.out.mono ?_; rintro e w' ⟨rfl, rfl⟩)
      refine (C.out _).mono ?_
      rintro e w2 ⟨rfl, hb2⟩
      have HB2 := hid (HB1.out.trans (hb2.mono HB1.out.size))
      have HW2 := hid (HW1.out.below hb2)
      obtain ⟨⟨k0, k1, k2, k3⟩, ⟨g0, g1, g2, g3⟩, _⟩ := HW2.out.cells
      clear HW1 HW2 HB1 hb2 C K1
      go_wp2
      refine bodyPost_ret (v := Cut.v ⟨6, 0, xs, xs.length, 0⟩) (by simp [results, Tryd.results34, go_sem, k0, k1, k2, k3, Cut.v, HX.out]) rfl ⟨ret_cut HO.out.symm, set4 HB2.out _ _ _ _⟩
    | false =>
      rw [hq] at K1 HE1
      have HE2 := hid (HE1.out.trans (if_neg (by simp)))
      clear HE1 hq
      by_cases h : xs.length > 64
      · have HO := hid (HE2.out.trans (if_pos h))
        have hi : (xs.length : Int) > 64 := by omega
        obtain ⟨⟨k0, k1, k2, k3⟩, ⟨g0, g1, g2, g3⟩, _⟩ := HW1.out.cells
        clear HE2 C h HW1
        go_wp2_with (go_at_call 55; refine K1.out.mono ?_; rintro e w' ⟨rfl, rfl⟩)
        refine bodyPost_ret (v := (Cut.bad 255).v) (by simp [results, Tryd.results34, go_sem, k0, k1, k2, k3, Cut.v, Cut.bad, strOfNums]) rfl ⟨ret_cut HO.out.symm, set4 HB1.out _ _ _ _⟩
      · have HO := hid (HE2.out.trans (if_neg h))
        have hi : ¬ (xs.length : Int) > 64 := by omega
        clear HE2 h
        go_wp2_with (go_at_call 55; refine K1.out.mono ?_; rintro e w' ⟨rfl, rfl⟩)
        refine (C.out _).mono ?_
        rintro e w2 ⟨rfl, hb2⟩
        have HB2 := hid (HB1.out.trans (hb2.mono HB1.out.size))
        have HW2 := hid (HW1.out.below hb2)
        obtain ⟨⟨k0, k1, k2, k3⟩, ⟨g0, g1, g2, g3⟩, _⟩ := HW2.out.cells
        clear HW1 HW2 HB1 hb2 C K1
        go_wp2
        refine bodyPost_ret (v := Cut.v ⟨3, 0, xs, xs.length, 0⟩) (by simp [results, Tryd.results34, go_sem, k0, k1, k2, k3, Cut.v, HX.out]) rfl ⟨ret_cut HO.out.symm, set4 HB2.out _ _ _ _⟩
end Go.Proofs.YtojgibigmoaejaaDoor.Lex
