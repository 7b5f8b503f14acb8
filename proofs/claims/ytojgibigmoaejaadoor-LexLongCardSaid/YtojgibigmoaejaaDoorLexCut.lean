/-
  LEX: the words that are names, numbers and signs, cut off: by contract.
-/
import Derived.Test.YtojgibigmoaejaaDoorLexRun
import Derived.Test.YtojgibigmoaejaaDoorShelf
namespace Go.Proofs.YtojgibigmoaejaaDoor.Lex
open Go.RowKit Go.Proofs.YtojgibigmoaejaaDoor.Utf
set_option linter.unusedSimpArgs false
set_option linter.unusedVariables false

/-- The lists of keys and signs lie as they were laid. -/
structure Words (w : World) : Prop where
  keys : ∃ b off c, w.cell? ⟨0, 0, none⟩ = some (.slice (some ⟨b, off, none⟩) 20 c) ∧ ∀ j, j < 20 → w.cell? ⟨b, off + j, none⟩ = some (.string (strOfNums (keysL.getD j [])))
  signs : ∃ b off c, w.cell? ⟨1, 0, none⟩ = some (.slice (some ⟨b, off, none⟩) 17 c) ∧ ∀ j, j < 17 → w.cell? ⟨b, off + j, none⟩ = some (.string (strOfNums (signsL.getD j [])))
theorem Words.below {w w' : World} (h : Words w) (hb : Below w.heap.size w w') : Words w' := by
  obtain ⟨⟨b, o, c, h1, h2⟩, ⟨b', o', c', h3, h4⟩⟩ := h
  exact ⟨⟨b, o, c, keep hb h1, fun j hj => keep hb (h2 j hj)⟩, ⟨b', o', c', keep hb h3, fun j hj => keep hb (h4 j hj)⟩⟩

/-- The box of a word: its four cells. -/
@[reducible] def zeroW : Array Value := #[.int .i64 0, .int .i64 0, .int .i64 0, .string ⟨#[]⟩]
structure WBox (w : World) (b : Nat) : Prop where
  row : w.heap[b]? = some (.cells zeroW 31 (0, 0))
theorem WBox.made (w : World) : WBox (w.alloc (.cells zeroW 31)) w.heap.size := ⟨heap_alloc_new w _⟩
theorem WBox.below {w w' : World} {b : Nat} (h : WBox w b) (hb : Below w.heap.size w w') : WBox w' b := ⟨(hb.block b (Array.getElem?_eq_some_iff.1 h.row).1).trans h.row⟩
theorem WBox.cells {w : World} {b : Nat} (h : WBox w b) : (w.cell? ⟨b, 0, none⟩ = some (.int .i64 0) ∧ w.cell? ⟨b, 1, none⟩ = some (.int .i64 0) ∧ w.cell? ⟨b, 2, none⟩ = some (.int .i64 0) ∧ w.cell? ⟨b, 3, none⟩ = some (.string ⟨#[]⟩))
    ∧ (w.frozen? ⟨b, 0, none⟩ = false ∧ w.frozen? ⟨b, 1, none⟩ = false ∧ w.frozen? ⟨b, 2, none⟩ = false ∧ w.frozen? ⟨b, 3, none⟩ = false) ∧ b < w.heap.size := by
  have hr := h.row
  refine ⟨⟨?_, ?_, ?_, ?_⟩, ⟨?_, ?_, ?_, ?_⟩, (Array.getElem?_eq_some_iff.1 hr).1⟩
  all_goals first | (rw [Lib.cell_of_heap hr]; rfl) | (simp [World.frozen?, hr])

theorem set4 {w w1 : World} (h : Below w.heap.size w w1) (a b c d : Value) : Below w.heap.size w ((((w1.setCell ⟨w.heap.size, 0, none⟩ a).setCell ⟨w.heap.size, 1, none⟩ b).setCell ⟨w.heap.size, 2, none⟩ c).setCell ⟨w.heap.size, 3, none⟩ d) :=
  (((h.setCell (p := ⟨w.heap.size, 0, none⟩) (by simp) _).setCell (p := ⟨w.heap.size, 1, none⟩) (by simp) _).setCell (p := ⟨w.heap.size, 2, none⟩) (by simp) _).setCell (p := ⟨w.heap.size, 3, none⟩) (by simp) _
theorem str_get {zs : List Int} (hb : ∀ z ∈ zs, 0 ≤ z ∧ z < 256) (i : Nat) (h : i < (strOfNums zs).size) : (((strOfNums zs)[i]'h).toNat : Int) = zs.getD i 0 := by
  have hi : i < zs.length := by rw [strOfNums_size] at h; exact h
  have e : (strOfNums zs)[i]'h = (strOfNums zs).data.toList[i]'(by rw [strOfNums_data]; simpa using hi) := by
    rw [Array.getElem_toList]; rfl
  have := hb _ (List.getElem_mem hi)
  rw [e, getD_lt hi]
  simp only [strOfNums_data, List.getElem_map]
  simp
  omega
theorem str_empty (zs : List Int) : (strOfNums zs).toList.isEmpty = decide (zs.length = 0) := by
  have h : (strOfNums zs).toList = (strOfNums zs).data.toList := Go.ByteArray.toList_eq _
  rw [h, strOfNums_data]
  cases zs <;> simp
/-- What a function that cuts off a word returns. -/
def Cut.v (o : Cut) : Value := .tuple #[.agg #[.int .i64 o.k, .int .i64 o.n, .int .i64 0, .string (strOfNums o.s)], .int .i64 o.size, .int .i64 o.e]
theorem ret_cut {o p : Cut} (h : o = p) : Ending.returned o.v = .returned p.v := by rw [h]

theorem hasPrefix_nums {zs ps : List Int} (hz : ∀ z ∈ zs, 0 ≤ z ∧ z < 256) (hp : ∀ z ∈ ps, 0 ≤ z ∧ z < 256) : Lib.hasPrefix (strOfNums zs).data.toList (strOfNums ps).data.toList = decide (zs.take ps.length = ps) := by
  rw [strOfNums_data, strOfNums_data]
  unfold Lib.hasPrefix
  induction ps generalizing zs with
  | nil => simp
  | cons p ps ih =>
    cases zs with
    | nil => simp
    | cons z zs =>
      have h1 := hz z (by simp)
      have h2 := hp p (by simp)
      have := ih (zs := zs) (fun a ha => hz a (by simp [ha])) (fun a ha => hp a (by simp [ha]))
      simp only [List.map_cons, List.isPrefixOf_cons_cons, this, List.length_cons, List.take_succ_cons, List.cons.injEq]
      by_cases h : z = p
      · subst h; simp
      · have : ¬ (UInt8.ofNat p.toNat = UInt8.ofNat z.toNat) := by
          intro he
          have := congrArg UInt8.toNat he
          simp at this
          omega
        simp [h, this]
theorem prefix_any (zs ps : List Int) (hz : ∀ z ∈ zs, 0 ≤ z ∧ z < 256) (hp : ∀ z ∈ ps, 0 ≤ z ∧ z < 256) (w : World) :
    Calls Tryd.prog 47 #[.string (strOfNums zs), .string (strOfNums ps)] w fun e w' => e = .returned (.bool (decide (zs.take ps.length = ps))) ∧ w' = w := by
  refine (Tryd.strings_HasPrefix _ _ w).mono ?_
  rw [hasPrefix_nums hz hp]
  exact fun e w' h => h
theorem clone_any (s : ByteArray) (hs : s.size ≤ 100000) (w : World) : Calls Tryd.prog 54 #[.string s] w fun e w' => e = .returned (.string s) ∧ Below w.heap.size w w' := by
  have C := hid (fun W => Tryd.stringslite_Clone s W (by omega))
  clear hs
  go_enter Tryd.func54, Tryd.ntmps54
  go_wp2_with (go_at_call 59; refine (C.out _).mono ?_; rintro e w' ⟨rfl, hb'⟩)
  go_ret
  exact ⟨rfl, hb'⟩

set_option maxHeartbeats 1000000 in
theorem cutCon_any (zs : List Int) (hb : ∀ z ∈ zs, 0 ≤ z ∧ z < 256) (hl : zs.length ≤ 65536) (w : World) :
    Calls Tryd.prog 32 #[.string (strOfNums zs)] w fun e w' => e = .returned (cutCon zs).v ∧ Below w.heap.size w w' := by
  have R := hid (fun W => run_letter zs hb W)
  have hs : (strOfNums (zs.takeWhile letterB)).size = (zs.takeWhile letterB).length := strOfNums_size _
  have hle := takeWhile_le letterB zs
  have C := hid (fun W => clone_any (strOfNums (zs.takeWhile letterB)) (by omega) W)
  have HE : Hid (cutCon zs = if (zs.takeWhile letterB).length > 64 then .bad 255 else ⟨4, 0, zs.takeWhile letterB, (zs.takeWhile letterB).length, 0⟩) := rfl
  have HB := hid (thenA (Below.refl _ w) (.cells zeroW 31))
  have HW := hid (WBox.made w)
  generalize zs.takeWhile letterB = xs at *
  generalize cutCon zs = o at *
  generalize hz : strOfNums zs = s at *
  generalize hx : strOfNums xs = t at *
  have HX := hid hx
  clear hz hx hb hl hle
  go_enter Tryd.func32, Tryd.ntmps32
  go_wp2_with fail
  refine (R.out _).mono ?_
  rintro e w1 ⟨rfl, hb1⟩
  have HB1 := hid (HB.out.trans (hb1.mono HB.out.size))
  have HW1 := hid (HW.out.below hb1)
  clear R HB HW hb1
  by_cases h : xs.length > 64
  · have HO := hid (HE.out.trans (if_pos h))
    have hi : (xs.length : Int) > 64 := by omega
    obtain ⟨⟨k0, k1, k2, k3⟩, ⟨g0, g1, g2, g3⟩, _⟩ := HW1.out.cells
    clear HW1 HE h
    go_wp2
    refine bodyPost_ret (v := (Cut.bad 255).v) (by simp [results, Tryd.results32, go_sem, k0, k1, k2, k3, Cut.v, Cut.bad, strOfNums]) rfl ⟨ret_cut HO.out.symm, set4 HB1.out _ _ _ _⟩
  · have HO := hid (HE.out.trans (if_neg h))
    have hi : ¬ (xs.length : Int) > 64 := by omega
    clear HE h
    go_wp2_with fail
    refine (C.out _).mono ?_
    rintro e w2 ⟨rfl, hb2⟩
    have HB2 := hid (HB1.out.trans (hb2.mono HB1.out.size))
    have HW2 := hid (HW1.out.below hb2)
    obtain ⟨⟨k0, k1, k2, k3⟩, ⟨g0, g1, g2, g3⟩, _⟩ := HW2.out.cells
    clear HW1 HW2 HB1 hb2 C
    go_wp2
    refine bodyPost_ret (v := Cut.v ⟨4, 0, xs, xs.length, 0⟩) (by simp [results, Tryd.results32, go_sem, k0, k1, k2, k3, Cut.v, HX.out]) rfl ⟨ret_cut HO.out.symm, set4 HB2.out _ _ _ _⟩

set_option maxHeartbeats 1000000 in
theorem cutVar_any (zs : List Int) (hb : ∀ z ∈ zs, 0 ≤ z ∧ z < 256) (h0 : zs ≠ []) (hl : zs.length ≤ 65536) (w : World) :
    Calls Tryd.prog 30 #[.string (strOfNums zs)] w fun e w' => e = .returned (cutVar zs).v ∧ Below w.heap.size w w' := by
  have hd : ∀ z ∈ zs.drop 1, 0 ≤ z ∧ z < 256 := fun z hz => hb z (List.mem_of_mem_drop hz)
  have R := hid (fun W => run_letter (zs.drop 1) hd W)
  have HT := hid (str_tail zs 1)
  have hs0 : (strOfNums zs).size = zs.length := strOfNums_size _
  have hpos : 0 < zs.length := List.length_pos_iff.2 h0
  have hs : (strOfNums ((zs.drop 1).takeWhile letterB)).size = ((zs.drop 1).takeWhile letterB).length := strOfNums_size _
  have hle := takeWhile_le letterB (zs.drop 1)
  rw [List.length_drop] at hle
  have C := hid (fun W => clone_any (strOfNums ((zs.drop 1).takeWhile letterB)) (by omega) W)
  have HE : Hid (cutVar zs = if ((zs.drop 1).takeWhile letterB).length = 0 ∨ smallB (((zs.drop 1).takeWhile letterB).getD 0 0) = false then .bad 251
    else if ((zs.drop 1).takeWhile letterB).length > 64 then .bad 255 else ⟨5, 0, (zs.drop 1).takeWhile letterB, ((1 + ((zs.drop 1).takeWhile letterB).length : Nat)), 0⟩) := rfl
  have HB := hid (thenA (Below.refl _ w) (.cells zeroW 31))
  have HW := hid (WBox.made w)
  have HD : ∀ z ∈ (zs.drop 1).takeWhile letterB, 0 ≤ z ∧ z < 256 := fun z hz => hd z ((List.takeWhile_sublist letterB).subset hz)
  have HI := hid (fun h => str_get HD 0 h)
  have he0 := str_empty ((zs.drop 1).takeWhile letterB)
  generalize (zs.drop 1).takeWhile letterB = xs at *
  have S := hid (fun W => isSmall_c (xs.getD 0 0) W)
  generalize cutVar zs = o at *
  generalize hz : strOfNums zs = s at *
  generalize hz1 : strOfNums (zs.drop 1) = s1 at *
  generalize hx : strOfNums xs = t at *
  have HX := hid hx
  clear hz hz1 hb hd h0 hx HD
  generalize xs.getD 0 0 = c at *
  by_cases hxs : xs.length = 0
  · have HO := hid (HE.out.trans (if_pos (.inl hxs)))
    have he1 : t.toList.isEmpty = true := by rw [he0]; simp [hxs]
    clear HE C S HI he0
    go_enter Tryd.func30, Tryd.ntmps30
    go_wp2_with fail
    rw [HT.out]
    refine (R.out _).mono ?_
    rintro e w1 ⟨rfl, hb1⟩
    have HB1 := hid (HB.out.trans (hb1.mono HB.out.size))
    have HW1 := hid (HW.out.below hb1)
    clear R HB HW hb1
    obtain ⟨⟨k0, k1, k2, k3⟩, ⟨g0, g1, g2, g3⟩, _⟩ := HW1.out.cells
    clear HW1
    go_wp2
    refine bodyPost_ret (v := (Cut.bad 251).v) (by simp [results, Tryd.results30, go_sem, k0, k1, k2, k3, Cut.v, Cut.bad, strOfNums]) rfl ⟨ret_cut HO.out.symm, set4 HB1.out _ _ _ _⟩
  · have he1 : t.toList.isEmpty = false := by rw [he0]; simp [hxs]
    have hlen : 0 < xs.length := by omega
    clear he0
    cases hq : smallB c with
    | false =>
      rw [hq] at S HE
      have HO := hid (HE.out.trans (if_pos (.inr rfl)))
      clear HE C hq
      go_enter Tryd.func30, Tryd.ntmps30
      go_wp2_with fail
      rw [HT.out]
      refine (R.out _).mono ?_
      rintro e w1 ⟨rfl, hb1⟩
      have HB1 := hid (HB.out.trans (hb1.mono HB.out.size))
      have HW1 := hid (HW.out.below hb1)
      clear R HB HW hb1
      obtain ⟨⟨k0, k1, k2, k3⟩, ⟨g0, g1, g2, g3⟩, _⟩ := HW1.out.cells
      clear HW1
      go_wp2_with (go_at_call 53; rw [HI.out]; refine (S.out _).mono ?_; rintro e w' ⟨rfl, rfl⟩)
      refine bodyPost_ret (v := (Cut.bad 251).v) (by simp [results, Tryd.results30, go_sem, k0, k1, k2, k3, Cut.v, Cut.bad, strOfNums]) rfl ⟨ret_cut HO.out.symm, set4 HB1.out _ _ _ _⟩
    | true =>
      rw [hq] at S HE
      have HE1 := hid (HE.out.trans (if_neg (by simp [hxs])))
      clear HE hq
      by_cases h : xs.length > 64
      · have HO := hid (HE1.out.trans (if_pos h))
        have hi : (xs.length : Int) > 64 := by omega
        clear HE1 C
        go_enter Tryd.func30, Tryd.ntmps30
        go_wp2_with fail
        rw [HT.out]
        refine (R.out _).mono ?_
        rintro e w1 ⟨rfl, hb1⟩
        have HB1 := hid (HB.out.trans (hb1.mono HB.out.size))
        have HW1 := hid (HW.out.below hb1)
        clear R HB HW hb1
        obtain ⟨⟨k0, k1, k2, k3⟩, ⟨g0, g1, g2, g3⟩, _⟩ := HW1.out.cells
        clear HW1
        go_wp2_with (go_at_call 53; rw [HI.out]; refine (S.out _).mono ?_; rintro e w' ⟨rfl, rfl⟩)
        refine bodyPost_ret (v := (Cut.bad 255).v) (by simp [results, Tryd.results30, go_sem, k0, k1, k2, k3, Cut.v, Cut.bad, strOfNums]) rfl ⟨ret_cut HO.out.symm, set4 HB1.out _ _ _ _⟩
      · have HO := hid (HE1.out.trans (if_neg h))
        have hi : ¬ (xs.length : Int) > 64 := by omega
        clear HE1
        go_enter Tryd.func30, Tryd.ntmps30
        go_wp2_with fail
        rw [HT.out]
        refine (R.out _).mono ?_
        rintro e w1 ⟨rfl, hb1⟩
        have HB1 := hid (HB.out.trans (hb1.mono HB.out.size))
        have HW1 := hid (HW.out.below hb1)
        clear R HB HW hb1
        go_wp2_with (go_at_call 53; rw [HI.out]; refine (S.out _).mono ?_; rintro e w' ⟨rfl, rfl⟩)
        refine (C.out _).mono ?_
        rintro e w2 ⟨rfl, hb2⟩
        have HB2 := hid (HB1.out.trans (hb2.mono HB1.out.size))
        have HW2 := hid (HW1.out.below hb2)
        obtain ⟨⟨k0, k1, k2, k3⟩, ⟨g0, g1, g2, g3⟩, _⟩ := HW2.out.cells
        clear HW1 HW2 HB1 hb2 C S
        go_wp2
        refine bodyPost_ret (v := Cut.v ⟨5, 0, xs, 1 + xs.length, 0⟩) (by simp [results, Tryd.results30, go_sem, k0, k1, k2, k3, Cut.v, HX.out]) rfl ⟨ret_cut HO.out.symm, set4 HB2.out _ _ _ _⟩
end Go.Proofs.YtojgibigmoaejaaDoor.Lex
