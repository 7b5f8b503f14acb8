/-
  LEX: Right and Lex, by contract.
-/
import Derived.Test.YtojgibigmoaejaaDoorLexLoop
namespace Go.Proofs.YtojgibigmoaejaaDoor.Lex
open Go.RowKit Go.Proofs.YtojgibigmoaejaaDoor.Utf
set_option linter.unusedSimpArgs false
set_option linter.unusedVariables false

/-- The two tables of unicode/utf8 lie as the row lists them. -/
def Tabs8 (w : World) : Prop := Lib.Utf8Tabs 2 3 w
theorem Tabs8.below {w w' : World} (h : Tabs8 w) (hb : Below w.heap.size w w') : Tabs8 w' := Utf8Tabs_below h hb

set_option maxHeartbeats 1000000 in
theorem Right_any (zs : List Int) (hb : ∀ z ∈ zs, 0 ≤ z ∧ z < 256) (w : World) (hT : Tabs8 w) :
    Calls Tryd.prog 13 #[.string (strOfNums zs)] w fun e w' => e = .returned (.int .i64 ((scan zs).2 : Nat)) ∧ Below w.heap.size w w' := by
  have D1 : ∀ pos n k, atL (zs.drop pos) = some (n, k) → Utf8.decode (strOfNums zs) pos = (n.toNat, k) := fun pos n k h => decode_some hb h
  have D2 : ∀ pos, pos < zs.length → atL (zs.drop pos) = none → Utf8.decode (strOfNums zs) pos = (65533, 1) := fun pos h h' => decode_none hb h h'
  have D3 : ∀ pos, pos < zs.length → Lib.decodeGo ((strOfNums zs).extract pos zs.length) = Utf8.decode (strOfNums zs) pos := fun pos h => by
    rw [str_tail]
    unfold Lib.decodeGo
    rw [strOfNums_size, List.length_drop, if_neg (by omega), decode_eq (mem_drop_bytes hb pos), decode_eq hb]
    rfl
  have hs : (strOfNums zs).size = zs.length := strOfNums_size zs
  generalize strOfNums zs = s at *
  have H1 := hid D1
  have H2 := hid D2
  have H3 := hid D3
  obtain ⟨g, hg⟩ : ∃ g, (scan zs).2 = g := ⟨_, rfl⟩
  rw [hg]
  have HGG := hid hg
  clear D1 D2 D3 hb hg
  go_enter Tryd.func13, Tryd.ntmps13
  go_wp2
  go_loopw [2] (fun _ wr => ∃ pos : Nat, wr.heap[w.heap.size]? = some (.stringIter s pos) ∧ Below w.heap.size w wr ∧ pos ≤ zs.length ∧ Hid (g = pos + (scan (zs.drop pos)).2))
    (fun _ wr => zs.length - wr.iterPos w.heap.size)
  case atStart => exact ⟨0, World.iter_heap w s 0, (Below.refl _ _).alloc (Nat.le_refl _) _, Nat.zero_le _, hid (by rw [← HGG.out]; simp)⟩
  case round =>
    obtain ⟨pos, hk, hbw, hpos, HS⟩ := hrel
    have hT' : Tabs8 wr := hT.below hbw
    by_cases hp : pos < s.size
    · cases ha : atL (zs.drop pos) with
      | none =>
        have hd := H2.out pos (by omega) ha
        have hnx : ∀ ty, (Instr.next (.pointer (some ⟨w.heap.size, 0, none⟩)) true ty).run Tryd.prog wr = .ok (.tuple #[.bool true, .int .i64 pos, .int .i32 65533]) (wr.iterAt w.heap.size s (pos + 1)) := fun ty => by
          rw [Lib.run_next_any_at wr w.heap.size s pos ty hk hp, hd]; rfl
        have hw1 := Lib.below_iterAt hbw (Nat.le_refl _) s (pos + 1)
        have hT1 : Tabs8 (wr.iterAt w.heap.size s (pos + 1)) := hT.below hw1
        have HF : Hid (g = pos) := by
          have h := HS.out
          rw [scan_none ha] at h
          exact h
        have HD := hid ((H3.out pos (by omega)).trans hd)
        clear hd ha hT hT'
        generalize wr.iterAt w.heap.size s (pos + 1) = w1 at *
        go_wp2_with fail
        refine (Tryd.utf8_DecodeRuneInString _ _ hT1).mono ?_
        rw [HD.out]
        rintro e w2 ⟨rfl, hb2⟩
        go_wp2
        go_ret
        exact ⟨by rw [HF.out]; rfl, hw1.trans (hb2.mono (by have := hw1.size; omega))⟩
      | some q =>
        obtain ⟨n, k⟩ := q
        obtain ⟨hn, _, _, hk1, _, hkl⟩ := atL_some ha
        have hd := H1.out pos n k ha
        have hnx : ∀ ty, (Instr.next (.pointer (some ⟨w.heap.size, 0, none⟩)) true ty).run Tryd.prog wr = .ok (.tuple #[.bool true, .int .i64 pos, .int .i32 n]) (wr.iterAt w.heap.size s (pos + k)) := fun ty => by
          rw [Lib.run_next_any_at wr w.heap.size s pos ty hk hp, hd]
          have := hn.1
          simp only [Int.toNat_of_nonneg this]
        have hw1 := Lib.below_iterAt hbw (Nat.le_refl _) s (pos + k)
        have hT1 : Tabs8 (wr.iterAt w.heap.size s (pos + k)) := hT.below hw1
        have hk1' := Lib.iterAt_heap wr w.heap.size s pos (pos + k) hk
        have hit : (wr.iterAt w.heap.size s (pos + k)).iterPos w.heap.size = pos + k := by unfold World.iterPos; rw [hk1']
        have hit0 : wr.iterPos w.heap.size = pos := by unfold World.iterPos; rw [hk]
        have HF : Hid (g = (pos + k) + (scan (zs.drop (pos + k))).2) := by
          have h := HS.out
          rw [scan_some ha, List.drop_drop] at h
          show _ = _
          simp only at h
          omega
        have hlk : pos + k ≤ zs.length := by simp at hkl; omega
        by_cases he : n = 65533
        · subst he
          obtain rfl := error_three ha
          have HD := hid ((H3.out pos (by omega)).trans hd)
          clear hd ha hT hT' hn
          generalize wr.iterAt w.heap.size s (pos + 3) = w1 at *
          go_wp2_with fail
          refine (Tryd.utf8_DecodeRuneInString _ _ hT1).mono ?_
          rw [HD.out]
          rintro e w2 ⟨rfl, hb2⟩
          have hlt : w.heap.size < w1.heap.size := (Array.getElem?_eq_some_iff.1 hk1').1
          have hk2 := (hb2.block _ hlt).trans hk1'
          have hit2 : w2.iterPos w.heap.size = pos + 3 := by unfold World.iterPos; rw [hk2]
          go_wp2
          go_roundw
          case rel => exact ⟨pos + 3, hk2, hw1.trans (hb2.mono (by omega)), hlk, HF⟩
          case measure => rw [hit2, hit0]; omega
        · clear hd ha hT hT'
          generalize wr.iterAt w.heap.size s (pos + k) = w1 at *
          go_wp2
          go_roundw
          case rel => exact ⟨pos + k, hk1', hw1, hlk, HF⟩
          case measure => rw [hit, hit0]; omega
    · have hnx : ∀ ty, (Instr.next (.pointer (some ⟨w.heap.size, 0, none⟩)) true ty).run Tryd.prog wr = _ := fun ty => Lib.run_next_end_at wr w.heap.size s pos ty hk hp
      have HF : Hid (g = zs.length) := by
        have h := HS.out
        rw [List.drop_eq_nil_of_le (by omega), scan_nil] at h
        show _ = _
        rw [h]; simp; omega
      go_wp2
      go_ret
      exact ⟨by rw [HF.out]; rfl, hbw⟩

set_option maxHeartbeats 1000000 in
theorem Lex_any (zs : List Int) (hb : ∀ z ∈ zs, 0 ≤ z ∧ z < 256) (w : World) (h8 : Tabs8 w) (hT : Words w) :
    Calls Tryd.prog 6 #[.string (strOfNums zs)] w fun e w' => ∃ v, e = .returned v ∧ ToldV w.heap.size w' (lexP zs) v ∧ Below w.heap.size w w' := by
  have hs : (strOfNums zs).size = zs.length := strOfNums_size zs
  have R := hid (fun W h => Right_any zs hb W h)
  have C := hid (fun hl hv W h => cut_any zs hb hl hv W h)
  have HE : Hid (lexP zs = if zs.length > 65536 then .bad 3 0 else if (scan zs).2 < zs.length then .bad 250 (scan zs).2 else lexA zs 0) := rfl
  have HV : Hid ((scan zs).2 ≤ zs.length) := hid (scan_le zs)
  have HVV : Hid (Valid zs = ((scan zs).2 = zs.length)) := rfl
  have HB := hid (thenA (Below.refl _ w) (.cells #[.int .i64 0, .int .i64 0] 26))
  have HF := hid (heap_alloc_new w (.cells #[.int .i64 0, .int .i64 0] 26))
  have H8 := hid h8
  have HT := hid hT
  clear hb h8 hT
  generalize strOfNums zs = s at *
  generalize lexP zs = g at *
  by_cases hl : zs.length > 65536
  · have HG := hid (HE.out.trans (if_pos hl))
    have hli : (zs.length : Int) > 65536 := by omega
    clear HE C R HV HVV
    obtain ⟨⟨f0, f1⟩, ⟨g0, g1⟩, _⟩ := row2 HF.out
    go_enter Tryd.func6, Tryd.ntmps6
    go_wp2
    refine bodyPost_ret (v := .tuple #[.slice none 0 0, .agg #[.int .i64 3, .int .i64 0]]) (by simp [results, Tryd.results6, go_sem, f0, f1]) rfl ⟨_, rfl, by rw [HG.out]; rfl, thenA (Below.refl _ w) _⟩
  · have HE1 := hid (HE.out.trans (if_neg hl))
    have hli : ¬ (zs.length : Int) > 65536 := by omega
    clear HE
    by_cases hr : (scan zs).2 < zs.length
    · have HG := hid (HE1.out.trans (if_pos hr))
      generalize (scan zs).2 = p at *
      have hri : (p : Int) < (zs.length : Int) := by omega
      clear HE1 C HV HVV
      go_enter Tryd.func6, Tryd.ntmps6
      go_wp2_with fail
      refine (R.out _ (H8.out.below HB.out)).mono ?_
      rintro e w1 ⟨rfl, hb1⟩
      have HB1 := hid (HB.out.trans (hb1.mono HB.out.size))
      obtain ⟨⟨f0, f1⟩, ⟨g0, g1⟩, _⟩ := row2 ((hb1.block _ (by simp)).trans HF.out)
      clear hb1 HB
      go_wp2
      refine bodyPost_ret (v := .tuple #[.slice none 0 0, .agg #[.int .i64 250, .int .i64 p]]) (by simp [results, Tryd.results6, go_sem, f0, f1]) rfl ⟨_, rfl, by rw [HG.out]; rfl, ?_⟩
      exact (HB1.out.setCell (p := ⟨w.heap.size, 0, none⟩) (Nat.le_refl _) _).setCell (p := ⟨w.heap.size, 1, none⟩) (Nat.le_refl _) _
    · have HG := hid (HE1.out.trans (if_neg hr))
      have hp : (scan zs).2 = zs.length := by have := HV.out; omega
      have C1 := hid (fun W h => C.out (by omega) (HVV.out ▸ hp) W h)
      rw [hp] at R
      clear HE1 C HV HVV hp hr
      generalize lexA zs 0 = g' at *
      go_enter Tryd.func6, Tryd.ntmps6
      go_wp2_with fail
      refine (R.out _ (H8.out.below HB.out)).mono ?_
      rintro e w1 ⟨rfl, hb1⟩
      have HB1 := hid (HB.out.trans (hb1.mono HB.out.size))
      have HF1 := hid ((hb1.block _ (by simp)).trans HF.out)
      clear hb1 HB R HF
      go_wp2_with fail
      refine (C1.out _ (HT.out.below HB1.out)).mono ?_
      rintro e w2 ⟨v, rfl, hv, hb2⟩
      have HB2 := hid (HB1.out.trans (hb2.mono HB1.out.size))
      have hF2 := (hb2.block _ (Array.getElem?_eq_some_iff.1 HF1.out).1).trans HF1.out
      obtain ⟨⟨f0, f1⟩, ⟨g0, g1⟩, _⟩ := row2 hF2
      have hle : w.heap.size + 1 ≤ w1.heap.size := (Array.getElem?_eq_some_iff.1 HF1.out).1
      clear hb2 HB1 C1
      cases g' with
      | bad e p =>
        have hv' : v = .tuple #[.slice none 0 0, .agg #[.int .i64 e, .int .i64 p]] := hv
        subst hv'
        clear hv
        go_wp2
        refine bodyPost_ret (v := .tuple #[.slice none 0 0, .agg #[.int .i64 e, .int .i64 p]]) (by simp [results, Tryd.results6, go_sem, f0, f1]) rfl ⟨_, rfl, by rw [HG.out]; rfl, ?_⟩
        exact (HB2.out.setCell (p := ⟨w.heap.size, 0, none⟩) (Nat.le_refl _) _).setCell (p := ⟨w.heap.size, 1, none⟩) (Nat.le_refl _) _
      | ok ws =>
        obtain ⟨u, rfl, ho⟩ := hv
        obtain ⟨a, c, hu⟩ := ho.slice4
        subst hu
        have HO := hid ho
        clear ho
        go_wp2
        refine bodyPost_ret (v := .tuple #[.slice a ws.length c, .agg #[.int .i64 0, .int .i64 0]]) (by simp [results, Tryd.results6, go_sem, f0, f1]) rfl ⟨_, rfl, by rw [HG.out]; exact ⟨_, rfl, Stk.OwnR.mono (Stk.OwnR.setCell (Stk.OwnR.setCell HO.out (p := ⟨w.heap.size, 0, none⟩) hle _) (p := ⟨w.heap.size, 1, none⟩) hle _) (by omega)⟩, ?_⟩
        exact (HB2.out.setCell (p := ⟨w.heap.size, 0, none⟩) (Nat.le_refl _) _).setCell (p := ⟨w.heap.size, 1, none⟩) (Nat.le_refl _) _
end Go.Proofs.YtojgibigmoaejaaDoor.Lex
