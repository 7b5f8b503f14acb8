/-
  LEX: the document's reader: Lex: by contract.
-/
import Derived.Test.YtojgibigmoaejaaDoorLexRdJ
import Derived.Test.YtojgibigmoaejaaDoorLexLex
namespace Go.Proofs.YtojgibigmoaejaaDoor.Lex
open Go.RowKit Go.Proofs.YtojgibigmoaejaaDoor.Utf
set_option linter.unusedSimpArgs false
set_option linter.unusedVariables false

/-- Where the reader stands between words. -/
def LexIn (N : Told) (zs : List Int) (p : Nat) (f e : Int) (acc : List Wd) : Prop :=
  (e = 0 ∧ p = zs.length ∧ N = .ok acc) ∨ (e = 0 ∧ p < zs.length ∧ f = p ∧ blankB (zs.getD p 0) = false ∧ noteB (zs.drop p) = false ∧ N = (lexA (zs.drop p) p).on acc) ∨ (e = 253 ∧ p = zs.length ∧ N = .bad 253 f)
theorem lexIn_of {N : Told} {zs : List Int} {p0 p : Nat} {f e : Int} {acc : List Wd} (hN : N = (lexA (zs.drop p0) p0).on acc) (h : Skipped zs p0 p f e) : LexIn N zs p f e acc := by
  rcases h with ⟨h1, h2, h3⟩ | ⟨h1, h2, h3, h4, h5, h6⟩ | ⟨h1, h2, h3⟩
  · exact .inl ⟨h1, h2, by rw [hN, h3]; simp [Told.on]⟩
  · exact .inr (.inl ⟨h1, h2, h3, h4, h5, by rw [hN, h6]⟩)
  · exact .inr (.inr ⟨h1, h2, by rw [hN, h3]; rfl⟩)
theorem lexIn_bad {N : Told} {zs : List Int} {p : Nat} {acc : List Wd} (hlt : p < zs.length) (hbl : blankB (zs.getD p 0) = false) (hn : noteB (zs.drop p) = false) (h : N = (lexA (zs.drop p) p).on acc) (he : (cutOne (zs.drop p)).e ≠ 0) : N = .bad (cutOne (zs.drop p)).e p := by
  rw [drop_at hlt] at h hn he ⊢
  rw [h, lexA_bad _ hbl hn he]; rfl
theorem lexIn_word {N : Told} {zs : List Int} {p : Nat} {acc : List Wd} (hlt : p < zs.length) (hbl : blankB (zs.getD p 0) = false) (hn : noteB (zs.drop p) = false) (h : N = (lexA (zs.drop p) p).on acc) (he : (cutOne (zs.drop p)).e = 0) :
    N = (lexA (zs.drop (p + (cutOne (zs.drop p)).size)) (p + (cutOne (zs.drop p)).size : Nat)).on (acc ++ [⟨(cutOne (zs.drop p)).k, (cutOne (zs.drop p)).n, p, (cutOne (zs.drop p)).s⟩]) ∧ 1 ≤ (cutOne (zs.drop p)).size ∧ p + (cutOne (zs.drop p)).size ≤ zs.length := by
  have hne : zs.drop p ≠ [] := by intro hh; have := congrArg List.length hh; simp at this; omega
  obtain ⟨h1, h2⟩ := cutOne_size hne he
  rw [List.length_drop] at h2
  refine ⟨?_, h1, by omega⟩
  rw [← List.drop_drop]
  rw [h, ← Told.on_cons]
  congr 1
  rw [drop_at hlt] at hn he ⊢
  rw [lexA_word _ hbl hn he]; rfl
theorem getD_drop0' (zs : List Int) (p : Nat) : (zs.drop p).getD 0 0 = zs.getD p 0 := by simp [List.getD_eq_getElem?_getD]
theorem c_name {zs : List Int} {p : Nat} {x : Int} (hx : x = zs.getD p 0) (h : smallB x = true ∨ greatB x = true ∨ x = 95) : cutOne (zs.drop p) = cutNC (zs.drop p) ∧ letterB (zs.getD p 0) = true := by
  have hd : digitB x = false := by
    unfold smallB greatB at h; unfold digitB
    simp only [Bool.and_eq_true, decide_eq_true_eq] at h
    simp; omega
  have h1 : ¬ x = 34 := by
    unfold smallB greatB at h
    simp only [Bool.and_eq_true, decide_eq_true_eq] at h
    omega
  have h2 : ¬ x = 39 := by
    unfold smallB greatB at h
    simp only [Bool.and_eq_true, decide_eq_true_eq] at h
    omega
  refine ⟨?_, ?_⟩
  · have hg0 := getD_drop0' zs p
    rw [← hx] at hg0
    unfold cutNC
    rw [hg0]
    cases hg : greatB x with
    | true => rw [if_pos rfl]; exact one_con (by rw [hg0]; exact hd) (by rw [hg0]; exact h1) (by rw [hg0]; exact h2) (by rw [hg0]; exact hg)
    | false =>
      rw [if_neg (by decide)]
      refine one_name (by rw [hg0]; exact hd) (by rw [hg0]; exact h1) (by rw [hg0]; exact h2) (by rw [hg0]; exact hg) (by
        rw [hg0]; unfold beginsB
        rcases h with h | h | h
        · simp [h]
        · rw [hg] at h; cases h
        · simp [h])
  · rw [← hx]; unfold letterB
    rcases h with h | h | h <;> simp [h]
theorem c_sign {zs : List Int} {p : Nat} {x : Int} (hx : x = zs.getD p 0) (h1 : smallB x = false) (h2 : greatB x = false) (h3 : ¬ x = 95) (h4 : digitB x = false) (h5 : ¬ x = 39) (h6 : ¬ x = 34) : cutOne (zs.drop p) = cutSign (zs.drop p) := by
  have hg0 := getD_drop0' zs p
  rw [← hx] at hg0
  refine one_sign (by rw [hg0]; exact h4) (by rw [hg0]; exact h6) (by rw [hg0]; exact h5) (by rw [hg0]; exact h2) (by rw [hg0]; unfold beginsB; simp [h1, h3])

set_option maxHeartbeats 8000000 in
set_option maxRecDepth 10000 in
theorem LexR_any (zs : List Int) (hb : ∀ z ∈ zs, 0 ≤ z ∧ z < 256) (w : World) :
    Calls Tryd.prog 7 #[.string (strOfNums zs)] w fun e w' => ∃ v, e = .returned v ∧ ToldV w.heap.size w' (lexP zs) v ∧ Below w.heap.size w w' := by
  have hs : (strOfNums zs).size = zs.length := strOfNums_size zs
  have R := hid (fun hl W => refRight_any zs hb hl W)
  have HE : Hid (lexP zs = if zs.length > 65536 then .bad 3 0 else if (scan zs).2 < zs.length then .bad 250 (scan zs).2 else lexA zs 0) := rfl
  have HV : Hid ((scan zs).2 ≤ zs.length) := hid (scan_le zs)
  have HB := hid (thenA (Below.refl _ w) (.cells #[.int .i64 0, .int .i64 0] 26))
  have HF := hid (heap_alloc_new w (.cells #[.int .i64 0, .int .i64 0] 26))
  have HBY := hid hb
  clear hb
  generalize lexP zs = g at *
  by_cases hl : zs.length > 65536
  · have HG := hid (HE.out.trans (if_pos hl))
    have hli : (zs.length : Int) > 65536 := by omega
    clear HE R HV HBY
    generalize strOfNums zs = s at *
    obtain ⟨⟨f0, f1⟩, ⟨g0, g1⟩, _⟩ := row2 HF.out
    go_enter Tryd.func7, Tryd.ntmps7
    go_wp2
    refine bodyPost_ret (v := .tuple #[.slice none 0 0, .agg #[.int .i64 3, .int .i64 0]]) (by simp [results, Tryd.results7, go_sem, f0, f1]) rfl ⟨_, rfl, by rw [HG.out]; rfl, thenA (Below.refl _ w) _⟩
  have HE1 := hid (HE.out.trans (if_neg hl))
  have hli : ¬ (zs.length : Int) > 65536 := by omega
  have R1 := hid (fun W => R.out (by omega) W)
  clear HE R
  by_cases hr : (scan zs).2 < zs.length
  · have HG := hid (HE1.out.trans (if_pos hr))
    generalize (scan zs).2 = p at *
    have hri : (p : Int) < (zs.length : Int) := by omega
    clear HE1 HV HBY
    generalize strOfNums zs = s at *
    go_enter Tryd.func7, Tryd.ntmps7
    go_wp2_with fail
    refine (R1.out _).mono ?_
    rintro e w1 ⟨rfl, hb1⟩
    have HB1 := hid (HB.out.trans (hb1.mono HB.out.size))
    have HF1 := hid ((hb1.block _ (by simp)).trans HF.out)
    clear hb1 HB HF
    go_wp2_with fail
    refine (R1.out _).mono ?_
    rintro e w2 ⟨rfl, hb2⟩
    have HB2 := hid (HB1.out.trans (hb2.mono HB1.out.size))
    obtain ⟨⟨f0, f1⟩, ⟨g0, g1⟩, _⟩ := row2 ((hb2.block _ (Array.getElem?_eq_some_iff.1 HF1.out).1).trans HF1.out)
    clear hb2 HB1 HF1
    go_wp2
    refine bodyPost_ret (v := .tuple #[.slice none 0 0, .agg #[.int .i64 250, .int .i64 p]]) (by simp [results, Tryd.results7, go_sem, f0, f1]) rfl ⟨_, rfl, by rw [HG.out]; rfl, ?_⟩
    exact (HB2.out.setCell (p := ⟨w.heap.size, 0, none⟩) (Nat.le_refl _) _).setCell (p := ⟨w.heap.size, 1, none⟩) (Nat.le_refl _) _
  have HG := hid (HE1.out.trans (if_neg hr))
  have hp : (scan zs).2 = zs.length := by have := HV.out; omega
  rw [hp] at R1
  clear HE1 HV hp hr
  have hl2 : zs.length ≤ 65536 := by omega
  have hl3 : zs.length ≤ 100000 := by omega
  go_enter Tryd.func7, Tryd.ntmps7
  go_wp2_with fail
  refine (R1.out _).mono ?_
  rintro e w1 ⟨rfl, hb1⟩
  have HB1 := hid (HB.out.trans (hb1.mono HB.out.size))
  have HF1 := hid ((hb1.block _ (by simp)).trans HF.out)
  clear hb1 HB R1 HF
  obtain ⟨b, hbs⟩ : ∃ b, b = w1.heap.size := ⟨_, rfl⟩
  have hgb : w.heap.size < b := by rw [hbs]; exact (Array.getElem?_eq_some_iff.1 HF1.out).1
  obtain ⟨W0, hW0⟩ : ∃ W0, W0 = w1.alloc (.cells #[.string (strOfNums zs), .int .i64 0, .int .i64 0, .int .i64 0, .slice none 0 0] 41) := ⟨_, rfl⟩
  have HR0 : Hid (RAt W0 b zs ((0 : Nat) : Int) 0 0 []) := by
    refine hid ⟨.slice none 0 0, ?_, ?_⟩
    · rw [hW0, hbs]; exact heap_alloc_new w1 _
    · exact ⟨⟨rfl, .inl ⟨rfl, rfl⟩⟩, by simp⟩
  have HB0 : Hid (Below w.heap.size w W0) := by rw [hW0]; exact hid (HB1.out.alloc HB1.out.size _)
  have HF0 : Hid (W0.heap[w.heap.size]? = some (.cells #[.int .i64 0, .int .i64 0] 26 (0, 0))) := by
    rw [hW0]; exact hid ((Below.heap_alloc w1 _ _ (Array.getElem?_eq_some_iff.1 HF1.out).1).trans HF1.out)
  have SK := hid (fun (p : Nat) hp f ws W h => skipR_any b zs HBY.out hl3 p hp f ws W h)
  clear HB1 HF1
  go_upto_region 6 with fail
  rw [← hbs, ← hW0]
  clear hbs hW0
  go_wp2_with fail
  refine (SK.out 0 (Nat.zero_le _) 0 [] _ HR0.out).mono ?_
  rintro o w2 ⟨rfl, hb2, p0, f0, e0, hp0, -, hr2, hk2⟩
  have HR2 := hid hr2
  have HI2 := hid (lexIn_of (N := g) (acc := []) (by rw [HG.out, List.drop_zero, Told.on_nil]; rfl) hk2)
  have HB2 := hid (HB0.out.trans (hb2.mono (Nat.le_of_lt hgb)))
  have HF2 := hid ((hb2.block _ hgb).trans HF0.out)
  clear hb2 hr2 hk2 HR0 HB0 HF0 HG
  go_wp2
  go_loopw [5] (fun _ wr => ∃ (p : Nat) (f e : Int) (acc : List Wd), p ≤ zs.length ∧ acc.length ≤ p ∧ Hid (RAt wr b zs p f e acc) ∧ Hid (LexIn g zs p f e acc) ∧ Hid (Below w.heap.size w wr) ∧ Hid (wr.heap[w.heap.size]? = some (.cells #[.int .i64 0, .int .i64 0] 26 (0, 0)))) (fun _ wr => zs.length - plc wr b)
  case atStart => exact ⟨p0, f0, e0, [], hp0, by simp, HR2, HI2, HB2, HF2⟩
  case round =>
    obtain ⟨p, f, e, acc, hpl, hacc, HR, HI, HBw, HF⟩ := hrel
    have c1 := HR.out.c1
    have c3 := HR.out.c3
    have HPC := hid HR.out.plc
    by_cases hend : p = zs.length
    · have hge2 : ((p : Int) < (zs.length : Int)) = False := by simp; omega
      rcases HI.out with ⟨he, -, hN⟩ | ⟨_, h, _⟩ | ⟨he, -, hN⟩
      · subst he
        have HN := hid hN
        clear HI HPC HBY SK
        obtain ⟨v4, c4, ho4⟩ := HR.out.c4
        obtain ⟨a4, k4, hv4⟩ := OwnW.slice4 (base := b + 1) (w := wr) (v := v4) (l := acc) ho4
        subst hv4
        have HO4 := hid ho4
        clear ho4
        obtain ⟨⟨f0, f1⟩, ⟨g0, g1⟩, _⟩ := row2 HF.out
        go_wp2
        refine bodyPost_ret (v := .tuple #[.slice a4 acc.length k4, .agg #[.int .i64 0, .int .i64 0]]) (by simp [results, Tryd.results7, go_sem, f0, f1]) rfl ⟨_, rfl, by rw [HN.out]; exact ⟨_, rfl, Stk.OwnR.mono (Stk.OwnR.setCell (Stk.OwnR.setCell HO4.out (p := ⟨w.heap.size, 0, none⟩) (by show w.heap.size < b + 1; omega) _) (p := ⟨w.heap.size, 1, none⟩) (by show w.heap.size < b + 1; omega) _) (by omega)⟩, ?_⟩
        exact (HBw.out.setCell (p := ⟨w.heap.size, 0, none⟩) (Nat.le_refl _) _).setCell (p := ⟨w.heap.size, 1, none⟩) (Nat.le_refl _) _
      · omega
      · subst he
        have HN := hid hN
        clear HI HPC HBY SK
        have c2 := HR.out.c2
        obtain ⟨⟨f0, f1⟩, ⟨g0, g1⟩, _⟩ := row2 HF.out
        obtain ⟨⟨d0, d1⟩, ⟨e0', e1'⟩, _⟩ := row2 (show wr.drew.heap[w.heap.size]? = _ from HF.out)
        go_upto_region 22 with fail
        go_still_tail 10, (by kernel_rfl)
        change wpList _ _ _ _ _ wr.drew
        go_wp2
        refine bodyPost_ret (v := .tuple #[.slice none 0 0, .agg #[.int .i64 253, .int .i64 f]]) (by simp [results, Tryd.results7, go_sem, f0, f1]) rfl ⟨_, rfl, by rw [HN.out]; rfl, ?_⟩
        exact (((HBw.out).setCell (p := ⟨w.heap.size, 0, none⟩) (Nat.le_refl _) _).setCell (p := ⟨w.heap.size, 1, none⟩) (Nat.le_refl _) _).drew
    have hlt : p < zs.length := by omega
    clear hend
    have hpi : (p : Int) < (zs.length : Int) := by omega
    have hI : e = 0 ∧ f = p ∧ blankB (zs.getD p 0) = false ∧ noteB (zs.drop p) = false ∧ g = (lexA (zs.drop p) p).on acc := by
      rcases HI.out with ⟨_, h, _⟩ | ⟨h1, _, h3, h4, h5, h6⟩ | ⟨_, h, _⟩
      · omega
      · exact ⟨h1, h3, h4, h5, h6⟩
      · omega
    obtain ⟨rfl, rfl, hbl, hnt, hN⟩ := hI
    have HBAD := hid (fun he => lexIn_bad hlt hbl hnt hN he)
    have HWORD := hid (fun he => lexIn_word hlt hbl hnt hN he)
    have i0 : (((strOfNums zs)[p]'(by rw [hs]; exact hlt)).toNat : Int) = zs.getD p 0 := str_get HBY.out p _
    have hws : acc.length ≤ 1000000 := by omega
    have HNM := hid (fun hx0 W h => nameR_any b zs HBY.out hl3 p hlt hx0 acc hws W h)
    have HNU := hid (fun W h => numberR_any b zs HBY.out hl3 p hlt acc hws W h)
    have HVA := hid (fun W h => variableR_any b zs HBY.out hl3 p hlt acc hws W h)
    have HTX := hid (fun W h => textR_any b zs HBY.out hl3 p hlt acc hws W h)
    have HSI := hid (fun W h => signR_any b zs HBY.out hl3 p hpl acc hws W h)
    obtain ⟨x, hx⟩ : ∃ x, x = zs.getD p 0 := ⟨_, rfl⟩
    rw [← hx] at i0
    have hg0 := getD_drop0' zs p
    rw [← hx] at hg0
    have K1 := hid (fun h => c_name (zs := zs) (p := p) hx h)
    have K2 := hid (fun h => one_digit (z := zs.drop p) (by rw [hg0]; exact h))
    have K3 := hid (fun h => one_var (z := zs.drop p) (by rw [hg0]; exact h))
    have K4 := hid (fun h => one_text (z := zs.drop p) (by rw [hg0]; exact h))
    have K5 := hid (fun h1 h2 h3 h4 h5 h6 => c_sign (zs := zs) (p := p) hx h1 h2 h3 h4 h5 h6)
    clear hx hg0 HI hbl hnt hN HBY
    have f2 := HR.out.frozen 2
    have c2 := HR.out.c2
    have R3 := hid (HR.out.set2 (p : Int))
    have B3 := hid (HBw.out.setCell (p := ⟨b, 2, none⟩) (Nat.le_of_lt hgb) (.int .i64 (p : Int)))
    have F3 := hid ((Below.heap_setCell wr ⟨b, 2, none⟩ (.int .i64 (p : Int)) w.heap.size (by show w.heap.size ≠ b; omega)).trans HF.out)
    clear HR HBw HF
    obtain ⟨W3, hW3⟩ : ∃ W3, W3 = wr.setCell ⟨b, 2, none⟩ (.int .i64 (p : Int)) := ⟨_, rfl⟩
    rw [← hW3] at R3 B3 F3
    go_upto_region 12 with fail
    rw [← hW3]
    clear hW3 c1 c2 c3 f2 i0
    have WS := hid (fun W => within_c x 97 122 W)
    have WG := hid (fun W => within_c x 65 90 W)
    have WD := hid (fun W => within_c x 48 57 W)
    have hsm : smallB x = (decide (97 ≤ x) && decide (x ≤ 122)) := rfl
    have hgr : greatB x = (decide (65 ≤ x) && decide (x ≤ 90)) := rfl
    have hdg : digitB x = (decide (48 ≤ x) && decide (x ≤ 57)) := rfl
    rw [← hsm] at WS
    rw [← hgr] at WG
    rw [← hdg] at WD
    clear hsm hgr hdg
    cases q1 : smallB x with
    | true =>
      rw [q1] at WS
      have HC := hid (K1.out (.inl q1))
      clear K1 K2 K3 K4 K5 WG WD q1 HNU HVA HTX HSI
      go_wp2_with fail
      refine (WS.out _).mono ?_
      rintro o w' ⟨rfl, rfl⟩
      have CC := hid (HNM.out HC.out.2 _ R3.out)
      have HCE := hid HC.out.1
      clear HNM HC WS
      rw [← HCE.out] at CC
      obtain ⟨c, hcc⟩ : ∃ c, c = cutOne (zs.drop p) := ⟨_, rfl⟩
      rw [← hcc] at CC HBAD HWORD
      clear hcc HCE
      go_wp2_with fail
      refine CC.out.mono ?_
      rintro o w5 ⟨rfl, hb5, p5, vs, hr5, hok⟩
      have R5 := hid hr5
      have B5 := hid (B3.out.trans (hb5.mono (Nat.le_of_lt hgb)))
      have F5 := hid ((hb5.block _ hgb).trans F3.out)
      have c3 := R5.out.c3
      clear hr5 hb5 CC R3 B3 F3
      by_cases he : c.e = 0
      · obtain ⟨rfl, rfl⟩ := hok he
        obtain ⟨hN1, hs1, hs2⟩ := HWORD.out he
        have HN1 := hid hN1
        rw [he] at R5 c3
        obtain ⟨p6, hp6⟩ : ∃ p6, p6 = p + c.size := ⟨_, rfl⟩
        rw [← hp6] at R5 HN1
        obtain ⟨vs, hvs⟩ : ∃ vs, vs = acc ++ [(⟨c.k, c.n, (p : Int), c.s⟩ : Wd)] := ⟨_, rfl⟩
        rw [← hvs] at R5 HN1
        have hvl : vs.length ≤ p6 := by rw [hvs, List.length_append]; simp; omega
        have HS6 := hid (SK.out p6 (by omega) (p : Int) vs _ R5.out)
        clear HBAD HWORD hok hN1 hvs
        go_wp2_with fail
        refine HS6.out.mono ?_
        rintro o w6 ⟨rfl, hb6, p7, f7, e7, hp7, hp67, hr7, hk7⟩
        have R7 := hid hr7
        have HI7 := hid (lexIn_of HN1.out hk7)
        have B7 := hid (B5.out.trans (hb6.mono (Nat.le_of_lt hgb)))
        have F7 := hid ((hb6.block _ hgb).trans F5.out)
        have HM := hid R7.out.plc
        clear hb6 hr7 hk7 HS6 R5 B5 F5 c3
        go_wp2
        go_roundw
        case rel => exact ⟨p7, f7, e7, vs, hp7, by omega, R7, HI7, B7, F7⟩
        case measure => rw [HM.out, HPC.out]; omega
      · have HN := hid (HBAD.out he)
        have hez : (c.e == 0) = false := by simpa using he
        generalize c.e = ce at *
        have c2 := R5.out.c2
        clear HBAD HWORD hok he SK HPC
        obtain ⟨⟨f0, f1⟩, ⟨g0, g1⟩, _⟩ := row2 F5.out
        obtain ⟨⟨d0, d1⟩, ⟨e0', e1'⟩, _⟩ := row2 (show w5.drew.heap[w.heap.size]? = _ from F5.out)
        go_upto_region 22 with fail
        go_still_tail 10, (by kernel_rfl)
        change wpList _ _ _ _ _ w5.drew
        go_wp2
        refine bodyPost_ret (v := .tuple #[.slice none 0 0, .agg #[.int .i64 ce, .int .i64 p]]) (by simp [results, Tryd.results7, go_sem, f0, f1]) rfl ⟨_, rfl, by rw [HN.out]; rfl, ?_⟩
        exact (((B5.out).setCell (p := ⟨w.heap.size, 0, none⟩) (Nat.le_refl _) _).setCell (p := ⟨w.heap.size, 1, none⟩) (Nat.le_refl _) _).drew
    | false =>
    rw [q1] at WS
    cases q2 : greatB x with
    | true =>
      rw [q2] at WG
      have HC := hid (K1.out (.inr (.inl q2)))
      clear K1 K2 K3 K4 K5 WD q1 q2 HNU HVA HTX HSI
      go_wp2_with fail
      refine (WS.out _).mono ?_
      rintro o w' ⟨rfl, rfl⟩
      go_wp2_with fail
      refine (WG.out _).mono ?_
      rintro o w' ⟨rfl, rfl⟩
      have CC := hid (HNM.out HC.out.2 _ R3.out)
      have HCE := hid HC.out.1
      clear HNM HC WS WG
      rw [← HCE.out] at CC
      obtain ⟨c, hcc⟩ : ∃ c, c = cutOne (zs.drop p) := ⟨_, rfl⟩
      rw [← hcc] at CC HBAD HWORD
      clear hcc HCE
      go_wp2_with fail
      refine CC.out.mono ?_
      rintro o w5 ⟨rfl, hb5, p5, vs, hr5, hok⟩
      have R5 := hid hr5
      have B5 := hid (B3.out.trans (hb5.mono (Nat.le_of_lt hgb)))
      have F5 := hid ((hb5.block _ hgb).trans F3.out)
      have c3 := R5.out.c3
      clear hr5 hb5 CC R3 B3 F3
      by_cases he : c.e = 0
      · obtain ⟨rfl, rfl⟩ := hok he
        obtain ⟨hN1, hs1, hs2⟩ := HWORD.out he
        have HN1 := hid hN1
        rw [he] at R5 c3
        obtain ⟨p6, hp6⟩ : ∃ p6, p6 = p + c.size := ⟨_, rfl⟩
        rw [← hp6] at R5 HN1
        obtain ⟨vs, hvs⟩ : ∃ vs, vs = acc ++ [(⟨c.k, c.n, (p : Int), c.s⟩ : Wd)] := ⟨_, rfl⟩
        rw [← hvs] at R5 HN1
        have hvl : vs.length ≤ p6 := by rw [hvs, List.length_append]; simp; omega
        have HS6 := hid (SK.out p6 (by omega) (p : Int) vs _ R5.out)
        clear HBAD HWORD hok hN1 hvs
        go_wp2_with fail
        refine HS6.out.mono ?_
        rintro o w6 ⟨rfl, hb6, p7, f7, e7, hp7, hp67, hr7, hk7⟩
        have R7 := hid hr7
        have HI7 := hid (lexIn_of HN1.out hk7)
        have B7 := hid (B5.out.trans (hb6.mono (Nat.le_of_lt hgb)))
        have F7 := hid ((hb6.block _ hgb).trans F5.out)
        have HM := hid R7.out.plc
        clear hb6 hr7 hk7 HS6 R5 B5 F5 c3
        go_wp2
        go_roundw
        case rel => exact ⟨p7, f7, e7, vs, hp7, by omega, R7, HI7, B7, F7⟩
        case measure => rw [HM.out, HPC.out]; omega
      · have HN := hid (HBAD.out he)
        have hez : (c.e == 0) = false := by simpa using he
        generalize c.e = ce at *
        have c2 := R5.out.c2
        clear HBAD HWORD hok he SK HPC
        obtain ⟨⟨f0, f1⟩, ⟨g0, g1⟩, _⟩ := row2 F5.out
        obtain ⟨⟨d0, d1⟩, ⟨e0', e1'⟩, _⟩ := row2 (show w5.drew.heap[w.heap.size]? = _ from F5.out)
        go_upto_region 22 with fail
        go_still_tail 10, (by kernel_rfl)
        change wpList _ _ _ _ _ w5.drew
        go_wp2
        refine bodyPost_ret (v := .tuple #[.slice none 0 0, .agg #[.int .i64 ce, .int .i64 p]]) (by simp [results, Tryd.results7, go_sem, f0, f1]) rfl ⟨_, rfl, by rw [HN.out]; rfl, ?_⟩
        exact (((B5.out).setCell (p := ⟨w.heap.size, 0, none⟩) (Nat.le_refl _) _).setCell (p := ⟨w.heap.size, 1, none⟩) (Nat.le_refl _) _).drew
    | false =>
    rw [q2] at WG
    by_cases q3 : x = 95
    · have x95 : (x == 95) = true := by simpa using q3
      have HC := hid (K1.out (.inr (.inr q3)))
      clear K1 K2 K3 K4 K5 WD q1 q2 q3 HNU HVA HTX HSI
      go_wp2_with fail
      refine (WS.out _).mono ?_
      rintro o w' ⟨rfl, rfl⟩
      go_wp2_with fail
      refine (WG.out _).mono ?_
      rintro o w' ⟨rfl, rfl⟩
      have CC := hid (HNM.out HC.out.2 _ R3.out)
      have HCE := hid HC.out.1
      clear HNM HC WS WG
      rw [← HCE.out] at CC
      obtain ⟨c, hcc⟩ : ∃ c, c = cutOne (zs.drop p) := ⟨_, rfl⟩
      rw [← hcc] at CC HBAD HWORD
      clear hcc HCE
      go_wp2_with fail
      refine CC.out.mono ?_
      rintro o w5 ⟨rfl, hb5, p5, vs, hr5, hok⟩
      have R5 := hid hr5
      have B5 := hid (B3.out.trans (hb5.mono (Nat.le_of_lt hgb)))
      have F5 := hid ((hb5.block _ hgb).trans F3.out)
      have c3 := R5.out.c3
      clear hr5 hb5 CC R3 B3 F3
      by_cases he : c.e = 0
      · obtain ⟨rfl, rfl⟩ := hok he
        obtain ⟨hN1, hs1, hs2⟩ := HWORD.out he
        have HN1 := hid hN1
        rw [he] at R5 c3
        obtain ⟨p6, hp6⟩ : ∃ p6, p6 = p + c.size := ⟨_, rfl⟩
        rw [← hp6] at R5 HN1
        obtain ⟨vs, hvs⟩ : ∃ vs, vs = acc ++ [(⟨c.k, c.n, (p : Int), c.s⟩ : Wd)] := ⟨_, rfl⟩
        rw [← hvs] at R5 HN1
        have hvl : vs.length ≤ p6 := by rw [hvs, List.length_append]; simp; omega
        have HS6 := hid (SK.out p6 (by omega) (p : Int) vs _ R5.out)
        clear HBAD HWORD hok hN1 hvs
        go_wp2_with fail
        refine HS6.out.mono ?_
        rintro o w6 ⟨rfl, hb6, p7, f7, e7, hp7, hp67, hr7, hk7⟩
        have R7 := hid hr7
        have HI7 := hid (lexIn_of HN1.out hk7)
        have B7 := hid (B5.out.trans (hb6.mono (Nat.le_of_lt hgb)))
        have F7 := hid ((hb6.block _ hgb).trans F5.out)
        have HM := hid R7.out.plc
        clear hb6 hr7 hk7 HS6 R5 B5 F5 c3
        go_wp2
        go_roundw
        case rel => exact ⟨p7, f7, e7, vs, hp7, by omega, R7, HI7, B7, F7⟩
        case measure => rw [HM.out, HPC.out]; omega
      · have HN := hid (HBAD.out he)
        have hez : (c.e == 0) = false := by simpa using he
        generalize c.e = ce at *
        have c2 := R5.out.c2
        clear HBAD HWORD hok he SK HPC
        obtain ⟨⟨f0, f1⟩, ⟨g0, g1⟩, _⟩ := row2 F5.out
        obtain ⟨⟨d0, d1⟩, ⟨e0', e1'⟩, _⟩ := row2 (show w5.drew.heap[w.heap.size]? = _ from F5.out)
        go_upto_region 22 with fail
        go_still_tail 10, (by kernel_rfl)
        change wpList _ _ _ _ _ w5.drew
        go_wp2
        refine bodyPost_ret (v := .tuple #[.slice none 0 0, .agg #[.int .i64 ce, .int .i64 p]]) (by simp [results, Tryd.results7, go_sem, f0, f1]) rfl ⟨_, rfl, by rw [HN.out]; rfl, ?_⟩
        exact (((B5.out).setCell (p := ⟨w.heap.size, 0, none⟩) (Nat.le_refl _) _).setCell (p := ⟨w.heap.size, 1, none⟩) (Nat.le_refl _) _).drew
    have x95 : (x == 95) = false := by simpa using q3
    cases q4 : digitB x with
    | true =>
      rw [q4] at WD
      have HCE := hid (K2.out q4)
      clear K1 K2 K3 K4 K5 q1 q2 q3 q4 HNM HVA HTX HSI
      go_wp2_with fail
      refine (WS.out _).mono ?_
      rintro o w' ⟨rfl, rfl⟩
      go_wp2_with fail
      refine (WG.out _).mono ?_
      rintro o w' ⟨rfl, rfl⟩
      go_wp2_with fail
      refine (WD.out _).mono ?_
      rintro o w' ⟨rfl, rfl⟩
      have CC := hid (HNU.out _ R3.out)
      clear HNU WS WG WD
      rw [← HCE.out] at CC
      obtain ⟨c, hcc⟩ : ∃ c, c = cutOne (zs.drop p) := ⟨_, rfl⟩
      rw [← hcc] at CC HBAD HWORD
      clear hcc HCE
      go_wp2_with fail
      refine CC.out.mono ?_
      rintro o w5 ⟨rfl, hb5, p5, vs, hr5, hok⟩
      have R5 := hid hr5
      have B5 := hid (B3.out.trans (hb5.mono (Nat.le_of_lt hgb)))
      have F5 := hid ((hb5.block _ hgb).trans F3.out)
      have c3 := R5.out.c3
      clear hr5 hb5 CC R3 B3 F3
      by_cases he : c.e = 0
      · obtain ⟨rfl, rfl⟩ := hok he
        obtain ⟨hN1, hs1, hs2⟩ := HWORD.out he
        have HN1 := hid hN1
        rw [he] at R5 c3
        obtain ⟨p6, hp6⟩ : ∃ p6, p6 = p + c.size := ⟨_, rfl⟩
        rw [← hp6] at R5 HN1
        obtain ⟨vs, hvs⟩ : ∃ vs, vs = acc ++ [(⟨c.k, c.n, (p : Int), c.s⟩ : Wd)] := ⟨_, rfl⟩
        rw [← hvs] at R5 HN1
        have hvl : vs.length ≤ p6 := by rw [hvs, List.length_append]; simp; omega
        have HS6 := hid (SK.out p6 (by omega) (p : Int) vs _ R5.out)
        clear HBAD HWORD hok hN1 hvs
        go_wp2_with fail
        refine HS6.out.mono ?_
        rintro o w6 ⟨rfl, hb6, p7, f7, e7, hp7, hp67, hr7, hk7⟩
        have R7 := hid hr7
        have HI7 := hid (lexIn_of HN1.out hk7)
        have B7 := hid (B5.out.trans (hb6.mono (Nat.le_of_lt hgb)))
        have F7 := hid ((hb6.block _ hgb).trans F5.out)
        have HM := hid R7.out.plc
        clear hb6 hr7 hk7 HS6 R5 B5 F5 c3
        go_wp2
        go_roundw
        case rel => exact ⟨p7, f7, e7, vs, hp7, by omega, R7, HI7, B7, F7⟩
        case measure => rw [HM.out, HPC.out]; omega
      · have HN := hid (HBAD.out he)
        have hez : (c.e == 0) = false := by simpa using he
        generalize c.e = ce at *
        have c2 := R5.out.c2
        clear HBAD HWORD hok he SK HPC
        obtain ⟨⟨f0, f1⟩, ⟨g0, g1⟩, _⟩ := row2 F5.out
        obtain ⟨⟨d0, d1⟩, ⟨e0', e1'⟩, _⟩ := row2 (show w5.drew.heap[w.heap.size]? = _ from F5.out)
        go_upto_region 22 with fail
        go_still_tail 10, (by kernel_rfl)
        change wpList _ _ _ _ _ w5.drew
        go_wp2
        refine bodyPost_ret (v := .tuple #[.slice none 0 0, .agg #[.int .i64 ce, .int .i64 p]]) (by simp [results, Tryd.results7, go_sem, f0, f1]) rfl ⟨_, rfl, by rw [HN.out]; rfl, ?_⟩
        exact (((B5.out).setCell (p := ⟨w.heap.size, 0, none⟩) (Nat.le_refl _) _).setCell (p := ⟨w.heap.size, 1, none⟩) (Nat.le_refl _) _).drew
    | false =>
    rw [q4] at WD
    by_cases q5 : x = 39
    · have x39 : (x == 39) = true := by simpa using q5
      have HCE := hid (K3.out q5)
      clear K1 K2 K3 K4 K5 q1 q2 q3 q4 q5 HNM HNU HTX HSI
      go_wp2_with fail
      refine (WS.out _).mono ?_
      rintro o w' ⟨rfl, rfl⟩
      go_wp2_with fail
      refine (WG.out _).mono ?_
      rintro o w' ⟨rfl, rfl⟩
      go_wp2_with fail
      refine (WD.out _).mono ?_
      rintro o w' ⟨rfl, rfl⟩
      have CC := hid (HVA.out _ R3.out)
      clear HVA WS WG WD
      rw [← HCE.out] at CC
      obtain ⟨c, hcc⟩ : ∃ c, c = cutOne (zs.drop p) := ⟨_, rfl⟩
      rw [← hcc] at CC HBAD HWORD
      clear hcc HCE
      go_wp2_with fail
      refine CC.out.mono ?_
      rintro o w5 ⟨rfl, hb5, p5, vs, hr5, hok⟩
      have R5 := hid hr5
      have B5 := hid (B3.out.trans (hb5.mono (Nat.le_of_lt hgb)))
      have F5 := hid ((hb5.block _ hgb).trans F3.out)
      have c3 := R5.out.c3
      clear hr5 hb5 CC R3 B3 F3
      by_cases he : c.e = 0
      · obtain ⟨rfl, rfl⟩ := hok he
        obtain ⟨hN1, hs1, hs2⟩ := HWORD.out he
        have HN1 := hid hN1
        rw [he] at R5 c3
        obtain ⟨p6, hp6⟩ : ∃ p6, p6 = p + c.size := ⟨_, rfl⟩
        rw [← hp6] at R5 HN1
        obtain ⟨vs, hvs⟩ : ∃ vs, vs = acc ++ [(⟨c.k, c.n, (p : Int), c.s⟩ : Wd)] := ⟨_, rfl⟩
        rw [← hvs] at R5 HN1
        have hvl : vs.length ≤ p6 := by rw [hvs, List.length_append]; simp; omega
        have HS6 := hid (SK.out p6 (by omega) (p : Int) vs _ R5.out)
        clear HBAD HWORD hok hN1 hvs
        go_wp2_with fail
        refine HS6.out.mono ?_
        rintro o w6 ⟨rfl, hb6, p7, f7, e7, hp7, hp67, hr7, hk7⟩
        have R7 := hid hr7
        have HI7 := hid (lexIn_of HN1.out hk7)
        have B7 := hid (B5.out.trans (hb6.mono (Nat.le_of_lt hgb)))
        have F7 := hid ((hb6.block _ hgb).trans F5.out)
        have HM := hid R7.out.plc
        clear hb6 hr7 hk7 HS6 R5 B5 F5 c3
        go_wp2
        go_roundw
        case rel => exact ⟨p7, f7, e7, vs, hp7, by omega, R7, HI7, B7, F7⟩
        case measure => rw [HM.out, HPC.out]; omega
      · have HN := hid (HBAD.out he)
        have hez : (c.e == 0) = false := by simpa using he
        generalize c.e = ce at *
        have c2 := R5.out.c2
        clear HBAD HWORD hok he SK HPC
        obtain ⟨⟨f0, f1⟩, ⟨g0, g1⟩, _⟩ := row2 F5.out
        obtain ⟨⟨d0, d1⟩, ⟨e0', e1'⟩, _⟩ := row2 (show w5.drew.heap[w.heap.size]? = _ from F5.out)
        go_upto_region 22 with fail
        go_still_tail 10, (by kernel_rfl)
        change wpList _ _ _ _ _ w5.drew
        go_wp2
        refine bodyPost_ret (v := .tuple #[.slice none 0 0, .agg #[.int .i64 ce, .int .i64 p]]) (by simp [results, Tryd.results7, go_sem, f0, f1]) rfl ⟨_, rfl, by rw [HN.out]; rfl, ?_⟩
        exact (((B5.out).setCell (p := ⟨w.heap.size, 0, none⟩) (Nat.le_refl _) _).setCell (p := ⟨w.heap.size, 1, none⟩) (Nat.le_refl _) _).drew
    have x39 : (x == 39) = false := by simpa using q5
    by_cases q6 : x = 34
    · have x34 : (x == 34) = true := by simpa using q6
      have HCE := hid (K4.out q6)
      clear K1 K2 K3 K4 K5 q1 q2 q3 q4 q5 q6 HNM HNU HVA HSI
      go_wp2_with fail
      refine (WS.out _).mono ?_
      rintro o w' ⟨rfl, rfl⟩
      go_wp2_with fail
      refine (WG.out _).mono ?_
      rintro o w' ⟨rfl, rfl⟩
      go_wp2_with fail
      refine (WD.out _).mono ?_
      rintro o w' ⟨rfl, rfl⟩
      have CC := hid (HTX.out _ R3.out)
      clear HTX WS WG WD
      rw [← HCE.out] at CC
      obtain ⟨c, hcc⟩ : ∃ c, c = cutOne (zs.drop p) := ⟨_, rfl⟩
      rw [← hcc] at CC HBAD HWORD
      clear hcc HCE
      go_wp2_with fail
      refine CC.out.mono ?_
      rintro o w5 ⟨rfl, hb5, p5, vs, hr5, hok⟩
      have R5 := hid hr5
      have B5 := hid (B3.out.trans (hb5.mono (Nat.le_of_lt hgb)))
      have F5 := hid ((hb5.block _ hgb).trans F3.out)
      have c3 := R5.out.c3
      clear hr5 hb5 CC R3 B3 F3
      by_cases he : c.e = 0
      · obtain ⟨rfl, rfl⟩ := hok he
        obtain ⟨hN1, hs1, hs2⟩ := HWORD.out he
        have HN1 := hid hN1
        rw [he] at R5 c3
        obtain ⟨p6, hp6⟩ : ∃ p6, p6 = p + c.size := ⟨_, rfl⟩
        rw [← hp6] at R5 HN1
        obtain ⟨vs, hvs⟩ : ∃ vs, vs = acc ++ [(⟨c.k, c.n, (p : Int), c.s⟩ : Wd)] := ⟨_, rfl⟩
        rw [← hvs] at R5 HN1
        have hvl : vs.length ≤ p6 := by rw [hvs, List.length_append]; simp; omega
        have HS6 := hid (SK.out p6 (by omega) (p : Int) vs _ R5.out)
        clear HBAD HWORD hok hN1 hvs
        go_wp2_with fail
        refine HS6.out.mono ?_
        rintro o w6 ⟨rfl, hb6, p7, f7, e7, hp7, hp67, hr7, hk7⟩
        have R7 := hid hr7
        have HI7 := hid (lexIn_of HN1.out hk7)
        have B7 := hid (B5.out.trans (hb6.mono (Nat.le_of_lt hgb)))
        have F7 := hid ((hb6.block _ hgb).trans F5.out)
        have HM := hid R7.out.plc
        clear hb6 hr7 hk7 HS6 R5 B5 F5 c3
        go_wp2
        go_roundw
        case rel => exact ⟨p7, f7, e7, vs, hp7, by omega, R7, HI7, B7, F7⟩
        case measure => rw [HM.out, HPC.out]; omega
      · have HN := hid (HBAD.out he)
        have hez : (c.e == 0) = false := by simpa using he
        generalize c.e = ce at *
        have c2 := R5.out.c2
        clear HBAD HWORD hok he SK HPC
        obtain ⟨⟨f0, f1⟩, ⟨g0, g1⟩, _⟩ := row2 F5.out
        obtain ⟨⟨d0, d1⟩, ⟨e0', e1'⟩, _⟩ := row2 (show w5.drew.heap[w.heap.size]? = _ from F5.out)
        go_upto_region 22 with fail
        go_still_tail 10, (by kernel_rfl)
        change wpList _ _ _ _ _ w5.drew
        go_wp2
        refine bodyPost_ret (v := .tuple #[.slice none 0 0, .agg #[.int .i64 ce, .int .i64 p]]) (by simp [results, Tryd.results7, go_sem, f0, f1]) rfl ⟨_, rfl, by rw [HN.out]; rfl, ?_⟩
        exact (((B5.out).setCell (p := ⟨w.heap.size, 0, none⟩) (Nat.le_refl _) _).setCell (p := ⟨w.heap.size, 1, none⟩) (Nat.le_refl _) _).drew
    · have x34 : (x == 34) = false := by simpa using q6
      have HCE := hid (K5.out q1 q2 q3 q4 q5 q6)
      clear K1 K2 K3 K4 K5 q1 q2 q3 q4 q5 q6 HNM HNU HVA HTX
      go_wp2_with fail
      refine (WS.out _).mono ?_
      rintro o w' ⟨rfl, rfl⟩
      go_wp2_with fail
      refine (WG.out _).mono ?_
      rintro o w' ⟨rfl, rfl⟩
      go_wp2_with fail
      refine (WD.out _).mono ?_
      rintro o w' ⟨rfl, rfl⟩
      have CC := hid (HSI.out _ R3.out)
      clear HSI WS WG WD
      rw [← HCE.out] at CC
      obtain ⟨c, hcc⟩ : ∃ c, c = cutOne (zs.drop p) := ⟨_, rfl⟩
      rw [← hcc] at CC HBAD HWORD
      clear hcc HCE
      go_wp2_with fail
      refine CC.out.mono ?_
      rintro o w5 ⟨rfl, hb5, p5, vs, hr5, hok⟩
      have R5 := hid hr5
      have B5 := hid (B3.out.trans (hb5.mono (Nat.le_of_lt hgb)))
      have F5 := hid ((hb5.block _ hgb).trans F3.out)
      have c3 := R5.out.c3
      clear hr5 hb5 CC R3 B3 F3
      by_cases he : c.e = 0
      · obtain ⟨rfl, rfl⟩ := hok he
        obtain ⟨hN1, hs1, hs2⟩ := HWORD.out he
        have HN1 := hid hN1
        rw [he] at R5 c3
        obtain ⟨p6, hp6⟩ : ∃ p6, p6 = p + c.size := ⟨_, rfl⟩
        rw [← hp6] at R5 HN1
        obtain ⟨vs, hvs⟩ : ∃ vs, vs = acc ++ [(⟨c.k, c.n, (p : Int), c.s⟩ : Wd)] := ⟨_, rfl⟩
        rw [← hvs] at R5 HN1
        have hvl : vs.length ≤ p6 := by rw [hvs, List.length_append]; simp; omega
        have HS6 := hid (SK.out p6 (by omega) (p : Int) vs _ R5.out)
        clear HBAD HWORD hok hN1 hvs
        go_wp2_with fail
        refine HS6.out.mono ?_
        rintro o w6 ⟨rfl, hb6, p7, f7, e7, hp7, hp67, hr7, hk7⟩
        have R7 := hid hr7
        have HI7 := hid (lexIn_of HN1.out hk7)
        have B7 := hid (B5.out.trans (hb6.mono (Nat.le_of_lt hgb)))
        have F7 := hid ((hb6.block _ hgb).trans F5.out)
        have HM := hid R7.out.plc
        clear hb6 hr7 hk7 HS6 R5 B5 F5 c3
        go_wp2
        go_roundw
        case rel => exact ⟨p7, f7, e7, vs, hp7, by omega, R7, HI7, B7, F7⟩
        case measure => rw [HM.out, HPC.out]; omega
      · have HN := hid (HBAD.out he)
        have hez : (c.e == 0) = false := by simpa using he
        generalize c.e = ce at *
        have c2 := R5.out.c2
        clear HBAD HWORD hok he SK HPC
        obtain ⟨⟨f0, f1⟩, ⟨g0, g1⟩, _⟩ := row2 F5.out
        obtain ⟨⟨d0, d1⟩, ⟨e0', e1'⟩, _⟩ := row2 (show w5.drew.heap[w.heap.size]? = _ from F5.out)
        go_upto_region 22 with fail
        go_still_tail 10, (by kernel_rfl)
        change wpList _ _ _ _ _ w5.drew
        go_wp2
        refine bodyPost_ret (v := .tuple #[.slice none 0 0, .agg #[.int .i64 ce, .int .i64 p]]) (by simp [results, Tryd.results7, go_sem, f0, f1]) rfl ⟨_, rfl, by rw [HN.out]; rfl, ?_⟩
        exact (((B5.out).setCell (p := ⟨w.heap.size, 0, none⟩) (Nat.le_refl _) _).setCell (p := ⟨w.heap.size, 1, none⟩) (Nat.le_refl _) _).drew
end Go.Proofs.YtojgibigmoaejaaDoor.Lex
