/-
  THE STATEMENT LexBack: the walk.
-/
import Derived.Test.YtllodmoookcimaaDoorLexAgain
import Derived.Test.YtllodmoookcimaaDoorLexLarge
import Derived.Test.YtllodmoookcimaaDoorLexKnown
namespace Go.Proofs.YtllodmoookcimaaDoor.Lex
open Go.RowKit Go.Proofs.YtllodmoookcimaaDoor.Utf
set_option linter.unusedSimpArgs false
set_option linter.unusedVariables false

theorem joined_few : ∀ (l : List Wd) (m : Nat), (∀ x ∈ l, (written x).length ≤ m) → (joined l).length ≤ l.length * (m + 1)
  | [], _, _ => by simp [joined]
  | w :: l, m, h => by
    have h1 := joined_len w l
    have h2 := h w (List.mem_cons_self ..)
    have h3 := joined_few l m fun x hx => h x (List.mem_cons_of_mem _ hx)
    rw [List.length_cons, Nat.add_mul]
    omega
theorem writeV_some {l : List Wd} (h : ∀ x ∈ l, mayB x = true) : writeV l = (strOfNums (joined l), 0) := by
  unfold writeV writeP
  rw [if_pos (List.all_eq_true.2 h)]
theorem writeV_none {l : List Wd} (h : ¬ ∀ x ∈ l, mayB x = true) : writeV l = (⟨#[]⟩, 2) := by
  unfold writeV writeP
  rw [if_neg (fun hh => h (List.all_eq_true.1 hh))]
theorem joined_ge : ∀ l : List Wd, l.length ≤ (joined l).length + 1
  | [] => by simp
  | [w] => by simp
  | w :: v :: t => by
    have := joined_ge (v :: t)
    simp only [joined, List.length_append, List.length_cons] at this ⊢
    omega
theorem may_len {x : Wd} (h : mayB x = true) : x.s.length ≤ 4096 := by
  have hk : ∀ q ∈ keysL, q.length ≤ 4096 := by decide
  have hs : ∀ q ∈ signsL, q.length ≤ 4096 := by decide
  unfold mayB at h
  split at h
  · simp only [Bool.and_eq_true, decide_eq_true_eq] at h; omega
  · split at h
    · cases h
    · split at h
      · simpa using h
      · split at h
        · have : nameB beginsB x.s = true := by simp at h; exact h.2
          unfold nameB at this; simp at this; omega
        · split at h
          · unfold nameB at h; simp at h; omega
          · split at h
            · unfold nameB at h; simp at h; omega
            · split at h
              · exact hk _ (by simpa using h)
              · split at h
                · exact hs _ (by simpa using h)
                · cases h
/-- What is read of a text, as it's wanted here. -/
theorem told_cases (zs : List Int) (hb : Bytes8 zs) (hl : zs.length ≤ 3000) : (∃ e p, lexP zs = .bad e p ∧ e ≠ 0 ∧ 0 ≤ p ∧ p ≤ zs.length) ∨
    ∃ ws m, lexP zs = .ok ws ∧ WOk ws ∧ writeV ws = (strOfNums (joined ws), 0) ∧ Bytes8 (joined ws) ∧ lexP (joined ws) = .ok m ∧ m.map core = ws.map core ∧ (m.Pairwise fun x y => x.at_ < y.at_) ∧ ws.length ≤ 1000000 := by
  rcases h : lexP zs with ws | ⟨e, p⟩
  · obtain ⟨h1, h2⟩ := lexP_again hb hl h
    have h3 : (joined ws).length ≤ 65536 := by omega
    obtain ⟨m, a1, a2, a3⟩ := lexP_joined h1 h3
    have hlen := joined_ge ws
    refine .inr ⟨ws, m, rfl, ⟨fun x hx => (h1 x hx).2, fun x hx => ?_, by omega⟩, writeV_some fun x hx => (h1 x hx).1, fun z hz => ?_, a1, a2, a3, by omega⟩
    · have := may_len (h1 x hx).1
      omega
    · have := joined_low ws h1 z hz
      omega
  · exact .inl ⟨e, p, rfl, lexP_place h⟩
set_option maxRecDepth 10000 in
set_option maxHeartbeats 8000000 in
theorem back_walk (w : World) (l : List Wd) (a : Option Addr) (n c : Nat) (hn : l.length = n) (hbig : n ≤ 140737488351232) (hby : ∀ x ∈ l, Bytes8 x.s) (hw : WordsAt w a l) (s : ByteArray) (h8 : Tabs8 w) (hT : Words w) (hP : Pow w) :
    Calls Tryd.prog 8 #[.slice a n c, .string s] w fun e w' => e = .returned (.bool true) ∧ Below w.heap.size w w' := by
  obtain ⟨zs, hz⟩ : ∃ zs, numsOf s = zs := ⟨_, rfl⟩
  have hb : ∀ z ∈ zs, 0 ≤ z ∧ z < 256 := hz ▸ numsOf_bytes s
  have hsz : strOfNums zs = s := hz ▸ str_numsOf s
  have hlen : s.size = zs.length := by rw [← hsz, strOfNums_size]
  clear hz
  have K := hid (fun W h1 h2 h3 => known_any W h1 h2 h3)
  have H8 := hid h8
  have HT := hid hT
  have HP := hid hP
  have HW := hid hw
  have LG := hid (fun W h => large_any l a n c 200 hn hbig W h)
  clear h8 hT hP hw
  have HLG := hid (fun h : largeB l 200 = false => large_no h)
  have WR := hid (fun (hok : WOk l) W h1 h2 h3 => Write_any l a n c hn hok W h1 h2 h3)
  have HBY := hid hby
  have HN := hid hn
  clear hby hn
  go_enter Tryd.func8, Tryd.ntmps8
  go_wp2_with fail
  refine (K.out _ H8.out HT.out HP.out).mono ?_
  rintro e w1 ⟨rfl, hb1⟩
  have HB1 := hid hb1
  clear hb1 K
  go_wp2_with fail
  refine (LG.out _ (HW.out.below HB1.out)).mono ?_
  rintro e w2 ⟨rfl, hb2⟩
  have HB2 := hid (HB1.out.trans (hb2.mono HB1.out.size))
  clear hb2 LG HB1
  cases hlg : largeB l 200 with
  | true =>
    clear hlg
    go_wp2
    go_ret
    exact ⟨rfl, HB2.out⟩
  | false =>
    obtain ⟨l1, l2⟩ := HLG.out hlg
    have HOK := hid (show WOk l from ⟨HBY.out, fun x hx => by have := l1 x hx; omega, by omega⟩)
    clear hlg
    by_cases h3 : zs.length > 3000
    · have hli : (zs.length : Int) > 3000 := by omega
      clear hsz hb h3 l1 l2 HLG HBY
      go_wp2
      go_ret
      exact ⟨rfl, HB2.out⟩
    have hli : ¬ (zs.length : Int) > 3000 := by omega
    have TC := hid (told_cases zs hb (by omega))
    have LX := hid (fun W h1 h2 => Lex_any zs hb W h1 h2)
    rw [hsz] at LX
    have WR2 := hid (WR.out HOK.out)
    have CASES : Hid ((writeV l = (⟨#[]⟩, 2)) ∨ (∃ js : List Int, writeV l = (strOfNums js, 0) ∧ Bytes8 js ∧ js.length > 65536) ∨ ∃ (js : List Int) (m : List Wd), writeV l = (strOfNums js, 0) ∧ Bytes8 js ∧ js.length ≤ 65536 ∧ lexP js = .ok m ∧ m.map core = l.map core ∧ m.Pairwise fun x y => x.at_ < y.at_) := by
      show _
      by_cases hm : ∀ x ∈ l, mayB x = true
      · have hmb : ∀ x ∈ l, mayB x = true ∧ Bytes8 x.s := fun x hx => ⟨hm x hx, HBY.out x hx⟩
        have hj : Bytes8 (joined l) := fun z hz => by
          have := joined_low l hmb z hz
          omega
        by_cases hjl : (joined l).length ≤ 65536
        · obtain ⟨m, a1, a2, a3⟩ := lexP_joined hmb hjl
          exact .inr (.inr ⟨_, m, writeV_some hm, hj, hjl, a1, a2, a3⟩)
        · exact .inr (.inl ⟨_, writeV_some hm, hj, by omega⟩)
      · exact .inl (writeV_none hm)
    have hnb : n ≤ 1000000 := by have := HN.out; omega
    clear hsz h3 l1 l2 HLG HBY WR HOK hb
    rcases CASES.out with hv | ⟨js, hv, hjb, hjl⟩ | ⟨js, m, hv, hjb, hjl, hm1, hm2, hm3⟩
    · rw [hv] at WR2
      clear CASES hv
      go_wp2_with fail
      refine (WR2.out _ (HW.out.below HB2.out) (HT.out.below HB2.out) (HP.out.below HB2.out)).mono ?_
      rintro e w3 ⟨rfl, hb3⟩
      have HB3 := hid (HB2.out.trans (hb3.mono HB2.out.size))
      clear hb3 WR2 HB2
      have HB4 := HB3
      rcases TC.out with ⟨e, p, t1, t2, t3, t4⟩ | ⟨ws, m', t1, t2, t3, t4, t5, t6, t7, t8⟩
      · rw [t1] at LX
        have hp0 : (0 : Int) ≤ p := t3
        have hp1 : p ≤ (zs.length : Int) := t4
        have hp2 : p ≥ 0 := t3
        have he0 : (e == 0) = false := by simpa using t2
        clear TC t1 t2 t3 t4
        go_wp2_with fail
        refine (LX.out _ (H8.out.below HB4.out) (HT.out.below HB4.out)).mono ?_
        rintro e' w5 ⟨v, rfl, hv, hb5⟩
        have hv' : v = .tuple #[.slice none 0 0, .agg #[.int .i64 e, .int .i64 p]] := hv
        subst hv'
        have HB5 := hid (HB4.out.trans (hb5.mono HB4.out.size))
        have HB6 := hid (thenA HB5.out (.cells #[.int .i64 e, .int .i64 p] 26))
        clear hb5 hv LX HB4 HB5
        go_wp2
        go_ret
        exact ⟨rfl, HB6.out⟩
      · rw [t1] at LX
        obtain ⟨n', hn'⟩ : ∃ n', ws.length = n' := ⟨_, rfl⟩
        have W3 := hid (fun a c W h1 h2 h3 => Write_any ws a n' c hn' t2 W h1 h2 h3)
        rw [t3] at W3
        have A3 := hid (fun a c W h1 h2 h3 => again_yes (joined ws) t4 m' ws t5 t6 t7 t8 a n' c hn' W h1 h2 h3)
        have HNN := hid hn'
        clear TC t1 t2 t3 t4 t5 t6 t7 t8 hn'
        generalize strOfNums (joined ws) = y at *
        go_wp2_with fail
        refine (LX.out _ (H8.out.below HB4.out) (HT.out.below HB4.out)).mono ?_
        rintro e' w5 ⟨v, rfl, ⟨u, rfl, ho⟩, hb5⟩
        obtain ⟨a1, c1, hu⟩ := ho.slice4
        rw [HNN.out] at hu
        subst hu
        have hat := ho.at.1
        have HB5 := hid (HB4.out.trans (hb5.mono HB4.out.size))
        have HB6 := hid (thenA HB5.out (.cells #[.int .i64 0, .int .i64 0] 26))
        have HA := hid (hat.below (thenA (Below.refl _ w5) (.cells #[.int .i64 0, .int .i64 0] 26)))
        clear ho hb5 hat LX HB4 HB5
        go_wp2_with fail
        refine (W3.out _ _ _ HA.out (HT.out.below HB6.out) (HP.out.below HB6.out)).mono ?_
        rintro e' w6 ⟨rfl, hb6⟩
        have HB7 := hid (HB6.out.trans (hb6.mono HB6.out.size))
        have HA2 := hid (HA.out.below (hb6.mono (Nat.le_refl _)))
        clear hb6 W3 HB6 HA
        go_wp2_with fail
        refine (A3.out _ _ _ HA2.out (H8.out.below HB7.out) (HT.out.below HB7.out)).mono ?_
        rintro e' w7 ⟨rfl, hb7⟩
        have HB8 := hid (HB7.out.trans (hb7.mono HB7.out.size))
        clear hb7 A3 HB7 HA2
        go_wp2
        go_ret
        exact ⟨rfl, HB8.out⟩
    · rw [hv] at WR2
      have FY := hid (fun W h1 h2 => faulty_yes js hjb 3 0 (lexP_long hjl) W h1 h2)
      have hjs : (strOfNums js).size = js.length := strOfNums_size _
      have hji : (js.length : Int) > 65536 := by omega
      clear CASES hv hjb hjl
      generalize strOfNums js = x at *
      generalize js.length = jl at *
      go_wp2_with fail
      refine (WR2.out _ (HW.out.below HB2.out) (HT.out.below HB2.out) (HP.out.below HB2.out)).mono ?_
      rintro e w3 ⟨rfl, hb3⟩
      have HB3 := hid (HB2.out.trans (hb3.mono HB2.out.size))
      clear hb3 WR2 HB2
      go_wp2_with fail
      refine (FY.out _ (H8.out.below HB3.out) (HT.out.below HB3.out)).mono ?_
      rintro e w4 ⟨rfl, hb4⟩
      have HB4 := hid (HB3.out.trans (hb4.mono HB3.out.size))
      clear hb4 FY HB3
      rcases TC.out with ⟨e, p, t1, t2, t3, t4⟩ | ⟨ws, m', t1, t2, t3, t4, t5, t6, t7, t8⟩
      · rw [t1] at LX
        have hp0 : (0 : Int) ≤ p := t3
        have hp1 : p ≤ (zs.length : Int) := t4
        have hp2 : p ≥ 0 := t3
        have he0 : (e == 0) = false := by simpa using t2
        clear TC t1 t2 t3 t4
        go_wp2_with fail
        refine (LX.out _ (H8.out.below HB4.out) (HT.out.below HB4.out)).mono ?_
        rintro e' w5 ⟨v, rfl, hv, hb5⟩
        have hv' : v = .tuple #[.slice none 0 0, .agg #[.int .i64 e, .int .i64 p]] := hv
        subst hv'
        have HB5 := hid (HB4.out.trans (hb5.mono HB4.out.size))
        have HB6 := hid (thenA HB5.out (.cells #[.int .i64 e, .int .i64 p] 26))
        clear hb5 hv LX HB4 HB5
        go_wp2
        go_ret
        exact ⟨rfl, HB6.out⟩
      · rw [t1] at LX
        obtain ⟨n', hn'⟩ : ∃ n', ws.length = n' := ⟨_, rfl⟩
        have W3 := hid (fun a c W h1 h2 h3 => Write_any ws a n' c hn' t2 W h1 h2 h3)
        rw [t3] at W3
        have A3 := hid (fun a c W h1 h2 h3 => again_yes (joined ws) t4 m' ws t5 t6 t7 t8 a n' c hn' W h1 h2 h3)
        have HNN := hid hn'
        clear TC t1 t2 t3 t4 t5 t6 t7 t8 hn'
        generalize strOfNums (joined ws) = y at *
        go_wp2_with fail
        refine (LX.out _ (H8.out.below HB4.out) (HT.out.below HB4.out)).mono ?_
        rintro e' w5 ⟨v, rfl, ⟨u, rfl, ho⟩, hb5⟩
        obtain ⟨a1, c1, hu⟩ := ho.slice4
        rw [HNN.out] at hu
        subst hu
        have hat := ho.at.1
        have HB5 := hid (HB4.out.trans (hb5.mono HB4.out.size))
        have HB6 := hid (thenA HB5.out (.cells #[.int .i64 0, .int .i64 0] 26))
        have HA := hid (hat.below (thenA (Below.refl _ w5) (.cells #[.int .i64 0, .int .i64 0] 26)))
        clear ho hb5 hat LX HB4 HB5
        go_wp2_with fail
        refine (W3.out _ _ _ HA.out (HT.out.below HB6.out) (HP.out.below HB6.out)).mono ?_
        rintro e' w6 ⟨rfl, hb6⟩
        have HB7 := hid (HB6.out.trans (hb6.mono HB6.out.size))
        have HA2 := hid (HA.out.below (hb6.mono (Nat.le_refl _)))
        clear hb6 W3 HB6 HA
        go_wp2_with fail
        refine (A3.out _ _ _ HA2.out (H8.out.below HB7.out) (HT.out.below HB7.out)).mono ?_
        rintro e' w7 ⟨rfl, hb7⟩
        have HB8 := hid (HB7.out.trans (hb7.mono HB7.out.size))
        clear hb7 A3 HB7 HA2
        go_wp2
        go_ret
        exact ⟨rfl, HB8.out⟩
    · rw [hv] at WR2
      have AY := hid (fun W h1 h2 h3 => again_yes js hjb m l hm1 hm2 hm3 (by have := HN.out; omega) a n c HN.out W h1 h2 h3)
      have hjs : (strOfNums js).size = js.length := strOfNums_size _
      have hji : ¬ (js.length : Int) > 65536 := by omega
      clear CASES hv hjb hjl hm1 hm2 hm3
      generalize strOfNums js = x at *
      generalize js.length = jl at *
      go_wp2_with fail
      refine (WR2.out _ (HW.out.below HB2.out) (HT.out.below HB2.out) (HP.out.below HB2.out)).mono ?_
      rintro e w3 ⟨rfl, hb3⟩
      have HB3 := hid (HB2.out.trans (hb3.mono HB2.out.size))
      clear hb3 WR2 HB2
      go_wp2_with fail
      refine (AY.out _ (HW.out.below HB3.out) (H8.out.below HB3.out) (HT.out.below HB3.out)).mono ?_
      rintro e w4 ⟨rfl, hb4⟩
      have HB4 := hid (HB3.out.trans (hb4.mono HB3.out.size))
      clear hb4 AY HB3
      rcases TC.out with ⟨e, p, t1, t2, t3, t4⟩ | ⟨ws, m', t1, t2, t3, t4, t5, t6, t7, t8⟩
      · rw [t1] at LX
        have hp0 : (0 : Int) ≤ p := t3
        have hp1 : p ≤ (zs.length : Int) := t4
        have hp2 : p ≥ 0 := t3
        have he0 : (e == 0) = false := by simpa using t2
        clear TC t1 t2 t3 t4
        go_wp2_with fail
        refine (LX.out _ (H8.out.below HB4.out) (HT.out.below HB4.out)).mono ?_
        rintro e' w5 ⟨v, rfl, hv, hb5⟩
        have hv' : v = .tuple #[.slice none 0 0, .agg #[.int .i64 e, .int .i64 p]] := hv
        subst hv'
        have HB5 := hid (HB4.out.trans (hb5.mono HB4.out.size))
        have HB6 := hid (thenA HB5.out (.cells #[.int .i64 e, .int .i64 p] 26))
        clear hb5 hv LX HB4 HB5
        go_wp2
        go_ret
        exact ⟨rfl, HB6.out⟩
      · rw [t1] at LX
        obtain ⟨n', hn'⟩ : ∃ n', ws.length = n' := ⟨_, rfl⟩
        have W3 := hid (fun a c W h1 h2 h3 => Write_any ws a n' c hn' t2 W h1 h2 h3)
        rw [t3] at W3
        have A3 := hid (fun a c W h1 h2 h3 => again_yes (joined ws) t4 m' ws t5 t6 t7 t8 a n' c hn' W h1 h2 h3)
        have HNN := hid hn'
        clear TC t1 t2 t3 t4 t5 t6 t7 t8 hn'
        generalize strOfNums (joined ws) = y at *
        go_wp2_with fail
        refine (LX.out _ (H8.out.below HB4.out) (HT.out.below HB4.out)).mono ?_
        rintro e' w5 ⟨v, rfl, ⟨u, rfl, ho⟩, hb5⟩
        obtain ⟨a1, c1, hu⟩ := ho.slice4
        rw [HNN.out] at hu
        subst hu
        have hat := ho.at.1
        have HB5 := hid (HB4.out.trans (hb5.mono HB4.out.size))
        have HB6 := hid (thenA HB5.out (.cells #[.int .i64 0, .int .i64 0] 26))
        have HA := hid (hat.below (thenA (Below.refl _ w5) (.cells #[.int .i64 0, .int .i64 0] 26)))
        clear ho hb5 hat LX HB4 HB5
        go_wp2_with fail
        refine (W3.out _ _ _ HA.out (HT.out.below HB6.out) (HP.out.below HB6.out)).mono ?_
        rintro e' w6 ⟨rfl, hb6⟩
        have HB7 := hid (HB6.out.trans (hb6.mono HB6.out.size))
        have HA2 := hid (HA.out.below (hb6.mono (Nat.le_refl _)))
        clear hb6 W3 HB6 HA
        go_wp2_with fail
        refine (A3.out _ _ _ HA2.out (H8.out.below HB7.out) (HT.out.below HB7.out)).mono ?_
        rintro e' w7 ⟨rfl, hb7⟩
        have HB8 := hid (HB7.out.trans (hb7.mono HB7.out.size))
        clear hb7 A3 HB7 HA2
        go_wp2
        go_ret
        exact ⟨rfl, HB8.out⟩
end Go.Proofs.YtllodmoookcimaaDoor.Lex
namespace Go.Proofs.YtllodmoookcimaaDoor
theorem lexBack_walk (w : World) (a : Option Addr) (n c : Nat) (l : List Lex.Wd) (hn : l.length = n) (hbig : n ≤ 140737488351232) (hw : Lex.WordsAt w a l) (hby : ∀ x ∈ l, Lex.Bytes8 x.s) (s : ByteArray) (hT : Lex.Tabs8 w ∧ Lex.Words w ∧ Lex.Pow w) :
    Calls Tryd.prog 8 #[.slice a n c, .string s] w fun e w' => e = .returned (.bool true) ∧ RowKit.Below w.heap.size w w' := Lex.back_walk w l a n c hn hbig hby hw s hT.1 hT.2.1 hT.2.2
end Go.Proofs.YtllodmoookcimaaDoor
