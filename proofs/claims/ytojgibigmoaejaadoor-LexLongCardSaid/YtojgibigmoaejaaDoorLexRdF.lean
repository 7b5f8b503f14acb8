/-
  LEX: the document's reader: variables: by contract.
-/
import Derived.Test.YtojgibigmoaejaaDoorLexRdE
namespace Go.Proofs.YtojgibigmoaejaaDoor.Lex
open Go.RowKit Go.Proofs.YtojgibigmoaejaaDoor.Utf
set_option linter.unusedSimpArgs false
set_option linter.unusedVariables false

theorem var_bad {z T : List Int} (hT : T = (z.drop 1).takeWhile letterB) (h : T.length = 0 ∨ smallB (T.getD 0 0) = false) : cutVar z = .bad 251 := by
  subst hT; unfold cutVar; rw [if_pos h]
theorem var_long {z T : List Int} (hT : T = (z.drop 1).takeWhile letterB) (h1 : ¬ T.length = 0) (h2 : smallB (T.getD 0 0) = true) (h3 : T.length > 64) : cutVar z = .bad 255 := by
  subst hT; unfold cutVar; rw [if_neg (by rw [h2]; simp only [h1, false_or]; decide), if_pos h3]
theorem var_ok {z T : List Int} (hT : T = (z.drop 1).takeWhile letterB) (h1 : ¬ T.length = 0) (h2 : smallB (T.getD 0 0) = true) (h3 : ¬ T.length > 64) : cutVar z = ⟨5, 0, T, 1 + T.length, 0⟩ := by
  subst hT; unfold cutVar; rw [if_neg (by rw [h2]; simp only [h1, false_or]; decide), if_neg h3]
set_option maxHeartbeats 4000000 in
set_option maxRecDepth 10000 in
theorem variableR_any (b : Nat) (zs : List Int) (hb : ∀ z ∈ zs, 0 ≤ z ∧ z < 256) (hl : zs.length ≤ 100000) (p : Nat) (hp : p < zs.length) (ws : List Wd) (hws : ws.length ≤ 1000000) (w : World) (h : RAt w b zs p p 0 ws) :
    Calls Tryd.prog 20 #[.pointer (some ⟨b, 0, none⟩)] w fun o w' => o = .returned (.tuple #[]) ∧ Below b w w' ∧ WordOut w' b zs p ws (cutVar (zs.drop p)) := by
  have hs : (strOfNums zs).size = zs.length := strOfNums_size zs
  have H := hid h
  obtain ⟨st, hst⟩ : ∃ st, st = p + 1 := ⟨_, rfl⟩
  have hstl : st ≤ zs.length := by omega
  obtain ⟨T, hT⟩ : ∃ T, T = (zs.drop st).takeWhile letterB := ⟨_, rfl⟩
  have HRUN0 : Hid (Run letterB T zs st st) := hid (hT ▸ run_start letterB zs st)
  have hT1 : T = ((zs.drop p).drop 1).takeWhile letterB := by rw [List.drop_drop, ← hst]; exact hT
  have HV1 := hid (fun h => var_bad hT1 h)
  have HV2 := hid (fun h1 h2 h3 => var_long hT1 h1 h2 h3)
  have HV3 := hid (fun h1 h2 h3 => var_ok hT1 h1 h2 h3)
  have HG := hid (fun i h => str_get hb i h)
  have HBY : Hid (∀ z, ∀ {q st : Nat}, z ∈ (zs.drop st).take (q - st) → 0 ≤ z ∧ z < 256) := hid fun z _ _ hz => hb z (List.mem_of_mem_drop (List.mem_of_mem_take hz))
  have AD := hid (fun (q : Nat) (e : Int) s ss hss W h => addR_any b zs q p e ws hws 5 0 s ss hss W h)
  generalize cutVar (zs.drop p) = c at *
  have c1 := H.out.c1
  have f1 := H.out.frozen 1
  have e1 : IntKind.i64.wrap ((p : Int) + 1) = (p : Int) + 1 := by rw [IntKind.wrap_i64]; omega
  have hc : (st : Int) = (p : Int) + 1 := by omega
  have R1 : Hid (RAt (w.setCell ⟨b, 1, none⟩ (.int .i64 ((p : Int) + 1))) b zs (st : Int) p 0 ws) := by show RAt _ _ _ _ _ _ _; rw [← hc]; exact H.out.set1 _
  have B1 := hid ((Below.refl b w).setCell (p := ⟨b, 1, none⟩) (Nat.le_refl _) (.int .i64 ((p : Int) + 1)))
  have d1 := R1.out.c1
  rw [hc] at d1
  clear h hb hws hT hT1 H
  go_enter Tryd.func20, Tryd.ntmps20
  go_wp2
  clear c1 f1 e1 d1
  go_loopw [] (fun wr => ∃ q : Nat, st ≤ q ∧ q ≤ zs.length ∧ Hid (RAt wr b zs q p 0 ws) ∧ Hid (Below b w wr) ∧ Hid (Run letterB T zs st q)) (fun wr => zs.length - plc wr b)
  case atStart => exact ⟨st, Nat.le_refl _, hstl, R1, B1, hid HRUN0.out⟩
  case round =>
    obtain ⟨q, hsq, hql, HR, HBw, HRun⟩ := hrel
    have c0 := HR.out.c0
    have c1 := HR.out.c1
    have HPC := hid HR.out.plc
    by_cases hlt : q < zs.length
    · have hqi : (q : Int) < (zs.length : Int) := by omega
      have i0 : (((strOfNums zs)[q]'(by rw [hs]; exact hlt)).toNat : Int) = zs.getD q 0 := HG.out q _
      have LT := hid (fun n => letter_c (zs.getD q 0) (wr.drewN n))
      cases hx : letterB (zs.getD q 0) with
      | true =>
        rw [hx] at LT
        have HRun2 := hid (run_step hsq hlt hx HRun.out)
        obtain ⟨x, hxx⟩ : ∃ x, x = zs.getD q 0 := ⟨_, rfl⟩
        rw [← hxx] at i0 LT
        clear hxx hx HRun
        go_wp2
        go_quiet ((go_at_call 39; exact Calls.quiet_of_same (LT.out _)))
        have R2 := hid (HR.out.drew nq)
        have B2 := hid (drewL HBw.out nq)
        clear HR HBw c0 c1 LT i0
        generalize hu : wr.drewN nq = u at *
        clear hu
        have c1 := R2.out.c1
        have f1 := R2.out.frozen 1
        obtain ⟨q', hq'⟩ : ∃ q', q' = q + 1 := ⟨_, rfl⟩
        have e2 : IntKind.i64.wrap ((q : Int) + 1) = (q : Int) + 1 := by rw [IntKind.wrap_i64]; omega
        have hc : (q' : Int) = (q : Int) + 1 := by omega
        have R3 : Hid (RAt (u.setCell ⟨b, 1, none⟩ (.int .i64 ((q : Int) + 1))) b zs (q' : Int) p 0 ws) := by show RAt _ _ _ _ _ _ _; rw [← hc]; exact R2.out.set1 _
        have B3 := hid (B2.out.setCell (p := ⟨b, 1, none⟩) (Nat.le_refl _) (.int .i64 ((q : Int) + 1)))
        have HM := hid R3.out.plc
        clear R2 B2
        go_wp2
        go_roundw
        case rel => exact ⟨q', by omega, by omega, R3, B3, by rw [hq']; exact HRun2⟩
        case measure => rw [HM.out, HPC.out]; omega
      | false =>
        rw [hx] at LT
        have hstop : q = zs.length ∨ q < zs.length ∧ letterB (zs.getD q 0) = false := .inr ⟨hlt, hx⟩
        obtain ⟨x, hxx⟩ : ∃ x, x = zs.getD q 0 := ⟨_, rfl⟩
        rw [← hxx] at i0 LT
        clear hx hxx
        go_wp2
        go_quiet ((go_at_call 39; exact Calls.quiet_of_same (LT.out _)))
        clear i0 hlt hqi
        have R2 := hid (HR.out.drew nq)
        have B2 := hid (drewL HBw.out nq)
        clear HR HBw c0 c1 LT
        generalize hu : wr.drewN nq = u at *
        clear hu
        obtain ⟨hT, hTl⟩ := run_stop hsq hql hstop HRun.out
        have hxs := run_str hsq hT
        rw [hst] at hxs
        have HTT := hid hT
        clear HRun hT hstop
        have c0 := R2.out.c0
        have c1 := R2.out.c1
        have hql' : (q : Int) ≤ (zs.length : Int) := by omega
        have hsq' : (p : Int) + 1 ≤ (q : Int) := by omega
        have hsq0 : 0 ≤ (p : Int) + 1 := by omega
        have htn : ((p : Int) + 1).toNat = st := by omega
        have hs2 : (strOfNums T).size = T.length := strOfNums_size T
        go_wp2
        go_quiet (fail)
        have R3 := hid (R2.out.drew nq)
        have B3 := hid (drewL B2.out nq)
        clear R2 B2 c0 c1
        generalize hu : u.drewN nq = u3 at *
        clear hu
        clear hxs
        have c3 := R3.out.c3
        have f3 := R3.out.frozen 3
        obtain ⟨s, hsT⟩ : ∃ s, s = strOfNums T := ⟨_, rfl⟩
        rw [← hsT] at hs2 ⊢
        have HST := hid hsT
        have he := str_empty T
        rw [← hsT] at he
        have HG0 := hid (fun i h => str_get (zs := T) (fun z hz => HBY.out z (HTT.out ▸ hz)) i h)
        clear hsT
        by_cases hz : T.length = 0
        · have he1 : s.toList.isEmpty = true := by rw [he]; simp [hz]
          have HC := hid (HV1.out (.inl hz))
          have R4 := hid (R3.out.set3 251)
          have B4 := hid (B3.out.setCell (p := ⟨b, 3, none⟩) (Nat.le_refl _) (.int .i64 251))
          clear he HG0 R3 B3 HV1 HV2 HV3 AD hz
          go_wp2
          refine bodyPost_ret (v := .tuple #[]) (by simp [results, Tryd.results20, go_sem]) rfl ⟨rfl, B4.out, ?_⟩
          rw [HC.out]
          exact ⟨q, ws, R4.out, fun h => by cases h⟩
        · have he1 : s.toList.isEmpty = false := by rw [he]; simp [hz]
          have hpos : 0 < s.size := by rw [hs2]; omega
          have hpos2 : (0 : Int) < (T.length : Int) := by omega
          have g0 : ((s[0]'hpos).toNat : Int) = T.getD 0 0 := by subst_vars; exact str_get (fun z hz => HBY.out z (HTT.out ▸ hz)) 0 _
          have WB := hid (fun W => within_c (T.getD 0 0) 97 122 W)
          have hsm : smallB (T.getD 0 0) = (decide (97 ≤ T.getD 0 0) && decide (T.getD 0 0 ≤ 122)) := rfl
          rw [← hsm] at WB
          clear he HG0 hsm
          cases hq : smallB (T.getD 0 0) with
          | false =>
            rw [hq] at WB
            have HC := hid (HV1.out (.inr hq))
            have R4 := hid (R3.out.set3 251)
            have B4 := hid (B3.out.setCell (p := ⟨b, 3, none⟩) (Nat.le_refl _) (.int .i64 251))
            clear R3 B3 HV1 HV2 HV3 AD hz hq
            generalize T.getD 0 0 = t0 at *
            go_wp2_with fail
            refine (WB.out _).mono ?_
            rintro o w' ⟨rfl, rfl⟩
            go_wp2
            refine bodyPost_ret (v := .tuple #[]) (by simp [results, Tryd.results20, go_sem]) rfl ⟨rfl, B4.out, ?_⟩
            rw [HC.out]
            exact ⟨q, ws, R4.out, fun h => by cases h⟩
          | true =>
            rw [hq] at WB
            by_cases h64 : T.length > 64
            · have h64i : (T.length : Int) > 64 := by omega
              have HC := hid (HV2.out hz hq h64)
              have R4 := hid (R3.out.set3 255)
              have B4 := hid (B3.out.setCell (p := ⟨b, 3, none⟩) (Nat.le_refl _) (.int .i64 255))
              have A4 := hid (AD.out q 255 s T HST.out _ R4.out)
              clear R3 B3 HV1 HV2 HV3 AD hz hq h64
              generalize T.getD 0 0 = t0 at *
              go_wp2_with fail
              refine (WB.out _).mono ?_
              rintro o w' ⟨rfl, rfl⟩
              go_wp2_with fail
              refine A4.out.mono ?_
              rintro o u9 ⟨rfl, hb9, hr9⟩
              have B9 := hid (B4.out.trans hb9)
              have R9 := hid hr9
              clear hb9 hr9
              go_wp2
              go_end0
              refine ⟨rfl, B9.out, ?_⟩
              rw [HC.out]
              exact ⟨q, _, R9.out, fun h => by cases h⟩
            · have h64i : ¬ (T.length : Int) > 64 := by omega
              have HC := hid (HV3.out hz hq h64)
              have A4 := hid (AD.out q 0 s T HST.out _ R3.out)
              have HQ : Hid (q = p + (1 + T.length)) := by show _ = _; omega
              clear R3 HV1 HV2 HV3 AD hz hq h64
              generalize T.getD 0 0 = t0 at *
              go_wp2_with fail
              refine (WB.out _).mono ?_
              rintro o w' ⟨rfl, rfl⟩
              go_wp2_with fail
              refine A4.out.mono ?_
              rintro o u9 ⟨rfl, hb9, hr9⟩
              have B9 := hid (B3.out.trans hb9)
              have R9 := hid hr9
              clear hb9 hr9
              go_wp2
              go_end0
              refine ⟨rfl, B9.out, ?_⟩
              rw [HC.out]
              exact ⟨q, _, R9.out, fun _ => ⟨HQ.out, rfl⟩⟩
    · obtain rfl : q = zs.length := by omega
      have LT := hid trivial
      go_wp2
      go_quiet (fail)
      clear hlt
      obtain ⟨q, hqz⟩ : ∃ q, q = zs.length := ⟨_, rfl⟩
      have HQZ := hid hqz
      rw [← hqz] at HR HRun hsq
      have hstop : q = zs.length ∨ q < zs.length ∧ letterB (zs.getD q 0) = false := .inl hqz
      have hql : q ≤ zs.length := by omega
      clear hqz
      have R2 := hid (HR.out.drew nq)
      have B2 := hid (drewL HBw.out nq)
      clear HR HBw c0 c1 LT
      generalize hu : wr.drewN nq = u at *
      clear hu
      obtain ⟨hT, hTl⟩ := run_stop hsq hql hstop HRun.out
      have hxs := run_str hsq hT
      rw [hst] at hxs
      have HTT := hid hT
      clear HRun hT hstop
      have c0 := R2.out.c0
      have c1 := R2.out.c1
      have hql' : (q : Int) ≤ (zs.length : Int) := by omega
      have hsq' : (p : Int) + 1 ≤ (q : Int) := by omega
      have hsq0 : 0 ≤ (p : Int) + 1 := by omega
      have htn : ((p : Int) + 1).toNat = st := by omega
      have hs2 : (strOfNums T).size = T.length := strOfNums_size T
      go_wp2
      go_quiet (fail)
      have R3 := hid (R2.out.drew nq)
      have B3 := hid (drewL B2.out nq)
      clear R2 B2 c0 c1
      generalize hu : u.drewN nq = u3 at *
      clear hu
      clear hxs
      have c3 := R3.out.c3
      have f3 := R3.out.frozen 3
      obtain ⟨s, hsT⟩ : ∃ s, s = strOfNums T := ⟨_, rfl⟩
      rw [← hsT] at hs2 ⊢
      have HST := hid hsT
      have he := str_empty T
      rw [← hsT] at he
      have HG0 := hid (fun i h => str_get (zs := T) (fun z hz => HBY.out z (HTT.out ▸ hz)) i h)
      clear hsT
      by_cases hz : T.length = 0
      · have he1 : s.toList.isEmpty = true := by rw [he]; simp [hz]
        have HC := hid (HV1.out (.inl hz))
        have R4 := hid (R3.out.set3 251)
        have B4 := hid (B3.out.setCell (p := ⟨b, 3, none⟩) (Nat.le_refl _) (.int .i64 251))
        clear he HG0 R3 B3 HV1 HV2 HV3 AD hz
        go_wp2
        refine bodyPost_ret (v := .tuple #[]) (by simp [results, Tryd.results20, go_sem]) rfl ⟨rfl, B4.out, ?_⟩
        rw [HC.out]
        exact ⟨q, ws, R4.out, fun h => by cases h⟩
      · have he1 : s.toList.isEmpty = false := by rw [he]; simp [hz]
        have hpos : 0 < s.size := by rw [hs2]; omega
        have hpos2 : (0 : Int) < (T.length : Int) := by omega
        have g0 : ((s[0]'hpos).toNat : Int) = T.getD 0 0 := by subst_vars; exact str_get (fun z hz => HBY.out z (HTT.out ▸ hz)) 0 _
        have WB := hid (fun W => within_c (T.getD 0 0) 97 122 W)
        have hsm : smallB (T.getD 0 0) = (decide (97 ≤ T.getD 0 0) && decide (T.getD 0 0 ≤ 122)) := rfl
        rw [← hsm] at WB
        clear he HG0 hsm
        cases hq : smallB (T.getD 0 0) with
        | false =>
          rw [hq] at WB
          have HC := hid (HV1.out (.inr hq))
          have R4 := hid (R3.out.set3 251)
          have B4 := hid (B3.out.setCell (p := ⟨b, 3, none⟩) (Nat.le_refl _) (.int .i64 251))
          clear R3 B3 HV1 HV2 HV3 AD hz hq
          generalize T.getD 0 0 = t0 at *
          go_wp2_with fail
          refine (WB.out _).mono ?_
          rintro o w' ⟨rfl, rfl⟩
          go_wp2
          refine bodyPost_ret (v := .tuple #[]) (by simp [results, Tryd.results20, go_sem]) rfl ⟨rfl, B4.out, ?_⟩
          rw [HC.out]
          exact ⟨q, ws, R4.out, fun h => by cases h⟩
        | true =>
          rw [hq] at WB
          by_cases h64 : T.length > 64
          · have h64i : (T.length : Int) > 64 := by omega
            have HC := hid (HV2.out hz hq h64)
            have R4 := hid (R3.out.set3 255)
            have B4 := hid (B3.out.setCell (p := ⟨b, 3, none⟩) (Nat.le_refl _) (.int .i64 255))
            have A4 := hid (AD.out q 255 s T HST.out _ R4.out)
            clear R3 B3 HV1 HV2 HV3 AD hz hq h64
            generalize T.getD 0 0 = t0 at *
            go_wp2_with fail
            refine (WB.out _).mono ?_
            rintro o w' ⟨rfl, rfl⟩
            go_wp2_with fail
            refine A4.out.mono ?_
            rintro o u9 ⟨rfl, hb9, hr9⟩
            have B9 := hid (B4.out.trans hb9)
            have R9 := hid hr9
            clear hb9 hr9
            go_wp2
            go_end0
            refine ⟨rfl, B9.out, ?_⟩
            rw [HC.out]
            exact ⟨q, _, R9.out, fun h => by cases h⟩
          · have h64i : ¬ (T.length : Int) > 64 := by omega
            have HC := hid (HV3.out hz hq h64)
            have A4 := hid (AD.out q 0 s T HST.out _ R3.out)
            have HQ : Hid (q = p + (1 + T.length)) := by show _ = _; omega
            clear R3 HV1 HV2 HV3 AD hz hq h64
            generalize T.getD 0 0 = t0 at *
            go_wp2_with fail
            refine (WB.out _).mono ?_
            rintro o w' ⟨rfl, rfl⟩
            go_wp2_with fail
            refine A4.out.mono ?_
            rintro o u9 ⟨rfl, hb9, hr9⟩
            have B9 := hid (B3.out.trans hb9)
            have R9 := hid hr9
            clear hb9 hr9
            go_wp2
            go_end0
            refine ⟨rfl, B9.out, ?_⟩
            rw [HC.out]
            exact ⟨q, _, R9.out, fun _ => ⟨HQ.out, rfl⟩⟩
end Go.Proofs.YtojgibigmoaejaaDoor.Lex
