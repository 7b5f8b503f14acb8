/-
  LEX: the document's reader: names: by contract.
-/
import Derived.Test.YtojgibigmoaejaaDoorLexRdF
namespace Go.Proofs.YtojgibigmoaejaaDoor.Lex
open Go.RowKit Go.Proofs.YtojgibigmoaejaaDoor.Utf
set_option linter.unusedSimpArgs false
set_option linter.unusedVariables false

/-- What a word is that begins like a name. -/
def cutNC (z : List Int) : Cut := if greatB (z.getD 0 0) then cutCon z else cutName z
theorem keys_low : ∀ k ∈ keysL, k.length ≤ 64 ∧ greatB (k.getD 0 0) = false := by decide
theorem keys_not {T : List Int} (h : T.length > 64) : keysL.contains T = false := by
  cases hc : keysL.contains T with
  | false => rfl
  | true => have := (keys_low T (by simpa using hc)).1; omega
theorem tw_head {z : List Int} (h0 : z ≠ []) (h : letterB (z.getD 0 0) = true) : (z.takeWhile letterB).getD 0 0 = z.getD 0 0 := by
  cases z with
  | nil => simp at h0
  | cons c t =>
    simp only [List.getD_cons_zero] at h ⊢
    rw [List.takeWhile_cons, if_pos h]; rfl
theorem nc_long {z T : List Int} (hT : T = z.takeWhile letterB) (h : T.length > 64) : cutNC z = .bad 255 := by
  subst hT; unfold cutNC cutCon cutName
  have h2 := keys_not h
  have h3 : ¬ z.takeWhile letterB = [95] := by intro hh; rw [hh] at h; simp at h
  by_cases hg : greatB (z.getD 0 0) = true
  · rw [if_pos hg, if_pos h]
  · rw [if_neg hg, if_neg h3, if_neg (by rw [h2]; decide), if_pos h]
theorem nc_key {z T : List Int} (hT : T = z.takeWhile letterB) (h0 : T.getD 0 0 = z.getD 0 0) (h : keysL.contains T = true) : cutNC z = ⟨6, 0, T, T.length, 0⟩ := by
  have h1 := keys_low T (by simpa using h)
  rw [h0] at h1
  subst hT; unfold cutNC cutName
  rw [if_neg (by rw [h1.2]; decide), if_neg (by intro hh; rw [hh] at h; exact absurd h (by decide)), if_pos h]
theorem nc_under {z T : List Int} (hT : T = z.takeWhile letterB) (h0 : T.getD 0 0 = z.getD 0 0) (hz : z ≠ []) (h : T = [95]) : cutNC z = ⟨7, 0, T, T.length, 0⟩ := by
  have hz0 : z.getD 0 0 = 95 := by rw [← h0, h]; rfl
  unfold cutNC cutName
  rw [if_neg (by rw [hz0]; decide), ← hT, if_pos h]
  subst h
  cases z with
  | nil => simp at hz
  | cons c t =>
    simp only [List.getD_cons_zero] at hz0
    subst hz0
    simp [cutSign, signsL]
theorem nc_con {z T : List Int} (hT : T = z.takeWhile letterB) (h0 : T.getD 0 0 = z.getD 0 0) (h1 : ¬ T.length > 64) (h : greatB (T.getD 0 0) = true) : cutNC z = ⟨4, 0, T, T.length, 0⟩ := by
  rw [h0] at h
  subst hT; unfold cutNC cutCon
  rw [if_pos h, if_neg h1]
theorem nc_name {z T : List Int} (hT : T = z.takeWhile letterB) (h0 : T.getD 0 0 = z.getD 0 0) (h1 : ¬ T.length > 64) (h2 : keysL.contains T = false) (h3 : ¬ T = [95]) (h : greatB (T.getD 0 0) = false) : cutNC z = ⟨3, 0, T, T.length, 0⟩ := by
  rw [h0] at h
  subst hT; unfold cutNC cutName
  rw [if_neg (by rw [h]; decide), if_neg h3, if_neg (by rw [h2]; decide), if_neg h1]
set_option maxHeartbeats 4000000 in
set_option maxRecDepth 10000 in
theorem nameR_any (b : Nat) (zs : List Int) (hb : ∀ z ∈ zs, 0 ≤ z ∧ z < 256) (hl : zs.length ≤ 100000) (p : Nat) (hp : p < zs.length) (hx0 : letterB (zs.getD p 0) = true) (ws : List Wd) (hws : ws.length ≤ 1000000) (w : World) (h : RAt w b zs p p 0 ws) :
    Calls Tryd.prog 18 #[.pointer (some ⟨b, 0, none⟩)] w fun o w' => o = .returned (.tuple #[]) ∧ Below b w w' ∧ WordOut w' b zs p ws (cutNC (zs.drop p)) := by
  have hs : (strOfNums zs).size = zs.length := strOfNums_size zs
  obtain ⟨st, hst⟩ : ∃ st, st = p := ⟨_, rfl⟩
  have R1 : Hid (RAt w b zs (st : Int) (p : Int) 0 ws) := by rw [hst]; exact hid h
  have hstl : st ≤ zs.length := by omega
  have hdn : zs.drop p ≠ [] := by intro hh; have := congrArg List.length hh; simp at this; omega
  have hd0 : (zs.drop p).getD 0 0 = zs.getD p 0 := by simp [List.getD_eq_getElem?_getD]
  obtain ⟨T, hT⟩ : ∃ T, T = (zs.drop p).takeWhile letterB := ⟨_, rfl⟩
  have HRUN0 : Hid (Run letterB T zs st st) := hid (by rw [hst, hT]; exact run_start letterB zs p)
  have hT0 : T.getD 0 0 = (zs.drop p).getD 0 0 := by rw [hT]; exact tw_head hdn (by rw [hd0]; exact hx0)
  have HTP : Hid (T.length = T.length - 1 + 1) := by
    have := head_takeWhile (p := letterB) hdn (by rw [hd0]; exact hx0)
    rw [← hT] at this
    show _ = _; omega
  have HVL := hid (fun h => nc_long hT h)
  have HKL := hid (fun h => keys_not (T := T) h)
  have HVK := hid (fun h => nc_key hT hT0 h)
  have HVU := hid (fun h => nc_under hT hT0 hdn h)
  have HVC := hid (fun h1 h => nc_con hT hT0 h1 h)
  have HVN := hid (fun h1 h2 h3 h => nc_name hT hT0 h1 h2 h3 h)
  have HG := hid (fun i h => str_get hb i h)
  have HBY : Hid (∀ z, ∀ {q st : Nat}, z ∈ (zs.drop st).take (q - st) → 0 ≤ z ∧ z < 256) := hid fun z _ _ hz => hb z (List.mem_of_mem_drop (List.mem_of_mem_take hz))
  have AD := hid (fun (q : Nat) (e k : Int) s ss hss W h => addR_any b zs q p e ws hws k 0 s ss hss W h)
  generalize cutNC (zs.drop p) = c at *
  have B1 := hid (Below.refl b w)
  clear h hb hws hT hT0 hdn hd0 hx0
  go_enter Tryd.func18, Tryd.ntmps18
  go_wp2
  go_loopw [] (fun wr => ∃ q : Nat, st ≤ q ∧ q ≤ zs.length ∧ Hid (RAt wr b zs q p 0 ws) ∧ Hid (Below b w wr) ∧ Hid (Run letterB T zs st q)) (fun wr => zs.length - plc wr b)
  case atStart => exact ⟨st, Nat.le_refl _, hstl, R1, B1, hid HRUN0.out⟩
  case round =>
    obtain ⟨q, hsq, hql, HR, HBw, HRun⟩ := hrel
    have c0 := HR.out.c0
    have c1 := HR.out.c1
    have HPC := hid HR.out.plc
    by_cases hlt : q < zs.length
    · have hqi : (q : Int) < (zs.length : Int) := by omega
      have i0 : (((strOfNums zs)[q]'(by rw [hs]; exact hlt)).toNat : Int) = zs.getD q 0 := HG.out q _
      have LT := hid (fun n => letter_c (zs.getD q 0) (wr.drewN n))
      cases hx : letterB (zs.getD q 0) with
      | true =>
        rw [hx] at LT
        have HRun2 := hid (run_step hsq hlt hx HRun.out)
        obtain ⟨x, hxx⟩ : ∃ x, x = zs.getD q 0 := ⟨_, rfl⟩
        rw [← hxx] at i0 LT
        clear hxx hx HRun
        go_wp2
        go_quiet ((go_at_call 39; exact Calls.quiet_of_same (LT.out _)))
        have R2 := hid (HR.out.drew nq)
        have B2 := hid (drewL HBw.out nq)
        clear HR HBw c0 c1 LT i0
        generalize hu : wr.drewN nq = u at *
        clear hu
        have c1 := R2.out.c1
        have f1 := R2.out.frozen 1
        obtain ⟨q', hq'⟩ : ∃ q', q' = q + 1 := ⟨_, rfl⟩
        have e2 : IntKind.i64.wrap ((q : Int) + 1) = (q : Int) + 1 := by rw [IntKind.wrap_i64]; omega
        have hc : (q' : Int) = (q : Int) + 1 := by omega
        have R3 : Hid (RAt (u.setCell ⟨b, 1, none⟩ (.int .i64 ((q : Int) + 1))) b zs (q' : Int) p 0 ws) := by show RAt _ _ _ _ _ _ _; rw [← hc]; exact R2.out.set1 _
        have B3 := hid (B2.out.setCell (p := ⟨b, 1, none⟩) (Nat.le_refl _) (.int .i64 ((q : Int) + 1)))
        have HM := hid R3.out.plc
        clear R2 B2
        go_wp2
        go_roundw
        case rel => exact ⟨q', by omega, by omega, R3, B3, by rw [hq']; exact HRun2⟩
        case measure => rw [HM.out, HPC.out]; omega
      | false =>
        rw [hx] at LT
        have hstop : q = zs.length ∨ q < zs.length ∧ letterB (zs.getD q 0) = false := .inr ⟨hlt, hx⟩
        obtain ⟨x, hxx⟩ : ∃ x, x = zs.getD q 0 := ⟨_, rfl⟩
        rw [← hxx] at i0 LT
        clear hx hxx
        go_wp2
        go_quiet ((go_at_call 39; exact Calls.quiet_of_same (LT.out _)))
        clear i0 hlt hqi
        have R2 := hid (HR.out.drew nq)
        have B2 := hid (drewL HBw.out nq)
        clear HR HBw c0 c1 LT
        generalize hu : wr.drewN nq = u at *
        clear hu
        obtain ⟨hT, hTl⟩ := run_stop hsq hql hstop HRun.out
        have hxs := run_str hsq hT
        rw [hst] at hxs
        have HTT := hid hT
        clear HRun hT hstop
        have c0 := R2.out.c0
        have c1 := R2.out.c1
        have c2 := R2.out.c2
        have hql' : (q : Int) ≤ (zs.length : Int) := by omega
        have hsq' : (p : Int) ≤ (q : Int) := by omega
        have hs2 : (strOfNums T).size = T.length := strOfNums_size T
        go_wp2
        go_quiet (fail)
        have R3 := hid (R2.out.drew nq)
        have B3 := hid (drewL B2.out nq)
        clear R2 B2 c0 c1 c2
        generalize hu : u.drewN nq = u3 at *
        clear hu
        have hTb : ∀ z ∈ T, 0 ≤ z ∧ z < 256 := fun z hz => HBY.out z (HTT.out ▸ hz)
        have KI := hid (fun b W (hc : StrsAt W b keysL) => in_any keys_bytes (by decide) T hTb b 0 20 20 rfl W hc)
        have KS := hid (fun W => keys_any W)
        have HU := hid (str_eq hTb (ys := [95]) (by decide))
        have hu : (strOfNums [95]).toList = [95] := by rw [Go.ByteArray.toList_eq]; rfl
        rw [hu] at HU
        clear hu
        have c3 := R3.out.c3
        have f3 := R3.out.frozen 3
        obtain ⟨s, hsT⟩ : ∃ s, s = strOfNums T := ⟨_, rfl⟩
        rw [← hsT] at hs2 KI HU ⊢
        have HST := hid hsT
        have hpos : 0 < s.size := by rw [hs2, HTP.out]; exact Nat.succ_pos _
        have hpos2 : (0 : Int) < (T.length : Int) := by rw [HTP.out]; omega
        have g0 : ((s[0]'hpos).toNat : Int) = T.getD 0 0 := by
          have := hid hTb
          clear HU KI HTP hTl hxs
          subst hsT
          exact str_get this.out 0 _
        have WA := hid (fun W => within_c (T.getD 0 0) 65 90 W)
        have hgr : greatB (T.getD 0 0) = (decide (65 ≤ T.getD 0 0) && decide (T.getD 0 0 ≤ 90)) := rfl
        rw [← hgr] at WA
        have HQ : Hid (q = p + T.length) := by show _ = _; omega
        clear hgr hsT hTb HTP HBY
        by_cases h64 : T.length > 64
        · have h64i : (T.length : Int) > 64 := by omega
          have HC := hid (HVL.out h64)
          have hk := HKL.out h64
          have hx : T ≠ [95] := by rintro h; rw [h] at h64; simp at h64
          have ht : (s.toList == [95]) = false := by rw [HU.out, decide_eq_false hx]
          rw [hk] at KI
          have R4 := hid (R3.out.set3 255)
          have B4 := hid (B3.out.setCell (p := ⟨b, 3, none⟩) (Nat.le_refl _) (.int .i64 255))
          clear R3 B3 HVL HVK HVU HVC HVN HU hx hk h64
          cases hg : greatB (T.getD 0 0) with
          | true =>
            rw [hg] at WA
            clear hg
            generalize T.getD 0 0 = t0 at *
            go_wp2_with fail
            refine (KS.out _).mono ?_
            rintro o w5 ⟨kb, rfl, hsa, hb5⟩
            have R5 := hid (R4.out.below hb5)
            have B5 := hid (B4.out.trans (hb5.mono (Nat.le_of_lt R4.out.lt)))
            clear hb5 KS R4 B4
            go_wp2_with fail
            refine (KI.out _ _ hsa).mono ?_
            rintro o w6 ⟨rfl, hb6⟩
            have R6 := hid (R5.out.below hb6)
            have B6 := hid (B5.out.trans (hb6.mono (Nat.le_of_lt R5.out.lt)))
            clear hb6 hsa R5 B5 KI
            have A6 := hid (AD.out q 255 4 s T HST.out _ R6.out)
            clear AD R6
            go_wp2_with fail
            refine (WA.out _).mono ?_
            rintro o w' ⟨rfl, rfl⟩
            clear WA
            go_wp2_with fail
            refine A6.out.mono ?_
            rintro o u9 ⟨rfl, hb9, hr9⟩
            have B9 := hid (B6.out.trans hb9)
            have R9 := hid hr9
            clear hb9 hr9 A6
            go_wp2
            go_end0
            refine ⟨rfl, B9.out, ?_⟩
            rw [HC.out]
            exact ⟨q, _, R9.out, fun h => by cases h⟩
          | false =>
            rw [hg] at WA
            clear hg
            generalize T.getD 0 0 = t0 at *
            go_wp2_with fail
            refine (KS.out _).mono ?_
            rintro o w5 ⟨kb, rfl, hsa, hb5⟩
            have R5 := hid (R4.out.below hb5)
            have B5 := hid (B4.out.trans (hb5.mono (Nat.le_of_lt R4.out.lt)))
            clear hb5 KS R4 B4
            go_wp2_with fail
            refine (KI.out _ _ hsa).mono ?_
            rintro o w6 ⟨rfl, hb6⟩
            have R6 := hid (R5.out.below hb6)
            have B6 := hid (B5.out.trans (hb6.mono (Nat.le_of_lt R5.out.lt)))
            clear hb6 hsa R5 B5 KI
            have A6 := hid (AD.out q 255 3 s T HST.out _ R6.out)
            clear AD R6
            go_wp2_with fail
            refine (WA.out _).mono ?_
            rintro o w' ⟨rfl, rfl⟩
            clear WA
            go_wp2_with fail
            refine A6.out.mono ?_
            rintro o u9 ⟨rfl, hb9, hr9⟩
            have B9 := hid (B6.out.trans hb9)
            have R9 := hid hr9
            clear hb9 hr9 A6
            go_wp2
            go_end0
            refine ⟨rfl, B9.out, ?_⟩
            rw [HC.out]
            exact ⟨q, _, R9.out, fun h => by cases h⟩
        have h64i : ¬ (T.length : Int) > 64 := by omega
        cases hk : keysL.contains T with
        | true =>
          have HC := hid (HVK.out hk)
          rw [hk] at KI
          clear HVL HVK HVU HVC HVN HU hk h64 HKL WA
          go_wp2_with fail
          refine (KS.out _).mono ?_
          rintro o w5 ⟨kb, rfl, hsa, hb5⟩
          have R5 := hid (R3.out.below hb5)
          have B5 := hid (B3.out.trans (hb5.mono (Nat.le_of_lt R3.out.lt)))
          clear hb5 KS R3 B3
          go_wp2_with fail
          refine (KI.out _ _ hsa).mono ?_
          rintro o w6 ⟨rfl, hb6⟩
          have R6 := hid (R5.out.below hb6)
          have B6 := hid (B5.out.trans (hb6.mono (Nat.le_of_lt R5.out.lt)))
          clear hb6 hsa R5 B5 KI
          have A6 := hid (AD.out q 0 6 s T HST.out _ R6.out)
          clear AD R6
          go_wp2_with fail
          refine A6.out.mono ?_
          rintro o u9 ⟨rfl, hb9, hr9⟩
          have B9 := hid (B6.out.trans hb9)
          have R9 := hid hr9
          clear hb9 hr9 A6
          go_wp2
          go_end0
          refine ⟨rfl, B9.out, ?_⟩
          rw [HC.out]
          exact ⟨q, _, R9.out, fun _ => ⟨HQ.out, rfl⟩⟩
        | false =>
          rw [hk] at KI
          by_cases hx : T = [95]
          · have ht : (s.toList == [95]) = true := by rw [HU.out, decide_eq_true hx]
            have HC := hid (HVU.out hx)
            clear HVL HVK HVU HVC HVN HU hk h64 HKL WA hx
            go_wp2_with fail
            refine (KS.out _).mono ?_
            rintro o w5 ⟨kb, rfl, hsa, hb5⟩
            have R5 := hid (R3.out.below hb5)
            have B5 := hid (B3.out.trans (hb5.mono (Nat.le_of_lt R3.out.lt)))
            clear hb5 KS R3 B3
            go_wp2_with fail
            refine (KI.out _ _ hsa).mono ?_
            rintro o w6 ⟨rfl, hb6⟩
            have R6 := hid (R5.out.below hb6)
            have B6 := hid (B5.out.trans (hb6.mono (Nat.le_of_lt R5.out.lt)))
            clear hb6 hsa R5 B5 KI
            have A6 := hid (AD.out q 0 7 s T HST.out _ R6.out)
            clear AD R6
            go_wp2_with fail
            refine A6.out.mono ?_
            rintro o u9 ⟨rfl, hb9, hr9⟩
            have B9 := hid (B6.out.trans hb9)
            have R9 := hid hr9
            clear hb9 hr9 A6
            go_wp2
            go_end0
            refine ⟨rfl, B9.out, ?_⟩
            rw [HC.out]
            exact ⟨q, _, R9.out, fun _ => ⟨HQ.out, rfl⟩⟩
          · have ht : (s.toList == [95]) = false := by rw [HU.out, decide_eq_false hx]
            cases hg : greatB (T.getD 0 0) with
            | true =>
              have HC := hid (HVC.out h64 hg)
              rw [hg] at WA
              clear HVL HVK HVU HVC HVN HU hk h64 HKL hx hg
              generalize T.getD 0 0 = t0 at *
              go_wp2_with fail
              refine (KS.out _).mono ?_
              rintro o w5 ⟨kb, rfl, hsa, hb5⟩
              have R5 := hid (R3.out.below hb5)
              have B5 := hid (B3.out.trans (hb5.mono (Nat.le_of_lt R3.out.lt)))
              clear hb5 KS R3 B3
              go_wp2_with fail
              refine (KI.out _ _ hsa).mono ?_
              rintro o w6 ⟨rfl, hb6⟩
              have R6 := hid (R5.out.below hb6)
              have B6 := hid (B5.out.trans (hb6.mono (Nat.le_of_lt R5.out.lt)))
              clear hb6 hsa R5 B5 KI
              have A6 := hid (AD.out q 0 4 s T HST.out _ R6.out)
              clear AD R6
              go_wp2_with fail
              refine (WA.out _).mono ?_
              rintro o w' ⟨rfl, rfl⟩
              clear WA
              go_wp2_with fail
              refine A6.out.mono ?_
              rintro o u9 ⟨rfl, hb9, hr9⟩
              have B9 := hid (B6.out.trans hb9)
              have R9 := hid hr9
              clear hb9 hr9 A6
              go_wp2
              go_end0
              refine ⟨rfl, B9.out, ?_⟩
              rw [HC.out]
              exact ⟨q, _, R9.out, fun _ => ⟨HQ.out, rfl⟩⟩
            | false =>
              have HC := hid (HVN.out h64 hk hx hg)
              rw [hg] at WA
              clear HVL HVK HVU HVC HVN HU hk h64 HKL hx hg
              generalize T.getD 0 0 = t0 at *
              go_wp2_with fail
              refine (KS.out _).mono ?_
              rintro o w5 ⟨kb, rfl, hsa, hb5⟩
              have R5 := hid (R3.out.below hb5)
              have B5 := hid (B3.out.trans (hb5.mono (Nat.le_of_lt R3.out.lt)))
              clear hb5 KS R3 B3
              go_wp2_with fail
              refine (KI.out _ _ hsa).mono ?_
              rintro o w6 ⟨rfl, hb6⟩
              have R6 := hid (R5.out.below hb6)
              have B6 := hid (B5.out.trans (hb6.mono (Nat.le_of_lt R5.out.lt)))
              clear hb6 hsa R5 B5 KI
              have A6 := hid (AD.out q 0 3 s T HST.out _ R6.out)
              clear AD R6
              go_wp2_with fail
              refine (WA.out _).mono ?_
              rintro o w' ⟨rfl, rfl⟩
              clear WA
              go_wp2_with fail
              refine A6.out.mono ?_
              rintro o u9 ⟨rfl, hb9, hr9⟩
              have B9 := hid (B6.out.trans hb9)
              have R9 := hid hr9
              clear hb9 hr9 A6
              go_wp2
              go_end0
              refine ⟨rfl, B9.out, ?_⟩
              rw [HC.out]
              exact ⟨q, _, R9.out, fun _ => ⟨HQ.out, rfl⟩⟩
    · obtain rfl : q = zs.length := by omega
      have LT := hid trivial
      go_wp2
      go_quiet (fail)
      clear hlt
      obtain ⟨q, hqz⟩ : ∃ q, q = zs.length := ⟨_, rfl⟩
      have HQZ := hid hqz
      rw [← hqz] at HR HRun hsq
      have hstop : q = zs.length ∨ q < zs.length ∧ letterB (zs.getD q 0) = false := .inl hqz
      have hql : q ≤ zs.length := by omega
      clear hqz
      have R2 := hid (HR.out.drew nq)
      have B2 := hid (drewL HBw.out nq)
      clear HR HBw c0 c1 LT
      generalize hu : wr.drewN nq = u at *
      clear hu
      obtain ⟨hT, hTl⟩ := run_stop hsq hql hstop HRun.out
      have hxs := run_str hsq hT
      rw [hst] at hxs
      have HTT := hid hT
      clear HRun hT hstop
      have c0 := R2.out.c0
      have c1 := R2.out.c1
      have c2 := R2.out.c2
      have hql' : (q : Int) ≤ (zs.length : Int) := by omega
      have hsq' : (p : Int) ≤ (q : Int) := by omega
      have hs2 : (strOfNums T).size = T.length := strOfNums_size T
      go_wp2
      go_quiet (fail)
      have R3 := hid (R2.out.drew nq)
      have B3 := hid (drewL B2.out nq)
      clear R2 B2 c0 c1 c2
      generalize hu : u.drewN nq = u3 at *
      clear hu
      have hTb : ∀ z ∈ T, 0 ≤ z ∧ z < 256 := fun z hz => HBY.out z (HTT.out ▸ hz)
      have KI := hid (fun b W (hc : StrsAt W b keysL) => in_any keys_bytes (by decide) T hTb b 0 20 20 rfl W hc)
      have KS := hid (fun W => keys_any W)
      have HU := hid (str_eq hTb (ys := [95]) (by decide))
      have hu : (strOfNums [95]).toList = [95] := by rw [Go.ByteArray.toList_eq]; rfl
      rw [hu] at HU
      clear hu
      have c3 := R3.out.c3
      have f3 := R3.out.frozen 3
      obtain ⟨s, hsT⟩ : ∃ s, s = strOfNums T := ⟨_, rfl⟩
      rw [← hsT] at hs2 KI HU ⊢
      have HST := hid hsT
      have hpos : 0 < s.size := by rw [hs2, HTP.out]; exact Nat.succ_pos _
      have hpos2 : (0 : Int) < (T.length : Int) := by rw [HTP.out]; omega
      have g0 : ((s[0]'hpos).toNat : Int) = T.getD 0 0 := by
        have := hid hTb
        clear HU KI HTP hTl hxs
        subst hsT
        exact str_get this.out 0 _
      have WA := hid (fun W => within_c (T.getD 0 0) 65 90 W)
      have hgr : greatB (T.getD 0 0) = (decide (65 ≤ T.getD 0 0) && decide (T.getD 0 0 ≤ 90)) := rfl
      rw [← hgr] at WA
      have HQ : Hid (q = p + T.length) := by show _ = _; omega
      clear hgr hsT hTb HTP HBY
      by_cases h64 : T.length > 64
      · have h64i : (T.length : Int) > 64 := by omega
        have HC := hid (HVL.out h64)
        have hk := HKL.out h64
        have hx : T ≠ [95] := by rintro h; rw [h] at h64; simp at h64
        have ht : (s.toList == [95]) = false := by rw [HU.out, decide_eq_false hx]
        rw [hk] at KI
        have R4 := hid (R3.out.set3 255)
        have B4 := hid (B3.out.setCell (p := ⟨b, 3, none⟩) (Nat.le_refl _) (.int .i64 255))
        clear R3 B3 HVL HVK HVU HVC HVN HU hx hk h64
        cases hg : greatB (T.getD 0 0) with
        | true =>
          rw [hg] at WA
          clear hg
          generalize T.getD 0 0 = t0 at *
          go_wp2_with fail
          refine (KS.out _).mono ?_
          rintro o w5 ⟨kb, rfl, hsa, hb5⟩
          have R5 := hid (R4.out.below hb5)
          have B5 := hid (B4.out.trans (hb5.mono (Nat.le_of_lt R4.out.lt)))
          clear hb5 KS R4 B4
          go_wp2_with fail
          refine (KI.out _ _ hsa).mono ?_
          rintro o w6 ⟨rfl, hb6⟩
          have R6 := hid (R5.out.below hb6)
          have B6 := hid (B5.out.trans (hb6.mono (Nat.le_of_lt R5.out.lt)))
          clear hb6 hsa R5 B5 KI
          have A6 := hid (AD.out q 255 4 s T HST.out _ R6.out)
          clear AD R6
          go_wp2_with fail
          refine (WA.out _).mono ?_
          rintro o w' ⟨rfl, rfl⟩
          clear WA
          go_wp2_with fail
          refine A6.out.mono ?_
          rintro o u9 ⟨rfl, hb9, hr9⟩
          have B9 := hid (B6.out.trans hb9)
          have R9 := hid hr9
          clear hb9 hr9 A6
          go_wp2
          go_end0
          refine ⟨rfl, B9.out, ?_⟩
          rw [HC.out]
          exact ⟨q, _, R9.out, fun h => by cases h⟩
        | false =>
          rw [hg] at WA
          clear hg
          generalize T.getD 0 0 = t0 at *
          go_wp2_with fail
          refine (KS.out _).mono ?_
          rintro o w5 ⟨kb, rfl, hsa, hb5⟩
          have R5 := hid (R4.out.below hb5)
          have B5 := hid (B4.out.trans (hb5.mono (Nat.le_of_lt R4.out.lt)))
          clear hb5 KS R4 B4
          go_wp2_with fail
          refine (KI.out _ _ hsa).mono ?_
          rintro o w6 ⟨rfl, hb6⟩
          have R6 := hid (R5.out.below hb6)
          have B6 := hid (B5.out.trans (hb6.mono (Nat.le_of_lt R5.out.lt)))
          clear hb6 hsa R5 B5 KI
          have A6 := hid (AD.out q 255 3 s T HST.out _ R6.out)
          clear AD R6
          go_wp2_with fail
          refine (WA.out _).mono ?_
          rintro o w' ⟨rfl, rfl⟩
          clear WA
          go_wp2_with fail
          refine A6.out.mono ?_
          rintro o u9 ⟨rfl, hb9, hr9⟩
          have B9 := hid (B6.out.trans hb9)
          have R9 := hid hr9
          clear hb9 hr9 A6
          go_wp2
          go_end0
          refine ⟨rfl, B9.out, ?_⟩
          rw [HC.out]
          exact ⟨q, _, R9.out, fun h => by cases h⟩
      have h64i : ¬ (T.length : Int) > 64 := by omega
      cases hk : keysL.contains T with
      | true =>
        have HC := hid (HVK.out hk)
        rw [hk] at KI
        clear HVL HVK HVU HVC HVN HU hk h64 HKL WA
        go_wp2_with fail
        refine (KS.out _).mono ?_
        rintro o w5 ⟨kb, rfl, hsa, hb5⟩
        have R5 := hid (R3.out.below hb5)
        have B5 := hid (B3.out.trans (hb5.mono (Nat.le_of_lt R3.out.lt)))
        clear hb5 KS R3 B3
        go_wp2_with fail
        refine (KI.out _ _ hsa).mono ?_
        rintro o w6 ⟨rfl, hb6⟩
        have R6 := hid (R5.out.below hb6)
        have B6 := hid (B5.out.trans (hb6.mono (Nat.le_of_lt R5.out.lt)))
        clear hb6 hsa R5 B5 KI
        have A6 := hid (AD.out q 0 6 s T HST.out _ R6.out)
        clear AD R6
        go_wp2_with fail
        refine A6.out.mono ?_
        rintro o u9 ⟨rfl, hb9, hr9⟩
        have B9 := hid (B6.out.trans hb9)
        have R9 := hid hr9
        clear hb9 hr9 A6
        go_wp2
        go_end0
        refine ⟨rfl, B9.out, ?_⟩
        rw [HC.out]
        exact ⟨q, _, R9.out, fun _ => ⟨HQ.out, rfl⟩⟩
      | false =>
        rw [hk] at KI
        by_cases hx : T = [95]
        · have ht : (s.toList == [95]) = true := by rw [HU.out, decide_eq_true hx]
          have HC := hid (HVU.out hx)
          clear HVL HVK HVU HVC HVN HU hk h64 HKL WA hx
          go_wp2_with fail
          refine (KS.out _).mono ?_
          rintro o w5 ⟨kb, rfl, hsa, hb5⟩
          have R5 := hid (R3.out.below hb5)
          have B5 := hid (B3.out.trans (hb5.mono (Nat.le_of_lt R3.out.lt)))
          clear hb5 KS R3 B3
          go_wp2_with fail
          refine (KI.out _ _ hsa).mono ?_
          rintro o w6 ⟨rfl, hb6⟩
          have R6 := hid (R5.out.below hb6)
          have B6 := hid (B5.out.trans (hb6.mono (Nat.le_of_lt R5.out.lt)))
          clear hb6 hsa R5 B5 KI
          have A6 := hid (AD.out q 0 7 s T HST.out _ R6.out)
          clear AD R6
          go_wp2_with fail
          refine A6.out.mono ?_
          rintro o u9 ⟨rfl, hb9, hr9⟩
          have B9 := hid (B6.out.trans hb9)
          have R9 := hid hr9
          clear hb9 hr9 A6
          go_wp2
          go_end0
          refine ⟨rfl, B9.out, ?_⟩
          rw [HC.out]
          exact ⟨q, _, R9.out, fun _ => ⟨HQ.out, rfl⟩⟩
        · have ht : (s.toList == [95]) = false := by rw [HU.out, decide_eq_false hx]
          cases hg : greatB (T.getD 0 0) with
          | true =>
            have HC := hid (HVC.out h64 hg)
            rw [hg] at WA
            clear HVL HVK HVU HVC HVN HU hk h64 HKL hx hg
            generalize T.getD 0 0 = t0 at *
            go_wp2_with fail
            refine (KS.out _).mono ?_
            rintro o w5 ⟨kb, rfl, hsa, hb5⟩
            have R5 := hid (R3.out.below hb5)
            have B5 := hid (B3.out.trans (hb5.mono (Nat.le_of_lt R3.out.lt)))
            clear hb5 KS R3 B3
            go_wp2_with fail
            refine (KI.out _ _ hsa).mono ?_
            rintro o w6 ⟨rfl, hb6⟩
            have R6 := hid (R5.out.below hb6)
            have B6 := hid (B5.out.trans (hb6.mono (Nat.le_of_lt R5.out.lt)))
            clear hb6 hsa R5 B5 KI
            have A6 := hid (AD.out q 0 4 s T HST.out _ R6.out)
            clear AD R6
            go_wp2_with fail
            refine (WA.out _).mono ?_
            rintro o w' ⟨rfl, rfl⟩
            clear WA
            go_wp2_with fail
            refine A6.out.mono ?_
            rintro o u9 ⟨rfl, hb9, hr9⟩
            have B9 := hid (B6.out.trans hb9)
            have R9 := hid hr9
            clear hb9 hr9 A6
            go_wp2
            go_end0
            refine ⟨rfl, B9.out, ?_⟩
            rw [HC.out]
            exact ⟨q, _, R9.out, fun _ => ⟨HQ.out, rfl⟩⟩
          | false =>
            have HC := hid (HVN.out h64 hk hx hg)
            rw [hg] at WA
            clear HVL HVK HVU HVC HVN HU hk h64 HKL hx hg
            generalize T.getD 0 0 = t0 at *
            go_wp2_with fail
            refine (KS.out _).mono ?_
            rintro o w5 ⟨kb, rfl, hsa, hb5⟩
            have R5 := hid (R3.out.below hb5)
            have B5 := hid (B3.out.trans (hb5.mono (Nat.le_of_lt R3.out.lt)))
            clear hb5 KS R3 B3
            go_wp2_with fail
            refine (KI.out _ _ hsa).mono ?_
            rintro o w6 ⟨rfl, hb6⟩
            have R6 := hid (R5.out.below hb6)
            have B6 := hid (B5.out.trans (hb6.mono (Nat.le_of_lt R5.out.lt)))
            clear hb6 hsa R5 B5 KI
            have A6 := hid (AD.out q 0 3 s T HST.out _ R6.out)
            clear AD R6
            go_wp2_with fail
            refine (WA.out _).mono ?_
            rintro o w' ⟨rfl, rfl⟩
            clear WA
            go_wp2_with fail
            refine A6.out.mono ?_
            rintro o u9 ⟨rfl, hb9, hr9⟩
            have B9 := hid (B6.out.trans hb9)
            have R9 := hid hr9
            clear hb9 hr9 A6
            go_wp2
            go_end0
            refine ⟨rfl, B9.out, ?_⟩
            rw [HC.out]
            exact ⟨q, _, R9.out, fun _ => ⟨HQ.out, rfl⟩⟩
end Go.Proofs.YtojgibigmoaejaaDoor.Lex
