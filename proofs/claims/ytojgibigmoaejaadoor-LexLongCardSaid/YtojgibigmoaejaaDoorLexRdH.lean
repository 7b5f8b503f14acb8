/-
  LEX: the document's reader: numbers: by contract.
-/
import Derived.Test.YtojgibigmoaejaaDoorLexRdG
namespace Go.Proofs.YtojgibigmoaejaaDoor.Lex
open Go.RowKit Go.Proofs.YtojgibigmoaejaaDoor.Utf
set_option linter.unusedSimpArgs false
set_option linter.unusedVariables false

theorem dig_range {x : Int} (h : digitB x = true) : 48 ≤ x ∧ x ≤ 57 := by unfold digitB at h; simpa using h
/-- A number read so far. -/
def NumIn (T : List Int) (e n : Int) (R : List Int) : Prop := (e = 0 ∧ numGo 0 T = numGo n R) ∨ (e = 254 ∧ numGo 0 T = none)
theorem num_step {T zs : List Int} {e n : Int} {q : Nat} (hlt : q < zs.length) (hx : digitB (zs.getD q 0) = true) (h : NumIn T e n ((zs.drop q).takeWhile digitB)) :
    (10 * n + (zs.getD q 0 - 48) > 2147483647 → NumIn T 254 0 ((zs.drop (q + 1)).takeWhile digitB)) ∧ (¬ 10 * n + (zs.getD q 0 - 48) > 2147483647 → NumIn T e (10 * n + (zs.getD q 0 - 48)) ((zs.drop (q + 1)).takeWhile digitB)) := by
  unfold NumIn at h ⊢
  have hd : (zs.drop q).takeWhile digitB = zs.getD q 0 :: (zs.drop (q + 1)).takeWhile digitB := by
    rw [List.drop_eq_getElem_cons hlt, List.takeWhile_cons, ← getD_lt hlt, if_pos hx]
  rw [hd] at h
  rcases h with ⟨h1, h2⟩ | ⟨h1, h2⟩
  · simp only [numGo] at h2
    constructor
    · intro hb; rw [if_pos hb] at h2; exact .inr ⟨rfl, h2⟩
    · intro hb; rw [if_neg hb] at h2; exact .inl ⟨h1, h2⟩
  · exact ⟨fun _ => .inr ⟨rfl, h2⟩, fun _ => .inr ⟨h1, h2⟩⟩
theorem int_ok {z T : List Int} (hT : T = z.takeWhile digitB) {n : Int} (h : numGo 0 T = numGo n []) : cutInt z = ⟨1, wordN n, [], T.length, 0⟩ := by
  subst hT
  have h' : numGo 0 (z.takeWhile digitB) = some n := h
  unfold cutInt; rw [h']
theorem int_bad {z T : List Int} (hT : T = z.takeWhile digitB) (h : numGo 0 T = none) : cutInt z = .bad 254 := by
  subst hT; unfold cutInt; rw [h]
set_option maxHeartbeats 1000000 in
theorem Number_any (w : World) (n : Int) (h1 : 0 ≤ n) (h2 : n < 2147483648) : Calls Tryd.prog 43 #[.int .i64 n] w fun e w' => e = .returned (.int .i64 (wordN n)) ∧ w' = w := by
  have e1 : IntKind.i64.wrap (n - 2147483648) = n - 2147483648 := by rw [IntKind.wrap_i64]; omega
  by_cases h : n > 1073741823
  · have HW : Hid (wordN n = n - 2147483648) := hid (if_pos h)
    go_enter Tryd.func43, Tryd.ntmps43
    go_wp2
    go_ret
    exact ⟨by rw [HW.out]; rfl, rfl⟩
  · have HW : Hid (wordN n = n) := hid (if_neg h)
    go_enter Tryd.func43, Tryd.ntmps43
    go_wp2
    go_ret
    exact ⟨by rw [HW.out]; rfl, rfl⟩
set_option maxHeartbeats 4000000 in
set_option maxRecDepth 10000 in
theorem numberR_any (b : Nat) (zs : List Int) (hb : ∀ z ∈ zs, 0 ≤ z ∧ z < 256) (hl : zs.length ≤ 100000) (p : Nat) (hp : p < zs.length) (ws : List Wd) (hws : ws.length ≤ 1000000) (w : World) (h : RAt w b zs p p 0 ws) :
    Calls Tryd.prog 19 #[.pointer (some ⟨b, 0, none⟩)] w fun o w' => o = .returned (.tuple #[]) ∧ Below b w w' ∧ WordOut w' b zs p ws (cutInt (zs.drop p)) := by
  have hs : (strOfNums zs).size = zs.length := strOfNums_size zs
  obtain ⟨st, hst⟩ : ∃ st, st = p := ⟨_, rfl⟩
  have R1 : Hid (RAt w b zs (st : Int) (p : Int) 0 ws) := by rw [hst]; exact hid h
  have hstl : st ≤ zs.length := by omega
  obtain ⟨T, hT⟩ : ∃ T, T = (zs.drop p).takeWhile digitB := ⟨_, rfl⟩
  have HRUN0 : Hid (Run digitB T zs st st) := hid (by rw [hst, hT]; exact run_start digitB zs p)
  have HNUM0 : Hid (NumIn T 0 0 ((zs.drop st).takeWhile digitB)) := hid (.inl ⟨rfl, by rw [hst, hT]⟩)
  have HV1 := hid (fun n h => int_ok hT (n := n) h)
  have HV2 := hid (fun h => int_bad hT h)
  have HG := hid (fun i h => str_get hb i h)
  have NB := hid (fun W n h1 h2 => Number_any W n h1 h2)
  have AD := hid (fun (q : Nat) (e n : Int) W h => addR_any b zs q p e ws hws 1 n ⟨#[]⟩ [] rfl W h)
  generalize cutInt (zs.drop p) = c at *
  have B1 := hid (Below.refl b w)
  clear h hb hws hT
  go_enter Tryd.func19, Tryd.ntmps19
  go_wp2
  go_loopw [2] (fun nv wr => ∃ (q : Nat) (n e : Int), nv = .int .i64 n ∧ 0 ≤ n ∧ n < 2147483648 ∧ st ≤ q ∧ q ≤ zs.length ∧ Hid (RAt wr b zs q p e ws) ∧ Hid (Below b w wr) ∧ Hid (Run digitB T zs st q) ∧ Hid (NumIn T e n ((zs.drop q).takeWhile digitB))) (fun _ wr => zs.length - plc wr b)
  case atStart => exact ⟨st, 0, 0, rfl, by omega, by omega, Nat.le_refl _, hstl, R1, B1, hid HRUN0.out, HNUM0⟩
  case round =>
    obtain ⟨q, n, e, rfl, hn1, hn2, hsq, hql, HR, HBw, HRun, HN⟩ := hrel
    have c0 := HR.out.c0
    have c1 := HR.out.c1
    have HPC := hid HR.out.plc
    by_cases hlt : q < zs.length
    · have hqi : (q : Int) < (zs.length : Int) := by omega
      have i0 : (((strOfNums zs)[q]'(by rw [hs]; exact hlt)).toNat : Int) = zs.getD q 0 := HG.out q _
      have LT := hid (fun n => within_c (zs.getD q 0) 48 57 (wr.drewN n))
      have hdg : digitB (zs.getD q 0) = (decide (48 ≤ zs.getD q 0) && decide (zs.getD q 0 ≤ 57)) := rfl
      rw [← hdg] at LT
      clear hdg
      cases hx : digitB (zs.getD q 0) with
      | true =>
        rw [hx] at LT
        have HRun2 := hid (run_step hsq hlt hx HRun.out)
        have HNX := hid (num_step hlt hx HN.out)
        have hx48 := dig_range hx
        obtain ⟨x, hxx⟩ : ∃ x, x = zs.getD q 0 := ⟨_, rfl⟩
        rw [← hxx] at i0 LT HNX hx48
        clear hxx hx HRun HN
        obtain ⟨hx1, hx2⟩ := hx48
        go_wp2
        go_quiet ((go_at_call 17; exact Calls.quiet_of_same (LT.out _)))
        have R2 := hid (HR.out.drew nq)
        have B2 := hid (drewL HBw.out nq)
        clear HR HBw c0 c1 LT
        generalize hu : wr.drewN nq = u at *
        clear hu
        have c0 := R2.out.c0
        have c1 := R2.out.c1
        have e1 : IntKind.u8.wrap (x - 48) = x - 48 := by show (x - 48) % 256 = _; omega
        have e2 : IntKind.i64.wrap (x - 48) = x - 48 := by rw [IntKind.wrap_i64]; omega
        have e3 : IntKind.i64.wrap (10 * n) = 10 * n := by rw [IntKind.wrap_i64]; omega
        have e4 : IntKind.i64.wrap (10 * n + (x - 48)) = 10 * n + (x - 48) := by rw [IntKind.wrap_i64]; omega
        go_wp2
        go_quiet (fail)
        have R3 := hid (R2.out.drew nq)
        have B3 := hid (drewL B2.out nq)
        clear R2 B2 c0 c1 e1 e2 e3 e4 i0
        generalize hu : u.drewN nq = u3 at *
        clear hu
        obtain ⟨y, hy⟩ : ∃ y, y = 10 * n + (x - 48) := ⟨_, rfl⟩
        rw [← hy] at HNX ⊢
        have hy1 : 0 ≤ y := by omega
        have HY := hid hy
        clear hy hx1 hx2
        obtain ⟨q', hq'⟩ : ∃ q', q' = q + 1 := ⟨_, rfl⟩
        have hc : (q' : Int) = (q : Int) + 1 := by omega
        have e5 : IntKind.i64.wrap ((q : Int) + 1) = (q : Int) + 1 := by rw [IntKind.wrap_i64]; omega
        by_cases hbig : y ≥ 2147483648
        · have c3 := R3.out.c3
          have f3 := R3.out.frozen 3
          have R4 := hid (R3.out.set3 254)
          have B4 := hid (B3.out.setCell (p := ⟨b, 3, none⟩) (Nat.le_refl _) (.int .i64 254))
          have c1 := R4.out.c1
          have f1 := R4.out.frozen 1
          have R5 : Hid (RAt ((u3.setCell ⟨b, 3, none⟩ (.int .i64 254)).setCell ⟨b, 1, none⟩ (.int .i64 ((q : Int) + 1))) b zs (q' : Int) p 254 ws) := by show RAt _ _ _ _ _ _ _; rw [← hc]; exact R4.out.set1 _
          have B5 := hid (B4.out.setCell (p := ⟨b, 1, none⟩) (Nat.le_refl _) (.int .i64 ((q : Int) + 1)))
          have HM := hid R5.out.plc
          have HNZ := hid (HNX.out.1 (by omega))
          clear R3 B3 R4 B4 HNX
          go_wp2
          go_roundw
          case rel => exact ⟨q', 0, 254, rfl, by omega, by omega, by omega, by omega, R5, B5, by rw [hq']; exact HRun2, by rw [hq']; exact HNZ⟩
          case measure => rw [HM.out, HPC.out]; omega
        · have c1 := R3.out.c1
          have f1 := R3.out.frozen 1
          have R5 : Hid (RAt (u3.setCell ⟨b, 1, none⟩ (.int .i64 ((q : Int) + 1))) b zs (q' : Int) p e ws) := by show RAt _ _ _ _ _ _ _; rw [← hc]; exact R3.out.set1 _
          have B5 := hid (B3.out.setCell (p := ⟨b, 1, none⟩) (Nat.le_refl _) (.int .i64 ((q : Int) + 1)))
          have HM := hid R5.out.plc
          have HNZ := hid (HNX.out.2 (by omega))
          have hbig2 : (y ≥ 2147483648) = False := by simp; omega
          have hbig3 : (2147483648 ≤ y) = False := by simp; omega
          have hy2 : y < 2147483648 := by omega
          clear R3 B3 HNX hbig
          go_wp2
          go_roundw
          case rel => exact ⟨q', y, e, rfl, hy1, hy2, by omega, by omega, R5, B5, by rw [hq']; exact HRun2, by rw [hq']; exact HNZ⟩
          case measure => rw [HM.out, HPC.out]; omega
      | false =>
        rw [hx] at LT
        have hstop : q = zs.length ∨ q < zs.length ∧ digitB (zs.getD q 0) = false := .inr ⟨hlt, hx⟩
        obtain ⟨x, hxx⟩ : ∃ x, x = zs.getD q 0 := ⟨_, rfl⟩
        rw [← hxx] at i0 LT
        clear hx hxx
        go_wp2
        go_quiet ((go_at_call 17; exact Calls.quiet_of_same (LT.out _)))
        clear i0 hlt hqi
        have R2 := hid (HR.out.drew nq)
        have B2 := hid (drewL HBw.out nq)
        clear HR HBw c0 c1 LT
        generalize hu : wr.drewN nq = u at *
        clear hu
        obtain ⟨hT, hTl⟩ := run_stop hsq hql hstop HRun.out
        have HQ : Hid (q = p + T.length) := by show _ = _; omega
        have HN2 := HN.out
        rw [run_rest hstop] at HN2
        clear HRun hT hstop HN
        rcases HN2 with ⟨he, hn⟩ | ⟨he, hn⟩
        · subst he
          have HC := hid (HV1.out n hn)
          clear HV1 HV2 hn
          have A4 := hid (AD.out q 0 (wordN n) _ R2.out)
          clear AD
          go_wp2_with fail
          refine (NB.out _ n hn1 hn2).mono ?_
          rintro o w' ⟨rfl, rfl⟩
          go_wp2_with fail
          refine A4.out.mono ?_
          rintro o u9 ⟨rfl, hb9, hr9⟩
          have B9 := hid (B2.out.trans hb9)
          have R9 := hid hr9
          clear hb9 hr9 A4
          go_wp2
          go_end0
          refine ⟨rfl, B9.out, ?_⟩
          rw [HC.out]
          exact ⟨q, _, R9.out, fun _ => ⟨HQ.out, rfl⟩⟩
        · subst he
          have HC := hid (HV2.out hn)
          clear HV1 HV2 hn
          have A4 := hid (AD.out q 254 (wordN n) _ R2.out)
          clear AD
          go_wp2_with fail
          refine (NB.out _ n hn1 hn2).mono ?_
          rintro o w' ⟨rfl, rfl⟩
          go_wp2_with fail
          refine A4.out.mono ?_
          rintro o u9 ⟨rfl, hb9, hr9⟩
          have B9 := hid (B2.out.trans hb9)
          have R9 := hid hr9
          clear hb9 hr9 A4
          go_wp2
          go_end0
          refine ⟨rfl, B9.out, ?_⟩
          rw [HC.out]
          exact ⟨q, _, R9.out, fun h => by cases h⟩
    · obtain rfl : q = zs.length := by omega
      have LT := hid trivial
      go_wp2
      go_quiet (fail)
      clear hlt
      obtain ⟨q, hqz⟩ : ∃ q, q = zs.length := ⟨_, rfl⟩
      have HQZ := hid hqz
      rw [← hqz] at HR HRun hsq HN
      have hstop : q = zs.length ∨ q < zs.length ∧ digitB (zs.getD q 0) = false := .inl hqz
      have hql : q ≤ zs.length := by omega
      clear hqz
      have R2 := hid (HR.out.drew nq)
      have B2 := hid (drewL HBw.out nq)
      clear HR HBw c0 c1 LT
      generalize hu : wr.drewN nq = u at *
      clear hu
      obtain ⟨hT, hTl⟩ := run_stop hsq hql hstop HRun.out
      have HQ : Hid (q = p + T.length) := by show _ = _; omega
      have HN2 := HN.out
      rw [run_rest hstop] at HN2
      clear HRun hT hstop HN
      rcases HN2 with ⟨he, hn⟩ | ⟨he, hn⟩
      · subst he
        have HC := hid (HV1.out n hn)
        clear HV1 HV2 hn
        have A4 := hid (AD.out q 0 (wordN n) _ R2.out)
        clear AD
        go_wp2_with fail
        refine (NB.out _ n hn1 hn2).mono ?_
        rintro o w' ⟨rfl, rfl⟩
        go_wp2_with fail
        refine A4.out.mono ?_
        rintro o u9 ⟨rfl, hb9, hr9⟩
        have B9 := hid (B2.out.trans hb9)
        have R9 := hid hr9
        clear hb9 hr9 A4
        go_wp2
        go_end0
        refine ⟨rfl, B9.out, ?_⟩
        rw [HC.out]
        exact ⟨q, _, R9.out, fun _ => ⟨HQ.out, rfl⟩⟩
      · subst he
        have HC := hid (HV2.out hn)
        clear HV1 HV2 hn
        have A4 := hid (AD.out q 254 (wordN n) _ R2.out)
        clear AD
        go_wp2_with fail
        refine (NB.out _ n hn1 hn2).mono ?_
        rintro o w' ⟨rfl, rfl⟩
        go_wp2_with fail
        refine A4.out.mono ?_
        rintro o u9 ⟨rfl, hb9, hr9⟩
        have B9 := hid (B2.out.trans hb9)
        have R9 := hid hr9
        clear hb9 hr9 A4
        go_wp2
        go_end0
        refine ⟨rfl, B9.out, ?_⟩
        rw [HC.out]
        exact ⟨q, _, R9.out, fun h => by cases h⟩
end Go.Proofs.YtojgibigmoaejaaDoor.Lex
