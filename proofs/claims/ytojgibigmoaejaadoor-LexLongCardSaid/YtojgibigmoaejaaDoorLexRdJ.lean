/-
  LEX: the document's reader: texts: by contract.
-/
import Derived.Test.YtojgibigmoaejaaDoorLexRdI
import Derived.Test.YtojgibigmoaejaaDoorAppend
import Derived.Test.YtojgibigmoaejaaDoorStrs
namespace Go.Proofs.YtojgibigmoaejaaDoor.Lex
open Go.RowKit Go.Proofs.YtojgibigmoaejaaDoor.Utf
set_option linter.unusedSimpArgs false
set_option linter.unusedVariables false

theorem dtext_skip : ∀ (k : Nat) (l : List Int), k ≤ l.length → textGo k l = (textGo 0 (l.drop k)).map fun r => (r.1, r.2 + k)
  | 0, l, _ => by cases h : textGo 0 l <;> simp [h]
  | k + 1, [], h => by simp at h
  | k + 1, _ :: t, h => by
    simp only [List.length_cons] at h
    show (textGo k t).map _ = _
    rw [dtext_skip k t (by omega), Option.map_map]
    congr 1
theorem esc_size {l : List Int} {v : Int} {k : Nat} (h : escL l = some (v, k)) : 1 ≤ k ∧ k ≤ l.length := by
  cases l with
  | nil => simp [escL] at h
  | cons c t =>
    simp only [escL] at h
    split at h
    · simp only [Option.some.injEq, Prod.mk.injEq] at h; obtain ⟨_, rfl⟩ := h; simp
    · split at h
      · simp only [Option.some.injEq, Prod.mk.injEq] at h; obtain ⟨_, rfl⟩ := h; simp
      · split at h
        · simp only [Option.some.injEq, Prod.mk.injEq] at h; obtain ⟨_, rfl⟩ := h; simp
        · split at h
          · split at h
            · simp only [Option.some.injEq, Prod.mk.injEq] at h; obtain ⟨_, rfl⟩ := h; simp
            · cases h
          · cases h
/-- A text read so far: from st to q, these bytes. -/
def TextIn (TG : Option (List Int × Nat)) (zs : List Int) (st q : Nat) (e : Int) (acc : List Int) : Prop :=
  (e = 0 ∧ q ≤ zs.length ∧ TG = (textGo 0 (zs.drop q)).map fun r => (acc ++ r.1, r.2 + (q - st))) ∨ (e = 252 ∧ q ≤ zs.length + 4 ∧ TG = none)
section
variable {TG : Option (List Int × Nat)} {zs : List Int} {st q : Nat} {acc : List Int}
theorem text_at (hlt : q < zs.length) {x : Int} (hx : x = zs.getD q 0) : zs.drop q = x :: zs.drop (q + 1) := by rw [hx]; exact drop_at hlt
theorem text_end (h : TextIn TG zs st zs.length 0 acc) : TG = none := by
  rcases h with ⟨_, _, h⟩ | ⟨h, _⟩
  · rw [List.drop_length] at h; exact h
  · cases h
theorem text_done (hs : st ≤ q) (hlt : q < zs.length) (hx : zs.getD q 0 = 34) (h : TextIn TG zs st q 0 acc) : TG = some (acc, 1 + (q - st)) := by
  rcases h with ⟨_, _, h⟩ | ⟨h, _⟩
  · rw [text_at hlt rfl, hx] at h; simpa [textGo] using h
  · cases h
theorem text_esc (hs : st ≤ q) (hlt : q < zs.length) (hx : zs.getD q 0 = 92) (h : TextIn TG zs st q 0 acc) :
    (escL (zs.drop (q + 1)) = none → ∀ q' v, q' ≤ zs.length + 4 → TextIn TG zs st q' 252 (acc ++ [v])) ∧ (∀ v k, escL (zs.drop (q + 1)) = some (v, k) → TextIn TG zs st (q + 1 + k) 0 (acc ++ [v])) := by
  rcases h with ⟨_, _, h⟩ | ⟨h, _⟩
  · rw [text_at hlt rfl, hx] at h
    simp only [textGo, show ¬ (92 : Int) = 34 by decide, if_false, if_true] at h
    refine ⟨fun he q' v hq => .inr ⟨rfl, hq, ?_⟩, fun v k he => .inl ⟨rfl, ?_, ?_⟩⟩
    · rw [he] at h; exact h
    · have := (esc_size he).2
      rw [List.length_drop] at this
      omega
    · have hk := (esc_size he).2
      rw [he] at h
      simp only at h
      rw [dtext_skip k _ hk, Option.map_map, Option.map_map, List.drop_drop] at h
      rw [h]
      congr 1
      funext r
      simp only [Function.comp, List.append_assoc, List.cons_append, List.nil_append, Prod.mk.injEq, true_and]
      omega
  · cases h
theorem text_ctrl (hs : st ≤ q) (hlt : q < zs.length) (h34 : ¬ zs.getD q 0 = 34) (h92 : ¬ zs.getD q 0 = 92) (hc : zs.getD q 0 < 32 ∨ zs.getD q 0 = 127) (v : Int) (h : TextIn TG zs st q 0 acc) : TextIn TG zs st (q + 1) 252 (acc ++ [v]) := by
  rcases h with ⟨_, _, h⟩ | ⟨h, _⟩
  · rw [text_at hlt rfl] at h
    simp only [textGo] at h
    rw [if_neg h34, if_neg h92, if_pos hc] at h
    exact .inr ⟨rfl, by omega, h⟩
  · cases h
theorem text_plain (hs : st ≤ q) (hlt : q < zs.length) (h34 : ¬ zs.getD q 0 = 34) (h92 : ¬ zs.getD q 0 = 92) (hc : ¬ (zs.getD q 0 < 32 ∨ zs.getD q 0 = 127)) (h : TextIn TG zs st q 0 acc) : TextIn TG zs st (q + 1) 0 (acc ++ [zs.getD q 0]) := by
  rcases h with ⟨_, _, h⟩ | ⟨h, _⟩
  · rw [text_at hlt rfl] at h
    simp only [textGo] at h
    rw [if_neg h34, if_neg h92, if_neg hc, Option.map_map] at h
    refine .inl ⟨rfl, by omega, ?_⟩
    rw [h]
    congr 1
    funext r
    simp only [Function.comp, List.append_assoc, List.cons_append, List.nil_append, Prod.mk.injEq, true_and]
    omega
  · cases h
end
theorem ctext_none {z : List Int} (h : textGo 0 (z.drop 1) = none) : cutText z = .bad 252 := by unfold cutText; rw [h]
theorem ctext_long {z s : List Int} {k : Nat} (h : textGo 0 (z.drop 1) = some (s, k)) (hl : s.length > 4096) : cutText z = .bad 255 := by unfold cutText; rw [h]; exact if_pos hl
theorem ctext_ok {z s : List Int} {k : Nat} (h : textGo 0 (z.drop 1) = some (s, k)) (hl : ¬ s.length > 4096) : cutText z = ⟨2, 0, s, 1 + k, 0⟩ := by unfold cutText; rw [h]; exact if_neg hl
theorem bytes_on {acc : List Int} {v : Int} (h : ∀ z ∈ acc, 0 ≤ z ∧ z < 256) (h0 : 0 ≤ v) (h1 : v < 256) : ∀ z ∈ acc ++ [v], 0 ≤ z ∧ z < 256 := fun z hz => by
  rcases List.mem_append.1 hz with hz | hz
  · exact h z hz
  · rw [List.mem_singleton.1 hz]; exact ⟨h0, h1⟩
set_option maxHeartbeats 8000000 in
set_option maxRecDepth 10000 in
theorem textR_any (b : Nat) (zs : List Int) (hb : ∀ z ∈ zs, 0 ≤ z ∧ z < 256) (hl : zs.length ≤ 100000) (p : Nat) (hp : p < zs.length) (ws : List Wd) (hws : ws.length ≤ 1000000) (w : World) (h : RAt w b zs p p 0 ws) :
    Calls Tryd.prog 21 #[.pointer (some ⟨b, 0, none⟩)] w fun o w' => o = .returned (.tuple #[]) ∧ Below b w w' ∧ WordOut w' b zs p ws (cutText (zs.drop p)) := by
  have hs : (strOfNums zs).size = zs.length := strOfNums_size zs
  have H := hid h.toLow
  obtain ⟨st, hst⟩ : ∃ st, st = p + 1 := ⟨_, rfl⟩
  have hstl : st ≤ zs.length := by omega
  obtain ⟨TG, hTG⟩ : ∃ TG, TG = textGo 0 (zs.drop st) := ⟨_, rfl⟩
  have hT1 : TG = textGo 0 ((zs.drop p).drop 1) := by rw [List.drop_drop, ← hst]; exact hTG
  have HTX0 : Hid (TextIn TG zs st st 0 []) := hid (.inl ⟨rfl, hstl, by rw [hTG, Nat.sub_self]; cases textGo 0 (zs.drop st) <;> simp⟩)
  have HV1 := hid (fun h => ctext_none (z := zs.drop p) (hT1 ▸ h))
  have HV2 := hid (fun s k h hl => ctext_long (z := zs.drop p) (s := s) (k := k) (hT1 ▸ h) hl)
  have HV3 := hid (fun s k h hl => ctext_ok (z := zs.drop p) (s := s) (k := k) (hT1 ▸ h) hl)
  have HG := hid (fun i h => str_get hb i h)
  have HGD := hid (fun i (hi : i < zs.length) => (getD_lt hi ▸ hb _ (List.getElem_mem hi) : 0 ≤ zs.getD i 0 ∧ zs.getD i 0 < 256))
  have AD := hid (fun (q : Nat) (e : Int) s ss hss W h => addR_any b zs q p e ws hws 2 0 s ss hss W h)
  have ES := hid (fun (q : Nat) B hq W h => escapeR_any b B zs hb hl q hq p ws W h)
  generalize cutText (zs.drop p) = c at *
  have c1 := H.out.at.c1
  have f1 := H.out.at.frozen 1
  have e1 : IntKind.i64.wrap ((p : Int) + 1) = (p : Int) + 1 := by rw [IntKind.wrap_i64]; omega
  have hc : (st : Int) = (p : Int) + 1 := by omega
  obtain ⟨B, hB⟩ : ∃ B, B = w.heap.size := ⟨_, rfl⟩
  have HBw : Hid (Below B w w) := hid (Below.refl _ _)
  have HBS := hid hB
  rw [← hB] at H
  clear hB
  have R1 : Hid (RLow (w.setCell ⟨b, 1, none⟩ (.int .i64 ((p : Int) + 1))) b zs (st : Int) p 0 ws B) := by show RLow _ _ _ _ _ _ _ _; rw [← hc]; exact H.out.set1 _
  have B1 := hid ((Below.refl b w).setCell (p := ⟨b, 1, none⟩) (Nat.le_refl _) (.int .i64 ((p : Int) + 1)))
  have O1 : Hid (Own B (w.setCell ⟨b, 1, none⟩ (.int .i64 ((p : Int) + 1))) (.slice none 0 0) []) := hid ⟨rfl, .inl ⟨rfl, rfl⟩⟩
  clear h hb hws hTG hT1 H HBw
  go_enter Tryd.func21, Tryd.ntmps21
  go_wp2
  clear c1 f1 e1
  go_loopw [2, 3] (fun bv _ wr => ∃ (q : Nat) (e : Int) (acc : List Int), st ≤ q ∧ q ≤ zs.length + 4 ∧ acc.length ≤ q ∧ Hid (TextIn TG zs st q e acc) ∧ Hid (Own B wr bv acc) ∧ Hid (∀ z ∈ acc, 0 ≤ z ∧ z < 256) ∧ Hid (RLow wr b zs q p e ws B) ∧ Hid (Below b w wr)) (fun _ _ wr => zs.length + 10 - plc wr b)
  case atStart => exact ⟨st, 0, [], Nat.le_refl _, by omega, by simp, HTX0, O1, hid (by simp), R1, B1⟩
  case round =>
    obtain ⟨q, e, acc, hsq, hq4, hacc, HTX, HO, HAB, HR, HBw⟩ := hrel
    obtain ⟨la, hla⟩ : ∃ la, acc.length = la := ⟨_, rfl⟩
    have HLA := hid hla
    rw [hla] at hacc
    obtain ⟨ba, bc, hov⟩ := HO.out.sliceN hla
    subst hov
    clear hla
    have HPC := hid HR.out.at.plc
    have hq6 : (q : Int) < 200000 := by omega
    by_cases he : e = 252
    · subst he
      have HF := hid (show TG = none from by
        rcases HTX.out with ⟨h, _⟩ | ⟨_, _, h⟩
        · cases h
        · exact h)
      have HC := hid (HV1.out HF.out)
      have hez : ((252 : Int) == 0) = false := rfl
      have c3 := HR.out.at.c3
      clear HV1 HV2 HV3 HTX HF ES HG HGD HPC
      go_wp2
      go_quiet (fail)
      have R2 := hid (HR.out.drew nq)
      have B2 := hid (drewL HBw.out nq)
      have O2 := hid (HO.out.below (drewL (Below.refl _ _) nq))
      clear HR HBw HO c3
      generalize hu : wr.drewN nq = u at *
      clear hu
      have c3 := R2.out.at.c3
      go_wp2
      go_quiet (fail)
      have R3 := hid (R2.out.drew nq)
      have B3 := hid (drewL B2.out nq)
      have O3 := hid (O2.out.below (drewL (Below.refl _ _) nq))
      clear R2 B2 O2 c3
      generalize hu : u.drewN nq = u3 at *
      clear hu
      obtain ⟨q', hq'⟩ : ∃ q', q' = q + 1 := ⟨_, rfl⟩
      have hc1 : (q' : Int) = (q : Int) + 1 := by omega
      have e2 : IntKind.i64.wrap ((q : Int) + 1) = (q : Int) + 1 := by rw [IntKind.wrap_i64]; omega
      have c1 := R3.out.at.c1
      have f1 := R3.out.at.frozen 1
      have R4 : Hid (RAt (u3.setCell ⟨b, 1, none⟩ (.int .i64 ((q : Int) + 1))) b zs (q' : Int) p 252 ws) := by show RAt _ _ _ _ _ _ _; rw [← hc1]; exact (R3.out.set1 _).at
      have B4 := hid (B3.out.setCell (p := ⟨b, 1, none⟩) (Nat.le_refl _) (.int .i64 ((q : Int) + 1)))
      have O4 := hid (O3.out.setCell (p := ⟨b, 1, none⟩) R3.out.lt (.int .i64 ((q : Int) + 1)))
      have d3 := R4.out.c3
      clear R3 B3 O3
      obtain ⟨U, hU⟩ : ∃ U, U = u3.setCell ⟨b, 1, none⟩ (.int .i64 ((q : Int) + 1)) := ⟨_, rfl⟩
      rw [← hU] at R4 B4 O4
      have hcv := str_of (O4.out.bytes HAB.out (by rw [HLA.out]; omega)) la bc HLA.out
      have A7 := hid (AD.out q' 252 _ acc rfl _ R4.out)
      go_upto_region 15 with fail
      rw [← hU]
      clear hU AD
      go_wp2_with fail
      refine A7.out.mono ?_
      rintro o u9 ⟨rfl, hb9, hr9⟩
      have B9 := hid (B4.out.trans hb9)
      have R9 := hid hr9
      clear hb9 hr9 A7 hcv
      go_wp2
      go_end0
      refine ⟨rfl, B9.out, ?_⟩
      rw [HC.out]
      exact ⟨q', _, R9.out, fun h => by cases h⟩
    have he0 : e = 0 ∧ q ≤ zs.length := by
      rcases HTX.out with ⟨h, h2, _⟩ | ⟨h, _⟩
      · exact ⟨h, h2⟩
      · exact absurd h he
    obtain ⟨rfl, hql⟩ := he0
    clear he
    by_cases hend : q = zs.length
    · have HTX2 : Hid (TextIn TG zs st zs.length 0 acc) := by rw [hend] at HTX; exact HTX
      have HF := hid (text_end HTX2.out)
      have HC := hid (HV1.out HF.out)
      have hge : (q : Int) ≥ (zs.length : Int) := by omega
      have hge2 : (zs.length : Int) ≤ (q : Int) := by omega
      have hlt2 : ((q : Int) < (zs.length : Int)) = False := by simp; omega
      have c0 := HR.out.at.c0
      have c1 := HR.out.at.c1
      have c3 := HR.out.at.c3
      clear HV1 HV2 HV3 HTX HTX2 HF ES HG HGD HPC hend
      go_wp2
      go_quiet (fail)
      have R2 := hid (HR.out.drew nq)
      have B2 := hid (drewL HBw.out nq)
      have O2 := hid (HO.out.below (drewL (Below.refl _ _) nq))
      clear HR HBw HO c0 c1 c3
      generalize hu : wr.drewN nq = u at *
      clear hu
      have c0 := R2.out.at.c0
      have c1 := R2.out.at.c1
      have c3 := R2.out.at.c3
      go_wp2
      go_quiet (fail)
      have R3 := hid (R2.out.drew nq)
      have B3 := hid (drewL B2.out nq)
      have O3 := hid (O2.out.below (drewL (Below.refl _ _) nq))
      clear R2 B2 O2 c0 c1 c3
      generalize hu : u.drewN nq = u3 at *
      clear hu
      have c3 := R3.out.at.c3
      have f3 := R3.out.at.frozen 3
      have R4 := hid (R3.out.set3 252)
      have B4 := hid (B3.out.setCell (p := ⟨b, 3, none⟩) (Nat.le_refl _) (.int .i64 252))
      have O4 := hid (O3.out.setCell (p := ⟨b, 3, none⟩) R3.out.lt (.int .i64 252))
      obtain ⟨q', hq'⟩ : ∃ q', q' = q + 1 := ⟨_, rfl⟩
      have hc1 : (q' : Int) = (q : Int) + 1 := by omega
      have e2 : IntKind.i64.wrap ((q : Int) + 1) = (q : Int) + 1 := by rw [IntKind.wrap_i64]; omega
      have c1 := R4.out.at.c1
      have f1 := R4.out.at.frozen 1
      have R5 : Hid (RAt ((u3.setCell ⟨b, 3, none⟩ (.int .i64 252)).setCell ⟨b, 1, none⟩ (.int .i64 ((q : Int) + 1))) b zs (q' : Int) p 252 ws) := by show RAt _ _ _ _ _ _ _; rw [← hc1]; exact (R4.out.set1 _).at
      have B5 := hid (B4.out.setCell (p := ⟨b, 1, none⟩) (Nat.le_refl _) (.int .i64 ((q : Int) + 1)))
      have O5 := hid (O4.out.setCell (p := ⟨b, 1, none⟩) R4.out.lt (.int .i64 ((q : Int) + 1)))
      have d3 := R5.out.c3
      clear R3 B3 O3 R4 B4 O4
      obtain ⟨U, hU⟩ : ∃ U, U = (u3.setCell ⟨b, 3, none⟩ (.int .i64 252)).setCell ⟨b, 1, none⟩ (.int .i64 ((q : Int) + 1)) := ⟨_, rfl⟩
      rw [← hU] at R5 B5 O5
      have hcv := str_of (O5.out.bytes HAB.out (by rw [HLA.out]; omega)) la bc HLA.out
      have A7 := hid (AD.out q' 252 _ acc rfl _ R5.out)
      go_upto_region 15 with fail
      rw [← hU]
      clear hU AD
      go_wp2_with fail
      refine A7.out.mono ?_
      rintro o u9 ⟨rfl, hb9, hr9⟩
      have B9 := hid (B5.out.trans hb9)
      have R9 := hid hr9
      clear hb9 hr9 A7 hcv
      go_wp2
      go_end0
      refine ⟨rfl, B9.out, ?_⟩
      rw [HC.out]
      exact ⟨q', _, R9.out, fun h => by cases h⟩
    have hlt : q < zs.length := by omega
    clear hend
    have hqi : (q : Int) < (zs.length : Int) := by omega
    have i0 : (((strOfNums zs)[q]'(by rw [hs]; exact hlt)).toNat : Int) = zs.getD q 0 := HG.out q _
    obtain ⟨x0, x1⟩ := HGD.out q hlt
    have HTE := hid (fun hx => text_esc hsq hlt hx HTX.out)
    have HTD := hid (fun hx => text_done hsq hlt hx HTX.out)
    have HTC := hid (fun h34 h92 hc v => text_ctrl hsq hlt h34 h92 hc v HTX.out)
    have HTP := hid (fun h34 h92 hc => text_plain hsq hlt h34 h92 hc HTX.out)
    obtain ⟨x, hx⟩ : ∃ x, x = zs.getD q 0 := ⟨_, rfl⟩
    rw [← hx] at i0 x0 x1 HTE HTD HTC HTP
    have c0 := HR.out.at.c0
    have c1 := HR.out.at.c1
    have c3 := HR.out.at.c3
    clear hx HTX HG HGD
    by_cases h34 : x = 34
    · have HTG := hid (HTD.out h34)
      subst h34
      clear HTE HTD HTC HTP ES HPC x0 x1 HV1
      go_wp2
      go_quiet (fail)
      have R2 := hid (HR.out.drew nq)
      have B2 := hid (drewL HBw.out nq)
      have O2 := hid (HO.out.below (drewL (Below.refl _ _) nq))
      clear HR HBw HO c0 c1 c3 i0
      generalize hu : wr.drewN nq = u at *
      clear hu
      have c0 := R2.out.at.c0
      have c1 := R2.out.at.c1
      have c3 := R2.out.at.c3
      have hge3 : ((q : Int) ≥ (zs.length : Int)) = False := by simp; omega
      have hge4 : ((zs.length : Int) ≤ (q : Int)) = False := by simp; omega
      go_wp2
      go_quiet (fail)
      have R3 := hid (R2.out.drew nq)
      have B3 := hid (drewL B2.out nq)
      have O3 := hid (O2.out.below (drewL (Below.refl _ _) nq))
      clear R2 B2 O2 c0 c1 c3
      generalize hu : u.drewN nq = u3 at *
      clear hu
      obtain ⟨q', hq'⟩ : ∃ q', q' = q + 1 := ⟨_, rfl⟩
      have hc1 : (q' : Int) = (q : Int) + 1 := by omega
      have e2 : IntKind.i64.wrap ((q : Int) + 1) = (q : Int) + 1 := by rw [IntKind.wrap_i64]; omega
      have c1 := R3.out.at.c1
      have f1 := R3.out.at.frozen 1
      have R4 : Hid (RLow (u3.setCell ⟨b, 1, none⟩ (.int .i64 ((q : Int) + 1))) b zs (q' : Int) p 0 ws B) := by show RLow _ _ _ _ _ _ _ _; rw [← hc1]; exact R3.out.set1 _
      have B4 := hid (B3.out.setCell (p := ⟨b, 1, none⟩) (Nat.le_refl _) (.int .i64 ((q : Int) + 1)))
      have O4 := hid (O3.out.setCell (p := ⟨b, 1, none⟩) R3.out.lt (.int .i64 ((q : Int) + 1)))
      have d3 := R4.out.at.c3
      clear R3 B3 O3
      by_cases hlong : la > 4096
      · have hlo : (la : Int) > 4096 := by omega
        have HC := hid (HV2.out acc _ HTG.out (by rw [HLA.out]; exact hlong))
        have f3 := R4.out.at.frozen 3
        have R5 := hid (R4.out.set3 255).at
        have B5 := hid (B4.out.setCell (p := ⟨b, 3, none⟩) (Nat.le_refl _) (.int .i64 255))
        have O5 := hid (O4.out.setCell (p := ⟨b, 3, none⟩) R4.out.lt (.int .i64 255))
        clear R4 B4 O4 HV2 HV3
        obtain ⟨U, hU⟩ : ∃ U, U = (u3.setCell ⟨b, 1, none⟩ (.int .i64 ((q : Int) + 1))).setCell ⟨b, 3, none⟩ (.int .i64 255) := ⟨_, rfl⟩
        rw [← hU] at R5 B5 O5
        have hcv := str_of (O5.out.bytes HAB.out (by rw [HLA.out]; omega)) la bc HLA.out
        have A7 := hid (AD.out q' 255 _ acc rfl _ R5.out)
        go_upto_region 15 with fail
        rw [← hU]
        clear hU AD
        go_wp2_with fail
        refine A7.out.mono ?_
        rintro o u9 ⟨rfl, hb9, hr9⟩
        have B9 := hid (B5.out.trans hb9)
        have R9 := hid hr9
        clear hb9 hr9 A7 hcv
        go_wp2
        go_end0
        refine ⟨rfl, B9.out, ?_⟩
        rw [HC.out]
        exact ⟨q', _, R9.out, fun h => by cases h⟩
      · have hlo : ((la : Int) > 4096) = False := by simp; omega
        have hlo2 : ((4096 : Int) < (la : Int)) = False := by simp; omega
        have HC := hid (HV3.out acc _ HTG.out (by rw [HLA.out]; exact hlong))
        have HQ : Hid (q' = p + (1 + (1 + (q - st)))) := by show _ = _; omega
        have R5 := hid R4.out.at
        clear R4 HV2 HV3
        obtain ⟨U, hU⟩ : ∃ U, U = u3.setCell ⟨b, 1, none⟩ (.int .i64 ((q : Int) + 1)) := ⟨_, rfl⟩
        rw [← hU] at R5 B4 O4
        have hcv := str_of (O4.out.bytes HAB.out (by rw [HLA.out]; omega)) la bc HLA.out
        have A7 := hid (AD.out q' 0 _ acc rfl _ R5.out)
        go_upto_region 15 with fail
        rw [← hU]
        clear hU AD
        go_wp2_with fail
        refine A7.out.mono ?_
        rintro o u9 ⟨rfl, hb9, hr9⟩
        have B9 := hid (B4.out.trans hb9)
        have R9 := hid hr9
        clear hb9 hr9 A7 hcv
        go_wp2
        go_end0
        refine ⟨rfl, B9.out, ?_⟩
        rw [HC.out]
        exact ⟨q', _, R9.out, fun _ => ⟨HQ.out, rfl⟩⟩
    have x34 : (x == 34) = false := by simpa using h34
    have HTE1 := hid (fun hx => HTE.out hx)
    have HTC1 := hid (fun h92 hc v => HTC.out h34 h92 hc v)
    have HTP1 := hid (fun h92 hc => HTP.out h34 h92 hc)
    have X0 := hid x0
    have X1 := hid x1
    clear HTE HTD HTC HTP h34 HV1 HV2 HV3 AD x0 x1 hq6
    go_wp2
    go_quiet (fail)
    have R2 := hid (HR.out.drew nq)
    have B2 := hid (drewL HBw.out nq)
    have O2 := hid (HO.out.below (drewL (Below.refl _ _) nq))
    clear HR HBw HO c0 c1 c3
    generalize hu : wr.drewN nq = u at *
    clear hu
    have c0 := R2.out.at.c0
    have c1 := R2.out.at.c1
    go_wp2
    go_quiet (fail)
    have R3 := hid (R2.out.drew nq)
    have B3 := hid (drewL B2.out nq)
    have O3 := hid (O2.out.below (drewL (Below.refl _ _) nq))
    clear R2 B2 O2 c0 c1 i0
    generalize hu : u.drewN nq = u3 at *
    clear hu
    obtain ⟨q', hq'⟩ : ∃ q', q' = q + 1 := ⟨_, rfl⟩
    have hc1 : (q' : Int) = (q : Int) + 1 := by omega
    have e2 : IntKind.i64.wrap ((q : Int) + 1) = (q : Int) + 1 := by rw [IntKind.wrap_i64]; omega
    have c1 := R3.out.at.c1
    have f1 := R3.out.at.frozen 1
    have R4 : Hid (RLow (u3.setCell ⟨b, 1, none⟩ (.int .i64 ((q : Int) + 1))) b zs (q' : Int) p 0 ws B) := by show RLow _ _ _ _ _ _ _ _; rw [← hc1]; exact R3.out.set1 _
    have B4 := hid (B3.out.setCell (p := ⟨b, 1, none⟩) (Nat.le_refl _) (.int .i64 ((q : Int) + 1)))
    have O4 := hid (O3.out.setCell (p := ⟨b, 1, none⟩) R3.out.lt (.int .i64 ((q : Int) + 1)))
    clear R3 B3 O3
    by_cases h92 : x = 92
    · have HT := hid (HTE1.out h92)
      subst h92
      clear HTE1 HTC1 HTP1 x34
      rw [← hq'] at HT
      have EC := hid (ES.out q' B (by omega) _ R4.out)
      clear ES
      go_wp2_with fail
      refine EC.out.mono ?_
      rintro o u5 ⟨v, rfl, hv0, hv1, hsv, hout⟩
      have O5 := hid (own_save O4.out hsv R4.out.lt)
      have B5 := hid (B4.out.trans (hsv.below (by have h1 := R4.out.le; have h2 := R4.out.lt; omega) (Nat.le_refl b)))
      clear EC O4 B4 hsv R4
      cases hesc : escL (zs.drop q') with
      | none =>
        rw [hesc] at hout
        obtain ⟨q5, hq5, hq5b, hr5⟩ := hout
        have R5 := hid hr5
        have HT5 := hid (HT.out.1 hesc q5 v (by omega))
        clear HT hesc hr5
        have hlb : acc.length ≤ 140737488351232 := by rw [HLA.out]; omega
        have hbase := R5.out.le
        go_wp2_with (at_builtin; refine append_byte rfl (.tmp 69) (.tmp 71) rfl v rfl O5.out (Below.refl B u5) hbase rfl hlb ?_; intro v' w6 hown6 hb6 hs6)
        have R6 := hid (R5.out.on hb6)
        have O6 := hid hown6
        have B6 := hid (B5.out.trans (hb6.mono (Nat.le_of_lt R5.out.lt)))
        have HM := hid R6.out.at.plc
        have HAB6 := hid (bytes_on (v := v) HAB.out hv0 hv1)
        have hal6 : (acc ++ [v]).length ≤ q5 := by rw [List.length_append, HLA.out]; simp; omega
        clear hb6 hown6 hs6 R5 B5 O5 hlb hbase
        go_wp2
        go_roundw
        case rel => exact ⟨q5, 252, acc ++ [v], by omega, by omega, hal6, HT5, O6, HAB6, R6, B6⟩
        case measure => rw [HM.out, HPC.out]; omega
      | some r =>
        obtain ⟨v2, k⟩ := r
        rw [hesc] at hout
        obtain ⟨hve, hr5⟩ := hout
        subst hve
        have hk := esc_size hesc
        rw [List.length_drop] at hk
        obtain ⟨q5, hq5⟩ : ∃ q5, q5 = q' + k := ⟨_, rfl⟩
        have R5 : Hid (RLow u5 b zs (q5 : Int) p 0 ws B) := by rw [hq5]; exact hid hr5
        have HT5 : Hid (TextIn TG zs st q5 0 (acc ++ [v])) := by rw [hq5]; exact hid (HT.out.2 v k hesc)
        clear HT hesc hr5
        have hlb : acc.length ≤ 140737488351232 := by rw [HLA.out]; omega
        have hbase := R5.out.le
        go_wp2_with (at_builtin; refine append_byte rfl (.tmp 69) (.tmp 71) rfl v rfl O5.out (Below.refl B u5) hbase rfl hlb ?_; intro v' w6 hown6 hb6 hs6)
        have R6 := hid (R5.out.on hb6)
        have O6 := hid hown6
        have B6 := hid (B5.out.trans (hb6.mono (Nat.le_of_lt R5.out.lt)))
        have HM := hid R6.out.at.plc
        have HAB6 := hid (bytes_on (v := v) HAB.out hv0 hv1)
        have hal6 : (acc ++ [v]).length ≤ q5 := by rw [List.length_append, HLA.out]; simp; omega
        clear hb6 hown6 hs6 R5 B5 O5 hlb hbase
        go_wp2
        go_roundw
        case rel => exact ⟨q5, 0, acc ++ [v], by omega, by omega, hal6, HT5, O6, HAB6, R6, B6⟩
        case measure => rw [HM.out, HPC.out]; omega
    have x92 : (x == 92) = false := by simpa using h92
    have HTC2 := hid (fun hc v => HTC1.out h92 hc v)
    have HTP2 := hid (fun hc => HTP1.out h92 hc)
    rw [← hq'] at HTC2 HTP2
    clear HTE1 HTC1 HTP1 h92 ES
    by_cases hct : x < 32
    · have HT5 := hid (HTC2.out (.inl hct) x)
      have c3 := R4.out.at.c3
      have f3 := R4.out.at.frozen 3
      have R5 := hid (R4.out.set3 252)
      have B5 := hid (B4.out.setCell (p := ⟨b, 3, none⟩) (Nat.le_refl _) (.int .i64 252))
      have O5 := hid (O4.out.setCell (p := ⟨b, 3, none⟩) R4.out.lt (.int .i64 252))
      clear HTC2 HTP2 R4 B4 O4
      obtain ⟨u5, hu5⟩ : ∃ u5, u5 = (u3.setCell ⟨b, 1, none⟩ (.int .i64 ((q : Int) + 1))).setCell ⟨b, 3, none⟩ (.int .i64 252) := ⟨_, rfl⟩
      go_upto_region 9 with fail
      rw [← hu5] at R5 B5 O5 ⊢
      clear hu5 c1 f1 c3 f3
      have hlb : acc.length ≤ 140737488351232 := by rw [HLA.out]; omega
      have hbase := R5.out.le
      go_wp2_with (at_builtin; refine append_byte rfl (.tmp 69) (.tmp 71) rfl x rfl O5.out (Below.refl B u5) hbase rfl hlb ?_; intro v' w6 hown6 hb6 hs6)
      have R6 := hid (R5.out.on hb6)
      have O6 := hid hown6
      have B6 := hid (B5.out.trans (hb6.mono (Nat.le_of_lt R5.out.lt)))
      have HM := hid R6.out.at.plc
      have HAB6 := hid (bytes_on (v := x) HAB.out X0.out X1.out)
      have hal6 : (acc ++ [x]).length ≤ q' := by rw [List.length_append, HLA.out]; simp; omega
      clear hb6 hown6 hs6 R5 B5 O5 hlb hbase
      go_wp2
      go_roundw
      case rel => exact ⟨q', 252, acc ++ [x], by omega, by omega, hal6, HT5, O6, HAB6, R6, B6⟩
      case measure => rw [HM.out, HPC.out]; omega
    by_cases h127 : x = 127
    · have HT5 := hid (HTC2.out (.inr h127) x)
      subst h127
      have c3 := R4.out.at.c3
      have f3 := R4.out.at.frozen 3
      have R5 := hid (R4.out.set3 252)
      have B5 := hid (B4.out.setCell (p := ⟨b, 3, none⟩) (Nat.le_refl _) (.int .i64 252))
      have O5 := hid (O4.out.setCell (p := ⟨b, 3, none⟩) R4.out.lt (.int .i64 252))
      clear HTC2 HTP2 R4 B4 O4
      obtain ⟨u5, hu5⟩ : ∃ u5, u5 = (u3.setCell ⟨b, 1, none⟩ (.int .i64 ((q : Int) + 1))).setCell ⟨b, 3, none⟩ (.int .i64 252) := ⟨_, rfl⟩
      go_upto_region 9 with fail
      rw [← hu5] at R5 B5 O5 ⊢
      clear hu5 c1 f1 c3 f3
      have hlb : acc.length ≤ 140737488351232 := by rw [HLA.out]; omega
      have hbase := R5.out.le
      go_wp2_with (at_builtin; refine append_byte rfl (.tmp 69) (.tmp 71) rfl 127 rfl O5.out (Below.refl B u5) hbase rfl hlb ?_; intro v' w6 hown6 hb6 hs6)
      have R6 := hid (R5.out.on hb6)
      have O6 := hid hown6
      have B6 := hid (B5.out.trans (hb6.mono (Nat.le_of_lt R5.out.lt)))
      have HM := hid R6.out.at.plc
      have HAB6 := hid (bytes_on (v := 127) HAB.out (by omega) (by omega))
      have hal6 : (acc ++ [127]).length ≤ q' := by rw [List.length_append, HLA.out]; simp; omega
      clear hb6 hown6 hs6 R5 B5 O5 hlb hbase
      go_wp2
      go_roundw
      case rel => exact ⟨q', 252, acc ++ [127], by omega, by omega, hal6, HT5, O6, HAB6, R6, B6⟩
      case measure => rw [HM.out, HPC.out]; omega
    · have HT5 := hid (HTP2.out (by omega))
      have x127 : (x == 127) = false := by simpa using h127
      have R5 := R4
      have B5 := B4
      have O5 := O4
      clear HTC2 HTP2 R4 B4 O4
      obtain ⟨u5, hu5⟩ : ∃ u5, u5 = u3.setCell ⟨b, 1, none⟩ (.int .i64 ((q : Int) + 1)) := ⟨_, rfl⟩
      go_upto_region 9 with fail
      rw [← hu5] at R5 B5 O5 ⊢
      clear hu5 c1 f1
      have hlb : acc.length ≤ 140737488351232 := by rw [HLA.out]; omega
      have hbase := R5.out.le
      go_wp2_with (at_builtin; refine append_byte rfl (.tmp 69) (.tmp 71) rfl x rfl O5.out (Below.refl B u5) hbase rfl hlb ?_; intro v' w6 hown6 hb6 hs6)
      have R6 := hid (R5.out.on hb6)
      have O6 := hid hown6
      have B6 := hid (B5.out.trans (hb6.mono (Nat.le_of_lt R5.out.lt)))
      have HM := hid R6.out.at.plc
      have HAB6 := hid (bytes_on (v := x) HAB.out X0.out X1.out)
      have hal6 : (acc ++ [x]).length ≤ q' := by rw [List.length_append, HLA.out]; simp; omega
      clear hb6 hown6 hs6 R5 B5 O5 hlb hbase
      go_wp2
      go_roundw
      case rel => exact ⟨q', 0, acc ++ [x], by omega, by omega, hal6, HT5, O6, HAB6, R6, B6⟩
      case measure => rw [HM.out, HPC.out]; omega
end Go.Proofs.YtojgibigmoaejaaDoor.Lex
