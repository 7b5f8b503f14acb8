/-
  LEX: the document's reader: blanks: by contract.
-/
import Derived.Test.YtojgibigmoaejaaDoorLexRdC
namespace Go.Proofs.YtojgibigmoaejaaDoor.Lex
open Go.RowKit Go.Proofs.YtojgibigmoaejaaDoor.Utf
set_option linter.unusedSimpArgs false
set_option linter.unusedVariables false

theorem dlex_nil (zs : List Int) (a : Int) : lexA (zs.drop zs.length) a = .ok [] := by rw [List.drop_length]; rfl
theorem dlex_blank {zs : List Int} {p : Nat} (hp : p < zs.length) (h : blankB zs[p] = true) : lexA (zs.drop p) p = lexA (zs.drop (p + 1)) (p + 1 : Nat) := by
  rw [List.drop_eq_getElem_cons hp, lexA_blank _ _ h]; rfl
theorem note_not_blank {zs : List Int} {p : Nat} (hp : p < zs.length) (h : (zs.drop p).take 2 = [40, 42]) : blankB zs[p] = false := by
  have hd := List.drop_eq_getElem_cons hp
  rw [hd, List.take_succ_cons] at h
  obtain ⟨h1, _⟩ := List.cons.inj h
  rw [h1]; rfl
theorem dlex_note {zs : List Int} {p k : Nat} (hp : p < zs.length) (h : (zs.drop p).take 2 = [40, 42]) (hk : noteGo 0 0 (zs.drop p) = some k) : lexA (zs.drop p) p = lexA (zs.drop (p + k)) (p + k : Nat) ∧ 1 ≤ k ∧ p + k ≤ zs.length := by
  have hb := note_not_blank hp h
  have hs := noteGo_size _ _ _ _ hk
  have hd := List.drop_eq_getElem_cons hp
  have hn : noteB (zs.drop p) = true := by unfold noteB; simpa using h
  rw [List.length_drop] at hs
  refine ⟨?_, hs.1, by omega⟩
  rw [← List.drop_drop]
  rw [hd] at hn hk ⊢
  rw [lexA_note _ hb hn hk]; rfl
theorem dlex_note_bad {zs : List Int} {p : Nat} (hp : p < zs.length) (h : (zs.drop p).take 2 = [40, 42]) (hk : noteGo 0 0 (zs.drop p) = none) : lexA (zs.drop p) p = .bad 253 p := by
  have hb := note_not_blank hp h
  have hd := List.drop_eq_getElem_cons hp
  have hn : noteB (zs.drop p) = true := by unfold noteB; simpa using h
  rw [hd] at hn hk ⊢
  rw [lexA_note_bad _ hb hn hk]
theorem dlex_not_note {zs : List Int} {p : Nat} (h : ¬ (zs.drop p).take 2 = [40, 42]) : noteB (zs.drop p) = false := by
  unfold noteB; simpa using h
/-- What is ahead of a word is gone past. -/
def Skipped (zs : List Int) (p0 p : Nat) (f e : Int) : Prop :=
  (e = 0 ∧ p = zs.length ∧ lexA (zs.drop p0) p0 = .ok []) ∨ (e = 0 ∧ p < zs.length ∧ f = p ∧ blankB (zs.getD p 0) = false ∧ noteB (zs.drop p) = false ∧ lexA (zs.drop p0) p0 = lexA (zs.drop p) p) ∨ (e = 253 ∧ p = zs.length ∧ lexA (zs.drop p0) p0 = .bad 253 f)
/-- Where the reader stands behind blanks. -/
def SkipOut (w : World) (b : Nat) (zs : List Int) (p0 : Nat) (ws : List Wd) : Prop := ∃ (p : Nat) (f e : Int), p ≤ zs.length ∧ p0 ≤ p ∧ RAt w b zs p f e ws ∧ Skipped zs p0 p f e
/-- Where the reader stands among blanks. -/
def SkipIn (N : Told) (zs : List Int) (p : Nat) (f e : Int) : Prop := (e = 0 ∧ N = lexA (zs.drop p) p) ∨ (e = 253 ∧ p = zs.length ∧ N = .bad 253 f)
theorem blank_cases {x : Int} (h : blankB x = true) : x = 9 ∨ x = 10 ∨ x = 13 ∨ x = 32 := by
  unfold blankB at h; simp at h; omega
theorem blank_none {x : Int} (h : blankB x = false) : ((x == 9) = false ∧ (x == 10) = false) ∧ (x == 13) = false ∧ (x == 32) = false := by
  unfold blankB at h; simp at h ⊢; omega
set_option maxHeartbeats 4000000 in
set_option maxRecDepth 10000 in
theorem skipR_any (b : Nat) (zs : List Int) (hb : ∀ z ∈ zs, 0 ≤ z ∧ z < 256) (hl : zs.length ≤ 100000) (p0 : Nat) (hp0 : p0 ≤ zs.length) (f : Int) (ws : List Wd) (w : World) (h : RAt w b zs p0 f 0 ws) :
    Calls Tryd.prog 16 #[.pointer (some ⟨b, 0, none⟩)] w fun o w' => o = .returned (.tuple #[]) ∧ Below b w w' ∧ SkipOut w' b zs p0 ws := by
  have hs : (strOfNums zs).size = zs.length := strOfNums_size zs
  have H := hid h
  have ST := hid (fun (p : Nat) hp f e W h => starts_any b zs hb hl p hp f e ws [40, 42] (by decide) (by decide) W h)
  have z1 : strOfNums [40, 42] = ⟨#[40, 42]⟩ := rfl
  rw [z1] at ST
  have NR := hid (fun (p : Nat) hp f e W h => noteR_any b zs hb hl p hp f e ws W h)
  have HG := hid (fun i h => str_get hb i h)
  obtain ⟨N, hN⟩ : ∃ N, lexA (zs.drop p0) p0 = N := ⟨_, rfl⟩
  have HN := hid hN
  clear h hb z1 hN
  go_enter Tryd.func16, Tryd.ntmps16
  go_wp2
  go_loopw [2] (fun _ wr => ∃ (p : Nat) (f e : Int), p0 ≤ p ∧ p ≤ zs.length ∧ Hid (RAt wr b zs p f e ws) ∧ Hid (Below b w wr) ∧ Hid (SkipIn N zs p f e)) (fun _ wr => zs.length - plc wr b)
  case atStart => exact ⟨p0, f, 0, Nat.le_refl _, hp0, H, hid (Below.refl _ _), hid (.inl ⟨rfl, HN.out.symm⟩)⟩
  case round =>
    obtain ⟨p, g, e, hpp, hpl, HR, HBw, HI⟩ := hrel
    have c0 := HR.out.c0
    have c1 := HR.out.c1
    have c3 := HR.out.c3
    have HPC := hid HR.out.plc
    by_cases hlt : p < zs.length
    · have hpi : (p : Int) < (zs.length : Int) := by omega
      have he : e = 0 ∧ N = lexA (zs.drop p) p := by
        rcases HI.out with h | ⟨_, h, _⟩
        · exact h
        · omega
      obtain ⟨rfl, hI⟩ := he
      have HX := hid hI
      clear hI HI H
      have HN' := HN
      clear HN
      have i0 : (((strOfNums zs)[p]'(by rw [hs]; exact hlt)).toNat : Int) = zs.getD p 0 := HG.out p _
      have hgx : zs[p] = zs.getD p 0 := by rw [List.getD_eq_getElem?_getD, List.getElem?_eq_getElem hlt]; rfl
      have HGX := hid hgx
      clear hgx HG
      obtain ⟨x, hx⟩ : ∃ x, x = zs.getD p 0 := ⟨_, rfl⟩
      rw [← hx] at i0 HGX
      have HXX := hid hx
      clear hx
      go_wp2
      go_quiet (fail)
      have R1 := hid (HR.out.drew nq)
      have B1 := hid (drewL HBw.out nq)
      clear c0 c1 c3 HR HBw
      generalize hu : wr.drewN nq = u at *
      clear hu
      have c0 := R1.out.c0
      have c1 := R1.out.c1
      go_wp2
      go_quiet (fail)
      have R2 := hid (R1.out.drew nq)
      have B2 := hid (drewL B1.out nq)
      clear c0 c1 R1 B1
      generalize hu : u.drewN nq = u2 at *
      clear hu i0
      have c1 := R2.out.c1
      have c2 := R2.out.c2
      have f2 := R2.out.frozen 2
      have R3 := hid (R2.out.set2 (p : Int))
      have B3 := hid (B2.out.setCell (p := ⟨b, 2, none⟩) (Nat.le_refl _) (.int .i64 (p : Int)))
      go_wp2_with fail
      refine (ST.out p hpl _ _ _ R3.out).mono ?_
      rintro o u4 ⟨rfl, q1, hq1⟩
      have hbu : Below (u2.setCell ⟨b, 2, none⟩ (.int .i64 (p : Int))).heap.size (u2.setCell ⟨b, 2, none⟩ (.int .i64 (p : Int))) u4 := by rw [hq1]; exact drewL (Below.refl _ _) _
      have R4 := hid (R3.out.below hbu)
      have B4 := hid (B3.out.trans (hbu.mono (Nat.le_of_lt R3.out.lt)))
      clear hq1 hbu R2 R3 B2 B3 ST c1 c2 f2
      by_cases h1 : (zs.drop p).take 2 = [40, 42]
      · rw [show decide ((zs.drop p).take ([40, 42] : List Int).length = [40, 42]) = true from decide_eq_true h1]
        go_wp2_with fail
        refine (NR.out p hpl _ _ _ R4.out).mono ?_
        rintro o u5 ⟨rfl, hb5, ho5⟩
        have B5 := hid (B4.out.trans hb5)
        clear hb5 B4 R4 NR
        cases hk : noteGo 0 0 (zs.drop p) with
        | none =>
          rw [hk] at ho5
          have R5 := hid (show RAt u5 b zs zs.length (p : Int) 253 ws from ho5)
          have HF := hid (HX.out.trans (dlex_note_bad hlt h1 hk))
          have HM := hid R5.out.plc
          clear ho5 hk h1 HX
          go_wp2
          go_roundw
          case rel => exact ⟨zs.length, p, 253, by omega, Nat.le_refl _, R5, B5, hid (.inr ⟨rfl, rfl, HF.out⟩)⟩
          case measure => rw [HM.out, HPC.out]; omega
        | some k =>
          rw [hk] at ho5
          have R5 := hid (show RAt u5 b zs (p + k : Nat) (p : Int) 0 ws from ho5)
          obtain ⟨hk1, hk2, hk3⟩ := dlex_note hlt h1 hk
          have HF := hid (HX.out.trans hk1)
          have HM := hid R5.out.plc
          clear ho5 hk h1 HX hk1
          go_wp2
          go_roundw
          case rel => exact ⟨p + k, p, 0, by omega, hk3, R5, B5, hid (.inl ⟨rfl, HF.out⟩)⟩
          case measure => rw [HM.out, HPC.out]; omega
      · rw [show decide ((zs.drop p).take ([40, 42] : List Int).length = [40, 42]) = false from decide_eq_false h1]
        cases hbl : blankB x with
        | true =>
          have HF := hid (HX.out.trans (dlex_blank hlt (by rw [HGX.out]; exact hbl)))
          have c1 := R4.out.c1
          have f1 := R4.out.frozen 1
          have R5 := hid (R4.out.set1 ((p + 1 : Nat) : Int))
          have B5 := hid (B4.out.setCell (p := ⟨b, 1, none⟩) (Nat.le_refl _) (.int .i64 ((p + 1 : Nat) : Int)))
          have hc : ((p + 1 : Nat) : Int) = (p : Int) + 1 := by omega
          have e2 : IntKind.i64.wrap ((p : Int) + 1) = (p : Int) + 1 := by rw [IntKind.wrap_i64]; omega
          have HM := hid R5.out.plc
          rw [hc] at R5 B5 HM
          have hx4 := blank_cases hbl
          clear HX h1 R4 B4 NR HGX HXX hbl
          rcases hx4 with rfl | rfl | rfl | rfl
          all_goals
            go_wp2
            go_roundw
            case rel => exact ⟨p + 1, p, 0, by omega, by omega, R5, B5, hid (.inl ⟨rfl, HF.out⟩)⟩
            case measure => rw [HM.out, HPC.out]; omega
        | false =>
          obtain ⟨⟨x1, x2⟩, x3, x4⟩ := blank_none hbl
          have HF : Hid (Skipped zs p0 p (p : Int) 0) := hid (.inr (.inl ⟨rfl, hlt, rfl, by rw [← HXX.out]; exact hbl, dlex_not_note h1, HN'.out.trans HX.out⟩))
          clear HX h1 NR HGX HXX hbl
          go_wp2
          exact bodyPost_ret (v := .tuple #[]) (by simp [results, Tryd.results16, go_sem]) rfl ⟨rfl, B4.out, p, p, 0, hpl, hpp, R4.out, HF.out⟩
    · obtain rfl : p = zs.length := by omega
      have HF : Hid (Skipped zs p0 zs.length g e) := by
        show _
        rcases HI.out with ⟨h1, h2⟩ | ⟨h1, _, h2⟩
        · exact .inl ⟨h1, rfl, by rw [HN.out, h2]; exact dlex_nil zs _⟩
        · exact .inr (.inr ⟨h1, rfl, HN.out.trans h2⟩)
      clear HI NR ST HG HN H
      go_wp2
      go_quiet (fail)
      have R1 := hid (HR.out.drew nq)
      have B1 := hid (drewL HBw.out nq)
      clear HR HBw c0 c1 c3
      go_wp2
      go_end0
      exact ⟨rfl, B1.out, zs.length, g, e, Nat.le_refl _, hpp, R1.out, HF.out⟩
end Go.Proofs.YtojgibigmoaejaaDoor.Lex
