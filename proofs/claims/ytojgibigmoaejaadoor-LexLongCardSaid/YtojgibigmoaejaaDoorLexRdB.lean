/-
  LEX: the document's reader: a note: by contract.
-/
import Derived.Test.YtojgibigmoaejaaDoorLexRdA
namespace Go.Proofs.YtojgibigmoaejaaDoor.Lex
open Go.RowKit Go.Proofs.YtojgibigmoaejaaDoor.Utf
set_option linter.unusedSimpArgs false
set_option linter.unusedVariables false

theorem drop_two {zs : List Int} {p : Nat} {a b : Int} (h : (zs.drop p).take 2 = [a, b]) : zs.drop p = a :: b :: zs.drop (p + 2) := by
  have h1 : zs.drop p = (zs.drop p).take 2 ++ (zs.drop p).drop 2 := (List.take_append_drop 2 _).symm
  rw [h, List.drop_drop] at h1
  exact h1
theorem two_le {zs : List Int} {p : Nat} {a b : Int} (h : (zs.drop p).take 2 = [a, b]) : p + 2 ≤ zs.length := by
  have := congrArg List.length h
  rw [List.length_take, List.length_drop] at this
  simp at this; omega
theorem dnote_open {zs : List Int} {p : Nat} (d : Int) (h : (zs.drop p).take 2 = [40, 42]) : noteGo d 0 (zs.drop p) = (noteGo (d + 1) 0 (zs.drop (p + 2))).map (· + 2) := by
  rw [drop_two h]
  simp only [noteGo, List.head?_cons, and_self, if_true, Option.map_map]
  rfl
theorem dnote_close {zs : List Int} {p : Nat} (d : Int) (h : (zs.drop p).take 2 = [42, 41]) : noteGo d 0 (zs.drop p) = if d - 1 = 0 then some 2 else (noteGo (d - 1) 0 (zs.drop (p + 2))).map (· + 2) := by
  rw [drop_two h]
  simp only [noteGo, List.head?_cons, show ¬ (42 : Int) = 40 by decide, false_and, and_self, if_true, if_false, Option.map_map]
  rfl
theorem dnote_step {zs : List Int} {p : Nat} (d : Int) (hp : p < zs.length) (h1 : ¬ (zs.drop p).take 2 = [40, 42]) (h2 : ¬ (zs.drop p).take 2 = [42, 41]) : noteGo d 0 (zs.drop p) = (noteGo d 0 (zs.drop (p + 1))).map (· + 1) := by
  have hd := List.drop_eq_getElem_cons hp
  rw [hd] at h1 h2
  have e : ∀ t : List Int, t.take 1 = t.head?.toList := fun t => by cases t <;> rfl
  have g1 : ¬ (zs[p] = 40 ∧ (zs.drop (p + 1)).head? = some 42) := fun ⟨a, b⟩ => h1 (by
    rw [List.take_succ_cons, e, a, b]; rfl)
  have g2 : ¬ (zs[p] = 42 ∧ (zs.drop (p + 1)).head? = some 41) := fun ⟨a, b⟩ => h2 (by
    rw [List.take_succ_cons, e, a, b]; rfl)
  rw [hd]
  simp only [noteGo]
  rw [if_neg g1, if_neg g2]
theorem dnote_end (zs : List Int) (d : Int) : noteGo d 0 (zs.drop zs.length) = none := by
  rw [List.drop_length]; rfl
/-- A box's second cell as a place. -/
def plc (w : World) (b : Nat) : Nat := match w.cell? ⟨b, 1, none⟩ with | some (.int _ p) => p.toNat | _ => 0
theorem RAt.plc {w : World} {b p : Nat} {zs : List Int} {f e : Int} {ws : List Wd} (h : RAt w b zs p f e ws) : plc w b = p := by
  unfold Lex.plc; rw [h.c1]; rfl
/-- Where the reader stands behind a note. -/
def NoteOut (w : World) (b : Nat) (zs : List Int) (p0 : Nat) (f e : Int) (ws : List Wd) : Option Nat → Prop
  | some k => RAt w b zs (p0 + k : Nat) f e ws
  | none => RAt w b zs zs.length f 253 ws
set_option maxHeartbeats 4000000 in
set_option maxRecDepth 10000 in
theorem noteR_any (b : Nat) (zs : List Int) (hb : ∀ z ∈ zs, 0 ≤ z ∧ z < 256) (hl : zs.length ≤ 100000) (p0 : Nat) (hp0 : p0 ≤ zs.length) (f e : Int) (ws : List Wd) (w : World) (h : RAt w b zs p0 f e ws) :
    Calls Tryd.prog 38 #[.pointer (some ⟨b, 0, none⟩)] w fun o w' => o = .returned (.tuple #[]) ∧ Below b w w' ∧ NoteOut w' b zs p0 f e ws (noteGo 0 0 (zs.drop p0)) := by
  have hs : (strOfNums zs).size = zs.length := strOfNums_size zs
  have H := hid h
  have S1 := hid (fun (p : Nat) hp W h => starts_any b zs hb hl p hp f e ws [40, 42] (by decide) (by decide) W h)
  have S2 := hid (fun (p : Nat) hp W h => starts_any b zs hb hl p hp f e ws [42, 41] (by decide) (by decide) W h)
  have z1 : strOfNums [40, 42] = ⟨#[40, 42]⟩ := rfl
  have z2 : strOfNums [42, 41] = ⟨#[42, 41]⟩ := rfl
  rw [z1] at S1
  rw [z2] at S2
  have NO := hid (fun (p : Nat) d h => dnote_open (zs := zs) (p := p) d h)
  have NC := hid (fun (p : Nat) d h => dnote_close (zs := zs) (p := p) d h)
  have NS := hid (fun (p : Nat) d hp h1 h2 => dnote_step (zs := zs) (p := p) d hp h1 h2)
  have NE := hid (fun d => dnote_end zs d)
  have TL := hid (fun p a c h => two_le (zs := zs) (p := p) (a := a) (b := c) h)
  obtain ⟨N, hN⟩ : ∃ N, noteGo 0 0 (zs.drop p0) = N := ⟨_, rfl⟩
  rw [hN]
  have HN := hid hN
  clear h hb z1 z2 hN
  go_enter Tryd.func38, Tryd.ntmps38
  go_wp2
  go_loopw [2] (fun dv wr => ∃ (p : Nat) (d : Int), dv = .int .i64 d ∧ p0 ≤ p ∧ p ≤ zs.length ∧ -100000 ≤ d + p ∧ d ≤ p ∧ -(p : Int) ≤ d ∧ Hid (RAt wr b zs p f e ws) ∧ Hid (Below b w wr) ∧ Hid (N = (noteGo d 0 (zs.drop p)).map (· + (p - p0)))) (fun _ wr => zs.length - plc wr b)
  case atStart => exact ⟨p0, 0, rfl, Nat.le_refl _, hp0, by omega, by omega, by omega, H, hid (Below.refl _ _), by show N = _; rw [← HN.out, Nat.sub_self]; simp⟩
  case round =>
    obtain ⟨p, d, rfl, hpp, hpl, hd1, hd2, hd3, HR, HBw, HE⟩ := hrel
    have c0 := HR.out.c0
    have c1 := HR.out.c1
    have HPC := hid HR.out.plc
    by_cases hlt : p < zs.length
    · have hpi : (p : Int) < (zs.length : Int) := by omega
      go_wp2
      go_quiet (fail)
      have R1 := hid (HR.out.drew nq)
      clear c0 c1
      go_wp2_with fail
      refine (S1.out p hpl _ R1.out).mono ?_
      rintro o u ⟨rfl, q1, hq1⟩
      have hbu : Below wr.heap.size wr u := by rw [hq1]; exact drewL (drewL (Below.refl _ _) _) _
      have RU := hid (HR.out.below hbu)
      have BU := hid (HBw.out.trans (hbu.mono (Nat.le_of_lt HR.out.lt)))
      clear hq1 hbu R1 HR HBw S1
      by_cases h1 : (zs.drop p).take 2 = [40, 42]
      · rw [show decide ((zs.drop p).take ([40, 42] : List Int).length = [40, 42]) = true from decide_eq_true h1]
        have hle := TL.out _ _ _ h1
        have HF : Hid (N = (noteGo (d + 1) 0 (zs.drop (p + 2))).map (· + (p + 2 - p0))) := by
          show _ = _
          rw [HE.out, NO.out p d h1, Option.map_map]
          congr 1
          funext k
          simp only [Function.comp]
          omega
        have c1 := RU.out.c1
        have f1 := RU.out.frozen 1
        have RN := hid (RU.out.set1 ((p + 2 : Nat) : Int))
        have BN := hid (BU.out.setCell (p := ⟨b, 1, none⟩) (Nat.le_refl _) (.int .i64 ((p + 2 : Nat) : Int)))
        have hc : ((p + 2 : Nat) : Int) = (p : Int) + 2 := by omega
        have e1 : IntKind.i64.wrap (d + 1) = d + 1 := by rw [IntKind.wrap_i64]; omega
        have e2 : IntKind.i64.wrap ((p : Int) + 2) = (p : Int) + 2 := by rw [IntKind.wrap_i64]; omega
        have HM := hid RN.out.plc
        rw [hc] at RN BN HM
        clear h1 HE RU BU S2 NO NC NS NE TL
        go_wp2
        go_roundw
        case rel => exact ⟨p + 2, d + 1, by go_num, by omega, hle, by omega, by omega, by omega, RN, BN, HF⟩
        case measure => rw [HM.out, HPC.out]; omega
      · rw [show decide ((zs.drop p).take ([40, 42] : List Int).length = [40, 42]) = false from decide_eq_false h1]
        go_wp2_with fail
        refine (S2.out p hpl _ RU.out).mono ?_
        rintro o u2 ⟨rfl, q2, hq2⟩
        have hbu2 : Below u.heap.size u u2 := by rw [hq2]; exact drewL (Below.refl _ _) _
        have RV := hid (RU.out.below hbu2)
        have BV := hid (BU.out.trans (hbu2.mono (Nat.le_of_lt RU.out.lt)))
        clear hq2 hbu2 RU BU S2
        have c1 := RV.out.c1
        have f1 := RV.out.frozen 1
        by_cases h2 : (zs.drop p).take 2 = [42, 41]
        · rw [show decide ((zs.drop p).take ([42, 41] : List Int).length = [42, 41]) = true from decide_eq_true h2]
          have hle := TL.out _ _ _ h2
          have HC := hid (NC.out p d h2)
          have RN := hid (RV.out.set1 ((p + 2 : Nat) : Int))
          have BN := hid (BV.out.setCell (p := ⟨b, 1, none⟩) (Nat.le_refl _) (.int .i64 ((p + 2 : Nat) : Int)))
          have hc : ((p + 2 : Nat) : Int) = (p : Int) + 2 := by omega
          have e1 : IntKind.i64.wrap (d - 1) = d - 1 := by rw [IntKind.wrap_i64]; omega
          have e2 : IntKind.i64.wrap ((p : Int) + 2) = (p : Int) + 2 := by rw [IntKind.wrap_i64]; omega
          have HM := hid RN.out.plc
          rw [hc] at RN BN HM
          clear h2 RV BV NO NC NS NE TL
          by_cases hd : d - 1 = 0
          · have HF : Hid (N = some (p + 2 - p0)) := by
              show _ = _
              rw [HE.out, HC.out, if_pos hd]
              simp only [Option.map_some, Option.some.injEq]
              omega
            obtain rfl : d = 1 := by omega
            have RF : Hid (RAt (u2.setCell ⟨b, 1, none⟩ (.int .i64 ((p : Int) + 2))) b zs ((p0 + (p + 2 - p0) : Nat) : Int) f e ws) := by
              show RAt _ _ _ _ _ _ _
              rw [show ((p0 + (p + 2 - p0) : Nat) : Int) = (p : Int) + 2 by omega]
              exact RN.out
            clear HE HC hd RN
            go_wp2
            exact bodyPost_ret (v := .tuple #[]) (by simp [results, Tryd.results38, go_sem]) rfl ⟨rfl, BN.out, by rw [HF.out]; exact RF.out⟩
          · have HF : Hid (N = (noteGo (d - 1) 0 (zs.drop (p + 2))).map (· + (p + 2 - p0))) := by
              show _ = _
              rw [HE.out, HC.out, if_neg hd, Option.map_map]
              congr 1
              funext k
              simp only [Function.comp]
              omega
            have hdb : (d - 1 == 0) = false := by simpa using hd
            clear HE HC hd
            go_wp2
            go_roundw
            case rel => exact ⟨p + 2, d - 1, by go_num, by omega, hle, by omega, by omega, by omega, RN, BN, HF⟩
            case measure => rw [HM.out, HPC.out]; omega
        · rw [show decide ((zs.drop p).take ([42, 41] : List Int).length = [42, 41]) = false from decide_eq_false h2]
          have HC := hid (NS.out p d hlt h1 h2)
          have RN := hid (RV.out.set1 ((p + 1 : Nat) : Int))
          have BN := hid (BV.out.setCell (p := ⟨b, 1, none⟩) (Nat.le_refl _) (.int .i64 ((p + 1 : Nat) : Int)))
          have hc : ((p + 1 : Nat) : Int) = (p : Int) + 1 := by omega
          have e2 : IntKind.i64.wrap ((p : Int) + 1) = (p : Int) + 1 := by rw [IntKind.wrap_i64]; omega
          have HM := hid RN.out.plc
          rw [hc] at RN BN HM
          have HF : Hid (N = (noteGo d 0 (zs.drop (p + 1))).map (· + (p + 1 - p0))) := by
            show _ = _
            rw [HE.out, HC.out, Option.map_map]
            congr 1
            funext k
            simp only [Function.comp]
            omega
          clear h1 h2 RV BV NO NC NS NE TL HC HE
          go_wp2
          go_roundw
          case rel => exact ⟨p + 1, d, by go_num, by omega, by omega, by omega, by omega, by omega, RN, BN, HF⟩
          case measure => rw [HM.out, HPC.out]; omega
    · obtain rfl : p = zs.length := by omega
      have HF : Hid (N = none) := by
        show _ = _
        rw [HE.out, NE.out]; rfl
      clear HE NO NC NS NE TL S1 S2 HN H
      go_wp2
      go_quiet (fail)
      have R1 := hid (HR.out.drew nq)
      have f3 := R1.out.frozen 3
      have c3 := R1.out.c3
      have B1 := hid (drewL HBw.out nq)
      have RN := hid (R1.out.set3 253)
      have BN := hid (B1.out.setCell (p := ⟨b, 3, none⟩) (Nat.le_refl _) (.int .i64 253))
      clear R1 B1 HR HBw c0 c1
      go_wp2
      go_end0
      refine ⟨rfl, BN.out, ?_⟩
      rw [HF.out]
      exact RN.out
end Go.Proofs.YtojgibigmoaejaaDoor.Lex
