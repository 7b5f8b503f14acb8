/-
  LEX: escapes: by contract.
-/
import Derived.Test.YtojgibigmoaejaaDoorLexNote
import Derived.Deep.QuietTactic
import Derived.BigQuiet
namespace Go.Proofs.YtojgibigmoaejaaDoor.Lex
open Go.RowKit Go.Proofs.YtojgibigmoaejaaDoor.Utf
set_option linter.unusedSimpArgs false
set_option linter.unusedVariables false

theorem drewL {B : Nat} {w w' : World} (h : Below B w w') (n : Nat) : Below B w (w'.drewN n) := ⟨h.os, h.tape, h.output, h.size, h.block⟩
def escV (zs : List Int) : Int × Nat := (escL zs).getD (0, 0)
theorem ret_esc {p q : Int × Nat} (h : p = q) : Ending.returned (.tuple #[.int .u8 p.1, .int .i64 p.2]) = .returned (.tuple #[.int .u8 q.1, .int .i64 q.2]) := by rw [h]
theorem pre1 (zs : List Int) (hb : ∀ z ∈ zs, 0 ≤ z ∧ z < 256) (k : Int) (hk : 0 ≤ k ∧ k < 256) (w : World) :
    Calls Tryd.prog 47 #[.string (strOfNums zs), .string (strOfNums [k])] w fun e w' => e = .returned (.bool (decide (zs.take 1 = [k]))) ∧ w' = w :=
  prefix_any zs [k] hb (by intro z hz; simp at hz; subst hz; exact hk) w

set_option maxHeartbeats 2000000 in
theorem escaped_any (zs : List Int) (hb : ∀ z ∈ zs, 0 ≤ z ∧ z < 256) (hl : zs.length ≤ 65536) (w : World) :
    Calls Tryd.prog 49 #[.string (strOfNums zs)] w fun e w' => e = .returned (.tuple #[.int .u8 (escV zs).1, .int .i64 (escV zs).2]) ∧ Below w.heap.size w w' := by
  have hs : (strOfNums zs).size = zs.length := strOfNums_size _
  have c1 : strOfNums [110] = ⟨#[110]⟩ := rfl
  have c2 : strOfNums [116] = ⟨#[116]⟩ := rfl
  have c3 : strOfNums [34] = ⟨#[34]⟩ := rfl
  have c4 : strOfNums [92] = ⟨#[92]⟩ := rfl
  have P1 := hid (fun W => c1 ▸ pre1 zs hb 110 (by omega) W)
  have P2 := hid (fun W => c2 ▸ pre1 zs hb 116 (by omega) W)
  have P3 := hid (fun W => c3 ▸ pre1 zs hb 34 (by omega) W)
  have P4 := hid (fun W => c4 ▸ pre1 zs hb 92 (by omega) W)
  have HG := hid (fun i h => str_get hb i h)
  have R := hid (fun W => run_digit (zs.take 3) (fun z hz => hb z (List.mem_of_mem_take hz)) W)
  have HT := hid (str_head zs 3)
  have hs3 : (strOfNums ((zs.take 3).takeWhile digitB)).size = ((zs.take 3).takeWhile digitB).length := strOfNums_size _
  clear c1 c2 c3 c4
  generalize strOfNums zs = s at *
  obtain ⟨o, ho⟩ : ∃ o, escV zs = o := ⟨_, rfl⟩
  rw [ho]
  have HO := hid ho
  clear ho
  by_cases h1 : zs.take 1 = [110]
  · obtain rfl : o = (10, 1) := by
      rw [← HO.out]
      match zs, h1 with
      | c :: t, h1 => simp at h1; subst h1; rfl
    rw [decide_eq_true h1] at P1
    clear HG R HT HO hb
    go_enter Tryd.func49, Tryd.ntmps49
    go_wp2_with fail
    refine (P1.out _).mono ?_
    rintro e w' ⟨rfl, rfl⟩
    go_wp2
    exact bodyPost_ret (v := .tuple #[.int .u8 10, .int .i64 1]) (by simp [results, Tryd.results49, go_sem]) rfl ⟨rfl, Below.refl _ _⟩
  rw [decide_eq_false h1] at P1
  by_cases h2 : zs.take 1 = [116]
  · obtain rfl : o = (9, 1) := by
      rw [← HO.out]
      match zs, h2 with
      | c :: t, h2 => simp at h2; subst h2; rfl
    rw [decide_eq_true h2] at P2
    clear HG R HT HO hb
    go_enter Tryd.func49, Tryd.ntmps49
    go_wp2_with fail
    refine (P1.out _).mono ?_
    rintro e w' ⟨rfl, rfl⟩
    go_wp2_with fail
    refine (P2.out _).mono ?_
    rintro e w' ⟨rfl, rfl⟩
    go_wp2
    exact bodyPost_ret (v := .tuple #[.int .u8 9, .int .i64 1]) (by simp [results, Tryd.results49, go_sem]) rfl ⟨rfl, Below.refl _ _⟩
  rw [decide_eq_false h2] at P2
  by_cases h3 : zs.take 1 = [34]
  · obtain rfl : o = (34, 1) := by
      rw [← HO.out]
      match zs, h3 with
      | c :: t, h3 => simp at h3; subst h3; rfl
    rw [decide_eq_true h3] at P3
    have hpos : 0 < zs.length := by
      match zs, h3 with
      | c :: t, h3 => simp
    have HI : Hid (∀ h, ((s[0]'h).toNat : Int) = 34) := hid fun h => by
      rw [HG.out 0 h]
      match zs, h3 with
      | c :: t, h3 => simp at h3; simp [h3]
    clear HG R HT HO hb
    go_enter Tryd.func49, Tryd.ntmps49
    go_wp2_with fail
    refine (P1.out _).mono ?_
    rintro e w' ⟨rfl, rfl⟩
    go_wp2_with fail
    refine (P2.out _).mono ?_
    rintro e w' ⟨rfl, rfl⟩
    go_wp2_with fail
    refine (P3.out _).mono ?_
    rintro e w' ⟨rfl, rfl⟩
    go_wp2
    rw [HI.out]
    exact bodyPost_ret (v := .tuple #[.int .u8 34, .int .i64 1]) (by simp [results, Tryd.results49, go_sem]) rfl ⟨rfl, Below.refl _ _⟩
  rw [decide_eq_false h3] at P3
  by_cases h4 : zs.take 1 = [92]
  · obtain rfl : o = (92, 1) := by
      rw [← HO.out]
      match zs, h4 with
      | c :: t, h4 => simp at h4; subst h4; rfl
    rw [decide_eq_true h4] at P4
    have hpos : 0 < zs.length := by
      match zs, h4 with
      | c :: t, h4 => simp
    have HI : Hid (∀ h, ((s[0]'h).toNat : Int) = 92) := hid fun h => by
      rw [HG.out 0 h]
      match zs, h4 with
      | c :: t, h4 => simp at h4; simp [h4]
    clear HG R HT HO hb
    go_enter Tryd.func49, Tryd.ntmps49
    go_wp2_with fail
    refine (P1.out _).mono ?_
    rintro e w' ⟨rfl, rfl⟩
    go_wp2_with fail
    refine (P2.out _).mono ?_
    rintro e w' ⟨rfl, rfl⟩
    go_wp2_with fail
    refine (P3.out _).mono ?_
    rintro e w' ⟨rfl, rfl⟩
    go_wp2_with fail
    refine (P4.out _).mono ?_
    rintro e w' ⟨rfl, rfl⟩
    go_wp2
    rw [HI.out]
    exact bodyPost_ret (v := .tuple #[.int .u8 92, .int .i64 1]) (by simp [results, Tryd.results49, go_sem]) rfl ⟨rfl, Below.refl _ _⟩
  rw [decide_eq_false h4] at P4
  by_cases hlen : zs.length < 3
  · obtain rfl : o = (0, 0) := by
      rw [← HO.out]
      match zs, hlen, h1, h2, h3, h4 with
      | [], _, _, _, _, _ => rfl
      | [c], _, h1, h2, h3, h4 => simp at h1 h2 h3 h4; simp [escV, escL, h1, h2, h3, h4]
      | [c, d], _, h1, h2, h3, h4 => simp at h1 h2 h3 h4; simp [escV, escL, h1, h2, h3, h4]
    have hli : (zs.length : Int) < 3 := by omega
    clear HG R HT HO hb
    go_enter Tryd.func49, Tryd.ntmps49
    go_wp2_with fail
    refine (P1.out _).mono ?_
    rintro e w' ⟨rfl, rfl⟩
    go_wp2_with fail
    refine (P2.out _).mono ?_
    rintro e w' ⟨rfl, rfl⟩
    go_wp2_with fail
    refine (P3.out _).mono ?_
    rintro e w' ⟨rfl, rfl⟩
    go_wp2_with fail
    refine (P4.out _).mono ?_
    rintro e w' ⟨rfl, rfl⟩
    go_wp2
    exact bodyPost_ret (v := .tuple #[.int .u8 0, .int .i64 0]) (by simp [results, Tryd.results49, go_sem]) rfl ⟨rfl, Below.refl _ _⟩
  have hli : ¬ (zs.length : Int) < 3 := by omega
  have h3l : (3 : Int) ≤ (zs.length : Int) := by omega
  obtain ⟨c, d, f, r, rfl⟩ : ∃ c d f r, zs = c :: d :: f :: r := by
    match zs, hlen with
    | [], h => simp at h
    | [_], h => simp at h
    | [_, _], h => simp at h
    | c :: d :: f :: r, _ => exact ⟨c, d, f, r, rfl⟩
  simp only [List.take_succ_cons, List.take_zero, List.cons.injEq, and_true] at h1 h2 h3 h4
  have HE : Hid (escV (c :: d :: f :: r) = ((if digitB c && digitB d && digitB f && decide (100 * (c - 48) + 10 * (d - 48) + (f - 48) ≤ 255) then some (100 * (c - 48) + 10 * (d - 48) + (f - 48), 3) else none : Option (Int × Nat)).getD (0, 0))) := by
    show _ = _
    simp only [escV, escL]
    rw [if_neg h1, if_neg h2, if_neg (by omega)]
  have HI0 : Hid (∀ h, ((s[0]'h).toNat : Int) = c) := hid fun h => HG.out 0 h
  have HI1 : Hid (∀ h, ((s[1]'h).toNat : Int) = d) := hid fun h => HG.out 1 h
  have HI2 : Hid (∀ h, ((s[2]'h).toNat : Int) = f) := hid fun h => HG.out 2 h
  have htk : (c :: d :: f :: r).take 3 = [c, d, f] := rfl
  rw [htk] at R HT hs3
  clear htk HG hb hlen
  rw [← HO.out]
  clear HO
  by_cases hd : digitB c = true ∧ digitB d = true ∧ digitB f = true
  · obtain ⟨d1, d2, d3⟩ := hd
    have e : [c, d, f].takeWhile digitB = [c, d, f] := by simp [List.takeWhile_cons, d1, d2, d3]
    rw [e] at R hs3
    have r1 : 48 ≤ c ∧ c ≤ 57 := by unfold digitB at d1; simpa using d1
    have r2 : 48 ≤ d ∧ d ≤ 57 := by unfold digitB at d2; simpa using d2
    have r3 : 48 ≤ f ∧ f ≤ 57 := by unfold digitB at d3; simpa using d3
    have HE1 : Hid (escV (c :: d :: f :: r) = if 100 * (c - 48) + 10 * (d - 48) + (f - 48) ≤ 255 then (100 * (c - 48) + 10 * (d - 48) + (f - 48), 3) else (0, 0)) := by
      show _ = _
      rw [HE.out, d1, d2, d3]
      simp only [Bool.and_self, Bool.true_and, decide_eq_true_eq]
      split <;> rfl
    obtain ⟨s3, hs3e⟩ : ∃ s3, strOfNums [c, d, f] = s3 := ⟨_, rfl⟩
    rw [hs3e] at R HT hs3
    simp only [List.length_cons, List.length_nil] at hs3
    generalize escV (c :: d :: f :: r) = o2 at *
    generalize (c :: d :: f :: r).length = L at *
    have w0 : 0 ≤ 100 * (c - 48) + 10 * (d - 48) + (f - 48) ∧ 100 * (c - 48) + 10 * (d - 48) + (f - 48) ≤ 999 := by omega
    clear HE e hs3e h1 h2 h3 h4 d1 d2 d3
    go_enter Tryd.func49, Tryd.ntmps49
    go_wp2_with fail
    refine (P1.out _).mono ?_
    rintro e w' ⟨rfl, rfl⟩
    go_wp2_with fail
    refine (P2.out _).mono ?_
    rintro e w' ⟨rfl, rfl⟩
    go_wp2_with fail
    refine (P3.out _).mono ?_
    rintro e w' ⟨rfl, rfl⟩
    go_wp2_with fail
    refine (P4.out _).mono ?_
    rintro e w' ⟨rfl, rfl⟩
    go_wp2_with fail
    rw [HT.out]
    refine (R.out _).mono ?_
    rintro e w1 ⟨rfl, hb1⟩
    have HB1 := hid hb1
    clear hb1
    have i0 : ((s[0]'(by omega)).toNat : Int) = c := HI0.out _
    have i1 : ((s[1]'(by omega)).toNat : Int) = d := HI1.out _
    have i2 : ((s[2]'(by omega)).toNat : Int) = f := HI2.out _
    have l1 : (1 : Int) < (L : Int) := by omega
    have l2 : (2 : Int) < (L : Int) := by omega
    have u0 : IntKind.u8.wrap (c - 48) = c - 48 := by rw [IntKind.wrap_u8]; omega
    have u1 : IntKind.u8.wrap (d - 48) = d - 48 := by rw [IntKind.wrap_u8]; omega
    have u2 : IntKind.u8.wrap (f - 48) = f - 48 := by rw [IntKind.wrap_u8]; omega
    have v0 : IntKind.i64.wrap (c - 48) = c - 48 := by rw [IntKind.wrap_i64]; omega
    have v1 : IntKind.i64.wrap (d - 48) = d - 48 := by rw [IntKind.wrap_i64]; omega
    have v2 : IntKind.i64.wrap (f - 48) = f - 48 := by rw [IntKind.wrap_i64]; omega
    clear HI0 HI1 HI2 R P1 P2 P3 P4
    have x0 : IntKind.i64.wrap (100 * (c - 48)) = 100 * (c - 48) := by rw [IntKind.wrap_i64]; omega
    have x1 : IntKind.i64.wrap (10 * (d - 48)) = 10 * (d - 48) := by rw [IntKind.wrap_i64]; omega
    have x2 : IntKind.i64.wrap (100 * (c - 48) + 10 * (d - 48)) = 100 * (c - 48) + 10 * (d - 48) := by rw [IntKind.wrap_i64]; omega
    have x3 : IntKind.i64.wrap (100 * (c - 48) + 10 * (d - 48) + (f - 48)) = 100 * (c - 48) + 10 * (d - 48) + (f - 48) := by rw [IntKind.wrap_i64]; omega
    go_wp2
    go_quiet (fail)
    by_cases hv : 100 * (c - 48) + 10 * (d - 48) + (f - 48) ≤ 255
    · have HF := hid (HE1.out.trans (if_pos hv))
      have hv' : ¬ 100 * (c - 48) + 10 * (d - 48) + (f - 48) > 255 := by omega
      have y0 : IntKind.u8.wrap (100 * (c - 48) + 10 * (d - 48) + (f - 48)) = 100 * (c - 48) + 10 * (d - 48) + (f - 48) := by rw [IntKind.wrap_u8]; omega
      clear HE1 u0 u1 u2 v0 v1 v2 x0 x1 x2 x3 hv
      generalize 100 * (c - 48) + 10 * (d - 48) + (f - 48) = n at *
      go_wp2
      exact bodyPost_ret (v := .tuple #[.int .u8 n, .int .i64 3]) (by simp [results, Tryd.results49, go_sem]) rfl ⟨ret_esc HF.out.symm, drewL HB1.out _⟩
    · have HF := hid (HE1.out.trans (if_neg hv))
      have hv' : 100 * (c - 48) + 10 * (d - 48) + (f - 48) > 255 := by omega
      clear HE1 u0 u1 u2 v0 v1 v2 x0 x1 x2 x3 hv
      generalize 100 * (c - 48) + 10 * (d - 48) + (f - 48) = n at *
      go_wp2
      exact bodyPost_ret (v := .tuple #[.int .u8 0, .int .i64 0]) (by simp [results, Tryd.results49, go_sem]) rfl ⟨ret_esc HF.out.symm, drewL HB1.out _⟩
  · have HF : Hid (escV (c :: d :: f :: r) = (0, 0)) := by
      show _ = _
      rw [HE.out]
      rw [if_neg]
      · rfl
      · intro h
        simp only [Bool.and_eq_true] at h
        exact hd ⟨h.1.1.1, h.1.1.2, h.1.2⟩
    have hlt : ([c, d, f].takeWhile digitB).length < 3 := by
      by_cases d1 : digitB c = true
      · by_cases d2 : digitB d = true
        · have d3 : ¬ digitB f = true := fun d3 => hd ⟨d1, d2, d3⟩
          simp [List.takeWhile_cons, d1, d2, d3]
        · simp [List.takeWhile_cons, d1, d2]
      · simp [List.takeWhile_cons, d1]
    generalize [c, d, f].takeWhile digitB = xs at *
    generalize strOfNums xs = t at *
    generalize strOfNums [c, d, f] = s3 at *
    generalize escV (c :: d :: f :: r) = o2 at *
    generalize (c :: d :: f :: r).length = L at *
    have hlt' : (xs.length : Int) < 3 := by omega
    clear HE HI0 HI1 HI2 h1 h2 h3 h4 hd hlt
    go_enter Tryd.func49, Tryd.ntmps49
    go_wp2_with fail
    refine (P1.out _).mono ?_
    rintro e w' ⟨rfl, rfl⟩
    go_wp2_with fail
    refine (P2.out _).mono ?_
    rintro e w' ⟨rfl, rfl⟩
    go_wp2_with fail
    refine (P3.out _).mono ?_
    rintro e w' ⟨rfl, rfl⟩
    go_wp2_with fail
    refine (P4.out _).mono ?_
    rintro e w' ⟨rfl, rfl⟩
    go_wp2_with fail
    rw [HT.out]
    refine (R.out _).mono ?_
    rintro e w1 ⟨rfl, hb1⟩
    go_wp2
    exact bodyPost_ret (v := .tuple #[.int .u8 0, .int .i64 0]) (by simp [results, Tryd.results49, go_sem]) rfl ⟨ret_esc HF.out.symm, hb1⟩
end Go.Proofs.YtojgibigmoaejaaDoor.Lex
