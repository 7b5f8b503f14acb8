/-
  LEX: the document's Right: which character a text begins with at a place.
-/
import Derived.Test.YtojgibigmoaejaaDoorLexKit
namespace Go.Proofs.YtojgibigmoaejaaDoor.Lex
open Go.RowKit Go.Proofs.YtojgibigmoaejaaDoor.Utf
set_option linter.unusedSimpArgs false

theorem within_c (c a b : Int) (w : World) : Calls Tryd.prog 17 #[.int .u8 c, .int .u8 a, .int .u8 b] w fun e w' => e = .returned (.bool (decide (a ≤ c) && decide (c ≤ b))) ∧ w' = w := by
  have H : Hid ((decide (a ≤ c) && decide (c ≤ b)) = (decide (a ≤ c) && decide (c ≤ b))) := rfl
  generalize hq : (decide (a ≤ c) && decide (c ≤ b)) = q
  have HQ := hid hq
  clear hq H
  by_cases h1 : a ≤ c
  · by_cases h2 : c ≤ b
    · obtain rfl : q = true := by rw [← HQ.out]; simp [h1, h2]
      have h1' : c ≥ a := h1
      go_enter Tryd.func17, Tryd.ntmps17; go_wp2; go_ret; exact ⟨rfl, rfl⟩
    · obtain rfl : q = false := by rw [← HQ.out]; simp [h1, h2]
      have h1' : c ≥ a := h1
      go_enter Tryd.func17, Tryd.ntmps17; go_wp2; go_ret; exact ⟨rfl, rfl⟩
  · obtain rfl : q = false := by rw [← HQ.out]; simp [h1]
    have h1' : ¬ c ≥ a := h1
    go_enter Tryd.func17, Tryd.ntmps17; go_wp2; go_ret; exact ⟨rfl, rfl⟩
set_option maxHeartbeats 1000000 in
theorem long_1 (c : Int) (h : c < 128) (w : World) : Calls Tryd.prog 56 #[.int .u8 c] w fun e w' => e = .returned (.tuple #[.int .i64 1, .int .i64 0]) ∧ w' = w := by
  go_enter Tryd.func56, Tryd.ntmps56
  go_wp2
  exact bodyPost_ret (v := .tuple #[.int .i64 1, .int .i64 0]) (by simp [results, Tryd.results56, go_sem]) rfl ⟨rfl, rfl⟩
set_option maxHeartbeats 1000000 in
theorem long_2 (c : Int) (h : 192 ≤ c ∧ c ≤ 223) (w : World) : Calls Tryd.prog 56 #[.int .u8 c] w fun e w' => e = .returned (.tuple #[.int .i64 2, .int .i64 128]) ∧ w' = w := by
  have W0 := hid (fun W => within_c c 192 223 W)
  rw [show (decide (192 ≤ c) && decide (c ≤ 223)) = true by simp; omega] at W0
  have h0 : ¬ c < 128 := by omega
  clear h
  go_enter Tryd.func56, Tryd.ntmps56
  go_wp2_with fail
  refine (W0.out _).mono ?_
  rintro e w' ⟨rfl, rfl⟩
  go_wp2
  exact bodyPost_ret (v := .tuple #[.int .i64 2, .int .i64 128]) (by simp [results, Tryd.results56, go_sem]) rfl ⟨rfl, rfl⟩
set_option maxHeartbeats 1000000 in
theorem long_3 (c : Int) (h : 224 ≤ c ∧ c ≤ 239) (w : World) : Calls Tryd.prog 56 #[.int .u8 c] w fun e w' => e = .returned (.tuple #[.int .i64 3, .int .i64 2048]) ∧ w' = w := by
  have W0 := hid (fun W => within_c c 192 223 W)
  rw [show (decide (192 ≤ c) && decide (c ≤ 223)) = false by simp; omega] at W0
  have W1 := hid (fun W => within_c c 224 239 W)
  rw [show (decide (224 ≤ c) && decide (c ≤ 239)) = true by simp; omega] at W1
  have h0 : ¬ c < 128 := by omega
  clear h
  go_enter Tryd.func56, Tryd.ntmps56
  go_wp2_with fail
  refine (W0.out _).mono ?_
  rintro e w' ⟨rfl, rfl⟩
  go_wp2_with fail
  refine (W1.out _).mono ?_
  rintro e w' ⟨rfl, rfl⟩
  go_wp2
  exact bodyPost_ret (v := .tuple #[.int .i64 3, .int .i64 2048]) (by simp [results, Tryd.results56, go_sem]) rfl ⟨rfl, rfl⟩
set_option maxHeartbeats 1000000 in
theorem long_4 (c : Int) (h : 240 ≤ c ∧ c ≤ 247) (w : World) : Calls Tryd.prog 56 #[.int .u8 c] w fun e w' => e = .returned (.tuple #[.int .i64 4, .int .i64 65536]) ∧ w' = w := by
  have W0 := hid (fun W => within_c c 192 223 W)
  rw [show (decide (192 ≤ c) && decide (c ≤ 223)) = false by simp; omega] at W0
  have W1 := hid (fun W => within_c c 224 239 W)
  rw [show (decide (224 ≤ c) && decide (c ≤ 239)) = false by simp; omega] at W1
  have W2 := hid (fun W => within_c c 240 247 W)
  rw [show (decide (240 ≤ c) && decide (c ≤ 247)) = true by simp; omega] at W2
  have h0 : ¬ c < 128 := by omega
  clear h
  go_enter Tryd.func56, Tryd.ntmps56
  go_wp2_with fail
  refine (W0.out _).mono ?_
  rintro e w' ⟨rfl, rfl⟩
  go_wp2_with fail
  refine (W1.out _).mono ?_
  rintro e w' ⟨rfl, rfl⟩
  go_wp2_with fail
  refine (W2.out _).mono ?_
  rintro e w' ⟨rfl, rfl⟩
  go_wp2
  exact bodyPost_ret (v := .tuple #[.int .i64 4, .int .i64 65536]) (by simp [results, Tryd.results56, go_sem]) rfl ⟨rfl, rfl⟩
set_option maxHeartbeats 1000000 in
theorem long_0 (c : Int) (h : (128 ≤ c ∧ c < 192) ∨ 248 ≤ c) (w : World) : Calls Tryd.prog 56 #[.int .u8 c] w fun e w' => e = .returned (.tuple #[.int .i64 0, .int .i64 0]) ∧ w' = w := by
  have W0 := hid (fun W => within_c c 192 223 W)
  rw [show (decide (192 ≤ c) && decide (c ≤ 223)) = false by simp; omega] at W0
  have W1 := hid (fun W => within_c c 224 239 W)
  rw [show (decide (224 ≤ c) && decide (c ≤ 239)) = false by simp; omega] at W1
  have W2 := hid (fun W => within_c c 240 247 W)
  rw [show (decide (240 ≤ c) && decide (c ≤ 247)) = false by simp; omega] at W2
  have h0 : ¬ c < 128 := by omega
  clear h
  go_enter Tryd.func56, Tryd.ntmps56
  go_wp2_with fail
  refine (W0.out _).mono ?_
  rintro e w' ⟨rfl, rfl⟩
  go_wp2_with fail
  refine (W1.out _).mono ?_
  rintro e w' ⟨rfl, rfl⟩
  go_wp2_with fail
  refine (W2.out _).mono ?_
  rintro e w' ⟨rfl, rfl⟩
  go_wp2
  exact bodyPost_ret (v := .tuple #[.int .i64 0, .int .i64 0]) (by simp [results, Tryd.results56, go_sem]) rfl ⟨rfl, rfl⟩
/-- How many bytes the character at the beginning has; 0: there is none. -/
def charN (zs : List Int) : Nat := match atL zs with | none => 0 | some (_, k) => k
theorem charN_eq {zs : List Int} {c : Int} {t : List Int} (h : zs = c :: t) : charN zs = match firstL c with | none => 0 | some (n0, more) => match tailsL more n0 t with | none => 0 | some n => if Rune n ∧ (oneL n).length = more + 1 then more + 1 else 0 := by
  subst h
  unfold charN
  simp only [atL]
  cases firstL c with
  | none => rfl
  | some p =>
    obtain ⟨n0, more⟩ := p
    simp only
    cases tailsL more n0 t with
    | none => rfl
    | some n =>
      simp only
      by_cases hR : Rune n ∧ (oneL n).length = more + 1
      · simp only [if_pos hR]
      · simp only [if_neg hR]
theorem tails_short : ∀ (m : Nat) (n : Int) (t : List Int), t.length < m → tailsL m n t = none := fun m n t h => by
  cases hh : tailsL m n t with
  | none => rfl
  | some r => have := tailsL_some m n t r hh; omega
set_option maxHeartbeats 1000000 in
theorem char_one (zs : List Int) (hb : ∀ z ∈ zs, 0 ≤ z ∧ z < 256) (hl : zs.length ≤ 65536) (pos : Nat) (hp : pos < zs.length) (hc : zs.getD pos 0 < 128) (w : World) :
    Calls Tryd.prog 36 #[.string (strOfNums zs), .int .i64 pos] w fun e w' => e = .returned (.int .i64 (charN (zs.drop pos) : Nat)) ∧ Below w.heap.size w w' := by
  have hs : (strOfNums zs).size = zs.length := strOfNums_size zs
  have HG := hid (str_get hb pos (by rw [hs]; exact hp))
  have HD := hid (drop_at hp)
  have hpi : (pos : Int) < (zs.length : Int) := by omega
  have HC : Hid (charN (zs.drop pos) = 1) := by
    show _ = _
    have h0 := (hb _ (List.getElem_mem hp)).1
    rw [← getD_lt hp] at h0
    unfold charN; rw [HD.out, atL_low _ h0 hc]
  have L := hid (fun W => long_1 _ hc W)
  generalize charN (zs.drop pos) = r at *
  generalize strOfNums zs = s at *
  have i0 : ((s[pos]'(by rw [hs]; exact hp)).toNat : Int) = zs.getD pos 0 := HG.out
  clear HG HD hb hc
  generalize zs.getD pos 0 = c at *
  have hpl : ¬ (pos : Int) + 1 > (zs.length : Int) := by omega
  go_enter Tryd.func36, Tryd.ntmps36
  go_wp2_with fail
  refine (L.out _).mono ?_
  rintro e w' ⟨rfl, rfl⟩
  go_wp2
  go_ret
  exact ⟨by rw [HC.out]; rfl, Below.refl _ _⟩
set_option maxHeartbeats 1000000 in
theorem char_none (zs : List Int) (hb : ∀ z ∈ zs, 0 ≤ z ∧ z < 256) (pos : Nat) (hp : pos < zs.length) (hc : (128 ≤ zs.getD pos 0 ∧ zs.getD pos 0 < 192) ∨ 248 ≤ zs.getD pos 0) (w : World) :
    Calls Tryd.prog 36 #[.string (strOfNums zs), .int .i64 pos] w fun e w' => e = .returned (.int .i64 (charN (zs.drop pos) : Nat)) ∧ Below w.heap.size w w' := by
  have hs : (strOfNums zs).size = zs.length := strOfNums_size zs
  have HG := hid (str_get hb pos (by rw [hs]; exact hp))
  have HD := hid (drop_at hp)
  have hpi : (pos : Int) < (zs.length : Int) := by omega
  have HC : Hid (charN (zs.drop pos) = 0) := by
    show _ = _
    rw [charN_eq HD.out]
    unfold firstL
    rw [if_neg (by omega), if_neg (by omega), if_neg (by omega), if_neg (by omega)]
  have L := hid (fun W => long_0 _ hc W)
  generalize charN (zs.drop pos) = r at *
  generalize strOfNums zs = s at *
  have i0 : ((s[pos]'(by rw [hs]; exact hp)).toNat : Int) = zs.getD pos 0 := HG.out
  clear HG HD hb hc
  generalize zs.getD pos 0 = c at *
  go_enter Tryd.func36, Tryd.ntmps36
  go_wp2_with fail
  refine (L.out _).mono ?_
  rintro e w' ⟨rfl, rfl⟩
  go_wp2
  go_ret
  exact ⟨by rw [HC.out]; rfl, Below.refl _ _⟩
theorem charN_2 {zs : List Int} {c : Int} {t : List Int} (h : zs = c :: t) (hc : 192 ≤ c ∧ c ≤ 223) : charN zs = match tailsL 1 (c - 192) t with | none => 0 | some n => if Rune n ∧ (oneL n).length = 2 then 2 else 0 := by
  rw [charN_eq h]
  unfold firstL
  rw [if_neg (by omega), if_pos (by omega)]
theorem rune_2 {x : Int} (h0 : 0 ≤ x) (h1 : x < 2048) : (Rune x ∧ (oneL x).length = 2) ↔ ¬ (x < 128 ∨ x > 1114111 ∨ (x ≥ 55296 ∧ x ≤ 57343)) := by
  unfold Rune oneL
  by_cases a1 : x < 128
  · simp [a1] <;> omega
  by_cases a2 : x < 2048
  · simp [a1, a2] <;> omega
  by_cases a3 : x < 65536
  · simp [a1, a2, a3] <;> omega
  · simp [a1, a2, a3] <;> omega
set_option maxRecDepth 10000 in
set_option maxHeartbeats 4000000 in
theorem char_2 (zs : List Int) (hb : ∀ z ∈ zs, 0 ≤ z ∧ z < 256) (hl : zs.length ≤ 65536) (pos : Nat) (hp : pos < zs.length) (hc : 192 ≤ zs.getD pos 0 ∧ zs.getD pos 0 ≤ 223) (w : World) :
    Calls Tryd.prog 36 #[.string (strOfNums zs), .int .i64 pos] w fun e w' => e = .returned (.int .i64 (charN (zs.drop pos) : Nat)) ∧ Below w.heap.size w w' := by
  have hs : (strOfNums zs).size = zs.length := strOfNums_size zs
  have HG := hid (str_get hb pos (by rw [hs]; exact hp))
  have HD := hid (drop_at hp)
  have hpi : (pos : Int) < (zs.length : Int) := by omega
  have HC := hid (charN_2 HD.out hc)
  have L := hid (fun W => long_2 _ hc W)
  have HTS := hid (tails_short 1 (zs.getD pos 0 - 192) (zs.drop (pos + 1)))
  have HGA := hid (fun j h => str_get hb j h)
  have HDA := hid (fun j (hj : j < zs.length) => drop_at hj)
  have HBY := hid (fun j (hj : j < zs.length) => (show 0 ≤ zs.getD j 0 ∧ zs.getD j 0 < 256 by rw [getD_lt hj]; exact hb _ (List.getElem_mem hj)))
  generalize charN (zs.drop pos) = r at *
  generalize strOfNums zs = s at *
  have i0 : ((s[pos]'(by rw [hs]; exact hp)).toNat : Int) = zs.getD pos 0 := HG.out
  clear HG HD hb
  obtain ⟨c, hcc⟩ : ∃ c, zs.getD pos 0 = c := ⟨_, rfl⟩
  rw [hcc] at i0 L HC HTS hc
  clear hcc
  by_cases hpl : (pos : Int) + 2 > (zs.length : Int)
  · have HF : Hid (r = 0) := by
      show _ = _
      rw [HC.out, HTS.out (by rw [List.length_drop]; omega)]
    clear HC HTS HGA HDA HBY hc
    go_enter Tryd.func36, Tryd.ntmps36
    go_wp2_with fail
    refine (L.out _).mono ?_
    rintro e w' ⟨rfl, rfl⟩
    go_wp2
    go_ret
    exact ⟨by rw [HF.out]; rfl, Below.refl _ _⟩
  · have hrem : Int.tmod c 32 = c - 192 := by rw [Int.tmod_eq_emod_of_nonneg (by omega)]; omega
    have hx0 : 0 ≤ c - 192 := by omega
    have hxm : c - 192 < 32 := by omega
    clear HTS
    go_enter Tryd.func36, Tryd.ntmps36
    go_wp2_with fail
    refine (L.out _).mono ?_
    rintro e w' ⟨rfl, rfl⟩
    clear L
    go_wp2
    go_quiet (fail)
    go_wp2
    go_loopw [7, 8] (fun xv iv wr => ∃ (i : Nat) (x : Int) (q : Nat), xv = .int .i64 x ∧ iv = .int .i64 i ∧ wr = w'.drewN q ∧ 1 ≤ i ∧ i ≤ 2 ∧ 0 ≤ x ∧ (i = 1 ∧ x < 32 ∨ i = 2 ∧ x < 2048) ∧ Hid (r = match tailsL (2 - i) x (zs.drop (pos + i)) with | none => 0 | some n => if Rune n ∧ (oneL n).length = 2 then 2 else 0))
      (fun _ iv _ => 2 - (intOf iv).toNat)
    case atStart => exact ⟨1, c - 192, _, rfl, rfl, rfl, by omega, by omega, hx0, by omega, HC⟩
    case round =>
      obtain ⟨i, x, q, rfl, rfl, rfl, hi1, hin, hx0', hxb, HT⟩ := hrel
      clear HC i0 hrem
      by_cases hlt : i < 2
      · have hj : pos + i < zs.length := by omega
        obtain ⟨d0, d1⟩ := HBY.out (pos + i) hj
        have hstep := HT.out
        rw [HDA.out (pos + i) hj] at hstep
        obtain ⟨m, hm⟩ : ∃ m, 2 - i = m + 1 := ⟨2 - i - 1, by omega⟩
        rw [hm] at hstep
        simp only [tailsL] at hstep
        have i1 : ((s[pos + i]'(by rw [hs]; exact hj)).toNat : Int) = zs.getD (pos + i) 0 := HGA.out (pos + i) _
        generalize zs.getD (pos + i) 0 = d at *
        have W := hid (fun W => within_c d 128 191 W)
        have hlti : (i : Int) < 2 := by omega
        have hji : (pos : Int) + (i : Int) < (zs.length : Int) := by omega
        have hcast : ((pos + i : Nat) : Int) = (pos : Int) + (i : Int) := by omega
        by_cases hd : 128 ≤ d ∧ d < 192
        · rw [if_pos hd] at hstep
          have HF := hid (show r = match tailsL (2 - (i + 1)) (64 * x + (d - 128)) (zs.drop (pos + (i + 1))) with | none => 0 | some n => if Rune n ∧ (oneL n).length = 2 then 2 else 0 by
            rw [show 2 - (i + 1) = m by omega]; exact hstep)
          rw [show (decide ((128 : Int) ≤ d) && decide (d ≤ 191)) = true by simp; omega] at W
          have hx2 : x < 16777216 := by omega
          clear HT hstep hm HBY HDA HGA
          go_wp2_with (go_at_call 17; refine (W.out _).mono ?_; rintro e w' ⟨rfl, rfl⟩)
          go_roundw
          case rel => exact ⟨i + 1, 64 * x + (d - 128), _, by go_num, by go_num, rfl, by omega, by omega, by omega, by omega, HF⟩
          case measure => simp [intOf]; omega
        · rw [if_neg hd] at hstep
          have HF := hid (show r = 0 from hstep)
          rw [show (decide ((128 : Int) ≤ d) && decide (d ≤ 191)) = false by simp; omega] at W
          clear HT hstep hm HBY HDA HGA hxb
          go_wp2_with (go_at_call 17; refine (W.out _).mono ?_; rintro e w' ⟨rfl, rfl⟩)
          go_ret
          exact ⟨by rw [HF.out]; rfl, drewL (Below.refl _ _) _⟩
      · obtain rfl : i = 2 := by omega
        have HE : Hid (r = if Rune x ∧ (oneL x).length = 2 then 2 else 0) := HT
        have hxx : x < 2048 := by omega
        have hR := rune_2 hx0' hxx
        clear HT HBY HDA HGA hxb
        by_cases h1 : x < 128
        · have HF : Hid (r = 0) := HE.out.trans (if_neg (by rw [hR]; omega))
          clear hR HE
          go_wp2
          go_ret
          exact ⟨by rw [HF.out]; rfl, drewL (Below.refl _ _) _⟩
        by_cases h2 : x > 1114111
        · have HF : Hid (r = 0) := HE.out.trans (if_neg (by rw [hR]; omega))
          clear hR HE
          go_wp2
          go_ret
          exact ⟨by rw [HF.out]; rfl, drewL (Below.refl _ _) _⟩
        by_cases h3 : x ≥ 55296
        · by_cases h4 : x ≤ 57343
          · have HF : Hid (r = 0) := HE.out.trans (if_neg (by rw [hR]; omega))
            clear hR HE
            go_wp2
            go_ret
            exact ⟨by rw [HF.out]; rfl, drewL (Below.refl _ _) _⟩
          · have HF : Hid (r = 2) := HE.out.trans (if_pos (by rw [hR]; omega))
            clear hR HE
            go_wp2
            go_ret
            exact ⟨by rw [HF.out]; rfl, drewL (Below.refl _ _) _⟩
        · have HF : Hid (r = 2) := HE.out.trans (if_pos (by rw [hR]; omega))
          clear hR HE
          go_wp2
          go_ret
          exact ⟨by rw [HF.out]; rfl, drewL (Below.refl _ _) _⟩
theorem charN_3 {zs : List Int} {c : Int} {t : List Int} (h : zs = c :: t) (hc : 224 ≤ c ∧ c ≤ 239) : charN zs = match tailsL 2 (c - 224) t with | none => 0 | some n => if Rune n ∧ (oneL n).length = 3 then 3 else 0 := by
  rw [charN_eq h]
  unfold firstL
  rw [if_neg (by omega), if_neg (by omega), if_pos (by omega)]
theorem rune_3 {x : Int} (h0 : 0 ≤ x) (h1 : x < 65536) : (Rune x ∧ (oneL x).length = 3) ↔ ¬ (x < 2048 ∨ x > 1114111 ∨ (x ≥ 55296 ∧ x ≤ 57343)) := by
  unfold Rune oneL
  by_cases a1 : x < 128
  · simp [a1] <;> omega
  by_cases a2 : x < 2048
  · simp [a1, a2] <;> omega
  by_cases a3 : x < 65536
  · simp [a1, a2, a3] <;> omega
  · simp [a1, a2, a3] <;> omega
set_option maxRecDepth 10000 in
set_option maxHeartbeats 4000000 in
theorem char_3 (zs : List Int) (hb : ∀ z ∈ zs, 0 ≤ z ∧ z < 256) (hl : zs.length ≤ 65536) (pos : Nat) (hp : pos < zs.length) (hc : 224 ≤ zs.getD pos 0 ∧ zs.getD pos 0 ≤ 239) (w : World) :
    Calls Tryd.prog 36 #[.string (strOfNums zs), .int .i64 pos] w fun e w' => e = .returned (.int .i64 (charN (zs.drop pos) : Nat)) ∧ Below w.heap.size w w' := by
  have hs : (strOfNums zs).size = zs.length := strOfNums_size zs
  have HG := hid (str_get hb pos (by rw [hs]; exact hp))
  have HD := hid (drop_at hp)
  have hpi : (pos : Int) < (zs.length : Int) := by omega
  have HC := hid (charN_3 HD.out hc)
  have L := hid (fun W => long_3 _ hc W)
  have HTS := hid (tails_short 2 (zs.getD pos 0 - 224) (zs.drop (pos + 1)))
  have HGA := hid (fun j h => str_get hb j h)
  have HDA := hid (fun j (hj : j < zs.length) => drop_at hj)
  have HBY := hid (fun j (hj : j < zs.length) => (show 0 ≤ zs.getD j 0 ∧ zs.getD j 0 < 256 by rw [getD_lt hj]; exact hb _ (List.getElem_mem hj)))
  generalize charN (zs.drop pos) = r at *
  generalize strOfNums zs = s at *
  have i0 : ((s[pos]'(by rw [hs]; exact hp)).toNat : Int) = zs.getD pos 0 := HG.out
  clear HG HD hb
  obtain ⟨c, hcc⟩ : ∃ c, zs.getD pos 0 = c := ⟨_, rfl⟩
  rw [hcc] at i0 L HC HTS hc
  clear hcc
  by_cases hpl : (pos : Int) + 3 > (zs.length : Int)
  · have HF : Hid (r = 0) := by
      show _ = _
      rw [HC.out, HTS.out (by rw [List.length_drop]; omega)]
    clear HC HTS HGA HDA HBY hc
    go_enter Tryd.func36, Tryd.ntmps36
    go_wp2_with fail
    refine (L.out _).mono ?_
    rintro e w' ⟨rfl, rfl⟩
    go_wp2
    go_ret
    exact ⟨by rw [HF.out]; rfl, Below.refl _ _⟩
  · have hrem : Int.tmod c 16 = c - 224 := by rw [Int.tmod_eq_emod_of_nonneg (by omega)]; omega
    have hx0 : 0 ≤ c - 224 := by omega
    have hxm : c - 224 < 16 := by omega
    clear HTS
    go_enter Tryd.func36, Tryd.ntmps36
    go_wp2_with fail
    refine (L.out _).mono ?_
    rintro e w' ⟨rfl, rfl⟩
    clear L
    go_wp2
    go_quiet (fail)
    go_wp2
    go_loopw [7, 8] (fun xv iv wr => ∃ (i : Nat) (x : Int) (q : Nat), xv = .int .i64 x ∧ iv = .int .i64 i ∧ wr = w'.drewN q ∧ 1 ≤ i ∧ i ≤ 3 ∧ 0 ≤ x ∧ (i = 1 ∧ x < 16 ∨ i = 2 ∧ x < 1024 ∨ i = 3 ∧ x < 65536) ∧ Hid (r = match tailsL (3 - i) x (zs.drop (pos + i)) with | none => 0 | some n => if Rune n ∧ (oneL n).length = 3 then 3 else 0))
      (fun _ iv _ => 3 - (intOf iv).toNat)
    case atStart => exact ⟨1, c - 224, _, rfl, rfl, rfl, by omega, by omega, hx0, by omega, HC⟩
    case round =>
      obtain ⟨i, x, q, rfl, rfl, rfl, hi1, hin, hx0', hxb, HT⟩ := hrel
      clear HC i0 hrem
      by_cases hlt : i < 3
      · have hj : pos + i < zs.length := by omega
        obtain ⟨d0, d1⟩ := HBY.out (pos + i) hj
        have hstep := HT.out
        rw [HDA.out (pos + i) hj] at hstep
        obtain ⟨m, hm⟩ : ∃ m, 3 - i = m + 1 := ⟨3 - i - 1, by omega⟩
        rw [hm] at hstep
        simp only [tailsL] at hstep
        have i1 : ((s[pos + i]'(by rw [hs]; exact hj)).toNat : Int) = zs.getD (pos + i) 0 := HGA.out (pos + i) _
        generalize zs.getD (pos + i) 0 = d at *
        have W := hid (fun W => within_c d 128 191 W)
        have hlti : (i : Int) < 3 := by omega
        have hji : (pos : Int) + (i : Int) < (zs.length : Int) := by omega
        have hcast : ((pos + i : Nat) : Int) = (pos : Int) + (i : Int) := by omega
        by_cases hd : 128 ≤ d ∧ d < 192
        · rw [if_pos hd] at hstep
          have HF := hid (show r = match tailsL (3 - (i + 1)) (64 * x + (d - 128)) (zs.drop (pos + (i + 1))) with | none => 0 | some n => if Rune n ∧ (oneL n).length = 3 then 3 else 0 by
            rw [show 3 - (i + 1) = m by omega]; exact hstep)
          rw [show (decide ((128 : Int) ≤ d) && decide (d ≤ 191)) = true by simp; omega] at W
          have hx2 : x < 16777216 := by omega
          clear HT hstep hm HBY HDA HGA
          go_wp2_with (go_at_call 17; refine (W.out _).mono ?_; rintro e w' ⟨rfl, rfl⟩)
          go_roundw
          case rel => exact ⟨i + 1, 64 * x + (d - 128), _, by go_num, by go_num, rfl, by omega, by omega, by omega, by omega, HF⟩
          case measure => simp [intOf]; omega
        · rw [if_neg hd] at hstep
          have HF := hid (show r = 0 from hstep)
          rw [show (decide ((128 : Int) ≤ d) && decide (d ≤ 191)) = false by simp; omega] at W
          clear HT hstep hm HBY HDA HGA hxb
          go_wp2_with (go_at_call 17; refine (W.out _).mono ?_; rintro e w' ⟨rfl, rfl⟩)
          go_ret
          exact ⟨by rw [HF.out]; rfl, drewL (Below.refl _ _) _⟩
      · obtain rfl : i = 3 := by omega
        have HE : Hid (r = if Rune x ∧ (oneL x).length = 3 then 3 else 0) := HT
        have hxx : x < 65536 := by omega
        have hR := rune_3 hx0' hxx
        clear HT HBY HDA HGA hxb
        by_cases h1 : x < 2048
        · have HF : Hid (r = 0) := HE.out.trans (if_neg (by rw [hR]; omega))
          clear hR HE
          go_wp2
          go_ret
          exact ⟨by rw [HF.out]; rfl, drewL (Below.refl _ _) _⟩
        by_cases h2 : x > 1114111
        · have HF : Hid (r = 0) := HE.out.trans (if_neg (by rw [hR]; omega))
          clear hR HE
          go_wp2
          go_ret
          exact ⟨by rw [HF.out]; rfl, drewL (Below.refl _ _) _⟩
        by_cases h3 : x ≥ 55296
        · by_cases h4 : x ≤ 57343
          · have HF : Hid (r = 0) := HE.out.trans (if_neg (by rw [hR]; omega))
            clear hR HE
            go_wp2
            go_ret
            exact ⟨by rw [HF.out]; rfl, drewL (Below.refl _ _) _⟩
          · have HF : Hid (r = 3) := HE.out.trans (if_pos (by rw [hR]; omega))
            clear hR HE
            go_wp2
            go_ret
            exact ⟨by rw [HF.out]; rfl, drewL (Below.refl _ _) _⟩
        · have HF : Hid (r = 3) := HE.out.trans (if_pos (by rw [hR]; omega))
          clear hR HE
          go_wp2
          go_ret
          exact ⟨by rw [HF.out]; rfl, drewL (Below.refl _ _) _⟩
theorem charN_4 {zs : List Int} {c : Int} {t : List Int} (h : zs = c :: t) (hc : 240 ≤ c ∧ c ≤ 247) : charN zs = match tailsL 3 (c - 240) t with | none => 0 | some n => if Rune n ∧ (oneL n).length = 4 then 4 else 0 := by
  rw [charN_eq h]
  unfold firstL
  rw [if_neg (by omega), if_neg (by omega), if_neg (by omega), if_pos (by omega)]
theorem rune_4 {x : Int} (h0 : 0 ≤ x) (h1 : x < 2097152) : (Rune x ∧ (oneL x).length = 4) ↔ ¬ (x < 65536 ∨ x > 1114111 ∨ (x ≥ 55296 ∧ x ≤ 57343)) := by
  unfold Rune oneL
  by_cases a1 : x < 128
  · simp [a1] <;> omega
  by_cases a2 : x < 2048
  · simp [a1, a2] <;> omega
  by_cases a3 : x < 65536
  · simp [a1, a2, a3] <;> omega
  · simp [a1, a2, a3] <;> omega
set_option maxRecDepth 10000 in
set_option maxHeartbeats 4000000 in
theorem char_4 (zs : List Int) (hb : ∀ z ∈ zs, 0 ≤ z ∧ z < 256) (hl : zs.length ≤ 65536) (pos : Nat) (hp : pos < zs.length) (hc : 240 ≤ zs.getD pos 0 ∧ zs.getD pos 0 ≤ 247) (w : World) :
    Calls Tryd.prog 36 #[.string (strOfNums zs), .int .i64 pos] w fun e w' => e = .returned (.int .i64 (charN (zs.drop pos) : Nat)) ∧ Below w.heap.size w w' := by
  have hs : (strOfNums zs).size = zs.length := strOfNums_size zs
  have HG := hid (str_get hb pos (by rw [hs]; exact hp))
  have HD := hid (drop_at hp)
  have hpi : (pos : Int) < (zs.length : Int) := by omega
  have HC := hid (charN_4 HD.out hc)
  have L := hid (fun W => long_4 _ hc W)
  have HTS := hid (tails_short 3 (zs.getD pos 0 - 240) (zs.drop (pos + 1)))
  have HGA := hid (fun j h => str_get hb j h)
  have HDA := hid (fun j (hj : j < zs.length) => drop_at hj)
  have HBY := hid (fun j (hj : j < zs.length) => (show 0 ≤ zs.getD j 0 ∧ zs.getD j 0 < 256 by rw [getD_lt hj]; exact hb _ (List.getElem_mem hj)))
  generalize charN (zs.drop pos) = r at *
  generalize strOfNums zs = s at *
  have i0 : ((s[pos]'(by rw [hs]; exact hp)).toNat : Int) = zs.getD pos 0 := HG.out
  clear HG HD hb
  obtain ⟨c, hcc⟩ : ∃ c, zs.getD pos 0 = c := ⟨_, rfl⟩
  rw [hcc] at i0 L HC HTS hc
  clear hcc
  by_cases hpl : (pos : Int) + 4 > (zs.length : Int)
  · have HF : Hid (r = 0) := by
      show _ = _
      rw [HC.out, HTS.out (by rw [List.length_drop]; omega)]
    clear HC HTS HGA HDA HBY hc
    go_enter Tryd.func36, Tryd.ntmps36
    go_wp2_with fail
    refine (L.out _).mono ?_
    rintro e w' ⟨rfl, rfl⟩
    go_wp2
    go_ret
    exact ⟨by rw [HF.out]; rfl, Below.refl _ _⟩
  · have hrem : Int.tmod c 8 = c - 240 := by rw [Int.tmod_eq_emod_of_nonneg (by omega)]; omega
    have hx0 : 0 ≤ c - 240 := by omega
    have hxm : c - 240 < 8 := by omega
    clear HTS
    go_enter Tryd.func36, Tryd.ntmps36
    go_wp2_with fail
    refine (L.out _).mono ?_
    rintro e w' ⟨rfl, rfl⟩
    clear L
    go_wp2
    go_quiet (fail)
    go_wp2
    go_loopw [7, 8] (fun xv iv wr => ∃ (i : Nat) (x : Int) (q : Nat), xv = .int .i64 x ∧ iv = .int .i64 i ∧ wr = w'.drewN q ∧ 1 ≤ i ∧ i ≤ 4 ∧ 0 ≤ x ∧ (i = 1 ∧ x < 8 ∨ i = 2 ∧ x < 512 ∨ i = 3 ∧ x < 32768 ∨ i = 4 ∧ x < 2097152) ∧ Hid (r = match tailsL (4 - i) x (zs.drop (pos + i)) with | none => 0 | some n => if Rune n ∧ (oneL n).length = 4 then 4 else 0))
      (fun _ iv _ => 4 - (intOf iv).toNat)
    case atStart => exact ⟨1, c - 240, _, rfl, rfl, rfl, by omega, by omega, hx0, by omega, HC⟩
    case round =>
      obtain ⟨i, x, q, rfl, rfl, rfl, hi1, hin, hx0', hxb, HT⟩ := hrel
      clear HC i0 hrem
      by_cases hlt : i < 4
      · have hj : pos + i < zs.length := by omega
        obtain ⟨d0, d1⟩ := HBY.out (pos + i) hj
        have hstep := HT.out
        rw [HDA.out (pos + i) hj] at hstep
        obtain ⟨m, hm⟩ : ∃ m, 4 - i = m + 1 := ⟨4 - i - 1, by omega⟩
        rw [hm] at hstep
        simp only [tailsL] at hstep
        have i1 : ((s[pos + i]'(by rw [hs]; exact hj)).toNat : Int) = zs.getD (pos + i) 0 := HGA.out (pos + i) _
        generalize zs.getD (pos + i) 0 = d at *
        have W := hid (fun W => within_c d 128 191 W)
        have hlti : (i : Int) < 4 := by omega
        have hji : (pos : Int) + (i : Int) < (zs.length : Int) := by omega
        have hcast : ((pos + i : Nat) : Int) = (pos : Int) + (i : Int) := by omega
        by_cases hd : 128 ≤ d ∧ d < 192
        · rw [if_pos hd] at hstep
          have HF := hid (show r = match tailsL (4 - (i + 1)) (64 * x + (d - 128)) (zs.drop (pos + (i + 1))) with | none => 0 | some n => if Rune n ∧ (oneL n).length = 4 then 4 else 0 by
            rw [show 4 - (i + 1) = m by omega]; exact hstep)
          rw [show (decide ((128 : Int) ≤ d) && decide (d ≤ 191)) = true by simp; omega] at W
          have hx2 : x < 16777216 := by omega
          clear HT hstep hm HBY HDA HGA
          go_wp2_with (go_at_call 17; refine (W.out _).mono ?_; rintro e w' ⟨rfl, rfl⟩)
          go_roundw
          case rel => exact ⟨i + 1, 64 * x + (d - 128), _, by go_num, by go_num, rfl, by omega, by omega, by omega, by omega, HF⟩
          case measure => simp [intOf]; omega
        · rw [if_neg hd] at hstep
          have HF := hid (show r = 0 from hstep)
          rw [show (decide ((128 : Int) ≤ d) && decide (d ≤ 191)) = false by simp; omega] at W
          clear HT hstep hm HBY HDA HGA hxb
          go_wp2_with (go_at_call 17; refine (W.out _).mono ?_; rintro e w' ⟨rfl, rfl⟩)
          go_ret
          exact ⟨by rw [HF.out]; rfl, drewL (Below.refl _ _) _⟩
      · obtain rfl : i = 4 := by omega
        have HE : Hid (r = if Rune x ∧ (oneL x).length = 4 then 4 else 0) := HT
        have hxx : x < 2097152 := by omega
        have hR := rune_4 hx0' hxx
        clear HT HBY HDA HGA hxb
        by_cases h1 : x < 65536
        · have HF : Hid (r = 0) := HE.out.trans (if_neg (by rw [hR]; omega))
          clear hR HE
          go_wp2
          go_ret
          exact ⟨by rw [HF.out]; rfl, drewL (Below.refl _ _) _⟩
        by_cases h2 : x > 1114111
        · have HF : Hid (r = 0) := HE.out.trans (if_neg (by rw [hR]; omega))
          clear hR HE
          go_wp2
          go_ret
          exact ⟨by rw [HF.out]; rfl, drewL (Below.refl _ _) _⟩
        by_cases h3 : x ≥ 55296
        · by_cases h4 : x ≤ 57343
          · have HF : Hid (r = 0) := HE.out.trans (if_neg (by rw [hR]; omega))
            clear hR HE
            go_wp2
            go_ret
            exact ⟨by rw [HF.out]; rfl, drewL (Below.refl _ _) _⟩
          · have HF : Hid (r = 4) := HE.out.trans (if_pos (by rw [hR]; omega))
            clear hR HE
            go_wp2
            go_ret
            exact ⟨by rw [HF.out]; rfl, drewL (Below.refl _ _) _⟩
        · have HF : Hid (r = 4) := HE.out.trans (if_pos (by rw [hR]; omega))
          clear hR HE
          go_wp2
          go_ret
          exact ⟨by rw [HF.out]; rfl, drewL (Below.refl _ _) _⟩
theorem char_any (zs : List Int) (hb : ∀ z ∈ zs, 0 ≤ z ∧ z < 256) (hl : zs.length ≤ 65536) (pos : Nat) (hp : pos < zs.length) (w : World) :
    Calls Tryd.prog 36 #[.string (strOfNums zs), .int .i64 pos] w fun e w' => e = .returned (.int .i64 (charN (zs.drop pos) : Nat)) ∧ Below w.heap.size w w' := by
  by_cases h1 : zs.getD pos 0 < 128
  · exact char_one zs hb hl pos hp h1 w
  by_cases h2 : 192 ≤ zs.getD pos 0 ∧ zs.getD pos 0 ≤ 223
  · exact char_2 zs hb hl pos hp h2 w
  by_cases h3 : 224 ≤ zs.getD pos 0 ∧ zs.getD pos 0 ≤ 239
  · exact char_3 zs hb hl pos hp h3 w
  by_cases h4 : 240 ≤ zs.getD pos 0 ∧ zs.getD pos 0 ≤ 247
  · exact char_4 zs hb hl pos hp h4 w
  · exact char_none zs hb pos hp (by omega) w
set_option maxHeartbeats 1000000 in
theorem refRight_any (zs : List Int) (hb : ∀ z ∈ zs, 0 ≤ z ∧ z < 256) (hl : zs.length ≤ 65536) (w : World) :
    Calls Tryd.prog 15 #[.string (strOfNums zs)] w fun e w' => e = .returned (.int .i64 ((scan zs).2 : Nat)) ∧ Below w.heap.size w w' := by
  have hs : (strOfNums zs).size = zs.length := strOfNums_size zs
  have C := hid (fun pos hp W => char_any zs hb hl pos hp W)
  obtain ⟨g, hg⟩ : ∃ g, (scan zs).2 = g := ⟨_, rfl⟩
  rw [hg]
  have HG := hid hg
  clear hb hg
  generalize strOfNums zs = s at *
  go_enter Tryd.func15, Tryd.ntmps15
  go_wp2
  go_loopw [3] (fun pv wr => ∃ pos : Nat, pv = .int .i64 pos ∧ Below w.heap.size w wr ∧ pos ≤ zs.length ∧ Hid (g = pos + (scan (zs.drop pos)).2)) (fun pv _ => zs.length - (intOf pv).toNat)
  case atStart => exact ⟨0, rfl, Below.refl _ _, Nat.zero_le _, hid (by rw [← HG.out]; simp)⟩
  case round =>
    obtain ⟨pos, rfl, hbw, hpos, HS⟩ := hrel
    by_cases hp : pos < zs.length
    · have C1 := hid (C.out pos hp wr)
      have hpi : (pos : Int) < (zs.length : Int) := by omega
      cases ha : atL (zs.drop pos) with
      | none =>
        have hc : charN (zs.drop pos) = 0 := by unfold charN; rw [ha]
        rw [hc] at C1
        have HF : Hid (g = pos) := by
          have h := HS.out
          rw [scan_none ha] at h
          exact h
        clear C HS ha hc
        go_wp2_with fail
        refine C1.out.mono ?_
        rintro e w1 ⟨rfl, hb1⟩
        go_wp2
        go_ret
        exact ⟨by rw [HF.out]; rfl, hbw.trans (hb1.mono hbw.size)⟩
      | some q =>
        obtain ⟨n, k⟩ := q
        obtain ⟨_, _, _, hk1, _, hkl⟩ := atL_some ha
        have hc : charN (zs.drop pos) = k := by unfold charN; rw [ha]
        rw [hc] at C1
        have HF : Hid (g = (pos + k) + (scan (zs.drop (pos + k))).2) := by
          have h := HS.out
          rw [scan_some ha, List.drop_drop] at h
          show _ = _
          simp only at h
          omega
        have hlk : pos + k ≤ zs.length := by simp at hkl; omega
        have hk0 : ¬ ((k : Int) = 0) := by omega
        clear C HS ha hc hkl
        go_wp2_with fail
        refine C1.out.mono ?_
        rintro e w1 ⟨rfl, hb1⟩
        have HB := hid (hbw.trans (hb1.mono hbw.size))
        clear hb1 hbw C1
        go_wp2
        go_roundw
        case rel => exact ⟨pos + k, by go_num, HB.out, hlk, HF⟩
        case measure => simp [intOf]; omega
    · have HF : Hid (g = zs.length) := by
        have h := HS.out
        rw [List.drop_eq_nil_of_le (by omega), scan_nil] at h
        show _ = _
        rw [h]; simp; omega
      obtain rfl : pos = zs.length := by omega
      go_wp2
      go_ret
      exact ⟨by rw [HF.out]; rfl, hbw⟩
end Go.Proofs.YtojgibigmoaejaaDoor.Lex
