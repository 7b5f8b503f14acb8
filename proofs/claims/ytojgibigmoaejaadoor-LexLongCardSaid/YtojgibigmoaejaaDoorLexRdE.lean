/-
  LEX: the document's reader: signs, variables: by contract.
-/
import Derived.Test.YtojgibigmoaejaaDoorLexRdD
import Derived.StillTailTactics
namespace Go.Proofs.YtojgibigmoaejaaDoor.Lex
open Go.RowKit Go.Proofs.YtojgibigmoaejaaDoor.Utf
set_option linter.unusedSimpArgs false
set_option linter.unusedVariables false

/-- What is left behind a word, or where one should be. -/
def WordOut (w : World) (b : Nat) (zs : List Int) (p : Nat) (ws : List Wd) (c : Cut) : Prop :=
  ∃ (p' : Nat) (vs : List Wd), RAt w b zs p' p c.e vs ∧ (c.e = 0 → p' = p + c.size ∧ vs = ws ++ [⟨c.k, c.n, p, c.s⟩])
/-- A run of bytes of one sort, read from st to q. -/
def Run (B : Int → Bool) (T zs : List Int) (st q : Nat) : Prop := T = (zs.drop st).take (q - st) ++ (zs.drop q).takeWhile B
theorem run_start (B : Int → Bool) (zs : List Int) (st : Nat) : Run B ((zs.drop st).takeWhile B) zs st st := by unfold Run; simp
theorem take_one {zs : List Int} {st q : Nat} (hq : st ≤ q) (hlt : q < zs.length) : (zs.drop st).take (q + 1 - st) = (zs.drop st).take (q - st) ++ [zs.getD q 0] := by
  rw [show q + 1 - st = (q - st) + 1 by omega, List.take_add_one, List.getElem?_drop, show st + (q - st) = q by omega, getD_lt hlt, List.getElem?_eq_getElem hlt]
  rfl
theorem run_step {B : Int → Bool} {T zs : List Int} {st q : Nat} (hq : st ≤ q) (hlt : q < zs.length) (hB : B (zs.getD q 0) = true) (h : Run B T zs st q) : Run B T zs st (q + 1) := by
  unfold Run at h ⊢
  rw [h, take_one hq hlt, List.drop_eq_getElem_cons hlt, List.takeWhile_cons, ← getD_lt hlt, if_pos hB]
  simp
theorem run_rest {B : Int → Bool} {zs : List Int} {q : Nat} (h : q = zs.length ∨ q < zs.length ∧ B (zs.getD q 0) = false) : (zs.drop q).takeWhile B = [] := by
  rcases h with rfl | ⟨hlt, h⟩
  · rw [List.drop_length]; rfl
  · rw [List.drop_eq_getElem_cons hlt, List.takeWhile_cons, ← getD_lt hlt, if_neg (by rw [h]; decide)]
theorem run_stop {B : Int → Bool} {T zs : List Int} {st q : Nat} (hq : st ≤ q) (hl : q ≤ zs.length) (h : q = zs.length ∨ q < zs.length ∧ B (zs.getD q 0) = false) (hr : Run B T zs st q) : T = (zs.drop st).take (q - st) ∧ T.length = q - st := by
  unfold Run at hr
  rw [run_rest h, List.append_nil] at hr
  refine ⟨hr, ?_⟩
  rw [hr, List.length_take, List.length_drop]; omega
theorem run_str {T zs : List Int} {st q : Nat} (hq : st ≤ q) (h : T = (zs.drop st).take (q - st)) : (strOfNums zs).extract st q = strOfNums T := by
  have := str_mid zs st (q - st)
  rw [show st + (q - st) = q by omega] at this
  rw [this, h]
theorem find_at {l : List (List Int)} {q : List Int → Bool} {i : Nat} (hi : i < l.length) (h : q (l.getD i []) = true) (ha : ∀ j, j < i → q (l.getD j []) = false) : l.find? q = some (l.getD i []) := by
  rw [List.find?_eq_some_iff_getElem]
  have hg : ∀ j (hj : j < l.length), l.getD j [] = l[j] := fun j hj => by simp [List.getD_eq_getElem?_getD, hj]
  refine ⟨h, i, hi, (hg i hi).symm, fun j hj => ?_⟩
  have := ha j hj
  rw [hg j (by omega)] at this
  simp [this]
theorem find_not {l : List (List Int)} {q : List Int → Bool} (ha : ∀ j, j < l.length → q (l.getD j []) = false) : l.find? q = none := by
  rw [List.find?_eq_none]
  intro x hx
  obtain ⟨j, hj, rfl⟩ := List.getElem_of_mem hx
  have := ha j hj
  rw [List.getD_eq_getElem?_getD, List.getElem?_eq_getElem hj] at this
  simpa using this
theorem sign_hit {zs : List Int} {i : Nat} (hi : i < 17) (h : zs.take (signsL.getD i []).length = signsL.getD i []) (ha : ∀ j, j < i → ¬ zs.take (signsL.getD j []).length = signsL.getD j []) : cutSign zs = ⟨7, 0, signsL.getD i [], (signsL.getD i []).length, 0⟩ := by
  unfold cutSign
  rw [find_at (l := signsL) (q := fun p => decide (zs.take p.length = p)) (i := i) (show i < 17 from hi) (decide_eq_true h) fun j hj => decide_eq_false (ha j hj)]
theorem sign_miss {zs : List Int} (ha : ∀ j, j < 17 → ¬ zs.take (signsL.getD j []).length = signsL.getD j []) : cutSign zs = .bad 251 := by
  unfold cutSign
  rw [find_not (l := signsL) (q := fun p => decide (zs.take p.length = p)) fun j hj => decide_eq_false (ha j hj)]
theorem signs_small : ∀ j, j < 17 → (∀ z ∈ signsL.getD j [], 0 ≤ z ∧ z < 256) ∧ (signsL.getD j []).length ≤ 2 := by decide

theorem RAt.apart {w : World} {b : Nat} {zs : List Int} {p f e : Int} {ws : List Wd} (h : RAt w b zs p f e ws) {kb : Nat} (hk : StrsAt w kb signsL) : kb ≠ b := by
  obtain ⟨v, h1, h2⟩ := h
  rintro rfl
  have := hk 16 (by decide)
  rw [Lib.cell_of_heap h1] at this
  simp at this
set_option maxHeartbeats 4000000 in
set_option maxRecDepth 10000 in
theorem signR_any (b : Nat) (zs : List Int) (hb : ∀ z ∈ zs, 0 ≤ z ∧ z < 256) (hl : zs.length ≤ 100000) (p : Nat) (hp : p ≤ zs.length) (ws : List Wd) (hws : ws.length ≤ 1000000) (w : World) (h : RAt w b zs p p 0 ws) :
    Calls Tryd.prog 22 #[.pointer (some ⟨b, 0, none⟩)] w fun o w' => o = .returned (.tuple #[]) ∧ Below b w w' ∧ WordOut w' b zs p ws (cutSign (zs.drop p)) := by
  have H := hid h
  have ST := hid (fun y hy hy9 W h => starts_any b zs hb hl p hp p 0 ws y hy hy9 W h)
  have AD := hid (fun (q : Nat) s ss hss W h => addR_any b zs q p 0 ws hws 7 0 s ss hss W h)
  have SS := hid (fun j hj => signs_small j hj)
  have HHit := hid (fun i hi h ha => sign_hit (zs := zs.drop p) (i := i) hi h ha)
  have HMiss := hid (fun ha => sign_miss (zs := zs.drop p) ha)
  have SG := hid (fun W => signs_any W)
  generalize cutSign (zs.drop p) = c at *
  clear h hb hws
  go_enter Tryd.func22, Tryd.ntmps22
  go_wp2_with fail
  refine (SG.out _).mono ?_
  rintro o w1 ⟨kb, rfl, hk, hb1⟩
  have HK := hid hk
  have R1 := hid (H.out.below hb1)
  have B1 := hid (hb1.mono (Nat.le_of_lt H.out.lt))
  have HNE := hid (R1.out.apart hk)
  clear hk hb1 H SG
  go_wp2
  go_loopw [3] (fun iv wr => ∃ i nq : Nat, iv = .int .i64 i ∧ i ≤ 17 ∧ wr = w1.drewN nq ∧ Hid (∀ j, j < i → ¬ (zs.drop p).take (signsL.getD j []).length = signsL.getD j [])) (fun iv _ => 17 - (intOf iv).toNat)
  case atStart => exact ⟨0, 0, rfl, Nat.zero_le _, rfl, hid fun j h => absurd h (Nat.not_lt_zero _)⟩
  case round =>
    obtain ⟨i, mq, rfl, hi, rfl, HA⟩ := hrel
    by_cases hlt : i < 17
    · have hki : (i : Int) < 17 := by omega
      have hcell := HK.out i hlt
      rw [Nat.zero_add] at hcell
      obtain ⟨y, hy⟩ : ∃ y, y = signsL.getD i [] := ⟨_, rfl⟩
      rw [← hy] at hcell
      have HY := hid hy
      have h1 := (SS.out i hlt).1
      have h2 := (SS.out i hlt).2
      rw [← hy] at h1 h2
      have hsy : (strOfNums y).size = y.length := strOfNums_size y
      have S1 := hid (fun W h => ST.out y h1 (by omega) W h)
      clear h1 hy SS ST
      go_wp2_with fail
      refine (S1.out _ (R1.out.drew mq)).mono ?_
      rintro o u ⟨rfl, q1, hq1⟩
      have hq2 : u = w1.drewN (mq + q1) := by rw [hq1, World.drewN_drewN]
      clear S1 hq1
      by_cases hh : (zs.drop p).take y.length = y
      · rw [decide_eq_true hh]
        have HC := hid (HHit.out i hlt (by rw [← HY.out]; exact hh) HA.out)
        rw [← HY.out] at HC
        have hle : p + y.length ≤ zs.length := by
          have := congrArg List.length hh
          rw [List.length_take, List.length_drop] at this
          omega
        have R2 := hid (R1.out.drew (mq + q1))
        have B2 := hid (drewL B1.out (mq + q1))
        rw [← hq2] at R2 B2
        have hcell2 : u.cell? ⟨kb, i, none⟩ = some (.string (strOfNums y)) := by rw [hq2]; exact hcell
        clear hcell hq2 HHit HMiss HA hh HK R1 B1
        have c1 := R2.out.c1
        obtain ⟨L, hL⟩ : ∃ L, y.length = L := ⟨_, rfl⟩
        rw [hL] at hsy hle h2
        have HLL := hid hL
        have e1 : IntKind.i64.wrap ((p : Int) + (L : Int)) = (p : Int) + (L : Int) := by rw [IntKind.wrap_i64]; omega
        have R3 := hid ((R2.out.set1 ((p + L : Nat) : Int)).below (Below.refl (u.setCell ⟨b, 1, none⟩ (.int .i64 ((p + L : Nat) : Int))).heap.size _).drew)
        have B3 := hid (B2.out.setCell (p := ⟨b, 1, none⟩) (Nat.le_refl _) (.int .i64 ((p + L : Nat) : Int))).drew
        have hcell3 : (u.setCell ⟨b, 1, none⟩ (.int .i64 ((p + L : Nat) : Int))).drew.cell? ⟨kb, i, none⟩ = some (.string (strOfNums y)) := (World.cell?_setCell_far _ _ _ _ (Ne.symm HNE.out)).trans hcell2
        have A1 := hid (AD.out (p + L) (strOfNums y) y rfl _ R3.out)
        have hc : ((p + L : Nat) : Int) = (p : Int) + (L : Int) := by omega
        rw [hc] at R3 B3 hcell3 A1
        generalize strOfNums y = s at *
        clear hL AD hc
        go_upto_region 5 with fail
        go_still_tail 13, (by kernel_rfl)
        change wpList _ _ _ _ _ u.drew
        have d1 := (R2.out.below ((Below.refl u.heap.size u).drew)).c1
        have f1 := (R2.out.below ((Below.refl u.heap.size u).drew)).frozen 1
        go_wp2_with fail
        refine A1.out.mono ?_
        rintro o u3 ⟨rfl, hb3, hr3⟩
        have B4 := hid (B3.out.trans hb3)
        have R4 := hid hr3
        clear hb3 hr3 B3 R3 A1
        go_wp2
        refine bodyPost_ret (v := .tuple #[]) (by simp [results, Tryd.results22, go_sem]) rfl ⟨rfl, B4.out, ?_⟩
        rw [HC.out]
        exact ⟨p + L, _, by rw [show ((p + L : Nat) : Int) = (p : Int) + (L : Int) by omega]; exact R4.out, fun _ => ⟨by rw [← HLL.out], rfl⟩⟩
      · rw [decide_eq_false hh]
        have HF := hid (show ∀ j, j < i + 1 → ¬ (zs.drop p).take (signsL.getD j []).length = signsL.getD j [] from fun j hj => by
          by_cases e : j = i
          · subst e; rw [← HY.out]; exact hh
          · exact HA.out j (by omega))
        clear HA hh HHit HMiss hcell
        subst hq2
        go_wp2
        go_roundw
        case rel => exact ⟨i + 1, mq + q1, by go_num, by omega, rfl, HF⟩
        case measure => simp [intOf]; omega
    · obtain rfl : i = 17 := by omega
      have HC := hid (HMiss.out HA.out)
      have R2 := hid (R1.out.drew mq)
      have B2 := hid (drewL B1.out mq)
      clear HHit HMiss HA ST AD SS HK R1 B1
      have c3 := R2.out.c3
      have f3 := R2.out.frozen 3
      have R3 := hid (R2.out.set3 251)
      have B3 := hid (B2.out.setCell (p := ⟨b, 3, none⟩) (Nat.le_refl _) (.int .i64 251))
      go_wp2
      go_end0
      refine ⟨rfl, B3.out, ?_⟩
      rw [HC.out]
      exact ⟨p, ws, R3.out, fun h => by cases h⟩
end Go.Proofs.YtojgibigmoaejaaDoor.Lex
