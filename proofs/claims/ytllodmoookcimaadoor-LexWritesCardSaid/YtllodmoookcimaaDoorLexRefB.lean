/-
  LEX: the document's writer: Named: by contract.
-/
import Derived.Test.YtllodmoookcimaaDoorLexRefA
namespace Go.Proofs.YtllodmoookcimaaDoor.Lex
open Go.RowKit Go.Proofs.YtllodmoookcimaaDoor.Utf
set_option linter.unusedSimpArgs false
set_option linter.unusedVariables false

/-- A name of this kind, as the document has it. -/
def namedB (k : Int) (zs : List Int) : Bool :=
  decide (zs.length ≠ 0) && decide (zs.length ≤ 64) && zs.all letterB && (if k = 4 then greatB (zs.getD 0 0) else if k = 5 then smallB (zs.getD 0 0) else beginsB (zs.getD 0 0) && decide (zs ≠ [95]) && !keysL.contains zs)
theorem takeWhile_eq (p : Int → Bool) : ∀ zs : List Int, decide (zs.takeWhile p = zs) = zs.all p
  | [] => rfl
  | c :: t => by
    rw [List.takeWhile_cons, List.all_cons]
    cases hp : p c with
    | true => simp only [if_true, Bool.true_and, ← takeWhile_eq p t, List.cons.injEq, true_and]
    | false => simp
theorem named_may {k n a : Int} {zs : List Int} (hk : k = 3 ∨ k = 4 ∨ k = 5) : mayB ⟨k, n, a, zs⟩ = (decide (n = 0) && namedB k zs) := by
  unfold mayB namedB
  rcases hk with rfl | rfl | rfl
  · by_cases hn : n = 0
    · simp only [hn, nameB, takeWhile_eq]
      simp only [show ¬ (3 : Int) = 1 by decide, if_false, ne_eq, not_true, if_true, show ¬ (3 : Int) = 2 by decide, show ¬ (3 : Int) = 4 by decide, show ¬ (3 : Int) = 5 by decide, decide_true, Bool.true_and]
      generalize decide (¬zs = [95]) = q1
      generalize keysL.contains zs = q2
      generalize decide (¬zs.length = 0) = q3
      generalize decide (zs.length ≤ 64) = q4
      generalize beginsB (zs.getD 0 0) = q5
      generalize zs.all letterB = q6
      revert q1 q2 q3 q4 q5 q6
      decide
    · simp [hn]
  · by_cases hn : n = 0
    · simp only [hn, nameB, takeWhile_eq]
      simp only [show ¬ (4 : Int) = 1 by decide, if_false, ne_eq, not_true, if_true, show ¬ (4 : Int) = 2 by decide, show ¬ (4 : Int) = 3 by decide, decide_true, Bool.true_and]
      generalize decide (¬zs.length = 0) = q3
      generalize decide (zs.length ≤ 64) = q4
      generalize greatB (zs.getD 0 0) = q5
      generalize zs.all letterB = q6
      revert q3 q4 q5 q6
      decide
    · simp [hn]
  · by_cases hn : n = 0
    · simp only [hn, nameB, takeWhile_eq]
      simp only [show ¬ (5 : Int) = 1 by decide, if_false, ne_eq, not_true, if_true, show ¬ (5 : Int) = 2 by decide, show ¬ (5 : Int) = 3 by decide, show ¬ (5 : Int) = 4 by decide, decide_true, Bool.true_and]
      generalize decide (¬zs.length = 0) = q3
      generalize decide (zs.length ≤ 64) = q4
      generalize smallB (zs.getD 0 0) = q5
      generalize zs.all letterB = q6
      revert q3 q4 q5 q6
      decide
    · simp [hn]
set_option maxHeartbeats 4000000 in
set_option maxRecDepth 10000 in
theorem named_any (k : Int) (zs : List Int) (hb : ∀ z ∈ zs, 0 ≤ z ∧ z < 256) (w : World) :
    Calls Tryd.prog 69 #[.int .i64 k, .string (strOfNums zs)] w fun e w' => e = .returned (.bool (namedB k zs)) ∧ Below w.heap.size w w' := by
  have hs : (strOfNums zs).size = zs.length := strOfNums_size zs
  have he := str_empty zs
  have HG := hid (fun i h => str_get hb i h)
  have HU := hid (str_eq hb (ys := [95]) (by decide))
  have hu : (strOfNums [95]).toList = [95] := by rw [Go.ByteArray.toList_eq]; rfl
  rw [hu] at HU
  clear hu
  have KI := hid (fun b W (hc : StrsAt W b keysL) => in_any keys_bytes (by decide) zs hb b 0 20 20 rfl W hc)
  have KS := hid (fun W => keys_any W)
  have HV : Hid (namedB k zs = (decide (zs.length ≠ 0) && decide (zs.length ≤ 64) && zs.all letterB && (if k = 4 then greatB (zs.getD 0 0) else if k = 5 then smallB (zs.getD 0 0) else beginsB (zs.getD 0 0) && decide (zs ≠ [95]) && !keysL.contains zs))) := rfl
  have HA0 := hid (show (∃ i, i < zs.length ∧ letterB (zs.getD i 0) = false) → zs.all letterB = false from fun ⟨i, hi, h⟩ => List.all_eq_false.2 ⟨_, List.getElem_mem hi, by rw [← getD_lt hi, h]; simp⟩)
  have HA1 := hid (show (∀ i, i < zs.length → letterB (zs.getD i 0) = true) → zs.all letterB = true from fun h => List.all_eq_true.2 fun z hz => by
    obtain ⟨i, hi, rfl⟩ := List.getElem_of_mem hz
    rw [← getD_lt hi]; exact h i hi)
  have WA := hid (fun W => within_c (zs.getD 0 0) 65 90 W)
  have WB := hid (fun W => within_c (zs.getD 0 0) 97 122 W)
  have GA : Hid (greatB (zs.getD 0 0) = (decide (65 ≤ zs.getD 0 0) && decide (zs.getD 0 0 ≤ 90))) := rfl
  have GB : Hid (smallB (zs.getD 0 0) = (decide (97 ≤ zs.getD 0 0) && decide (zs.getD 0 0 ≤ 122))) := rfl
  have GC : Hid (beginsB (zs.getD 0 0) = (smallB (zs.getD 0 0) || decide (zs.getD 0 0 = 95))) := rfl
  rw [← GA.out] at WA
  rw [← GB.out] at WB
  clear hb GA GB
  generalize namedB k zs = r at *
  generalize keysL.contains zs = q6 at *
  generalize zs.all letterB = qa at *
  generalize greatB (zs.getD 0 0) = qg at *
  generalize smallB (zs.getD 0 0) = qs at *
  generalize beginsB (zs.getD 0 0) = qb at *
  generalize strOfNums zs = s at *
  by_cases h0 : zs.length = 0
  · obtain rfl : r = false := by rw [HV.out]; simp [h0]
    have he1 : s.toList.isEmpty = true := by rw [he]; simp [h0]
    clear he HG HU KI KS HV HA0 HA1 WA WB GC
    go_enter Tryd.func69, Tryd.ntmps69
    go_wp2
    go_ret
    exact ⟨rfl, Below.refl _ _⟩
  have he1 : s.toList.isEmpty = false := by rw [he]; simp [h0]
  clear he
  by_cases h1 : ¬ zs.length ≤ 64
  · have h1i : (zs.length : Int) > 64 := by omega
    obtain rfl : r = false := by rw [HV.out]; simp [h1]
    clear HG HU KI KS HV HA0 HA1 WA WB GC
    go_enter Tryd.func69, Tryd.ntmps69
    go_wp2
    go_ret
    exact ⟨rfl, Below.refl _ _⟩
  have h1i : ¬ (zs.length : Int) > 64 := by omega
  have HV1 := hid (HV.out.trans (by simp only [decide_eq_true h0, decide_eq_true (Decidable.of_not_not h1), ne_eq, Bool.true_and] : _ = (qa && (if k = 4 then qg else if k = 5 then qs else qb && decide (zs ≠ [95]) && !q6))))
  have hpos : (0 : Int) < (zs.length : Int) := by omega
  have hpos' : 0 < zs.length := by omega
  have g0 : ((s[0]'(by rw [hs]; exact hpos')).toNat : Int) = zs.getD 0 0 := HG.out 0 _
  have hln : zs.length ≤ 64 := by omega
  clear HV h0 h1
  go_enter Tryd.func69, Tryd.ntmps69
  go_wp2
  go_loopw [5] (fun iv wr => ∃ i nq : Nat, iv = .int .i64 i ∧ i ≤ zs.length ∧ wr = w.drewN nq ∧ Hid (∀ j, j < i → letterB (zs.getD j 0) = true)) (fun iv _ => zs.length - (intOf iv).toNat)
  case atStart => exact ⟨0, 0, rfl, Nat.zero_le _, rfl, hid fun j h => absurd h (Nat.not_lt_zero _)⟩
  case round =>
    obtain ⟨i, mq, rfl, hi, rfl, HA⟩ := hrel
    by_cases hlt : i < zs.length
    · have i0 : ((s[i]'(by rw [hs]; exact hlt)).toNat : Int) = zs.getD i 0 := HG.out i _
      have hki : (i : Int) < (zs.length : Int) := by omega
      have L := hid (fun W => letter_c (zs.getD i 0) W)
      cases hq : letterB (zs.getD i 0) with
      | false =>
        rw [hq] at L
        have HF := hid (show r = false from HV1.out.trans (by rw [HA0.out ⟨i, hlt, hq⟩]; rfl))
        clear hq HA HV1 HA0 HA1 KI KS HU WA WB GC HG g0
        generalize zs.getD i 0 = c at *
        go_wp2_with (go_at_call 54; refine (L.out _).mono ?_; rintro e w' ⟨rfl, rfl⟩)
        go_ret
        exact ⟨by rw [HF.out]; rfl, drewL (Below.refl _ _) _⟩
      | true =>
        rw [hq] at L
        have HF := hid (show ∀ j, j < i + 1 → letterB (zs.getD j 0) = true from fun j hj => by
          by_cases e : j = i
          · subst e; exact hq
          · exact HA.out j (by omega))
        clear hq HA HV1 HA0 HA1 KI KS HU WA WB GC HG g0
        generalize zs.getD i 0 = c at *
        go_wp2_with (go_at_call 54; refine (L.out _).mono ?_; rintro e w' ⟨rfl, rfl⟩)
        go_roundw
        case rel => exact ⟨i + 1, mq, by go_num, by omega, rfl, HF⟩
        case measure => simp [intOf]; omega
    · obtain rfl : i = zs.length := by omega
      have HV2 := hid (HV1.out.trans (by rw [HA1.out HA.out, Bool.true_and] : _ = (if k = 4 then qg else if k = 5 then qs else qb && decide (zs ≠ [95]) && !q6)))
      clear HV1 HA0 HA1 HA HG
      have HB0 := hid (drewL (Below.refl w.heap.size w) mq)
      obtain ⟨c, hcc⟩ : ∃ c, zs.getD 0 0 = c := ⟨_, rfl⟩
      rw [hcc] at g0 WA WB GC
      clear hcc
      by_cases k4 : k = 4
      · subst k4
        have HF : Hid (r = qg) := HV2.out.trans (if_pos rfl)
        clear HV2 GC HU KS KI WB
        go_wp2_with fail
        refine (WA.out _).mono ?_
        rintro e w' ⟨rfl, rfl⟩
        go_wp2
        go_ret
        exact ⟨by rw [HF.out]; rfl, drewL (Below.refl _ _) _⟩
      by_cases k5 : k = 5
      · subst k5
        have HF : Hid (r = qs) := (HV2.out.trans (if_neg k4)).trans (if_pos rfl)
        clear HV2 GC HU KS KI WA k4
        go_wp2_with fail
        refine (WB.out _).mono ?_
        rintro e w' ⟨rfl, rfl⟩
        go_wp2
        go_ret
        exact ⟨by rw [HF.out]; rfl, drewL (Below.refl _ _) _⟩
      have HV3 := hid ((HV2.out.trans (if_neg k4)).trans (if_neg k5))
      clear HV2 WA
      rw [GC.out] at HV3
      clear GC
      cases qs with
      | true =>
        by_cases hx : zs = [95]
        · have ht : (s.toList == [95]) = true := by rw [HU.out, decide_eq_true hx]
          have HF : Hid (r = false) := by show _ = _; rw [HV3.out]; simp [hx]
          clear HV3 HU KS KI hx
          go_wp2_with fail
          refine (WB.out _).mono ?_
          rintro e w' ⟨rfl, rfl⟩
          go_wp2
          go_ret
          exact ⟨by rw [HF.out]; rfl, drewL (Below.refl _ _) _⟩
        · have ht : (s.toList == [95]) = false := by rw [HU.out, decide_eq_false hx]
          have HF : Hid (r = !q6) := by show _ = _; rw [HV3.out]; simp [hx]
          clear HV3 HU hx
          go_wp2_with fail
          refine (WB.out _).mono ?_
          rintro e w' ⟨rfl, rfl⟩
          go_wp2_with fail
          refine (KS.out _).mono ?_
          rintro e w' ⟨kb, rfl, hsa, hb1⟩
          have HB1 := hid (HB0.out.trans (hb1.mono HB0.out.size))
          clear hb1 KS
          go_wp2_with fail
          refine (KI.out _ _ hsa).mono ?_
          rintro e w1 ⟨rfl, hb2⟩
          have HB2 := hid (HB1.out.trans (hb2.mono HB1.out.size))
          clear hb2 hsa
          go_wp2
          go_ret
          exact ⟨by rw [HF.out]; rfl, HB2.out⟩
      | false =>
        by_cases hc : c = 95
        · by_cases hx : zs = [95]
          · have ht : (s.toList == [95]) = true := by rw [HU.out, decide_eq_true hx]
            have HF : Hid (r = false) := by show _ = _; rw [HV3.out]; simp [hx]
            have hce : (c == 95) = true := by simpa using hc
            clear HV3 HU KS KI hx hc
            go_wp2_with fail
            refine (WB.out _).mono ?_
            rintro e w' ⟨rfl, rfl⟩
            go_wp2
            go_ret
            exact ⟨by rw [HF.out]; rfl, drewL (Below.refl _ _) _⟩
          · have ht : (s.toList == [95]) = false := by rw [HU.out, decide_eq_false hx]
            have HF : Hid (r = !q6) := by show _ = _; rw [HV3.out]; simp [hx, hc]
            have hce : (c == 95) = true := by simpa using hc
            clear HV3 HU hx hc
            go_wp2_with fail
            refine (WB.out _).mono ?_
            rintro e w' ⟨rfl, rfl⟩
            go_wp2_with fail
            refine (KS.out _).mono ?_
            rintro e w' ⟨kb, rfl, hsa, hb1⟩
            have HB1 := hid (HB0.out.trans (hb1.mono HB0.out.size))
            clear hb1 KS
            go_wp2_with fail
            refine (KI.out _ _ hsa).mono ?_
            rintro e w1 ⟨rfl, hb2⟩
            have HB2 := hid (HB1.out.trans (hb2.mono HB1.out.size))
            clear hb2 hsa
            go_wp2
            go_ret
            exact ⟨by rw [HF.out]; rfl, HB2.out⟩
        · have HF : Hid (r = false) := by show _ = _; rw [HV3.out]; simp [hc]
          have hce : (c == 95) = false := by simpa using hc
          clear HV3 HU KS KI hc
          go_wp2_with fail
          refine (WB.out _).mono ?_
          rintro e w' ⟨rfl, rfl⟩
          go_wp2
          go_ret
          exact ⟨by rw [HF.out]; rfl, drewL (Below.refl _ _) _⟩
end Go.Proofs.YtllodmoookcimaaDoor.Lex
