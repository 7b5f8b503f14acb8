/-
  NAME: the document's own answers, by contracts: at.
-/
import Derived.Test.YtgmcknblfgealaaDoorNameRef
namespace Go.Proofs.YtgmcknblfgealaaDoor.Utf
open Go.RowKit

/-- What 'at' hands back. -/
def atR : List Int → Int × Int × Bool
  | [] => (0, 0, false)
  | c :: t => match firstL c with
    | none => (0, 0, false)
    | some (n0, more) => match tailsL more n0 t with
      | none => (0, 0, false)
      | some n => (n, (more + 1 : Nat), decide (Rune n ∧ (oneL n).length = more + 1))
theorem atR_some {l : List Int} {n : Int} {k : Nat} (h : atL l = some (n, k)) : atR l = (n, (k : Int), true) := by
  cases l with
  | nil => cases h
  | cons c t =>
    simp only [atL] at h
    simp only [atR]
    cases hf : firstL c with
    | none => rw [hf] at h; cases h
    | some q =>
      obtain ⟨n0, more⟩ := q
      rw [hf] at h
      simp only at h ⊢
      cases ht : tailsL more n0 t with
      | none => rw [ht] at h; cases h
      | some m =>
        rw [ht] at h
        simp only at h ⊢
        split at h
        · rename_i hr
          cases h
          rw [decide_eq_true hr]
        · cases h
theorem atR_none {l : List Int} (h : atL l = none) : (atR l).2.2 = false := by
  cases l with
  | nil => rfl
  | cons c t =>
    simp only [atL] at h
    simp only [atR]
    cases hf : firstL c with
    | none => rfl
    | some q =>
      obtain ⟨n0, more⟩ := q
      rw [hf] at h
      simp only at h ⊢
      cases ht : tailsL more n0 t with
      | none => rfl
      | some m =>
        rw [ht] at h
        simp only at h ⊢
        split at h
        · cases h
        · rename_i hr
          exact decide_eq_false hr
theorem firstL_some {c n : Int} {k : Nat} (h0 : 0 ≤ c) (h : firstL c = some (n, k)) : 0 ≤ n ∧ n < 128 ∧ k ≤ 3 ∧ firstR c = (n, (k : Int), true) := by
  have hr : firstR c = (n, (k : Int), true) := by unfold firstR; rw [h]
  refine ⟨?_, ?_, ?_, hr⟩
  all_goals
    unfold firstL at h
    repeat' split at h
    all_goals first | (cases h; omega) | (cases h)
theorem firstL_none {c : Int} (h : firstL c = none) : firstR c = (0, 0, false) := by unfold firstR; rw [h]
/-- One more byte that goes on. -/
theorem tailsL_step {m : Nat} {n : Int} {l : List Int} (h : (tailR l).2 = true) : tailsL (m + 1) n l = tailsL m (64 * n + (tailR l).1) (l.drop 1) ∧ 0 ≤ (tailR l).1 ∧ (tailR l).1 < 64 := by
  cases l with
  | nil => cases h
  | cons c t =>
    unfold tailR at h ⊢
    by_cases hc : 128 ≤ c ∧ c < 192
    · simp only [if_pos hc, tailsL, List.drop_one, List.tail_cons]
      exact ⟨trivial, by omega, by omega⟩
    · simp [if_neg hc] at h
theorem tailsL_stop {m : Nat} {n : Int} {l : List Int} (h : (tailR l).2 = false) : tailsL (m + 1) n l = none := by
  cases l with
  | nil => rfl
  | cons c t =>
    unfold tailR at h
    by_cases hc : 128 ≤ c ∧ c < 192
    · simp [if_pos hc] at h
    · simp only [tailsL, if_neg hc]

set_option maxHeartbeats 1600000 in
theorem at_any (a : Option Addr) (len cap : Nat) (zs : List Int) (i : Nat) (w : World) (hlen : zs.length = len) (hz : Bytes w a zs) (hi : i < len) :
    Calls Tryd.prog 27 #[.slice a len cap, .int .i64 i] w fun e w' => e = .returned (.tuple #[.int .i64 (atR (zs.drop i)).1, .int .i64 (atR (zs.drop i)).2.1, .bool (atR (zs.drop i)).2.2]) ∧ Below w.heap.size w w' := by
  have hil : i < zs.length := by omega
  have hz0 := hz
  obtain ⟨b, off, rfl, hcell⟩ := hz.at (by omega)
  have hc := hcell i hil
  obtain ⟨c0, c1⟩ := hz.get hil
  have hmax := hz.size
  rw [hlen] at hmax
  have HD := hid (drop_at hil)
  generalize zs.getD i 0 = c at *
  have HL := hid hlen
  clear hcell hlen hil hz
  cases hf : firstL c with
  | none =>
    have HR : Hid (atR (zs.drop i) = (0, 0, false)) := by
      show _ = _
      rw [HD.out]; simp only [atR, hf]
    have hfr := hid (firstL_none hf)
    clear hf
    go_enter Tryd.func27, Tryd.ntmps27
    go_wp2_with fail
    refine (first_any c _ c0 c1).mono ?_
    rw [hfr.out]
    rintro e w1 ⟨rfl, rfl⟩
    go_wp2
    exact bodyPost_ret (v := .tuple #[.int .i64 0, .int .i64 0, .bool false]) (by simp [results, Tryd.results27, go_sem]) rfl ⟨by rw [HR.out], Below.refl _ _⟩
  | some q =>
    obtain ⟨n0, more⟩ := q
    obtain ⟨hn0, hn1, hm3, hfr⟩ := firstL_some c0 hf
    have HF := hid hfr
    have HA : Hid (atR (zs.drop i) = match tailsL more n0 (zs.drop (i + 1)) with
      | none => (0, 0, false)
      | some n => (n, (more + 1 : Nat), decide (Rune n ∧ (oneL n).length = more + 1))) := by
      show _ = _
      rw [HD.out]; simp only [atR, hf]
    clear hf hfr
    go_enter Tryd.func27, Tryd.ntmps27
    go_wp2_with fail
    refine (first_any c _ c0 c1).mono ?_
    rw [HF.out]
    rintro e w1 ⟨rfl, rfl⟩
    clear HF
    go_wp2
    go_loopw [7, 10] (fun vn vi wr => ∃ (j : Nat) (acc : Int), vi = .int .i64 (j + 1 : Nat) ∧ vn = .int .i64 acc ∧ j ≤ more ∧ 0 ≤ acc ∧ acc < 128 * 64 ^ j ∧ tailsL more n0 (zs.drop (i + 1)) = tailsL (more - j) acc (zs.drop (i + 1 + j)) ∧ Below w1.heap.size w1 wr)
      (fun _ vi _ => more + 1 - (intOf vi).toNat)
    case atStart => exact ⟨0, n0, rfl, rfl, Nat.zero_le _, hn0, by simpa using hn1, rfl, Below.refl _ _⟩
    case round =>
      obtain ⟨j, acc, rfl, rfl, hj, ha0, ha1, hT, hb⟩ := hrel
      have HT := hid hT
      clear hT
      have ha2 : acc < 33554432 := by
        have h4 : j = 0 ∨ j = 1 ∨ j = 2 ∨ j = 3 := by omega
        rcases h4 with rfl | rfl | rfl | rfl <;> simp at ha1 <;> omega
      have HP := hid ha1
      clear ha1
      by_cases hjm : j < more
      · go_wp2_with fail
        refine (tail_any _ len cap zs _ _ HL.out (hz0.below hb) (by omega)).mono ?_
        have hX : ((i : Int) + ((j : Int) + 1)).toNat = i + 1 + j := by omega
        rw [hX]
        rintro e w2 ⟨rfl, hb2⟩
        have hb' := thenB hb hb2
        obtain ⟨k, hk⟩ : ∃ k, more - j = k + 1 := ⟨more - j - 1, by omega⟩
        cases ht : (tailR (zs.drop (i + 1 + j))).2 with
        | false =>
          have HN : Hid (tailsL more n0 (zs.drop (i + 1)) = none) := by
            show _ = _
            rw [HT.out, hk]; exact tailsL_stop ht
          clear HT hb2 hX hk
          generalize (tailR (zs.drop (i + 1 + j))).1 = t1 at *
          generalize (tailR (zs.drop (i + 1 + j))).2 = t2 at *
          subst ht
          go_wp2
          exact bodyPost_ret (v := .tuple #[.int .i64 0, .int .i64 0, .bool false]) (by simp [results, Tryd.results27, go_sem]) rfl ⟨by rw [HA.out, HN.out], hb'⟩
        | true =>
          obtain ⟨hs1, hs2, hs3⟩ := tailsL_step (m := k) (n := acc) ht
          have HN : Hid (tailsL more n0 (zs.drop (i + 1)) = tailsL (more - (j + 1)) (64 * acc + (tailR (zs.drop (i + 1 + j))).1) (zs.drop (i + 1 + (j + 1)))) := by
            show _ = _
            rw [HT.out, hk, hs1, List.drop_drop]
            exact congr (congr (congrArg tailsL (by omega)) rfl) rfl
          clear HT hb2 hX hk hs1
          generalize (tailR (zs.drop (i + 1 + j))).1 = t1 at *
          generalize (tailR (zs.drop (i + 1 + j))).2 = t2 at *
          subst ht
          have hpw : 64 * acc + t1 < 128 * 64 ^ (j + 1) := by
            have := HP.out
            rw [Int.pow_succ]
            omega
          have HPW := hid hpw
          clear hpw
          go_wp2
          go_roundw
          case rel => exact ⟨j + 1, 64 * acc + t1, by go_num, rfl, by omega, by omega, HPW.out, HN.out, hb'⟩
          case measure => simp [intOf]; omega
      · obtain rfl : j = more := by omega
        have HN : Hid (tailsL j n0 (zs.drop (i + 1)) = some acc) := by
          show _ = _
          rw [HT.out, Nat.sub_self]; rfl
        clear HT
        go_wp2_with fail
        refine (Rune_any acc _).mono ?_
        by_cases hr : Rune acc
        · rw [decide_eq_true hr]
          rintro e w2 ⟨rfl, rfl⟩
          have HR := hid hr
          go_wp2_with fail
          refine (one_any acc _ HR.out).mono ?_
          rintro e w3 ⟨v, rfl, ho, hb3⟩
          obtain ⟨a4, c4, rfl⟩ := ho.slice
          have hb' := thenB hb hb3
          have hol := oneL_length acc
          clear ho hb3 hr
          by_cases hm : (oneL acc).length = j + 1
          · have HO : Hid (atR (zs.drop i) = (acc, (j : Int) + 1, true)) := by
              show _ = _
              rw [HA.out, HN.out]
              simp only [Prod.mk.injEq, true_and, decide_eq_true_eq]
              exact ⟨by omega, HR.out, hm⟩
            generalize (oneL acc).length = m at *
            subst hm
            go_wp2
            exact bodyPost_ret (v := .tuple #[.int .i64 acc, .int .i64 ((j : Int) + 1), .bool true]) (by simp [results, Tryd.results27, go_sem]) rfl ⟨by rw [HO.out], hb'⟩
          · have HO : Hid (atR (zs.drop i) = (acc, (j : Int) + 1, false)) := by
              show _ = _
              rw [HA.out, HN.out]
              simp only [Prod.mk.injEq, true_and, decide_eq_false_iff_not]
              exact ⟨by omega, fun h => hm h.2⟩
            have hm' : ¬ ((oneL acc).length : Int) = (j : Int) + 1 := by omega
            generalize (oneL acc).length = m at *
            go_wp2
            exact bodyPost_ret (v := .tuple #[.int .i64 acc, .int .i64 ((j : Int) + 1), .bool false]) (by simp [results, Tryd.results27, go_sem, hm']) rfl ⟨by rw [HO.out], hb'⟩
        · rw [decide_eq_false hr]
          rintro e w2 ⟨rfl, rfl⟩
          have HO : Hid (atR (zs.drop i) = (acc, (j : Int) + 1, false)) := by
            show _ = _
            rw [HA.out, HN.out]
            simp only [Prod.mk.injEq, true_and, decide_eq_false_iff_not]
            exact ⟨by omega, fun h => hr h.1⟩
          clear hr
          go_wp2
          exact bodyPost_ret (v := .tuple #[.int .i64 acc, .int .i64 ((j : Int) + 1), .bool false]) (by simp [results, Tryd.results27, go_sem]) rfl ⟨by rw [HO.out], hb⟩
end Go.Proofs.YtgmcknblfgealaaDoor.Utf
