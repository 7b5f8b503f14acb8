/-
  LEX: what a range over a string meets at a place; run, the first bytes that are of one class, by contract.
-/
import Derived.Test.YtojgibigmoaejaaDoorLexLet
import Derived.Test.YtojgibigmoaejaaDoorUtfDecode
import Derived.Shelf.Abstract
namespace Go.Proofs.YtojgibigmoaejaaDoor.Lex
open Go.RowKit Go.Proofs.YtojgibigmoaejaaDoor.Utf
set_option linter.unusedSimpArgs false
set_option linter.unusedVariables false

theorem str_tail (zs : List Int) (i : Nat) : (strOfNums zs).extract i zs.length = strOfNums (zs.drop i) := by
  apply ByteArray.ext
  apply Array.toList_inj.1
  rw [ByteArray.data_extract, Array.toList_extract, strOfNums_data, strOfNums_data]
  simp
  rw [List.take_of_length_le (by simp)]
theorem str_head (zs : List Int) (i : Nat) : (strOfNums zs).extract 0 i = strOfNums (zs.take i) := by
  apply ByteArray.ext
  apply Array.toList_inj.1
  rw [ByteArray.data_extract, Array.toList_extract, strOfNums_data, strOfNums_data]
  simp

theorem oneL_head {n : Int} (h : Rune n) (h1 : 128 ≤ n) : 192 ≤ (oneL n).getD 0 0 ∧ ∀ j, 0 < j → j < (oneL n).length → 128 ≤ (oneL n).getD j 0 := by
  obtain ⟨a, b, _⟩ := h
  unfold oneL
  rw [if_neg (by omega)]
  split
  · refine ⟨by simp; omega, fun j h0 hj => ?_⟩
    simp at hj
    obtain rfl : j = 1 := by omega
    simp; omega
  · split
    · refine ⟨by simp; omega, fun j h0 hj => ?_⟩
      simp at hj
      obtain rfl | rfl : j = 1 ∨ j = 2 := by omega
      · simp; omega
      · simp; omega
    · refine ⟨by simp; omega, fun j h0 hj => ?_⟩
      simp at hj
      obtain rfl | rfl | rfl : j = 1 ∨ j = 2 ∨ j = 3 := by omega
      · simp; omega
      · simp; omega
      · simp; omega
theorem atL_low {c : Int} (t : List Int) (h0 : 0 ≤ c) (h : c < 128) : atL (c :: t) = some (c, 1) := by
  have := atL_one (n := c) ⟨h0, by omega, by omega⟩ t
  simpa [oneL, h] using this
/-- What a range over a string meets at a place: a number and its width. -/
theorem dec_any {zs : List Int} (hb : ∀ z ∈ zs, 0 ≤ z ∧ z < 256) {pos : Nat} (hp : pos < zs.length) :
    ∃ n k, Utf8.decode (strOfNums zs) pos = (n, k) ∧ 1 ≤ k ∧ pos + k ≤ zs.length ∧ (zs.getD pos 0 < 128 → (n : Int) = zs.getD pos 0 ∧ k = 1)
      ∧ (128 ≤ zs.getD pos 0 → 128 ≤ n ∧ n ≤ 1114111 ∧ ∀ j, 0 < j → j < k → 128 ≤ zs.getD (pos + j) 0) := by
  have hd := drop_at hp
  have h0 := hb _ (List.getElem_mem hp)
  rw [← getD_lt hp] at h0
  cases ha : atL (zs.drop pos) with
  | none =>
    refine ⟨65533, 1, decode_none hb hp ha, by omega, by omega, fun h => ?_, fun _ => ⟨by omega, by omega, fun j _ _ => by omega⟩⟩
    rw [hd, atL_low _ h0.1 h] at ha
    cases ha
  | some q =>
    obtain ⟨n, k⟩ := q
    obtain ⟨hr, ht, hk, hk1, hk4, hkl⟩ := atL_some ha
    have hr' := hr
    obtain ⟨r0, r1, r2⟩ := hr'
    rw [List.length_drop] at hkl
    refine ⟨n.toNat, k, decode_some hb ha, hk1, by omega, fun h => ?_, fun h => ?_⟩
    · rw [hd, atL_low _ h0.1 h] at ha
      simp only [Option.some.injEq, Prod.mk.injEq] at ha
      obtain ⟨rfl, rfl⟩ := ha
      exact ⟨by omega, rfl⟩
    · have hn : 128 ≤ n := by
        by_cases h' : n < 128
        · exfalso
          have e : oneL n = [n] := by simp [oneL, h']
          rw [e, hd] at ht
          rw [e] at hk
          simp at hk
          subst hk
          simp only [List.take_succ_cons, List.take_zero, List.cons.injEq, and_true] at ht
          omega
        · omega
      obtain ⟨_, hj⟩ := oneL_head hr hn
      refine ⟨by omega, by omega, fun j j0 jk => ?_⟩
      have := hj j j0 (by omega)
      rw [← ht] at this
      rw [getD_drop0]
      rwa [List.getD_eq_getElem?_getD, List.getElem?_take_of_lt jk, ← List.getD_eq_getElem?_getD] at this

theorem takeWhile_stop {p : Int → Bool} {zs : List Int} {i : Nat} (h1 : ∀ j, j < i → p (zs.getD j 0) = true) (hi : i ≤ zs.length) (h2 : i < zs.length → p (zs.getD i 0) = false) : zs.takeWhile p = zs.take i := by
  induction zs generalizing i with
  | nil => simp
  | cons c t ih =>
    cases i with
    | zero =>
      have := h2 (by simp)
      simp only [List.getD_cons_zero] at this
      rw [List.takeWhile_cons, this]; simp
    | succ i =>
      have h0 := h1 0 (by omega)
      simp only [List.getD_cons_zero] at h0
      rw [List.takeWhile_cons, h0, List.take_succ_cons, if_pos rfl, ih (i := i) (fun j hj => by have := h1 (j + 1) (by omega); simpa using this) (by simpa using hi) (fun h => by have := h2 (by simpa using h); simpa using this)]

theorem wrap8_low (n : Int) (h0 : 0 ≤ n) (h1 : n < 128) : IntKind.u8.wrap n = n := by rw [IntKind.wrap_u8]; omega
set_option maxHeartbeats 1000000 in
theorem run_any (p : Int → Bool) (g : Nat) (eg : ∀ args w, (callFunc g args).run Tryd.prog w = .ok (.enter g args) w) (hp : ∀ c, p c = true → c < 128)
    (hg : ∀ c W, Calls Tryd.prog g #[.int .u8 c] W fun e w' => e = .returned (.bool (p c)) ∧ w' = W) (zs : List Int) (hb : ∀ z ∈ zs, 0 ≤ z ∧ z < 256) (w : World) :
    Calls Tryd.prog 48 #[.string (strOfNums zs), .func (.func g) #[] #[]] w fun e w' => e = .returned (.string (strOfNums (zs.takeWhile p))) ∧ Below w.heap.size w w' := by
  have HD := hid (fun pos (h : pos < zs.length) => dec_any hb h)
  have HH := hid (str_head zs)
  have HB := hid hb
  have hs : (strOfNums zs).size = zs.length := strOfNums_size zs
  have HR := hid (show ∀ i, strOfNums (zs.takeWhile p) = strOfNums (zs.take i) ∨ zs.takeWhile p ≠ zs.take i from fun i => by by_cases h : zs.takeWhile p = zs.take i; exact .inl (by rw [h]); exact .inr h)
  have HP := hid hp
  have HG := hid hg
  clear hb hp hg
  generalize strOfNums (zs.takeWhile p) = res at *
  generalize hse : strOfNums zs = s at *
  clear hse
  go_enter Tryd.func48, Tryd.ntmps48
  go_wp2
  go_loopw [4] (fun _ wr => ∃ pos : Nat, wr.heap[w.heap.size]? = some (.stringIter s pos) ∧ Below w.heap.size w wr ∧ pos ≤ zs.length ∧ Hid (∀ j, j < pos → p (zs.getD j 0) = true))
    (fun _ wr => zs.length - wr.iterPos w.heap.size)
  case atStart => exact ⟨0, World.iter_heap w s 0, (Below.refl _ _).alloc (Nat.le_refl _) _, Nat.zero_le _, hid fun j hj => absurd hj (Nat.not_lt_zero _)⟩
  case round =>
    obtain ⟨pos, hk, hbw, hpos, HA⟩ := hrel
    by_cases hp : pos < s.size
    · obtain ⟨n, k, hd, hk1, hkl, hlow, hhigh⟩ := HD.out pos (by omega)
      have hnx : ∀ ty, (Instr.next (.pointer (some ⟨w.heap.size, 0, none⟩)) true ty).run Tryd.prog wr = .ok (.tuple #[.bool true, .int .i64 pos, .int .i32 n]) (wr.iterAt w.heap.size s (pos + k)) := fun ty => by
        rw [Lib.run_next_any_at wr w.heap.size s pos ty hk hp, hd]
      have hw1 := Lib.below_iterAt hbw (Nat.le_refl _) s (pos + k)
      have hk1' := Lib.iterAt_heap wr w.heap.size s pos (pos + k) hk
      have hit : (wr.iterAt w.heap.size s (pos + k)).iterPos w.heap.size = pos + k := by unfold World.iterPos; rw [hk1']
      have hit0 : wr.iterPos w.heap.size = pos := by unfold World.iterPos; rw [hk]
      have hlt : w.heap.size < (wr.iterAt w.heap.size s (pos + k)).heap.size := (Array.getElem?_eq_some_iff.1 hk1').1
      have hz := HB.out _ (List.getElem_mem (show pos < zs.length by omega))
      rw [← getD_lt (show pos < zs.length by omega)] at hz
      by_cases hc : zs.getD pos 0 < 128
      · obtain ⟨hn, rfl⟩ := hlow hc
        have C := hid (fun W => HG.out (n : Int) W)
        have hw8 := wrap8_low (n : Int) (by omega) (by omega)
        have hn127 : ¬ (n : Int) > 127 := by omega
        cases hpn : p (n : Int) with
        | true =>
          rw [hpn] at C
          have HF : Hid (∀ j, j < pos + 1 → p (zs.getD j 0) = true) := hid fun j hj => by
            by_cases e : j = pos
            · subst e; rw [← hn]; exact hpn
            · exact HA.out j (by omega)
          clear hlow hhigh hd hz hc hpn hn
          generalize wr.iterAt w.heap.size s (pos + 1) = w1 at *
          go_wp2_with (go_at_fn g; refine (C.out _).mono ?_; rintro e w' ⟨rfl, rfl⟩)
          go_roundw
          case rel => exact ⟨pos + 1, hk1', hw1, hkl, HF⟩
          case measure => rw [hit, hit0]; omega
        | false =>
          rw [hpn] at C
          have HF : Hid (res = s.extract 0 pos) := by
            have e := takeWhile_stop (p := p) HA.out hpos (fun _ => by rw [← hn]; exact hpn)
            show _ = _
            rw [HH.out]
            exact (HR.out pos).resolve_right (fun h => h e)
          clear hlow hhigh hd hz hc hpn hn
          generalize wr.iterAt w.heap.size s (pos + 1) = w1 at *
          go_wp2_with (go_at_fn g; refine (C.out _).mono ?_; rintro e w' ⟨rfl, rfl⟩)
          go_ret
          exact ⟨by rw [HF.out]; rfl, hw1⟩
      · obtain ⟨hn, hn', _⟩ := hhigh (by omega)
        have hn127 : (n : Int) > 127 := by omega
        have HF : Hid (res = s.extract 0 pos) := by
          have e := takeWhile_stop (p := p) HA.out hpos (fun _ => by
            cases h : p (zs.getD pos 0) with
            | false => rfl
            | true => exact absurd (HP.out _ h) hc)
          show _ = _
          rw [HH.out]
          exact (HR.out pos).resolve_right (fun h => h e)
        clear hlow hhigh hd hz hc
        generalize wr.iterAt w.heap.size s (pos + k) = w1 at *
        go_wp2
        go_ret
        exact ⟨by rw [HF.out]; rfl, hw1⟩
    · have hnx : ∀ ty, (Instr.next (.pointer (some ⟨w.heap.size, 0, none⟩)) true ty).run Tryd.prog wr = _ := fun ty => Lib.run_next_end_at wr w.heap.size s pos ty hk hp
      have HF : Hid (res = s) := by
        have e := takeWhile_stop (p := p) HA.out hpos (fun h => by omega)
        have h1 := (HR.out pos).resolve_right (fun h => h e)
        have h2 := HH.out pos
        show _ = _
        rw [h1, ← h2, show pos = s.size by omega, ByteArray.extract_zero_size]
      go_wp2
      go_ret
      exact ⟨by rw [HF.out]; rfl, hbw⟩

theorem digit_low {c : Int} (h : digitB c = true) : c < 128 := by unfold digitB at h; simp at h; omega
theorem letter_low {c : Int} (h : letterB c = true) : c < 128 := by
  unfold letterB smallB greatB digitB at h; simp at h; omega
theorem run_digit (zs : List Int) (hb : ∀ z ∈ zs, 0 ≤ z ∧ z < 256) (w : World) :
    Calls Tryd.prog 48 #[.string (strOfNums zs), .func (.func 27) #[] #[]] w fun e w' => e = .returned (.string (strOfNums (zs.takeWhile digitB))) ∧ Below w.heap.size w w' :=
  run_any digitB _ (enters_of Tryd.func27 (by kernel_rfl) rfl) (fun _ => digit_low) isDigit_c zs hb w
theorem run_letter (zs : List Int) (hb : ∀ z ∈ zs, 0 ≤ z ∧ z < 256) (w : World) :
    Calls Tryd.prog 48 #[.string (strOfNums zs), .func (.func 52) #[] #[]] w fun e w' => e = .returned (.string (strOfNums (zs.takeWhile letterB))) ∧ Below w.heap.size w w' :=
  run_any letterB _ (enters_of Tryd.func52 (by kernel_rfl) rfl) (fun _ => letter_low) isLetter_c zs hb w
end Go.Proofs.YtojgibigmoaejaaDoor.Lex
