/-
  Kind: the document's own answers Check, CheckLimits, Put, PutLimits, by contract.
-/
import Derived.Test.YtgndekmmeknfpaaKindPut
import Derived.Test.YtgndekmmeknfpaaLebRef
import Derived.Deep.RegionHeldLaw
namespace Go.Proofs.Ytgndekmmeknfpaa.Kind
open Go.RowKit Go.Proofs.Ytgndekmmeknfpaa.Leb

theorem refCheck_any (p r : Int) (w : World) : Calls Try.prog 12 #[.agg #[.int .i64 p, .int .i64 r]] w
    fun e w' => e = .returned (.int .i64 (codeType p r)) ∧ Below w.heap.size w w' := by
  by_cases h1 : p < 0
  · have HC : Hid (codeType p r = 2) := by show _ = _; unfold codeType okType; rw [if_neg]; simp; omega
    have d1 : decide (p < 0) = true := decide_eq_true h1
    go_enter Try.func12, Try.ntmps12
    go_wp2
    go_ret
    exact ⟨ret_int HC.out.symm, (Below.refl _ _).alloc (Nat.le_refl _) _⟩
  · by_cases h2 : 255 < p
    · have HC : Hid (codeType p r = 2) := by show _ = _; unfold codeType okType; rw [if_neg]; simp; omega
      go_enter Try.func12, Try.ntmps12
      go_wp2
      go_ret
      exact ⟨ret_int HC.out.symm, (Below.refl _ _).alloc (Nat.le_refl _) _⟩
    · by_cases h3 : r < 0
      · have HC : Hid (codeType p r = 2) := by show _ = _; unfold codeType okType; rw [if_neg]; simp; omega
        go_enter Try.func12, Try.ntmps12
        go_wp2
        go_ret
        exact ⟨ret_int HC.out.symm, (Below.refl _ _).alloc (Nat.le_refl _) _⟩
      · by_cases h4 : 1 < r
        · have HC : Hid (codeType p r = 2) := by show _ = _; unfold codeType okType; rw [if_neg]; simp; omega
          go_enter Try.func12, Try.ntmps12
          go_wp2
          go_ret
          exact ⟨ret_int HC.out.symm, (Below.refl _ _).alloc (Nat.le_refl _) _⟩
        · have HC : Hid (codeType p r = 0) := by show _ = _; unfold codeType okType; rw [if_pos]; simp; omega
          go_enter Try.func12, Try.ntmps12
          go_wp2
          go_ret
          exact ⟨ret_int HC.out.symm, (Below.refl _ _).alloc (Nat.le_refl _) _⟩

set_option maxHeartbeats 800000 in
theorem refCheckLimits_any (n x : Int) (c : Bool) (most : Int) (w : World) : Calls Try.prog 14 #[.agg #[.int .u32 n, .int .u32 x, .bool c], .int .u32 most] w
    fun e w' => e = .returned (.int .i64 (codeLim n x c most)) ∧ Below w.heap.size w w' := by
  by_cases h1 : most < n
  · have HC : Hid (codeLim n x c most = 2) := by show _ = _; unfold codeLim okLim; rw [if_neg]; simp; omega
    go_enter Try.func14, Try.ntmps14
    go_wp2
    go_ret
    exact ⟨ret_int HC.out.symm, (Below.refl _ _).alloc (Nat.le_refl _) _⟩
  · cases c
    · by_cases h2 : x = 0
      · subst h2
        have HC : Hid (codeLim n 0 false most = 0) := by show _ = _; unfold codeLim okLim; rw [if_pos]; simp; omega
        go_enter Try.func14, Try.ntmps14
        go_wp2
        go_ret
        exact ⟨ret_int HC.out.symm, (Below.refl _ _).alloc (Nat.le_refl _) _⟩
      · have HC : Hid (codeLim n x false most = 2) := by show _ = _; unfold codeLim okLim; rw [if_neg]; simp; omega
        have h3 : (x != 0) = true := by simp [h2]
        go_enter Try.func14, Try.ntmps14
        go_wp2
        go_ret
        exact ⟨ret_int HC.out.symm, (Below.refl _ _).alloc (Nat.le_refl _) _⟩
    · by_cases h2 : x < n
      · have HC : Hid (codeLim n x true most = 2) := by show _ = _; unfold codeLim okLim; rw [if_neg]; simp; omega
        go_enter Try.func14, Try.ntmps14
        go_wp2
        go_ret
        exact ⟨ret_int HC.out.symm, (Below.refl _ _).alloc (Nat.le_refl _) _⟩
      · by_cases h3 : most < x
        · have HC : Hid (codeLim n x true most = 2) := by show _ = _; unfold codeLim okLim; rw [if_neg]; simp; omega
          go_enter Try.func14, Try.ntmps14
          go_wp2
          go_ret
          exact ⟨ret_int HC.out.symm, (Below.refl _ _).alloc (Nat.le_refl _) _⟩
        · have HC : Hid (codeLim n x true most = 0) := by show _ = _; unfold codeLim okLim; rw [if_pos]; simp; omega
          go_enter Try.func14, Try.ntmps14
          go_wp2
          go_ret
          exact ⟨ret_int HC.out.symm, (Below.refl _ _).alloc (Nat.le_refl _) _⟩

theorem rep_snoc (n : Int) (i : Nat) : encU n ++ List.replicate i 127 ++ [127] = encU n ++ List.replicate (i + 1) 127 := by
  rw [List.append_assoc, ← List.replicate_succ']
set_option maxHeartbeats 800000 in
theorem refWords_any (n : Nat) (hn : n ≤ 255) (w : World) : Calls Try.prog 20 #[.int .i64 n] w (Gives w (wordsL n)) := by
  have hs := sizeU_pos n
  go_enter Try.func20, Try.ntmps20
  go_wp2_with fail
  refine (refU_any n _ (by omega) (by omega)).mono ?_
  rintro e w1 ⟨v, rfl, ho, hb⟩
  go_wp2
  go_loopw [3, 4] (fun sv si wr => ∃ i : Nat, i ≤ n ∧ si = .int .i64 i ∧ Own w.heap.size wr sv (encU n ++ List.replicate i 127) ∧ Below w.heap.size w wr) (fun _ si _ => n - (intOf si).toNat)
  case atStart => exact ⟨0, by omega, rfl, by simpa using ho, hb⟩
  case round =>
    obtain ⟨i, hi, rfl, hown, hbw⟩ := hrel
    obtain ⟨m, hm⟩ : ∃ m, (encU (n : Int) ++ List.replicate i 127).length = m := ⟨_, rfl⟩
    obtain ⟨av, cv, rfl⟩ := hown.sliceN hm
    have hm2 : m ≤ 300 := by rw [← hm, List.length_append, encU_length, List.length_replicate]; omega
    have HM := hid hm
    clear hm ho hb
    by_cases hlt : i < n
    · go_wp2_with (first | (at_builtin; refine append_byte rfl (.tmp 13) (.tmp 14) rfl 127 rfl hown hbw hbw.size rfl (by rw [HM.out]; omega) ?_; intro v' w5 hown5 hb5 hs5))
      go_roundw
      case rel => exact ⟨i + 1, by omega, by go_num, by rw [← rep_snoc]; exact hown5, hb5⟩
      case measure => simp [intOf]; omega
    · obtain rfl : i = n := by omega
      go_wp2
      go_ret
      rw [words_append] at hown
      exact ⟨_, rfl, hown, hbw⟩

theorem own_lit (w : World) (z : Int) : Own w.heap.size (w.alloc (.cells #[.int .u8 z] 5)) (.slice (some ⟨w.heap.size, 0, none⟩) 1 1) [z] := by
  refine ⟨rfl, .inr ⟨w.heap.size, 1, #[.int .u8 z], rfl, Nat.le_refl _, ?_, Nat.le_refl _, by unfold maxLen; omega, rfl, rfl⟩⟩
  show (w.heap.push _)[w.heap.size]? = _
  simp

theorem typeL_cat (p r : Int) : [96] ++ wordsL p ++ wordsL r = typeL p r := by simp [typeL]
theorem typeL_cat1 (p : Nat) : ([96] ++ wordsL p).length = 1 + (sizeU p + p) := by simp [wordsL_len]; omega
set_option maxHeartbeats 1600000 in
theorem refPut_ok (p r : Nat) (hp : p ≤ 255) (hr : r ≤ 1) (w : World) : Calls Try.prog 7 #[.agg #[.int .i64 p, .int .i64 r]] w (PutOk w (typeL p r)) := by
  have hC := fun w => refCheck_any p r w
  have hc0 : codeType p r = 0 := by
    have : okType p r = true := by unfold okType; simp; omega
    unfold codeType; rw [if_pos this]
  simp only [hc0] at hC
  have HLE := hid (typeL_len p r)
  have HCAT := hid (typeL_cat p r)
  have HC1 := hid (typeL_cat1 p)
  have hs := sizeU_pos p
  have hs2 := sizeU_pos r
  clear hc0
  go_enter Try.func7, Try.ntmps7
  go_wp2_with fail
  refine (hC _).mono ?_
  rintro e w1 ⟨rfl, hb1⟩
  obtain ⟨d0, d1, _, _, _⟩ := two hb1
  have hW0 : Below w.heap.size w (w.alloc (.cells #[.int .i64 p, .int .i64 r] 23)) := (Below.refl _ _).alloc (Nat.le_refl _) _
  have hs0 : w.heap.size + 1 = (w.alloc (.cells #[.int .i64 p, .int .i64 r] 23)).heap.size := by simp
  have HS0 := hid hs0
  have d0' := keepA d0 (.cells #[.int .u8 96] 5)
  clear hC hs0
  generalize w.alloc (.cells #[.int .i64 p, .int .i64 r] 23) = W0 at *
  go_wp2_with fail
  refine (refWords_any p hp _).mono ?_
  rintro e w3 ⟨v3, rfl, ho3, hb3⟩
  obtain ⟨a3, c3, rfl⟩ := ho3.sliceN (wordsL_len p)
  have hy3 := ho3.bytes (wordsL_bytes p) (by rw [wordsL_len]; omega)
  have hn3 := ho3.nil
  have hb4 : Below w1.heap.size w1 w3 := ((Below.refl _ _).alloc (Nat.le_refl _) _).trans (hb3.mono (by simp))
  have hoL := ((own_lit w1 96).below hb3).mono hb1.size
  have hB3 := thenB hb1 hb4
  have e1 := keep hb4 d1
  have HLk : W0.heap.size > w.heap.size := by have := HS0.out; omega
  clear ho3 hb3 hb4 d0 d1 d0' hb1
  go_wp2_with (first | (at_builtin; refine append_bytes rfl (.tmp 11) (.tmp 14) rfl rfl hoL hB3 hB3.size _ _ _ rfl hn3.out (wordsL_len p) hy3 (by rw [wordsL_len]; simp; omega) ?_; intro v5 w5 ho5 hB5 hs5; have e5 := (hB5.cell (p := ⟨w.heap.size, 1, none⟩) HLk).trans ((hB3.cell (p := ⟨w.heap.size, 1, none⟩) HLk).symm.trans e1); obtain ⟨a5, c5, rfl⟩ := ho5.sliceN HC1.out))
  refine (refWords_any r (by omega) _).mono ?_
  rintro e w7 ⟨v7, rfl, ho7, hb7⟩
  obtain ⟨a7, c7, rfl⟩ := ho7.sliceN (wordsL_len r)
  have hy7 := ho7.bytes (wordsL_bytes r) (by rw [wordsL_len]; omega)
  have hn7 := ho7.nil
  have ho6 := ho5.below hb7
  have hB7 := thenB hB5 hb7
  clear ho7 hb7 ho5 hB5
  go_wp2_with (first | (at_builtin; refine append_bytes rfl (.tmp 16) (.tmp 19) rfl rfl ho6 hB7 hB7.size _ _ _ rfl hn7.out (wordsL_len r) hy7 (by rw [HC1.out, wordsL_len]; omega) ?_; intro v9 w9 ho9 hB9 hs9; rw [HCAT.out] at ho9; obtain ⟨a9, c9, rfl⟩ := ho9.sliceN HLE.out))
  go_ret2
  exact ⟨_, rfl, ho9.mono (by have := HS0.out; omega), hW0.trans (hB9.mono (by have := HS0.out; omega))⟩

set_option maxHeartbeats 800000 in
theorem refPut_no (p r : Int) (h : okType p r = false) (w : World) : Calls Try.prog 7 #[.agg #[.int .i64 p, .int .i64 r]] w (PutNo w) := by
  have hC := fun w => refCheck_any p r w
  have hc0 : codeType p r = 2 := by unfold codeType; rw [h]; rfl
  simp only [hc0] at hC
  clear hc0 h
  go_enter Try.func7, Try.ntmps7
  go_wp2_with fail
  refine (hC _).mono ?_
  rintro e w1 ⟨rfl, hb1⟩
  have hA : Below w.heap.size w w1 := ((Below.refl _ _).alloc (Nat.le_refl _) _).trans (hb1.mono (by simp))
  clear hC hb1
  go_wp2
  go_ret2
  exact ⟨rfl, hA⟩

set_option maxHeartbeats 800000 in
theorem refPutLimits_no (n x : Int) (c : Bool) (most : Int) (h : okLim n x c most = false) (w : World) : Calls Try.prog 9 #[.agg #[.int .u32 n, .int .u32 x, .bool c], .int .u32 most] w (PutNo w) := by
  have hC := fun w => refCheckLimits_any n x c most w
  have hc0 : codeLim n x c most = 2 := by unfold codeLim; rw [h]; rfl
  simp only [hc0] at hC
  clear hc0 h
  go_enter Try.func9, Try.ntmps9
  go_wp2_with fail
  refine (hC _).mono ?_
  rintro e w1 ⟨rfl, hb1⟩
  have hA : Below w.heap.size w w1 := ((Below.refl _ _).alloc (Nat.le_refl _) _).trans (hb1.mono (by simp))
  clear hC hb1
  go_wp2
  go_ret2
  exact ⟨rfl, hA⟩

theorem limL_cat2 (n : Int) : [0] ++ encU n = limL n 0 false := by simp [limL]
theorem limL_cat (n x : Int) : [1] ++ encU n ++ encU x = limL n x true := by simp [limL]
set_option maxHeartbeats 1600000 in
theorem refPutLimits_plain (n x most : Int) (h : okLim n x false most = true) (h0 : 0 ≤ n ∧ n ≤ 4294967295) (w : World) : Calls Try.prog 9 #[.agg #[.int .u32 n, .int .u32 x, .bool false], .int .u32 most] w (PutOk w (limL n x false)) := by
  have hC := fun w => refCheckLimits_any n x false most w
  have hc0 : codeLim n x false most = 0 := by unfold codeLim; rw [if_pos h]
  obtain rfl : x = 0 := by unfold okLim at h; simp at h; exact h.2
  simp only [hc0] at hC
  have HCAT := hid (limL_cat2 n)
  have HLE := hid (limL_len2 n)
  have hs := sizeU_pos n
  clear hc0 h
  go_enter Try.func9, Try.ntmps9
  go_wp2_with fail
  refine (hC _).mono ?_
  rintro e w1 ⟨rfl, hb1⟩
  obtain ⟨d0, d1, d2⟩ := three hb1
  have hA : Below w.heap.size w w1 := ((Below.refl _ _).alloc (Nat.le_refl _) _).trans (hb1.mono (by simp))
  have d0' := keepA d0 (.cells #[.int .u8 0] 5)
  clear hC hb1
  go_wp2_with fail
  refine (refU_any n _ (by omega) (by omega)).mono ?_
  rintro e w3 ⟨v, rfl, ho, hb3⟩
  obtain ⟨a3, c3, rfl⟩ := ho.sliceN (encU_length n)
  have hy := ho.bytes (encU_bytes n) (by rw [encU_length]; omega)
  have hn3 := ho.nil
  have hb4 : Below w1.heap.size w1 w3 := ((Below.refl _ _).alloc (Nat.le_refl _) _).trans (hb3.mono (by simp))
  have hoL := ((own_lit w1 0).below hb3).mono hA.size
  have hA3 := thenB hA hb4
  clear ho hb3 hb4
  go_wp2_with (first | (at_builtin; refine append_bytes rfl (.tmp 16) (.tmp 19) rfl rfl hoL hA3 hA3.size _ _ _ rfl hn3.out (encU_length n) hy (by rw [encU_length]; simp; omega) ?_; intro v5 w5 ho5 hA5 hs5; rw [HCAT.out] at ho5; obtain ⟨a5, c5, rfl⟩ := ho5.sliceN HLE.out))
  go_ret2
  exact ⟨_, rfl, ho5, hA5⟩
end Go.Proofs.Ytgndekmmeknfpaa.Kind
