/-
  Kind: Put and PutLimits, the program's and the document's, each in one piece; what the statements' own small function 'awake' answers: true.
-/
import Derived.Test.YtgndekmmeknfpaaKindRefCap
import Derived.Test.YtgndekmmeknfpaaKindGetL
import Derived.Test.YtgndekmmeknfpaaKitBytes
namespace Go.Proofs.Ytgndekmmeknfpaa.Kind
set_option linter.unusedVariables false
open Go.RowKit Go.Proofs.Ytgndekmmeknfpaa.Leb

def putZ (p r : Int) : List Int := if okType p r then typeL p r else []
def limZ (n x : Int) (c : Bool) (most : Int) : List Int := if okLim n x c most then limL n x c else []
def PutRes (w : World) (zs : List Int) (m : Nat) (er : Int) (e : Ending) (w' : World) : Prop := ∃ a q, e = .returned (.tuple #[.slice a m q, .int .i64 er]) ∧ Bytes w' a zs ∧ Hid (a = none → q = 0) ∧ Below w.heap.size w w'

theorem typeL_bytes (p r : Int) : ∀ z ∈ typeL p r, 0 ≤ z ∧ z < 256 := by
  intro z hz
  unfold typeL at hz
  rcases List.mem_cons.1 hz with h | h
  · omega
  · rcases List.mem_append.1 h with h | h
    · exact wordsL_bytes _ z h
    · exact wordsL_bytes _ z h
theorem limL_bytes (n x : Int) (c : Bool) : ∀ z ∈ limL n x c, 0 ≤ z ∧ z < 256 := by
  intro z hz
  unfold limL at hz
  cases c
  · simp only [Bool.false_eq_true, if_false] at hz
    rcases List.mem_cons.1 hz with h | h
    · omega
    · exact encU_bytes _ z h
  · simp only [if_true] at hz
    rcases List.mem_cons.1 hz with h | h
    · omega
    · rcases List.mem_append.1 h with h | h
      · exact encU_bytes _ z h
      · exact encU_bytes _ z h
theorem putRes_ok {w w' : World} {zs : List Int} {m : Nat} {e : Ending} (hm : zs.length = m) (hb : ∀ z ∈ zs, 0 ≤ z ∧ z < 256) (hl : zs.length ≤ 1000) (h : PutOk w zs e w') : PutRes w zs m 0 e w' := by
  obtain ⟨v, he, ho, hB⟩ := h
  obtain ⟨a, q, rfl⟩ := ho.sliceN hm
  exact ⟨a, q, he, ho.bytes hb (by omega), ho.nil, hB⟩
theorem putRes_no {w w' : World} {e : Ending} (h : PutNo w e w') : PutRes w [] 0 2 e w' :=
  ⟨none, 0, h.1, ⟨by simp, by simp, .inl rfl⟩, (hid fun _ => rfl), h.2⟩
theorem okType_nat {p r : Int} (h : okType p r = true) : ∃ a b : Nat, p = a ∧ r = b ∧ a ≤ 255 ∧ b ≤ 1 := by
  unfold okType at h; simp at h
  exact ⟨p.toNat, r.toNat, by omega, by omega, by omega, by omega⟩
theorem typeL_le (p r : Nat) (hp : p ≤ 255) (hr : r ≤ 1) : (typeL p r).length ≤ 1000 := by
  rw [typeL_len]; have := sizeU_pos p; have := sizeU_pos r; omega
theorem put_any (p r : Int) (m : Nat) (hm : (putZ p r).length = m) (w : World) : Calls Try.prog 6 #[.agg #[.int .i64 p, .int .i64 r]] w (PutRes w (putZ p r) m (codeType p r)) := by
  by_cases h : okType p r = true
  · have e1 : putZ p r = typeL p r := by unfold putZ; rw [if_pos h]
    have e2 : codeType p r = 0 := by unfold codeType; rw [if_pos h]
    rw [e1] at hm; rw [e1, e2]
    obtain ⟨a, b, rfl, rfl, ha, hb⟩ := okType_nat h
    exact (put_ok a b ha hb w).mono fun e w' he => putRes_ok hm (typeL_bytes _ _) (typeL_le a b ha hb) he
  · have h' : okType p r = false := by simpa using h
    have e1 : putZ p r = [] := by unfold putZ; rw [h']; rfl
    have e2 : codeType p r = 2 := by unfold codeType; rw [h']; rfl
    rw [e1] at hm; rw [e1, e2]
    obtain rfl : m = 0 := by simpa using hm.symm
    exact (put_no p r h' w).mono fun e w' he => putRes_no he
theorem refPut_any (p r : Int) (m : Nat) (hm : (putZ p r).length = m) (w : World) : Calls Try.prog 7 #[.agg #[.int .i64 p, .int .i64 r]] w (PutRes w (putZ p r) m (codeType p r)) := by
  by_cases h : okType p r = true
  · have e1 : putZ p r = typeL p r := by unfold putZ; rw [if_pos h]
    have e2 : codeType p r = 0 := by unfold codeType; rw [if_pos h]
    rw [e1] at hm; rw [e1, e2]
    obtain ⟨a, b, rfl, rfl, ha, hb⟩ := okType_nat h
    exact (refPut_ok a b ha hb w).mono fun e w' he => putRes_ok hm (typeL_bytes _ _) (typeL_le a b ha hb) he
  · have h' : okType p r = false := by simpa using h
    have e1 : putZ p r = [] := by unfold putZ; rw [h']; rfl
    have e2 : codeType p r = 2 := by unfold codeType; rw [h']; rfl
    rw [e1] at hm; rw [e1, e2]
    obtain rfl : m = 0 := by simpa using hm.symm
    exact (refPut_no p r h' w).mono fun e w' he => putRes_no he
theorem okLim_x {n x most : Int} (h : okLim n x false most = true) : x = 0 := by unfold okLim at h; simp at h; exact h.2
theorem limL_le (n x : Int) (c : Bool) : (limL n x c).length ≤ 1000 := by
  have := sizeU_pos n; have := sizeU_pos x
  cases c <;> unfold limL <;> simp [encU_length] <;> omega
theorem putLim_any (n x : Int) (c : Bool) (most : Int) (m : Nat) (hm : (limZ n x c most).length = m) (h0 : 0 ≤ n ∧ n ≤ 4294967295) (h1 : 0 ≤ x ∧ x ≤ 4294967295) (w : World) :
    Calls Try.prog 8 #[.agg #[.int .u32 n, .int .u32 x, .bool c], .int .u32 most] w (PutRes w (limZ n x c most) m (codeLim n x c most)) := by
  by_cases h : okLim n x c most = true
  · have e1 : limZ n x c most = limL n x c := by unfold limZ; rw [if_pos h]
    have e2 : codeLim n x c most = 0 := by unfold codeLim; rw [if_pos h]
    rw [e1] at hm; rw [e1, e2]
    cases c
    · exact (putLimits_plain n x most h h0 w).mono fun e w' he => putRes_ok hm (limL_bytes _ _ _) (limL_le _ _ _) he
    · exact (putLimits_capped n x most h h0 h1 w).mono fun e w' he => putRes_ok hm (limL_bytes _ _ _) (limL_le _ _ _) he
  · have h' : okLim n x c most = false := by simpa using h
    have e1 : limZ n x c most = [] := by unfold limZ; rw [h']; rfl
    have e2 : codeLim n x c most = 2 := by unfold codeLim; rw [h']; rfl
    rw [e1] at hm; rw [e1, e2]
    obtain rfl : m = 0 := by simpa using hm.symm
    exact (putLimits_no n x c most h' w).mono fun e w' he => putRes_no he
theorem refPutLim_any (n x : Int) (c : Bool) (most : Int) (m : Nat) (hm : (limZ n x c most).length = m) (h0 : 0 ≤ n ∧ n ≤ 4294967295) (h1 : 0 ≤ x ∧ x ≤ 4294967295) (w : World) :
    Calls Try.prog 9 #[.agg #[.int .u32 n, .int .u32 x, .bool c], .int .u32 most] w (PutRes w (limZ n x c most) m (codeLim n x c most)) := by
  by_cases h : okLim n x c most = true
  · have e1 : limZ n x c most = limL n x c := by unfold limZ; rw [if_pos h]
    have e2 : codeLim n x c most = 0 := by unfold codeLim; rw [if_pos h]
    rw [e1] at hm; rw [e1, e2]
    cases c
    · exact (refPutLimits_plain n x most h h0 w).mono fun e w' he => putRes_ok hm (limL_bytes _ _ _) (limL_le _ _ _) he
    · exact (refPutLimits_capped n x most h h0 h1 w).mono fun e w' he => putRes_ok hm (limL_bytes _ _ _) (limL_le _ _ _) he
  · have h' : okLim n x c most = false := by simpa using h
    have e1 : limZ n x c most = [] := by unfold limZ; rw [h']; rfl
    have e2 : codeLim n x c most = 2 := by unfold codeLim; rw [h']; rfl
    rw [e1] at hm; rw [e1, e2]
    obtain rfl : m = 0 := by simpa using hm.symm
    exact (refPutLimits_no n x c most h' w).mono fun e w' he => putRes_no he

theorem two_two {W w' : World} {x y u v : Value} {t t' : TypeId} (hb : Below ((W.alloc (.cells #[x, y] t)).alloc (.cells #[u, v] t')).heap.size ((W.alloc (.cells #[x, y] t)).alloc (.cells #[u, v] t')) w') :
    w'.cell? ⟨W.heap.size, 0, none⟩ = some x ∧ w'.cell? ⟨W.heap.size, 1, none⟩ = some y ∧ w'.cell? ⟨W.heap.size + 1, 0, none⟩ = some u ∧ w'.cell? ⟨W.heap.size + 1, 1, none⟩ = some v := by
  obtain ⟨hc, _⟩ := old hb
  refine ⟨(hc _ _ (by simp; omega)).trans ?_, (hc _ _ (by simp; omega)).trans ?_, (hc _ _ (by simp)).trans ?_, (hc _ _ (by simp)).trans ?_⟩ <;> go_simp
/-- Three bytes, laid. -/
theorem lit3 (w : World) (a b c : Int) (h : ∀ z ∈ [a, b, c], 0 ≤ z ∧ z < 256) : Bytes (w.alloc (.cells #[.int .u8 a, .int .u8 b, .int .u8 c] 5)) (some ⟨w.heap.size, 0, none⟩) [a, b, c] :=
  ⟨h, by simp, .inr ⟨_, 0, rfl, fun i hi => by
    match i, hi with
    | 0, _ => go_simp
    | 1, _ => go_simp
    | 2, _ => go_simp⟩⟩
theorem lit2 (w : World) (a b : Int) (h : ∀ z ∈ [a, b], 0 ≤ z ∧ z < 256) : Bytes (w.alloc (.cells #[.int .u8 a, .int .u8 b] 5)) (some ⟨w.heap.size, 0, none⟩) [a, b] :=
  ⟨h, by simp, .inr ⟨_, 0, rfl, fun i hi => by
    match i, hi with
    | 0, _ => go_simp
    | 1, _ => go_simp⟩⟩
theorem lit1 (w : World) (a : Int) (h : ∀ z ∈ [a], 0 ≤ z ∧ z < 256) : Bytes (w.alloc (.cells #[.int .u8 a] 5)) (some ⟨w.heap.size, 0, none⟩) [a] :=
  ⟨h, by simp, .inr ⟨_, 0, rfl, fun i hi => by
    match i, hi with
    | 0, _ => go_simp⟩⟩

set_option maxHeartbeats 1600000 in
theorem awake_any (w : World) : Calls Try.prog 15 #[] w fun e w' => e = .returned (.bool true) ∧ Below w.heap.size w w' := by
  have q1 := eqType
  have q2 := guardType
  have hG := fun W hz => getT_any (some ⟨w.heap.size, 0, none⟩) 6 6 [96, 2, 127, 127, 1, 127] 0 W rfl hz
  rw [show getT [96, 2, 127, 127, 1, 127] 0 = (2, 1, 6, 0, 0) by decide +kernel] at hG
  have hP := fun W => putLim_any 4 10 true 65536 3 (by decide +kernel) (by decide) (by decide) W
  rw [show limZ 4 10 true 65536 = [1, 4, 10] by decide +kernel, show codeLim 4 10 true 65536 = 0 by decide +kernel] at hP
  go_enter Try.func15, Try.ntmps15
  go_wp2_with fail
  refine (hG _ ?_).mono ?_
  · refine ⟨by decide, by decide, .inr ⟨w.heap.size, 0, rfl, fun i hi => ?_⟩⟩
    match i, hi with
    | 0, _ => go_simp
    | 1, _ => go_simp
    | 2, _ => go_simp
    | 3, _ => go_simp
    | 4, _ => go_simp
    | 5, _ => go_simp
  rintro e w1 ⟨rfl, hb1⟩
  have hA1 : Below w.heap.size w w1 := ((Below.refl _ _).alloc (Nat.le_refl _) _).trans (hb1.mono (by simp))
  simp only
  clear hb1 hG
  go_wp2_with fail
  refine (hP _).mono ?_
  rintro e w2 ⟨a, q, rfl, hy, hn, hb2⟩
  obtain ⟨x0, x1, y0, y1⟩ := two_two hb2
  have hb3 : Below w1.heap.size w1 w2 := (((Below.refl _ _).alloc (Nat.le_refl _) _).alloc (by simp) _).trans (hb2.mono (by simp; omega))
  have hA2 := thenB hA1 hb3
  clear hb2 hb3 hA1 hP
  have u0 := keepA x0 (.cells #[.int .u8 1, .int .u8 4, .int .u8 10] 5)
  have u1 := keepA x1 (.cells #[.int .u8 1, .int .u8 4, .int .u8 10] 5)
  have v0 := keepA y0 (.cells #[.int .u8 1, .int .u8 4, .int .u8 10] 5)
  go_wp2_with fail
  refine (SameBytes_yes _ _ _ _ _ _ [1, 4, 10] _ rfl rfl (hy.alloc _) (lit3 w2 1 4 10 (by decide))).mono ?_
  rintro e w3 ⟨rfl, rfl⟩
  go_wp2
  go_ret
  exact ⟨rfl, thenA hA2 _⟩
end Go.Proofs.Ytgndekmmeknfpaa.Kind
