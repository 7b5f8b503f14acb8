/-
  Kind: putWords, Put, PutLimits, by contracts.
-/
import Derived.Test.YtgndekmmeknfpaaKindCheck
import Derived.Test.YtgndekmmeknfpaaKindCat
import Derived.Test.YtgndekmmeknfpaaKindRepeat
import Derived.Test.YtgndekmmeknfpaaLebPut
namespace Go.Proofs.Ytgndekmmeknfpaa.Kind
open Go.RowKit Go.Proofs.Ytgndekmmeknfpaa.Leb

theorem wordsL_bytes (n : Int) : ∀ z ∈ wordsL n, 0 ≤ z ∧ z < 256 := by
  intro z hz
  unfold wordsL at hz
  rcases List.mem_append.1 hz with h | h
  · exact encU_bytes n z h
  · rw [List.eq_of_mem_replicate h]; omega
theorem wordsL_len (n : Nat) : (wordsL n).length = sizeU n + n := by
  unfold wordsL; rw [List.length_append, encU_length, List.length_replicate, Int.toNat_natCast]
theorem words_append (n : Nat) : encU (n : Int) ++ List.replicate n 127 = wordsL n := by unfold wordsL; rw [Int.toNat_natCast]

set_option maxHeartbeats 800000 in
theorem putWords_any (n : Nat) (hn : n ≤ 255) (w : World) : Calls Try.prog 19 #[.int .i64 n] w (Gives w (wordsL n)) := by
  have hs := sizeU_pos n
  go_enter Try.func19, Try.ntmps19
  go_wp2_with fail
  refine (putU_any n _ (by omega) (by omega)).mono ?_
  rintro e w1 ⟨v, rfl, ho, hb⟩
  obtain ⟨a1, c1, rfl⟩ := ho.sliceN (encU_length n)
  go_wp2_with fail
  refine (repeat_any n hn w1.heap.size 0 1 _ (by go_simp)).mono ?_
  rintro e w2 ⟨a2, c2, rfl, hy2, hnil2, hb2⟩
  have hb3 : Below w1.heap.size w1 w2 := (Below.refl _ _).alloc (Nat.le_refl _) _ |>.trans (hb2.mono (by simp))
  have ho := ho.below hb3
  have hA := thenB hb hb3
  have HNIL := hid hnil2
  clear hb hb2 hb3 hnil2
  go_wp2_with (first | (at_builtin; refine append_bytes rfl (.tmp 5) (.tmp 8) rfl rfl ho hA hA.size _ _ _ rfl HNIL.out (by simp) hy2 (by rw [encU_length]; simp; omega) ?_; intro v' w5 hown5 hb5 hs5))
  go_ret
  rw [words_append] at hown5
  exact ⟨_, rfl, hown5, hb5⟩

/-- Two results: a list of bytes of its own, and OK; or nothing, and an error. -/
def PutOk (w : World) (zs : List Int) (e : Ending) (w' : World) : Prop := ∃ v, e = .returned (.tuple #[v, .int .i64 0]) ∧ Own w.heap.size w' v zs ∧ Below w.heap.size w w'
def PutNo (w : World) (e : Ending) (w' : World) : Prop := e = .returned (.tuple #[.slice none 0 0, .int .i64 2]) ∧ Below w.heap.size w w'

theorem parts3 {w : World} {g : Nat} (hg : g = w.heap.size) {a0 a1 a2 : Option Addr} {n0 n1 n2 c0 c1 c2 : Nat} {t : TypeId} {l0 l1 l2 : List Int} (h0 : Bytes w a0 l0) (h1 : Bytes w a1 l1) (h2 : Bytes w a2 l2) (k0 : l0.length = n0) (k1 : l1.length = n1) (k2 : l2.length = n2)
    (m0 : a0 = none → c0 = 0) (m1 : a1 = none → c1 = 0) (m2 : a2 = none → c2 = 0) : Parts (w.alloc (.cells #[.slice a0 n0 c0, .slice a1 n1 c1, .slice a2 n2 c2] t)) g [l0, l1, l2] := by
  subst hg
  intro j hj
  match j, hj with
  | 0, _ => exact ⟨a0, c0, by subst k0; go_simp, h0.alloc _, m0⟩
  | 1, _ => exact ⟨a1, c1, by subst k1; go_simp, h1.alloc _, m1⟩
  | 2, _ => exact ⟨a2, c2, by subst k2; go_simp, h2.alloc _, m2⟩
theorem parts2 {w : World} {g : Nat} (hg : g = w.heap.size) {a0 a1 : Option Addr} {n0 n1 c0 c1 : Nat} {t : TypeId} {l0 l1 : List Int} (h0 : Bytes w a0 l0) (h1 : Bytes w a1 l1) (k0 : l0.length = n0) (k1 : l1.length = n1)
    (m0 : a0 = none → c0 = 0) (m1 : a1 = none → c1 = 0) : Parts (w.alloc (.cells #[.slice a0 n0 c0, .slice a1 n1 c1] t)) g [l0, l1] := by
  subst hg
  intro j hj
  match j, hj with
  | 0, _ => exact ⟨a0, c0, by subst k0; go_simp, h0.alloc _, m0⟩
  | 1, _ => exact ⟨a1, c1, by subst k1; go_simp, h1.alloc _, m1⟩
theorem byte_at {w : World} {k : Nat} {z : Int} (hz : 0 ≤ z ∧ z < 256) (h : w.cell? ⟨k, 0, none⟩ = some (.int .u8 z)) : Bytes w (some ⟨k, 0, none⟩) [z] :=
  ⟨by simpa using hz, by simp, .inr ⟨k, 0, rfl, fun i hi => by
    match i, hi with
    | 0, _ => exact h⟩⟩

theorem typeL_flat (p r : Int) : [[96], wordsL p, wordsL r].flatten = typeL p r := by simp [typeL]
theorem typeL_len (p r : Nat) : (typeL p r).length = 1 + (sizeU p + p) + (sizeU r + r) := by
  unfold typeL; rw [List.length_cons, List.length_append, wordsL_len, wordsL_len]; omega

set_option maxHeartbeats 1600000 in
theorem put_ok (p r : Nat) (hp : p ≤ 255) (hr : r ≤ 1) (w : World) : Calls Try.prog 6 #[.agg #[.int .i64 p, .int .i64 r]] w (PutOk w (typeL p r)) := by
  have hC := fun w => check_any p r w
  have hc0 : codeType p r = 0 := by
    have : okType p r = true := by unfold okType; simp; omega
    unfold codeType; rw [if_pos this]
  simp only [hc0] at hC
  have HFL := hid (typeL_flat p r)
  have HLE := hid (typeL_len p r)
  have hs := sizeU_pos p
  have hs2 := sizeU_pos r
  clear hc0
  go_enter Try.func6, Try.ntmps6
  go_wp2_with fail
  refine (hC _).mono ?_
  rintro e w1 ⟨rfl, hb1⟩
  obtain ⟨d0, d1, _, _, _⟩ := two hb1
  have hA : Below w.heap.size w w1 := ((Below.refl _ _).alloc (Nat.le_refl _) _).trans (hb1.mono (by simp))
  clear hC hb1
  go_wp2
  have hS : Below w.heap.size w w1.drew ∧ w1.drew.cell? ⟨w.heap.size, 0, none⟩ = some (.int .i64 p) ∧ w1.drew.cell? ⟨w.heap.size, 1, none⟩ = some (.int .i64 r) := ⟨hA.drew, d0, d1⟩
  go_region_held3 (fun w' => Below w.heap.size w w' ∧ w'.cell? ⟨w.heap.size, 0, none⟩ = some (.int .i64 p) ∧ w'.cell? ⟨w.heap.size, 1, none⟩ = some (.int .i64 r))
    (first | assumption | exact box_keep (by assumption) ((Below.refl _ _).alloc (Nat.le_refl _) _) | exact box_keep (by assumption) (by assumption))
    (first
      | (go_at_call 19; ((with_reducible refine (putWords_any p hp _).mono ?_); rintro e w13 ⟨v13, rfl, ho13, hb13⟩; obtain ⟨a13, c13, rfl⟩ := ho13.sliceN (wordsL_len p); have hy13 := ho13.bytes (wordsL_bytes p) (by rw [wordsL_len]; omega); have hn13 := ho13.nil; clear ho13))
      | (go_at_call 19; ((with_reducible refine (putWords_any r (by omega) _).mono ?_); rintro e w16 ⟨v16, rfl, ho16, hb16⟩; obtain ⟨a16, c16, rfl⟩ := ho16.sliceN (wordsL_len r); have hy16 := ho16.bytes (wordsL_bytes r) (by rw [wordsL_len]; omega); have hn16 := ho16.nil; clear ho16))
      | (go_at_call 18
         refine (concat_any _ 3 3 [[96], wordsL p, wordsL r] _ rfl ?_ (by rw [HFL.out, HLE.out]; omega) (by rw [HFL.out, HLE.out]; omega) (by omega)).mono ?_
         · first
            | (refine parts3 ?_ (byte_at (z := 96) (by decide) ?_) ((hy13.below hb16).alloc _) (hy16.alloc _) rfl (wordsL_len p) (wordsL_len r) (by simp) hn13.out hn16.out <;> go_simp <;> done)
            | (refine parts3 ?_ (byte_at (z := 96) (by decide) (keep hb16 ?_)) (hy13.below (thenB ((Below.refl _ _).alloc (Nat.le_refl _) _) hb16)) hy16 rfl (wordsL_len p) (wordsL_len r) (by simp) hn13.out hn16.out <;> go_simp <;> done)
            | (refine parts3 ?_ (byte_at (z := 96) (by decide) (keep (thenB hb13 hb16) ?_)) (hy13.below hb16) hy16 rfl (wordsL_len p) (wordsL_len r) (by simp) hn13.out hn16.out <;> go_simp <;> done)
         rintro e w18 ⟨v18, rfl, ho18, hb18⟩
         rw [HFL.out] at ho18
         have ho18 := ho18.mono (base' := w.heap.size) (by have s1 := hA.size; have s2 := hb13.size; have s3 := hb16.size; (try simp at s2); (try simp at s3); (try simp); omega)
         obtain ⟨a18, c18, rfl⟩ := ho18.sliceN HLE.out))
  all_goals go_wp2
  all_goals go_ret2
  all_goals exact ⟨_, rfl, ho18, box_out (x := .int .i64 p) (y := .int .i64 r) (k := w.heap.size) (by assumption)⟩
set_option maxHeartbeats 800000 in
theorem put_no (p r : Int) (h : okType p r = false) (w : World) : Calls Try.prog 6 #[.agg #[.int .i64 p, .int .i64 r]] w (PutNo w) := by
  have hC := fun w => check_any p r w
  have hc0 : codeType p r = 2 := by unfold codeType; rw [h]; rfl
  simp only [hc0] at hC
  clear hc0 h
  go_enter Try.func6, Try.ntmps6
  go_wp2_with fail
  refine (hC _).mono ?_
  rintro e w1 ⟨rfl, hb1⟩
  have hA : Below w.heap.size w w1 := ((Below.refl _ _).alloc (Nat.le_refl _) _).trans (hb1.mono (by simp))
  clear hC hb1
  go_wp2
  go_ret2
  exact ⟨rfl, hA⟩

theorem limL_flat (n x : Int) : [[1], encU n, encU x].flatten = limL n x true := by simp [limL]
theorem limL_flat2 (n : Int) : [[0], encU n].flatten = limL n 0 false := by simp [limL]
theorem limL_len (n x : Int) : (limL n x true).length = 1 + sizeU n + sizeU x := by
  unfold limL; simp [encU_length]; omega
theorem limL_len2 (n : Int) : (limL n 0 false).length = 1 + sizeU n := by
  unfold limL; simp [encU_length]; omega
theorem three {w w' : World} {x y z : Value} {t : TypeId} (hb : Below (w.alloc (.cells #[x, y, z] t)).heap.size (w.alloc (.cells #[x, y, z] t)) w') :
    w'.cell? ⟨w.heap.size, 0, none⟩ = some x ∧ w'.cell? ⟨w.heap.size, 1, none⟩ = some y ∧ w'.cell? ⟨w.heap.size, 2, none⟩ = some z := by
  obtain ⟨hc, _⟩ := old hb
  refine ⟨(hc _ _ (by simp)).trans ?_, (hc _ _ (by simp)).trans ?_, (hc _ _ (by simp)).trans ?_⟩ <;> go_simp

set_option maxHeartbeats 800000 in
theorem putLimits_no (n x : Int) (c : Bool) (most : Int) (h : okLim n x c most = false) (w : World) : Calls Try.prog 8 #[.agg #[.int .u32 n, .int .u32 x, .bool c], .int .u32 most] w (PutNo w) := by
  have hC := fun w => checkLimits_any n x c most w
  have hc0 : codeLim n x c most = 2 := by unfold codeLim; rw [h]; rfl
  simp only [hc0] at hC
  clear hc0 h
  go_enter Try.func8, Try.ntmps8
  go_wp2_with fail
  refine (hC _).mono ?_
  rintro e w1 ⟨rfl, hb1⟩
  have hA : Below w.heap.size w w1 := ((Below.refl _ _).alloc (Nat.le_refl _) _).trans (hb1.mono (by simp))
  clear hC hb1
  go_wp2
  go_ret2
  exact ⟨rfl, hA⟩

set_option maxHeartbeats 1600000 in
theorem putLimits_plain (n x most : Int) (h : okLim n x false most = true) (h0 : 0 ≤ n ∧ n ≤ 4294967295) (w : World) : Calls Try.prog 8 #[.agg #[.int .u32 n, .int .u32 x, .bool false], .int .u32 most] w (PutOk w (limL n x false)) := by
  have hC := fun w => checkLimits_any n x false most w
  have hc0 : codeLim n x false most = 0 := by unfold codeLim; rw [if_pos h]
  obtain rfl : x = 0 := by unfold okLim at h; simp at h; exact h.2
  simp only [hc0] at hC
  have HFL := hid (limL_flat2 n)
  have HLE := hid (limL_len2 n)
  have hs := sizeU_pos n
  clear hc0 h
  go_enter Try.func8, Try.ntmps8
  go_wp2_with fail
  refine (hC _).mono ?_
  rintro e w1 ⟨rfl, hb1⟩
  obtain ⟨d0, d1, d2⟩ := three hb1
  have hA : Below w.heap.size w w1 := ((Below.refl _ _).alloc (Nat.le_refl _) _).trans (hb1.mono (by simp))
  have d0' := keepA d0 (.cells #[.int .u8 0] 5)
  clear hC hb1
  go_wp2_with fail
  refine (putU_any n _ (by omega) (by omega)).mono ?_
  rintro e w3 ⟨v, rfl, ho, hb3⟩
  obtain ⟨a3, c3, rfl⟩ := ho.sliceN (encU_length n)
  have hy := ho.bytes (encU_bytes n) (by rw [encU_length]; omega)
  have hn3 := ho.nil
  have hz : w1.heap.size + 1 ≤ w3.heap.size := by have := hb3.size; simpa using this
  have d96 : w3.cell? ⟨w1.heap.size, 0, none⟩ = some (.int .u8 0) := keep hb3 (by go_simp)
  have hA3 : Below w.heap.size w w3 := (thenA hA (.cells #[.int .u8 0] 5)).trans (hb3.mono (by have := hA.size; simp; omega))
  clear ho hb3
  go_wp2_with fail
  refine (concat_any _ 2 2 [[0], encU n] _ rfl (parts2 rfl (byte_at (z := 0) (by decide) d96) hy rfl (encU_length n) (by simp) hn3.out) (by rw [HFL.out, HLE.out]; omega) (by rw [HFL.out, HLE.out]; omega) (by omega)).mono ?_
  rintro e w5 ⟨v, rfl, ho, hb5⟩
  rw [HFL.out] at ho
  have ho := ho.mono (base' := w.heap.size) (by have := hA3.size; simp; omega)
  have hb6 : Below w3.heap.size w3 w5 := ((Below.refl _ _).alloc (Nat.le_refl _) _).trans (hb5.mono (by simp))
  have hA5 := thenB hA3 hb6
  clear hb6
  obtain ⟨a5, c5, rfl⟩ := ho.sliceN HLE.out
  clear hb5
  go_wp2
  go_ret2
  exact ⟨_, rfl, ho, hA5⟩

set_option maxHeartbeats 1600000 in
theorem putLimits_capped (n x most : Int) (h : okLim n x true most = true) (h0 : 0 ≤ n ∧ n ≤ 4294967295) (h1 : 0 ≤ x ∧ x ≤ 4294967295) (w : World) : Calls Try.prog 8 #[.agg #[.int .u32 n, .int .u32 x, .bool true], .int .u32 most] w (PutOk w (limL n x true)) := by
  have hC := fun w => checkLimits_any n x true most w
  have hc0 : codeLim n x true most = 0 := by unfold codeLim; rw [if_pos h]
  simp only [hc0] at hC
  have HFL := hid (limL_flat n x)
  have HLE := hid (limL_len n x)
  have hs := sizeU_pos n
  have hs2 := sizeU_pos x
  clear hc0 h
  go_enter Try.func8, Try.ntmps8
  go_wp2_with fail
  refine (hC _).mono ?_
  rintro e w1 ⟨rfl, hb1⟩
  obtain ⟨d0, d1, d2⟩ := three hb1
  have hA : Below w.heap.size w w1 := ((Below.refl _ _).alloc (Nat.le_refl _) _).trans (hb1.mono (by simp))
  clear hC hb1
  go_wp2
  have hS : Below w.heap.size w w1.drew ∧ w1.drew.cell? ⟨w.heap.size, 0, none⟩ = some (.int .u32 n) ∧ w1.drew.cell? ⟨w.heap.size, 1, none⟩ = some (.int .u32 x) := ⟨hA.drew, d0, d1⟩
  go_region_held3 (fun w' => Below w.heap.size w w' ∧ w'.cell? ⟨w.heap.size, 0, none⟩ = some (.int .u32 n) ∧ w'.cell? ⟨w.heap.size, 1, none⟩ = some (.int .u32 x))
    (first | assumption | exact box_keep (by assumption) ((Below.refl _ _).alloc (Nat.le_refl _) _) | exact box_keep (by assumption) (by assumption))
    (first
      | (go_at_call 21; (first
          | (clear hb16; fail)
          | ((with_reducible refine (putU_any n _ (by omega) (by omega)).mono ?_); rintro e w13 ⟨v13, rfl, ho13, hb13⟩; obtain ⟨a13, c13, rfl⟩ := ho13.sliceN (encU_length n); have hy13 := ho13.bytes (encU_bytes n) (by rw [encU_length]; omega); have hn13 := ho13.nil; clear ho13)
          | ((with_reducible refine (putU_any x _ (by omega) (by omega)).mono ?_); rintro e w16 ⟨v16, rfl, ho16, hb16⟩; obtain ⟨a16, c16, rfl⟩ := ho16.sliceN (encU_length x); have hy16 := ho16.bytes (encU_bytes x) (by rw [encU_length]; omega); have hn16 := ho16.nil; clear ho16)))
      | (go_at_call 18
         refine (concat_any _ 3 3 [[1], encU n, encU x] _ rfl ?_ (by rw [HFL.out, HLE.out]; omega) (by rw [HFL.out, HLE.out]; omega) (by omega)).mono ?_
         · first
            | (refine parts3 ?_ (byte_at (z := 1) (by decide) ?_) ((hy13.below hb16).alloc _) (hy16.alloc _) rfl (encU_length n) (encU_length x) (by simp) hn13.out hn16.out <;> go_simp <;> done)
            | (refine parts3 ?_ (byte_at (z := 1) (by decide) (keep hb16 ?_)) (hy13.below (thenB ((Below.refl _ _).alloc (Nat.le_refl _) _) hb16)) hy16 rfl (encU_length n) (encU_length x) (by simp) hn13.out hn16.out <;> go_simp <;> done)
            | (refine parts3 ?_ (byte_at (z := 1) (by decide) (keep (thenB hb13 hb16) ?_)) (hy13.below hb16) hy16 rfl (encU_length n) (encU_length x) (by simp) hn13.out hn16.out <;> go_simp <;> done)
         rintro e w18 ⟨v18, rfl, ho18, hb18⟩
         rw [HFL.out] at ho18
         have ho18 := ho18.mono (base' := w.heap.size) (by have s1 := hA.size; have s2 := hb13.size; have s3 := hb16.size; (try simp at s2); (try simp at s3); (try simp); omega)
         obtain ⟨a18, c18, rfl⟩ := ho18.sliceN HLE.out))
  all_goals go_wp2
  all_goals go_ret2
  all_goals exact ⟨_, rfl, ho18, box_out (x := .int .u32 n) (y := .int .u32 x) (k := w.heap.size) (by assumption)⟩
end Go.Proofs.Ytgndekmmeknfpaa.Kind
