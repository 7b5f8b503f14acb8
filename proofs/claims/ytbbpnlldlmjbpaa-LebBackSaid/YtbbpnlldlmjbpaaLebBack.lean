/-
  LEB: the walk of the statement LebBack: what is put is got, behind any bytes and ahead of any others.
-/
import Derived.Test.YtbbpnlldlmjbpaaLebCalls
import Derived.Test.YtbbpnlldlmjbpaaAppend
import Derived.Test.YtbbpnlldlmjbpaaLebPuts
namespace Go.Proofs.Ytbbpnlldlmjbpaa
open Go.RowKit Leb

theorem Own.sliceN {base n : Nat} {w : World} {v : Value} {zs : List Int} (h : Own base w v zs) (hn : zs.length = n) : ∃ a c, v = .slice a n c := by subst hn; exact h.slice
theorem Own.nil {base : Nat} {w : World} {a : Option Addr} {n c : Nat} {zs : List Int} (h : Own base w (.slice a n c) zs) : Hid (a = none → c = 0) := by
  refine hid fun ha => ?_
  subst ha
  rcases h.2 with ⟨h', _⟩ | ⟨g, cap, cur, h', _⟩
  · simp at h'; exact h'.2
  · simp at h'

theorem three {base : Nat} {w : World} {a : Option Addr} {n c : Nat} {xs us ys : List Int} (hx : ∀ z ∈ xs, 0 ≤ z ∧ z < 256) (hu : ∀ z ∈ us, 0 ≤ z ∧ z < 256) (hy : ∀ z ∈ ys, 0 ≤ z ∧ z < 256)
    (hl : xs.length + us.length + ys.length ≤ 140737488351232) (h : Own base w (.slice a n c) ([] ++ xs ++ us ++ ys)) : Bytes w a (xs ++ us ++ ys) := by
  have := h.bytes (fun z hz => by
    simp only [List.nil_append, List.mem_append] at hz
    rcases hz with (hz | hz) | hz
    · exact hx z hz
    · exact hu z hz
    · exact hy z hz) (by simp; omega)
  rwa [List.nil_append] at this

set_option maxHeartbeats 6400000 in
theorem lebBack_walk (w : World) (n : Int) (hn : 0 ≤ n ∧ n ≤ 4294967295) (a1 : Option Addr) (l1 k1 : Nat) (xs : List Int) (hl1 : xs.length = l1) (hx : Bytes w a1 xs) (hc1 : a1 = none → k1 = 0)
    (a2 : Option Addr) (l2 k2 : Nat) (ys : List Int) (hl2 : ys.length = l2) (hy : Bytes w a2 ys) (hc2 : a2 = none → k2 = 0) :
    Calls Try.prog 4 #[.int .u32 n, .slice a1 l1 k1, .slice a2 l2 k2] w fun e w' => e = .returned (.bool true) ∧ Below w.heap.size w w' := by
  by_cases hg1 : 100 < l1
  · go_enter Try.func4, Try.ntmps4
    clear hl1 hl2 hc1 hc2
    go_wp2_with fail
    refine (awake_any _).mono ?_
    rintro e w1 ⟨rfl, hb1⟩
    go_wp2
    go_ret
    exact ⟨rfl, hb1⟩
  by_cases hg2 : 100 < l2
  · go_enter Try.func4, Try.ntmps4
    clear hl1 hl2 hc1 hc2
    go_wp2_with fail
    refine (awake_any _).mono ?_
    rintro e w1 ⟨rfl, hb1⟩
    go_wp2
    go_ret
    exact ⟨rfl, hb1⟩
  obtain ⟨h0, h1⟩ := hn
  obtain ⟨m0, m1⟩ := wrap32_bounds n
  have hs := sizeU_pos n
  have ht := sizeS_pos (wrap32 n)
  have HL1 := hid hl1
  have HL2 := hid hl2
  have HC1 := hid hc1
  have HC2 := hid hc2
  clear hl1 hl2 hc1 hc2
  go_enter Try.func4, Try.ntmps4
  go_wp2_with fail
  refine (awake_any _).mono ?_
  rintro e w1 ⟨rfl, hb1⟩
  have hx := hx.below hb1
  have hy := hy.below hb1
  go_wp2_with fail
  refine (putU_any n _ (by omega) (by omega)).mono ?_
  rintro e w2 ⟨v, rfl, ho, hb2⟩
  obtain ⟨a3, c3, rfl⟩ := ho.sliceN (encU_length n)
  have hn3 := ho.nil
  have hu := ho.bytes (encU_bytes n) (by rw [encU_length]; omega)
  have hx := hx.below hb2
  have hy := hy.below hb2
  have hA := thenB hb1 hb2
  clear ho hb1 hb2
  go_wp2_with fail
  refine (putS_any (wrap32 n) _ (by omega) (by omega)).mono ?_
  rintro e w3 ⟨v, rfl, ho, hb3⟩
  obtain ⟨a4, c4, rfl⟩ := ho.sliceN (encS_length _)
  have hn4 := ho.nil
  have hv := ho.bytes (encS_bytes (wrap32 n)) (by rw [encS_length]; omega)
  have hx := hx.below hb3
  have hy := hy.below hb3
  have hu := hu.below hb3
  have hA := thenB hA hb3
  clear ho hb3
  have own0 : ∀ W : World, Own W.heap.size (W.alloc (.cells #[] 5)) (.slice (some ⟨W.heap.size, 0, none⟩) 0 0) [] := fun W => World.ownsRow_made W #[] 0 (Nat.le_refl _) (by unfold maxLen; omega) rfl
  have bel0 : ∀ W : World, Below W.heap.size W (W.alloc (.cells #[] 5)) := fun W => (Below.refl _ _).alloc (Nat.le_refl _) _
  have own3 := own0 w3
  have bel3 := bel0 w3
  have lb : ∀ zs : List Int, zs.length ≤ 100 → ∀ us : List Int, us.length ≤ 100 → ∀ vs : List Int, vs.length ≤ 100 → zs.length + us.length + vs.length ≤ 140737488351232 := fun zs h1 us h2 vs h3 => by omega
  have LB := hid lb
  clear lb
  have hx3 := hx.below bel3
  have la : ∀ zs : List Int, zs.length ≤ 200 → ∀ us : List Int, us.length ≤ 100 → zs.length + us.length ≤ 140737488355328 := fun zs h1 us h2 => by omega
  have LA := hid la
  clear la
  go_wp2_with (first
    | (at_builtin; refine append_bytes rfl (.tmp 33) (.tmp 34) rfl rfl own3 bel3 (by simp) _ _ _ rfl HC1.out HL1.out hx3 (LA.out _ (by simp) _ (by have := HL1.out; omega)) ?_; intro v4 w4 ho4 hb4 hs4; obtain ⟨b4, d4, rfl⟩ := ho4.sliceN HL1.out)
    | (at_builtin; refine append_bytes rfl (.tmp 35) (.tmp 36) rfl rfl ho4 hb4 hs4 _ _ _ rfl hn3.out (encU_length _) (hu.below hb4) (LA.out _ (by have := HL1.out; simp; omega) _ (by rw [encU_length]; omega)) ?_; intro v5 w5 ho5 hb5 hs5; obtain ⟨b5, d5, rfl⟩ := ho5.sliceN (n := l1 + sizeU n) (by simp [encU_length, HL1.out]); clear ho4 hb4 hs4)
    | (at_builtin; refine append_bytes rfl (.tmp 37) (.tmp 38) rfl rfl ho5 hb5 hs5 _ _ _ rfl HC2.out HL2.out (hy.below hb5) (LA.out _ (by have := HL1.out; simp [encU_length]; omega) _ (by have := HL2.out; omega)) ?_; intro v6 w6 ho6 hb6 hs6; obtain ⟨b6, d6, rfl⟩ := ho6.sliceN (n := l1 + sizeU n + l2) (by simp [encU_length, HL1.out, HL2.out]; omega)
       clear ho5 hb5 hs5 own3 bel3 hx3; have own6 := own0 w6; have bel6 := bel0 w6; have hA6 := thenB hA hb6; have hx6 := (hx.below hb6).below bel6; have hy6 := hy.below hb6; have hv6 := hv.below hb6; have hz6 := three hx.byte (encU_bytes n) hy.byte (LB.out _ (by have := HL1.out; omega) _ (by rw [encU_length]; omega) _ (by have := HL2.out; omega)) ho6; clear ho6 hb6 hs6)
    | (at_builtin; refine append_bytes rfl (.tmp 40) (.tmp 41) rfl rfl own6 bel6 (by simp) _ _ _ rfl HC1.out HL1.out hx6 (LA.out _ (by simp) _ (by have := HL1.out; omega)) ?_; intro v7 w7 ho7 hb7 hs7; obtain ⟨b7, d7, rfl⟩ := ho7.sliceN HL1.out)
    | (at_builtin; refine append_bytes rfl (.tmp 42) (.tmp 43) rfl rfl ho7 hb7 hs7 _ _ _ rfl hn4.out (encS_length _) (hv6.below hb7) (LA.out _ (by have := HL1.out; simp; omega) _ (by rw [encS_length]; omega)) ?_; intro v8 w8 ho8 hb8 hs8; obtain ⟨b8, d8, rfl⟩ := ho8.sliceN (n := l1 + sizeS (wrap32 n)) (by simp [encS_length, HL1.out]); clear ho7 hb7 hs7)
    | (at_builtin; refine append_bytes rfl (.tmp 44) (.tmp 45) rfl rfl ho8 hb8 hs8 _ _ _ rfl HC2.out HL2.out (hy6.below hb8) (LA.out _ (by have := HL1.out; simp [encS_length]; omega) _ (by have := HL2.out; omega)) ?_; intro v9 w9 ho9 hb9 hs9; obtain ⟨b9, d9, rfl⟩ := ho9.sliceN (n := l1 + sizeS (wrap32 n) + l2) (by simp [encS_length, HL1.out, HL2.out]; omega)
       clear ho8 hb8 hs8 own6 bel6; have hA9 := thenB hA6 hb9; have hzz := hz6.below hb9; have hz9 := three hx.byte (encS_bytes (wrap32 n)) hy.byte (LB.out _ (by have := HL1.out; omega) _ (by rw [encS_length]; omega) _ (by have := HL2.out; omega)) ho9; clear ho9 hb9 hs9 hx6 hy6 hv6))
  have HR := hid (getL_encU (by omega) (by omega) xs ys)
  have HS := hid (getL_encS m0 m1 xs ys)
  rw [HL1.out] at HR HS
  refine (GetU_any _ _ _ _ _ _ (by simp [encU_length, HL1.out, HL2.out]; omega) hzz).mono ?_
  rw [HR.out]
  rintro e u1 ⟨rfl, hb1⟩
  have hA10 := thenB hA9 hb1
  have hz10 := hz9.below hb1
  clear hzz hz6 hA6 hA hz9 hb1 hA9
  go_wp2_with fail
  have hA11 := thenA hA10 (.cells #[.int .i64 0, .int .i64 0] 33)
  have c0 : (u1.alloc (.cells #[.int .i64 0, .int .i64 0] 33)).cell? ⟨u1.heap.size, 0, none⟩ = some (.int .i64 0) := by go_simp
  refine (GetS_any _ _ _ _ _ _ (by simp [encS_length, HL1.out, HL2.out]; omega) (hz10.alloc _)).mono ?_
  rw [HS.out]
  rintro e u2 ⟨rfl, hb2⟩
  have hA12 := thenB hA11 hb2
  have c2 := keep hb2 c0
  have c3 := fun o => keepA c2 o
  have hs2 := hb2.size
  simp at hs2
  clear hz10 hA10 hA11 hb2 c0
  go_wp2
  go_ret
  exact ⟨rfl, thenA hA12 _⟩
end Go.Proofs.Ytbbpnlldlmjbpaa
