/-
  The model's own decoding of a string, and the plain functions on runes, say the same.
-/
import Derived.Test.YtojgibigmoaejaaDoorUtfPlain
import Derived.Lib.TrimUEq
import Derived.Lib.MapLaws
namespace Go.Proofs.YtojgibigmoaejaaDoor.Utf
open Go.Lib (decodeN decodeN_shape decode_N)

theorem decodeN_some {l : List Int} (hb : ∀ z ∈ l, 0 ≤ z ∧ z < 256) {n : Int} {k : Nat} (h : atL l = some (n, k)) :
    decodeN l.length (l.getD 0 0).toNat (l.getD 1 0).toNat (l.getD 2 0).toNat (l.getD 3 0).toNat = (n.toNat, k) := by
  obtain ⟨⟨r0, r1, r2⟩, ht, hk, _, _, hkl⟩ := atL_some h
  have hl : l = oneL n ++ l.drop k := by rw [← ht, List.take_append_drop]
  generalize l.drop k = r at hl
  subst hl
  subst hk
  clear ht hkl h
  obtain ⟨m, rfl⟩ := Int.eq_ofNat_of_zero_le r0
  unfold oneL
  by_cases a : (m : Int) < 128
  · rw [if_pos a]
    have c0 : m < 128 := by omega
    simp [decodeN, c0]
  by_cases b : (m : Int) < 2048
  · rw [if_neg a, if_pos b]
    have e0 : (192 + (m : Int) / 64).toNat = 192 + m / 64 := by omega
    have e1 : (128 + (m : Int) % 64).toNat = 128 + m % 64 := by omega
    simp only [List.cons_append, List.nil_append, List.length_cons, List.getD_cons_zero, List.getD_cons_succ, e0, e1, Int.toNat_natCast]
    unfold decodeN
    rw [if_neg (by omega), if_pos (by omega), if_pos (by omega)]
    simp only [Prod.mk.injEq, List.length_nil]
    exact ⟨by omega, trivial⟩
  by_cases d : (m : Int) < 65536
  · rw [if_neg a, if_neg b, if_pos d]
    have e0 : (224 + (m : Int) / 4096).toNat = 224 + m / 4096 := by omega
    have e1 : (128 + (m : Int) / 64 % 64).toNat = 128 + m / 64 % 64 := by omega
    have e2 : (128 + (m : Int) % 64).toNat = 128 + m % 64 := by omega
    simp only [List.cons_append, List.nil_append, List.length_cons, List.getD_cons_zero, List.getD_cons_succ, e0, e1, e2, Int.toNat_natCast]
    unfold decodeN
    rw [if_neg (by omega), if_neg (by omega), if_pos (by omega), if_pos (by omega)]
    simp only [Prod.mk.injEq, List.length_nil]
    exact ⟨by omega, trivial⟩
  · rw [if_neg a, if_neg b, if_neg d]
    have e0 : (240 + (m : Int) / 262144).toNat = 240 + m / 262144 := by omega
    have e1 : (128 + (m : Int) / 4096 % 64).toNat = 128 + m / 4096 % 64 := by omega
    have e2 : (128 + (m : Int) / 64 % 64).toNat = 128 + m / 64 % 64 := by omega
    have e3 : (128 + (m : Int) % 64).toNat = 128 + m % 64 := by omega
    simp only [List.cons_append, List.nil_append, List.length_cons, List.getD_cons_zero, List.getD_cons_succ, e0, e1, e2, e3, Int.toNat_natCast]
    unfold decodeN
    rw [if_neg (by omega), if_neg (by omega), if_neg (by omega), if_pos (by omega), if_pos (by omega)]
    simp only [Prod.mk.injEq, List.length_nil]
    exact ⟨by omega, trivial⟩

theorem decodeN_none {l : List Int} (hb : ∀ z ∈ l, 0 ≤ z ∧ z < 256) (h0 : l ≠ []) (h : atL l = none) :
    decodeN l.length (l.getD 0 0).toNat (l.getD 1 0).toNat (l.getD 2 0).toNat (l.getD 3 0).toNat = (65533, 1) := by
  have no : ∀ (n : Int) (r : List Int), Rune n → l = oneL n ++ r → False := fun n r hr hl => by
    rw [hl, atL_one hr] at h; cases h
  have hne : 0 < l.length := List.length_pos_iff.2 h0
  have g : ∀ j, j < l.length → 0 ≤ l.getD j 0 ∧ l.getD j 0 < 256 := fun j hj => by
    have : l.getD j 0 = l[j] := by simp [hj]
    rw [this]; exact hb _ (List.getElem_mem hj)
  have d : ∀ j, j < l.length → l.drop j = l.getD j 0 :: l.drop (j + 1) := fun j hj => by
    rw [List.drop_eq_getElem_cons hj]; simp [hj]
  obtain ⟨g0, g0'⟩ := g 0 hne
  have d0 := d 0 hne
  rw [List.drop_zero] at d0
  rcases decodeN_shape l.length (l.getD 0 0).toNat (l.getD 1 0).toNat (l.getD 2 0).toNat (l.getD 3 0).toNat with ⟨c, e⟩ | ⟨c1, c2, c3, cv, e⟩ | ⟨c1, c2, c3, c4, cv, cs, e⟩ | ⟨c1, c2, c3, c4, c5, cv, cw, e⟩ | e
  · refine (no (l.getD 0 0) (l.drop 1) ⟨by omega, by omega, by omega⟩ (d0.trans ?_)).elim
    generalize l.getD 0 0 = x at *
    unfold oneL
    rw [if_pos (by omega)]
    rfl
  · obtain ⟨g1, g1'⟩ := g 1 c2
    have hl := d0.trans (congrArg (l.getD 0 0 :: ·) (d 1 c2))
    refine (no ((l.getD 0 0) % 32 * 64 + (l.getD 1 0) % 64) (l.drop 2) ⟨by omega, by omega, by omega⟩ (hl.trans ?_)).elim
    generalize l.getD 0 0 = x at *
    generalize l.getD 1 0 = y at *
    unfold oneL
    rw [if_neg (by omega), if_pos (by omega)]
    simp only [List.cons_append, List.nil_append, List.cons.injEq]
    exact ⟨by omega, by omega, trivial⟩
  · obtain ⟨g1, g1'⟩ := g 1 (by omega)
    obtain ⟨g2, g2'⟩ := g 2 c2
    have hl := d0.trans (congrArg (l.getD 0 0 :: ·) ((d 1 (by omega)).trans (congrArg (l.getD 1 0 :: ·) (d 2 c2))))
    refine (no ((l.getD 0 0) % 16 * 4096 + (l.getD 1 0) % 64 * 64 + (l.getD 2 0) % 64) (l.drop 3) ⟨by omega, by omega, by omega⟩ (hl.trans ?_)).elim
    generalize l.getD 0 0 = x at *
    generalize l.getD 1 0 = y at *
    generalize l.getD 2 0 = z at *
    unfold oneL
    rw [if_neg (by omega), if_neg (by omega), if_pos (by omega)]
    simp only [List.cons_append, List.nil_append, List.cons.injEq]
    exact ⟨by omega, by omega, by omega, trivial⟩
  · obtain ⟨g1, g1'⟩ := g 1 (by omega)
    obtain ⟨g2, g2'⟩ := g 2 (by omega)
    obtain ⟨g3, g3'⟩ := g 3 c2
    have hl := d0.trans (congrArg (l.getD 0 0 :: ·) ((d 1 (by omega)).trans (congrArg (l.getD 1 0 :: ·) ((d 2 (by omega)).trans (congrArg (l.getD 2 0 :: ·) (d 3 c2))))))
    refine (no ((l.getD 0 0) % 8 * 262144 + (l.getD 1 0) % 64 * 4096 + (l.getD 2 0) % 64 * 64 + (l.getD 3 0) % 64) (l.drop 4) ⟨by omega, by omega, by omega⟩ (hl.trans ?_)).elim
    generalize l.getD 0 0 = x at *
    generalize l.getD 1 0 = y at *
    generalize l.getD 2 0 = z at *
    generalize l.getD 3 0 = u at *
    unfold oneL
    rw [if_neg (by omega), if_neg (by omega), if_neg (by omega)]
    simp only [List.cons_append, List.nil_append, List.cons.injEq]
    exact ⟨by omega, by omega, by omega, by omega, trivial⟩
  · exact e

theorem str_byte {zs : List Int} (hb : ∀ z ∈ zs, 0 ≤ z ∧ z < 256) (j : Nat) : ((strOfNums zs).data.toList.getD j 0).toNat = (zs.getD j 0).toNat := by
  rw [strOfNums_data]
  by_cases h : j < zs.length
  · have := hb _ (List.getElem_mem h)
    simp [h]
    omega
  · simp [List.getD_eq_getElem?_getD, List.getElem?_eq_none (Nat.le_of_not_lt h)]

theorem getD_drop0 (zs : List Int) (i j : Nat) : zs.getD (i + j) 0 = (zs.drop i).getD j 0 := by
  simp [List.getD_eq_getElem?_getD, List.getElem?_drop]

theorem decode_eq {zs : List Int} (hb : ∀ z ∈ zs, 0 ≤ z ∧ z < 256) (i : Nat) :
    Utf8.decode (strOfNums zs) i = decodeN (zs.drop i).length ((zs.drop i).getD 0 0).toNat ((zs.drop i).getD 1 0).toNat ((zs.drop i).getD 2 0).toNat ((zs.drop i).getD 3 0).toNat := by
  rw [decode_N, str_byte hb, str_byte hb, str_byte hb, str_byte hb, strOfNums_data, List.length_map, List.length_drop]
  rw [← getD_drop0, ← getD_drop0, ← getD_drop0, ← getD_drop0]
  rfl

theorem mem_drop_bytes {zs : List Int} (hb : ∀ z ∈ zs, 0 ≤ z ∧ z < 256) (i : Nat) : ∀ z ∈ zs.drop i, 0 ≤ z ∧ z < 256 := fun z hz => hb z (List.mem_of_mem_drop hz)

/-- At a place where a rune begins the model decodes it. -/
theorem decode_some {zs : List Int} (hb : ∀ z ∈ zs, 0 ≤ z ∧ z < 256) {i : Nat} {n : Int} {k : Nat} (h : atL (zs.drop i) = some (n, k)) : Utf8.decode (strOfNums zs) i = (n.toNat, k) := by
  rw [decode_eq hb]; exact decodeN_some (mem_drop_bytes hb i) h
/-- Where none begins it tells the sign of an error, of one byte. -/
theorem decode_none {zs : List Int} (hb : ∀ z ∈ zs, 0 ≤ z ∧ z < 256) {i : Nat} (hi : i < zs.length) (h : atL (zs.drop i) = none) : Utf8.decode (strOfNums zs) i = (65533, 1) := by
  rw [decode_eq hb]
  refine decodeN_none (mem_drop_bytes hb i) (fun h0 => ?_) h
  have := congrArg List.length h0
  simp at this; omega
/-- That number, where it is a rune, has three bytes. -/
theorem error_three {l : List Int} {k : Nat} (h : atL l = some (65533, k)) : k = 3 := by
  obtain ⟨_, _, hk, _⟩ := atL_some h
  rw [hk]; decide
end Go.Proofs.YtojgibigmoaejaaDoor.Utf
