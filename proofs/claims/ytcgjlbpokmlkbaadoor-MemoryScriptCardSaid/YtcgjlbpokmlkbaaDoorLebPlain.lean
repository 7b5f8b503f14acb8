/-
  LEB128 of 32-bit numbers, as plain functions on lists of integers: what is put, what is got, and how the two go together. It imports nothing of any translation.
-/
namespace Go.Proofs.YtcgjlbpokmlkbaaDoor.Leb

/-- How many bytes an unsigned number has. -/
def sizeU (n : Int) : Nat := if n < 128 then 1 else if n < 16384 then 2 else if n < 2097152 then 3 else if n < 268435456 then 4 else 5
/-- How many bytes a signed number has. -/
def sizeS (n : Int) : Nat :=
  if -64 ≤ n ∧ n < 64 then 1 else if -8192 ≤ n ∧ n < 8192 then 2 else if -1048576 ≤ n ∧ n < 1048576 then 3 else if -134217728 ≤ n ∧ n < 134217728 then 4 else 5
/-- So many bytes of a number: all but the last one say that another follows. -/
def putL : Nat → Int → List Int
  | 0, _ => []
  | 1, u => [u % 128]
  | s + 2, u => (u % 128 + 128) :: putL (s + 1) (u / 128)
def encU (n : Int) : List Int := putL (sizeU n) n
def encS (n : Int) : List Int := putL (sizeS n) n

/-- Which fifth byte may be. -/
def okFifth (s : Bool) (c : Int) : Bool := if s then decide (c < 8) || (decide (120 ≤ c) && decide (c < 128)) else decide (c < 16)
/-- What so many parts stand for. -/
def ext (s : Bool) (u : Int) (m : Nat) : Int := if s = true ∧ 128 ^ m ≤ 2 * u then u - 128 ^ m else u
/-- Reading on: behind k parts that make u, at place p. Value, next place, error, its place. -/
def goL (s : Bool) : Nat → Int → List Int → Int → Int × Int × Int × Int
  | _, _, [], p => (0, 0, 4, p)
  | k, u, c :: r, p =>
    if k = 4 ∧ okFifth s c = false then (0, 0, 4, p)
    else if c < 128 then (ext s (u + c % 128 * 128 ^ k) (k + 1), p + 1, 0, 0)
    else goL s (k + 1) (u + c % 128 * 128 ^ k) r (p + 1)
def getL (s : Bool) (l : List Int) (at' : Int) : Int × Int × Int × Int :=
  if at' < 0 ∨ (l.length : Int) < at' then (0, 0, 5, 0) else goL s 0 0 (l.drop at'.toNat) at'

theorem sizeU_pos (n : Int) : 1 ≤ sizeU n ∧ sizeU n ≤ 5 := by unfold sizeU; (repeat' split) <;> omega
theorem sizeS_pos (n : Int) : 1 ≤ sizeS n ∧ sizeS n ≤ 5 := by unfold sizeS; (repeat' split) <;> omega
theorem putL_length : ∀ (s : Nat) (u : Int), (putL s u).length = s
  | 0, _ => rfl
  | 1, _ => rfl
  | s + 2, u => by simp [putL, putL_length (s + 1)]
theorem putL_bytes : ∀ (s : Nat) (u : Int), ∀ c ∈ putL s u, 0 ≤ c ∧ c < 256
  | 0, _, c, h => by simp [putL] at h
  | 1, u, c, h => by simp [putL] at h; omega
  | s + 2, u, c, h => by
    simp only [putL, List.mem_cons] at h
    rcases h with h | h
    · omega
    · exact putL_bytes (s + 1) _ c h
theorem encU_length (n : Int) : (encU n).length = sizeU n := putL_length _ _
theorem encS_length (n : Int) : (encS n).length = sizeS n := putL_length _ _
theorem encU_bytes (n : Int) : ∀ c ∈ encU n, 0 ≤ c ∧ c < 256 := putL_bytes _ _
theorem encS_bytes (n : Int) : ∀ c ∈ encS n, 0 ≤ c ∧ c < 256 := putL_bytes _ _

theorem encU_last {n : Int} (h0 : 0 ≤ n) (h : n < 128) : encU n = [n] := by
  have : sizeU n = 1 := by simp [sizeU, h]
  rw [encU, this, putL]; congr 1; omega
theorem encU_step {n : Int} (h : 128 ≤ n) (hm : n < 4294967296) : encU n = (n % 128 + 128) :: encU (n / 128) := by
  have : sizeU n = sizeU (n / 128) + 1 := by unfold sizeU; (repeat' split) <;> omega
  have hp := sizeU_pos (n / 128)
  unfold encU
  rw [this]
  obtain ⟨s, hs⟩ : ∃ s, sizeU (n / 128) = s + 1 := ⟨sizeU (n / 128) - 1, by omega⟩
  rw [hs, putL]
theorem encS_last {n : Int} (h0 : -64 ≤ n) (h : n < 64) : encS n = [n % 128] := by
  have : sizeS n = 1 := by simp [sizeS, h, h0]
  rw [encS, this, putL]
theorem encS_step {n : Int} (h : n < -64 ∨ 64 ≤ n) (h0 : -2147483648 ≤ n) (hm : n < 2147483648) : encS n = (n % 128 + 128) :: encS (n / 128) := by
  have : sizeS n = sizeS (n / 128) + 1 := by unfold sizeS; (repeat' split) <;> omega
  have hp := sizeS_pos (n / 128)
  unfold encS
  rw [this]
  obtain ⟨s, hs⟩ : ∃ s, sizeS (n / 128) = s + 1 := ⟨sizeS (n / 128) - 1, by omega⟩
  rw [hs, putL]

/-- The low bits are all that is put. -/
theorem putL_wrap (s : Nat) (hs : s ≤ 5) (n : Int) : putL s (n % 18446744073709551616) = putL s n := by
  match s, hs with
  | 0, _ => rfl
  | 1, _ => simp only [putL]; congr 1; omega
  | 2, _ => simp only [putL]; congr 1; omega; congr 1; omega
  | 3, _ => simp only [putL]; congr 1; omega; congr 1; omega; congr 1; omega
  | 4, _ => simp only [putL]; congr 1; omega; congr 1; omega; congr 1; omega; congr 1; omega
  | 5, _ => simp only [putL]; congr 1; omega; congr 1; omega; congr 1; omega; congr 1; omega; congr 1; omega

/-- What is put is read on, whatever follows. -/
theorem goL_putL (s : Bool) : ∀ (j k : Nat) (u m p : Int) (r : List Int), k + j ≤ 4 → (k + j = 4 → okFifth s (m / 128 ^ j % 128) = true) →
    goL s k u (putL (j + 1) m ++ r) p = (ext s (u + m % 128 ^ (j + 1) * 128 ^ k) (k + j + 1), p + (j + 1 : Nat), 0, 0)
  | 0, k, u, m, p, r, hk, hf => by
    have h1 : m % 128 % 128 = m % 128 := by omega
    have h2 : m % 128 < 128 := by omega
    have h3 : ¬ (k = 4 ∧ okFifth s (m % 128) = false) := by
      rintro ⟨h, h'⟩
      have := hf (by omega)
      simp at this
      rw [this] at h'; cases h'
    simp [putL, goL, h1, h2, h3]
  | j + 1, k, u, m, p, r, hk, hf => by
    have h2 : ¬ (m % 128 + 128 < 128) := by omega
    have h3 : ¬ (k = 4 ∧ okFifth s (m % 128 + 128) = false) := by omega
    have h1 : (m % 128 + 128) % 128 = m % 128 := by omega
    have hdiv : m / 128 / 128 ^ j = m / 128 ^ (j + 1) := by
      rw [Int.ediv_ediv_of_nonneg (by omega), Int.pow_succ, Int.mul_comm]
    have ih := goL_putL s j (k + 1) (u + m % 128 * 128 ^ k) (m / 128) (p + 1) r (by omega) (fun h => by rw [hdiv]; exact hf (by omega))
    have hmod : m % 128 ^ (j + 1 + 1) = m % 128 + 128 * (m / 128 % 128 ^ (j + 1)) := by
      match j, hk with
      | 0, _ => simp; omega
      | 1, _ => simp; omega
      | 2, _ => simp; omega
      | 3, _ => simp; omega
      | j + 4, hk => omega
    have hv : u + m % 128 * 128 ^ k + m / 128 % 128 ^ (j + 1) * 128 ^ (k + 1) = u + m % 128 ^ (j + 1 + 1) * 128 ^ k := by
      rw [hmod, Int.pow_succ]; grind
    simp only [putL, List.cons_append, goL, h1, h2, h3, if_false]
    rw [ih, hv]
    have e1 : k + 1 + j + 1 = k + (j + 1) + 1 := by omega
    have e2 : p + 1 + ((j + 1 : Nat) : Int) = p + ((j + 1 + 1 : Nat) : Int) := by omega
    rw [e1, e2]

theorem getL_encU {n : Int} (h0 : 0 ≤ n) (hm : n < 4294967296) (l r : List Int) : getL false (l ++ encU n ++ r) (l.length : Int) = (n, (l.length : Int) + (sizeU n : Int), 0, 0) := by
  have hs := sizeU_pos n
  obtain ⟨j, hj⟩ : ∃ j, sizeU n = j + 1 := ⟨sizeU n - 1, by omega⟩
  have hlen : ¬ ((l.length : Int) < 0 ∨ ((l ++ encU n ++ r).length : Int) < l.length) := by simp; omega
  have hd : (l ++ encU n ++ r).drop (l.length : Int).toNat = putL (j + 1) n ++ r := by
    rw [Int.toNat_natCast, List.append_assoc, List.drop_left, encU, hj]
  have hlt : n < 128 ^ (j + 1) ∨ j = 4 := by
    have h4 : j = 0 ∨ j = 1 ∨ j = 2 ∨ j = 3 ∨ j = 4 := by omega
    unfold sizeU at hj
    (repeat' split at hj) <;> rcases h4 with rfl | rfl | rfl | rfl | rfl <;> simp <;> omega
  have hmod : n % 128 ^ (j + 1) = n := by
    rcases hlt with h | h
    · exact Int.emod_eq_of_lt h0 h
    · subst h; simp; omega
  have := goL_putL false j 0 0 n l.length r (by omega) (fun h => by
    obtain rfl : j = 4 := by omega
    simp [okFifth]; omega)
  unfold getL
  rw [if_neg hlen, hd, this, hmod, hj]
  simp [ext]

theorem getL_encS {n : Int} (h0 : -2147483648 ≤ n) (hm : n < 2147483648) (l r : List Int) : getL true (l ++ encS n ++ r) (l.length : Int) = (n, (l.length : Int) + (sizeS n : Int), 0, 0) := by
  have hs := sizeS_pos n
  obtain ⟨j, hj⟩ : ∃ j, sizeS n = j + 1 := ⟨sizeS n - 1, by omega⟩
  have hlen : ¬ ((l.length : Int) < 0 ∨ ((l ++ encS n ++ r).length : Int) < l.length) := by simp; omega
  have hd : (l ++ encS n ++ r).drop (l.length : Int).toNat = putL (j + 1) n ++ r := by
    rw [Int.toNat_natCast, List.append_assoc, List.drop_left, encS, hj]
  have hext : ext true (0 + n % 128 ^ (j + 1) * 128 ^ 0) (0 + j + 1) = n := by
    have h4 : j = 0 ∨ j = 1 ∨ j = 2 ∨ j = 3 ∨ j = 4 := by omega
    unfold sizeS at hj
    (repeat' split at hj) <;> rcases h4 with rfl | rfl | rfl | rfl | rfl <;> simp [ext] <;> split <;> omega
  have := goL_putL true j 0 0 n l.length r (by omega) (fun h => by
    obtain rfl : j = 4 := by omega
    simp [okFifth]; omega)
  unfold getL
  rw [if_neg hlen, hd, this, hext, hj]

/-- What is read was a number of so many parts. -/
theorem goL_ok (s : Bool) : ∀ (l : List Int) (k : Nat) (u p x q e f : Int), (∀ c ∈ l, 0 ≤ c ∧ c < 256) → k ≤ 4 → 0 ≤ u → u < 128 ^ k → goL s k u l p = (x, q, e, f) → e = 0 →
    ∃ (m : Nat) (raw c : Int), k < m ∧ m ≤ 5 ∧ q = p + m - k ∧ 0 ≤ raw ∧ raw < 128 ^ m ∧ x = ext s raw m ∧ (m = 5 → okFifth s c = true ∧ raw / 268435456 = c ∧ c < 128)
  | [], k, u, p, x, q, e, f, hl, hk, h0, hu, h, he => by simp [goL] at h; omega
  | c :: r, k, u, p, x, q, e, f, hl, hk, h0, hu, h, he => by
    have hc := hl c (by simp)
    simp only [goL] at h
    have hpow : (128 : Int) ^ (k + 1) = 128 * 128 ^ k := by rw [Int.pow_succ, Int.mul_comm]
    have hcp : 0 ≤ c % 128 * 128 ^ k := Int.mul_nonneg (by omega) (by omega)
    have hcq : c % 128 * 128 ^ k ≤ 127 * 128 ^ k := Int.mul_le_mul_of_nonneg_right (by omega) (by omega)
    split at h
    · simp at h; omega
    · rename_i hn
      split at h
      · rename_i hc'
        simp only [Prod.mk.injEq] at h
        obtain ⟨rfl, rfl, rfl, rfl⟩ := h
        refine ⟨k + 1, _, c, by omega, by omega, by omega, by omega, by rw [hpow]; omega, rfl, fun h5 => ?_⟩
        obtain rfl : k = 4 := by omega
        refine ⟨by simpa using hn, ?_, hc'⟩
        simp at hu ⊢
        omega
      · by_cases hk4 : k = 4
        · exfalso
          subst hk4
          have : okFifth s c = true := by simpa using hn
          unfold okFifth at this
          rename_i hc'
          cases s <;> simp at this <;> omega
        · obtain ⟨m, raw, c', h1, h2, h3, h4⟩ := goL_ok s r (k + 1) _ (p + 1) x q e f (fun c' h' => hl c' (by simp [h'])) (by omega) (by omega) (by rw [hpow]; omega) h he
          exact ⟨m, raw, c', by omega, h2, by omega, h4⟩

theorem getL_shortU {l : List Int} {a x q e f : Int} (hl : ∀ c ∈ l, 0 ≤ c ∧ c < 256) (h : getL false l a = (x, q, e, f)) (he : e = 0) :
    0 ≤ x ∧ x < 4294967296 ∧ sizeU x ≤ q - a ∧ q - a ≤ 5 := by
  unfold getL at h
  split at h
  · simp at h; omega
  · obtain ⟨m, raw, c, h1, h2, h3, h4, h5, h6, h7⟩ := goL_ok false _ 0 0 _ x q e f (fun c' h' => hl c' (List.mem_of_mem_drop h')) (by omega) (by omega) (by simp) h he
    have h6' : x = raw := by simpa [ext] using h6
    subst h6'
    match m, h1, h2 with
    | 1, _, _ => simp at h5; have : sizeU x = 1 := by simp [sizeU, h5]
                 omega
    | 2, _, _ => simp at h5; have : sizeU x ≤ 2 := by unfold sizeU; (repeat' split) <;> omega
                 omega
    | 3, _, _ => simp at h5; have : sizeU x ≤ 3 := by unfold sizeU; (repeat' split) <;> omega
                 omega
    | 4, _, _ => simp at h5; have : sizeU x ≤ 4 := by unfold sizeU; (repeat' split) <;> omega
                 omega
    | 5, _, _ =>
      have := h7 rfl
      have hs := sizeU_pos x
      simp [okFifth] at this
      omega

theorem getL_shortS {l : List Int} {a x q e f : Int} (hl : ∀ c ∈ l, 0 ≤ c ∧ c < 256) (h : getL true l a = (x, q, e, f)) (he : e = 0) :
    -2147483648 ≤ x ∧ x < 2147483648 ∧ sizeS x ≤ q - a ∧ q - a ≤ 5 := by
  unfold getL at h
  split at h
  · simp at h; omega
  · obtain ⟨m, raw, c, h1, h2, h3, h4, h5, h6, h7⟩ := goL_ok true _ 0 0 _ x q e f (fun c' h' => hl c' (List.mem_of_mem_drop h')) (by omega) (by omega) (by simp) h he
    simp only [ext, true_and] at h6
    match m, h1, h2 with
    | 1, _, _ => simp at h5 h6; split at h6 <;> (have : sizeS x ≤ 1 := by unfold sizeS; (repeat' split) <;> omega) <;> omega
    | 2, _, _ => simp at h5 h6; split at h6 <;> (have : sizeS x ≤ 2 := by unfold sizeS; (repeat' split) <;> omega) <;> omega
    | 3, _, _ => simp at h5 h6; split at h6 <;> (have : sizeS x ≤ 3 := by unfold sizeS; (repeat' split) <;> omega) <;> omega
    | 4, _, _ => simp at h5 h6; split at h6 <;> (have : sizeS x ≤ 4 := by unfold sizeS; (repeat' split) <;> omega) <;> omega
    | 5, _, _ =>
      have := h7 rfl
      have hs := sizeS_pos x
      simp [okFifth] at this
      simp at h5 h6
      split at h6 <;> omega

theorem goL_more {s : Bool} {k : Nat} {u c p : Int} {r : List Int} (hk : k ≠ 4) (hc : 128 ≤ c) : goL s k u (c :: r) p = goL s (k + 1) (u + c % 128 * 128 ^ k) r (p + 1) := by
  simp only [goL]; rw [if_neg (fun h => hk h.1), if_neg (by omega)]
theorem goL_last {s : Bool} {k : Nat} {u c p : Int} {r : List Int} (hk : k ≠ 4) (hc : c < 128) : goL s k u (c :: r) p = (ext s (u + c % 128 * 128 ^ k) (k + 1), p + 1, 0, 0) := by
  simp only [goL]; rw [if_neg (fun h => hk h.1), if_pos hc]
theorem goL_bad {s : Bool} {u c p : Int} {r : List Int} (hf : okFifth s c = false) : goL s 4 u (c :: r) p = (0, 0, 4, p) := by
  simp [goL, hf]
theorem goL_fifth {s : Bool} {u c p : Int} {r : List Int} (hf : okFifth s c = true) : goL s 4 u (c :: r) p = (ext s (u + c % 128 * 268435456) 5, p + 1, 0, 0) := by
  have hc : c < 128 := by unfold okFifth at hf; cases s <;> simp at hf <;> omega
  simp [goL, hf, hc]
theorem ext_false (u : Int) (m : Nat) : ext false u m = u := by simp [ext]
theorem ext_fifth {u c : Int} (h0 : 0 ≤ u) (h1 : u < 268435456) (hf : okFifth true c = true) (hc : 0 ≤ c) :
    ext true (u + c % 128 * 268435456) 5 = (u + c % 16 * 268435456 + 2147483648) % 4294967296 - 2147483648 := by
  simp [okFifth] at hf
  simp [ext]
  split <;> omega
end Go.Proofs.YtcgjlbpokmlkbaaDoor.Leb
