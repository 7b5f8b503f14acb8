/-
  NUM: a word is its bits: what is added up of the bits of a word is the word; the bits of what is moved and turned. It imports nothing of any translation.
-/
import Derived.Test.YtabffkninpikpaaDoorNumPlain
namespace Go.Proofs.YtabffkninpikpaaDoor.Num

/-- What is added up of k bits, from the 31st down. -/
def acc (f : Int → Int) : Nat → Int
  | 0 => 0
  | k + 1 => 2 * acc f k + f (31 - k)
theorem acc_of {f : Int → Int} {n : Int} (h0 : 0 ≤ n) (h1 : n < 4294967296) (hf : ∀ i : Int, 0 ≤ i → i ≤ 31 → f i = bitI n i) : ∀ k, k ≤ 32 → acc f k = n / 2 ^ (32 - k)
  | 0, _ => by simp [acc]; omega
  | k + 1, hk => by
    have ih := acc_of h0 h1 hf k (by omega)
    have e1 : 32 - k = (31 - k) + 1 := by omega
    have e2 : ((31 : Int) - k).toNat = 31 - k := by omega
    have e3 : 32 - (k + 1) = 31 - k := by omega
    rw [acc, ih, hf _ (by omega) (by omega), bitI, e2, e3, e1, Int.pow_succ, ← Int.ediv_ediv_of_nonneg (Int.le_of_lt (Int.pow_pos (by decide)))]
    omega
theorem acc_range {f : Int → Int} (hf : ∀ i, 0 ≤ f i ∧ f i ≤ 1) : ∀ k, k ≤ 32 → 0 ≤ acc f k ∧ acc f k < 2 ^ k
  | 0, _ => by simp [acc]
  | k + 1, hk => by
    have ih := acc_range hf k (by omega)
    have := hf (31 - k)
    rw [acc, Int.pow_succ]
    omega
theorem pow_le {k j : Nat} (h : k ≤ j) : (2 : Int) ^ k ≤ 2 ^ j := by
  have := Nat.pow_le_pow_right (n := 2) (by decide) h
  exact_mod_cast this
theorem acc_small {f : Int → Int} (hf : ∀ i, 0 ≤ f i ∧ f i ≤ 1) (k : Nat) (hk : k ≤ 32) : 0 ≤ acc f k ∧ acc f k < 4294967296 := by
  have h := acc_range hf k hk
  have : (2 : Int) ^ k ≤ 2 ^ 32 := pow_le hk
  omega
theorem bitI_nat (m : Nat) (i : Int) : bitI (m : Int) i = if m.testBit i.toNat then 1 else 0 := by
  have h : bitI (m : Int) i = ((m / 2 ^ i.toNat % 2 : Nat) : Int) := by unfold bitI; simp
  rw [h, Nat.testBit_eq_decide_div_mod_eq]
  have := Nat.mod_two_eq_zero_or_one (m / 2 ^ i.toNat)
  rcases this with h | h <;> simp [h]
theorem test_high {m i : Nat} (h : m < 4294967296) (hi : 32 ≤ i) : m.testBit i = false :=
  Nat.testBit_lt_two_pow (Nat.lt_of_lt_of_le (show m < 2 ^ 32 by omega) (Nat.pow_le_pow_right (by decide) hi))
theorem bits_and (m n : Nat) (i : Int) : bitI (m : Int) i * bitI (n : Int) i = bitI (andW m n) i := by
  unfold andW
  rw [Int.toNat_natCast, Int.toNat_natCast, bitI_nat, bitI_nat, bitI_nat, Nat.testBit_and]
  cases m.testBit i.toNat <;> cases n.testBit i.toNat <;> rfl
theorem bits_or (m n : Nat) (i : Int) : bitI (m : Int) i + bitI (n : Int) i - bitI (m : Int) i * bitI (n : Int) i = bitI (orW m n) i := by
  unfold orW
  rw [Int.toNat_natCast, Int.toNat_natCast, bitI_nat, bitI_nat, bitI_nat, Nat.testBit_or]
  cases m.testBit i.toNat <;> cases n.testBit i.toNat <;> rfl
theorem bits_xor (m n : Nat) (i : Int) : (bitI (m : Int) i + bitI (n : Int) i) % 2 = bitI (xorW m n) i := by
  unfold xorW
  rw [Int.toNat_natCast, Int.toNat_natCast, bitI_nat, bitI_nat, bitI_nat, Nat.testBit_xor]
  cases m.testBit i.toNat <;> cases n.testBit i.toNat <;> rfl
theorem shlW_nat (m n : Nat) : shlW m n = ((m * 2 ^ (n % 32) % 4294967296 : Nat) : Int) := by
  have : ((n : Int) % 32).toNat = n % 32 := by omega
  unfold shlW
  rw [this]
  simp
theorem shrU_nat (m n : Nat) : shrU m n = ((m / 2 ^ (n % 32) : Nat) : Int) := by
  have : ((n : Int) % 32).toNat = n % 32 := by omega
  unfold shrU
  rw [this]
  simp
/-- A turn, on naturals. -/
def turnN (m k : Nat) : Nat := m * 2 ^ k % 4294967296 ||| m / 2 ^ (32 - k)
theorem turn_nat (m k : Nat) : turn m k = (turnN m k : Int) := by
  unfold turn orW turnN
  have e1 : ((m : Int) * 2 ^ k % 4294967296).toNat = m * 2 ^ k % 4294967296 := by
    rw [show ((m : Int) * 2 ^ k % 4294967296) = ((m * 2 ^ k % 4294967296 : Nat) : Int) by simp, Int.toNat_natCast]
  have e2 : ((m : Int) / 2 ^ (32 - k)).toNat = m / 2 ^ (32 - k) := by
    rw [show ((m : Int) / 2 ^ (32 - k)) = ((m / 2 ^ (32 - k) : Nat) : Int) by simp, Int.toNat_natCast]
  rw [e1, e2]
theorem test_shl (m k i : Nat) (hi : i < 32) : (m * 2 ^ k % 4294967296).testBit i = (decide (k ≤ i) && m.testBit (i - k)) := by
  rw [show (4294967296 : Nat) = 2 ^ 32 from rfl, Nat.testBit_mod_two_pow, Nat.testBit_mul_two_pow]
  simp [hi]
theorem test_turn {m k i : Nat} (hm : m < 4294967296) (hk : k < 32) (hi : i < 32) : (turnN m k).testBit i = m.testBit ((i + 32 - k) % 32) := by
  unfold turnN
  rw [Nat.testBit_or, test_shl _ _ _ hi, Nat.testBit_div_two_pow]
  by_cases h : k ≤ i
  · have e1 : (i + 32 - k) % 32 = i - k := by omega
    rw [test_high hm (i := i + (32 - k)) (by omega), e1]; simp [h]
  · have e1 : (i + 32 - k) % 32 = i + (32 - k) := by omega
    rw [e1]; simp [h]
theorem turnN_lt {m k : Nat} (hm : m < 4294967296) : turnN m k < 4294967296 := by
  have h1 : m * 2 ^ k % 4294967296 < 2 ^ 32 := by omega
  have h2 : m / 2 ^ (32 - k) ≤ m := Nat.div_le_self _ _
  have := Nat.or_lt_two_pow h1 (show m / 2 ^ (32 - k) < 2 ^ 32 by omega)
  unfold turnN; omega
theorem bits_shl {m n : Nat} {i : Int} (h0 : 0 ≤ i) (h1 : i ≤ 31) : (if (n : Int) % 32 ≤ i then bitI (m : Int) (i - n % 32) else 0) = bitI (shlW m n) i := by
  rw [shlW_nat, bitI_nat, bitI_nat, test_shl _ _ _ (by omega)]
  have e : (i - (n : Int) % 32).toNat = i.toNat - n % 32 := by omega
  rw [e]
  by_cases h : (n : Int) % 32 ≤ i
  · have h' : n % 32 ≤ i.toNat := by omega
    simp [h, h']
  · have h' : ¬ n % 32 ≤ i.toNat := by omega
    simp [h, h']
theorem bits_shrU {m n : Nat} {i : Int} (hm : m < 4294967296) (h0 : 0 ≤ i) : (if i + (n : Int) % 32 < 32 then bitI (m : Int) (i + n % 32) else 0) = bitI (shrU m n) i := by
  rw [shrU_nat, bitI_nat, bitI_nat, Nat.testBit_div_two_pow]
  have e : (i + (n : Int) % 32).toNat = i.toNat + n % 32 := by omega
  rw [e]
  by_cases h : i + (n : Int) % 32 < 32
  · rw [if_pos h]
  · rw [if_neg h, test_high hm (by omega)]; rfl
theorem bits_rotl {m n : Nat} {i : Int} (hm : m < 4294967296) (h0 : 0 ≤ i) (h1 : i ≤ 31) : bitI (m : Int) ((i + 32 - n) % 32) = bitI (rotl m n) i := by
  have e1 : ((n : Int) % 32).toNat = n % 32 := by omega
  unfold rotl
  rw [turn_nat, bitI_nat, bitI_nat, e1, test_turn hm (by omega) (by omega)]
  have e : ((i + 32 - (n : Int)) % 32).toNat = (i.toNat + 32 - n % 32) % 32 := by omega
  rw [e]
theorem bits_rotr {m n : Nat} {i : Int} (hm : m < 4294967296) (h0 : 0 ≤ i) (h1 : i ≤ 31) : bitI (m : Int) ((i + n) % 32) = bitI (rotr m n) i := by
  have e1 : ((32 - (n : Int) % 32) % 32).toNat = (32 - n % 32) % 32 := by omega
  unfold rotr
  rw [turn_nat, bitI_nat, bitI_nat, e1, test_turn hm (by omega) (by omega)]
  have e : ((i + (n : Int)) % 32).toNat = (i.toNat + 32 - (32 - n % 32) % 32) % 32 := by omega
  rw [e]
theorem div_mod_two (x : Int) (i : Nat) (hi : i < 32) : x % 4294967296 / 2 ^ i % 2 = x / 2 ^ i % 2 := by
  have hp : (0 : Int) < 2 ^ i := Int.pow_pos (by decide)
  have e : (4294967296 : Int) = 2 ^ i * 2 ^ (32 - i) := by
    rw [← Int.pow_add, show i + (32 - i) = 32 by omega]; rfl
  have h2 : (2 : Int) ^ (32 - i) = 2 * 2 ^ (31 - i) := by
    rw [show 32 - i = (31 - i) + 1 by omega, Int.pow_succ, Int.mul_comm]
  have hx : x = x % 4294967296 + 2 ^ i * (2 ^ (32 - i) * (x / 4294967296)) := by
    rw [← Int.mul_assoc, ← e]; omega
  have : x / 2 ^ i = x % 4294967296 / 2 ^ i + 2 ^ (32 - i) * (x / 4294967296) := by
    conv => lhs; rw [hx]
    rw [Int.add_mul_ediv_left _ _ (by omega)]
  rw [this, h2, Int.mul_assoc]
  omega
theorem bits_shrS {m n : Nat} {i : Int} (hm : m < 4294967296) (h0 : 0 ≤ i) (h1 : i ≤ 31) : (if i + (n : Int) % 32 < 32 then bitI (m : Int) (i + n % 32) else bitI (m : Int) 31) = bitI (shrS m n) i := by
  have e1 : ((n : Int) % 32).toNat = n % 32 := by omega
  have hp : (0 : Int) ≤ 2 ^ (n % 32) := Int.le_of_lt (Int.pow_pos (by decide))
  have e2 : (i + (n : Int) % 32).toNat = n % 32 + i.toNat := by omega
  have hr : bitI (shrS m n) i = sg m / 2 ^ (n % 32 + i.toNat) % 2 := by
    unfold bitI shrS
    rw [div_mod_two _ _ (by omega), e1, Int.ediv_ediv_of_nonneg hp, ← Int.pow_add]
  rw [hr]
  unfold bitI
  rw [e2]
  generalize n % 32 + i.toNat = j at *
  have hj : (i + (n : Int) % 32 < 32) ↔ j < 32 := by omega
  have e31 : (31 : Int).toNat = 31 := rfl
  rw [e31]
  by_cases h : j < 32
  · rw [if_pos (hj.2 h)]
    have hp2 : (0 : Int) < 2 ^ j := Int.pow_pos (by decide)
    unfold sg
    split
    · have e : (4294967296 : Int) = 2 ^ j * (2 * 2 ^ (31 - j)) := by
        rw [← Int.pow_succ', ← Int.pow_add, show j + (31 - j + 1) = 32 by omega]; rfl
      have : ((m : Int) - 4294967296) / 2 ^ j = m / 2 ^ j - 2 * 2 ^ (31 - j) := by
        rw [e, Int.sub_eq_add_neg, ← Int.mul_neg, Int.add_mul_ediv_left _ _ (by omega)]; rfl
      rw [this]; omega
    · rfl
  · rw [if_neg (fun h' => h (hj.1 h'))]
    have hp3 : (2 : Int) ^ 32 ≤ 2 ^ j := pow_le (by omega)
    unfold sg
    split
    · have : ((m : Int) - 4294967296) / 2 ^ j = -1 := by
        rw [Int.ediv_eq_iff_of_pos (by omega)]; omega
      rw [this]; omega
    · have : (m : Int) / 2 ^ j = 0 := Int.ediv_eq_zero_of_lt (by omega) (by omega)
      rw [this]; omega
end Go.Proofs.YtabffkninpikpaaDoor.Num
