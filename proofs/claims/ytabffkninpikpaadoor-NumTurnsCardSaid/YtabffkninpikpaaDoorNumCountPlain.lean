/-
  NUM: counting bits, plainly: by bytes and one by one; a turn keeps how many are 1; the first 1 from below, from above.
-/
import Derived.Test.YtabffkninpikpaaDoorNumBitsPlain
import Derived.Test.YtabffkninpikpaaDoorNumCount
namespace Go.Proofs.YtabffkninpikpaaDoor.Num

theorem popAux_zero : ∀ j, Lib.popAux j 0 = 0
  | 0 => rfl
  | j + 1 => by rw [Lib.popAux, Nat.zero_div, popAux_zero j]
theorem popAux_add : ∀ (j k x : Nat), Lib.popAux (j + k) x = Lib.popAux j x + Lib.popAux k (x / 2 ^ j)
  | 0, k, x => by simp [Lib.popAux]
  | j + 1, k, x => by
    have e : j + 1 + k = (j + k) + 1 := by omega
    rw [e, Lib.popAux, Lib.popAux, popAux_add j k (x / 2), Nat.div_div_eq_div_mul, Nat.pow_succ', Nat.add_assoc]
theorem popAux_mod : ∀ (j x : Nat), Lib.popAux j (x % 2 ^ j) = Lib.popAux j x
  | 0, x => by simp [Lib.popAux]
  | j + 1, x => by
    rw [Lib.popAux, Lib.popAux, ← popAux_mod j (x / 2)]
    have e1 : x % 2 ^ (j + 1) % 2 = x % 2 := by rw [Nat.pow_succ', Nat.mod_mul_right_mod]
    have e2 : x % 2 ^ (j + 1) / 2 = x / 2 % 2 ^ j := by rw [Nat.pow_succ', Nat.mod_mul_right_div_self]
    rw [e1, e2]
theorem onesCount_small {x : Nat} (h : x < 256) : Lib.onesCount x = Lib.popAux 8 x := by
  unfold Lib.onesCount
  rw [show (64 : Nat) = 8 + 56 from rfl, popAux_add 8 56 x, Nat.div_eq_of_lt (show x < 2 ^ 8 from h), popAux_zero]
  rfl
theorem ones_nat (m : Nat) (hm : m < 4294967296) : ones (m : Int) = (Lib.popAux 32 m : Nat) := by
  unfold ones
  rw [(pop8_one (b := (m : Int) / 16777216) (by omega) (by omega)).1, (pop8_one (b := (m : Int) / 65536 % 256) (by omega) (by omega)).1, (pop8_one (b := (m : Int) / 256 % 256) (by omega) (by omega)).1, (pop8_one (b := (m : Int) % 256) (by omega) (by omega)).1]
  have t3 : ((m : Int) / 16777216).toNat = m / 16777216 := by omega
  have t2 : ((m : Int) / 65536 % 256).toNat = m / 65536 % 256 := by omega
  have t1 : ((m : Int) / 256 % 256).toNat = m / 256 % 256 := by omega
  have t0 : ((m : Int) % 256).toNat = m % 256 := by omega
  rw [t3, t2, t1, t0, onesCount_small (by omega), onesCount_small (by omega), onesCount_small (by omega), onesCount_small (by omega)]
  have p2 := popAux_mod 8 (m / 65536)
  have p1 := popAux_mod 8 (m / 256)
  have p0 := popAux_mod 8 m
  have e : Lib.popAux 32 m = Lib.popAux 8 m + (Lib.popAux 8 (m / 256) + (Lib.popAux 8 (m / 65536) + Lib.popAux 8 (m / 16777216))) := by
    rw [show (32 : Nat) = 8 + (8 + (8 + 8)) from rfl, popAux_add 8, popAux_add 8, popAux_add 8]
    simp only [Nat.div_div_eq_div_mul]
  rw [e]
  have q2 : Lib.popAux 8 (m / 65536 % 256) = Lib.popAux 8 (m / 65536) := p2
  have q1 : Lib.popAux 8 (m / 256 % 256) = Lib.popAux 8 (m / 256) := p1
  have q0 : Lib.popAux 8 (m % 256) = Lib.popAux 8 m := p0
  rw [q2, q1, q0]
  omega
/-- How many of so many lowest bits are 1, one by one. -/
def sumB (a : Int) : Nat → Int
  | 0 => 0
  | k + 1 => sumB a k + bitI a k
theorem sumB_nat (m : Nat) : ∀ k, sumB (m : Int) k = (Lib.popAux k m : Nat)
  | 0 => rfl
  | k + 1 => by
    have h : bitI (m : Int) (k : Int) = ((m / 2 ^ k % 2 : Nat) : Int) := by unfold bitI; simp
    have h1 : Lib.popAux 1 (m / 2 ^ k) = m / 2 ^ k % 2 := by simp [Lib.popAux]
    rw [sumB, sumB_nat m k, popAux_add, h, h1]; omega
theorem sumB_range (a : Int) : ∀ k : Nat, 0 ≤ sumB a k ∧ sumB a k ≤ k
  | 0 => by simp [sumB]
  | k + 1 => by
    have := sumB_range a k
    have : 0 ≤ bitI a k ∧ bitI a k ≤ 1 := by unfold bitI; omega
    rw [sumB]; omega
theorem sumB_ones {a : Int} (h0 : 0 ≤ a) (h1 : a < 4294967296) : sumB a 32 = ones a := by
  obtain ⟨m, rfl⟩ := Int.eq_ofNat_of_zero_le h0
  rw [sumB_nat, ones_nat m (by omega)]
/-- A turn keeps how many bits are 1. -/
theorem pop_turn (m k : Nat) (hm : m < 4294967296) (hk : k < 32) : Lib.popAux 32 (turnN m k) = Lib.popAux 32 m := by
  have hhi : m / 2 ^ (32 - k) < 2 ^ k := by
    rw [Nat.div_lt_iff_lt_mul (Nat.pow_pos (by decide)), ← Nat.pow_add, show k + (32 - k) = 32 by omega]; omega
  have e1 : m * 2 ^ k % 4294967296 = 2 ^ k * (m % 2 ^ (32 - k)) := by
    rw [show (4294967296 : Nat) = 2 ^ k * 2 ^ (32 - k) by rw [← Nat.pow_add, show k + (32 - k) = 32 by omega], Nat.mul_comm m, Nat.mul_mod_mul_left]
  have e2 : turnN m k = 2 ^ k * (m % 2 ^ (32 - k)) + m / 2 ^ (32 - k) := by
    unfold turnN
    rw [e1, Nat.two_pow_add_eq_or_of_lt hhi]
  have e3 : turnN m k % 2 ^ k = m / 2 ^ (32 - k) := by rw [e2, Nat.mul_add_mod, Nat.mod_eq_of_lt hhi]
  have e4 : turnN m k / 2 ^ k = m % 2 ^ (32 - k) := by rw [e2, Nat.mul_add_div (Nat.pow_pos (by decide)), Nat.div_eq_of_lt hhi, Nat.add_zero]
  have l := popAux_add k (32 - k) (turnN m k)
  have r := popAux_add (32 - k) k m
  rw [show k + (32 - k) = 32 by omega, e4, ← popAux_mod k (turnN m k), e3, popAux_mod] at l
  rw [show 32 - k + k = 32 by omega] at r
  omega
theorem ones_turn {a : Int} (h0 : 0 ≤ a) (h1 : a < 4294967296) {k : Nat} (hk : k < 32) : ones (turn a k) = ones a := by
  obtain ⟨m, rfl⟩ := Int.eq_ofNat_of_zero_le h0
  rw [turn_nat, ones_nat _ (turnN_lt (by omega)), ones_nat m (by omega), pop_turn m k (by omega) hk]
/-- The first bit from below that is 1. -/
theorem ctzFrom_at : ∀ (n f m : Nat), n < f → Lib.ctzFrom f (2 ^ n * (2 * m + 1)) = n
  | 0, f + 1, m, _ => by rw [Lib.ctzFrom, if_pos (by omega)]
  | n + 1, f + 1, m, h => by
    have e : 2 ^ (n + 1) * (2 * m + 1) = 2 * (2 ^ n * (2 * m + 1)) := by rw [Nat.pow_succ', Nat.mul_assoc]
    rw [Lib.ctzFrom, e, if_neg (by omega), Nat.mul_div_cancel_left _ (by decide), ctzFrom_at n f m (by omega)]; omega
theorem ctz_at {a : Int} {n : Nat} (h0 : 0 ≤ a) (hn : n < 32) (hl : a % 2 ^ n = 0) (hb : bitI a n = 1) : (Lib.ctz 32 a.toNat : Int) = n := by
  obtain ⟨m, rfl⟩ := Int.eq_ofNat_of_zero_le h0
  have hb' : m / 2 ^ n % 2 = 1 := by
    have h : bitI (m : Int) (n : Int) = ((m / 2 ^ n % 2 : Nat) : Int) := by unfold bitI; simp
    omega
  have hl' : m % 2 ^ n = 0 := by
    have : ((m % 2 ^ n : Nat) : Int) = 0 := by simpa using hl
    omega
  have e : m = 2 ^ n * (2 * (m / 2 ^ n / 2) + 1) := by
    have h := Nat.div_add_mod m (2 ^ n)
    rw [hl'] at h
    have : 2 * (m / 2 ^ n / 2) + 1 = m / 2 ^ n := by omega
    rw [this]; omega
  have hne : m ≠ 0 := by intro h; subst h; simp at hb'
  rw [Int.toNat_natCast]
  unfold Lib.ctz
  rw [if_neg hne, e, ctzFrom_at n 32 _ hn]
theorem low_step {a : Int} {n : Nat} (hl : a % 2 ^ n = 0) (hb : bitI a n = 0) : a % 2 ^ (n + 1) = 0 := by
  unfold bitI at hb
  rw [Int.toNat_natCast] at hb
  have hd : a = 2 ^ n * (a / 2 ^ n) := by have := Int.mul_ediv_add_emod a (2 ^ n); omega
  have h2 : a / 2 ^ n = 2 * (a / 2 ^ n / 2) := by omega
  rw [hd, h2, ← Int.mul_assoc, ← Int.pow_succ, Int.mul_emod_right]
/-- The first bit from above that is 1. -/
theorem clz_at {a : Int} {n : Nat} (h0 : 0 ≤ a) (hn : n < 32) (hh : a < 2 ^ (32 - n)) (hb : bitI a (31 - n) = 1) : 32 - (Lib.bitLen a.toNat : Int) = n := by
  obtain ⟨m, rfl⟩ := Int.eq_ofNat_of_zero_le h0
  have e0 : ((31 : Int) - n).toNat = 31 - n := by omega
  have hb' : m / 2 ^ (31 - n) % 2 = 1 := by
    have h : bitI (m : Int) (31 - n) = ((m / 2 ^ (31 - n) % 2 : Nat) : Int) := by unfold bitI; rw [e0]; simp
    omega
  have hh' : m < 2 ^ (32 - n) := by exact_mod_cast hh
  have hq : m / 2 ^ (31 - n) < 2 := by
    rw [Nat.div_lt_iff_lt_mul (Nat.pow_pos (by decide)), ← Nat.pow_succ', show (31 - n).succ = 32 - n by omega]; exact hh'
  have h1 : m / 2 ^ (31 - n) = 1 := by
    clear hh hb e0 hh' hn h0
    generalize m / 2 ^ (31 - n) = q at *
    omega
  have hle : 2 ^ (31 - n) ≤ m := by
    have := Nat.div_mul_le_self m (2 ^ (31 - n))
    rw [h1] at this; omega
  have hlt : m < 2 ^ 64 := Nat.lt_of_lt_of_le hh' (Nat.pow_le_pow_right (by decide) (by omega))
  have := Lib.bitLen_shift (31 - n) m hle hlt
  rw [h1, show Lib.bitLen 1 = 1 by decide] at this
  rw [Int.toNat_natCast, this]; omega
theorem high_step {a : Int} {n : Nat} (hn : n < 32) (h0 : 0 ≤ a) (hh : a < 2 ^ (32 - n)) (hb : bitI a (31 - n) = 0) : a < 2 ^ (32 - (n + 1)) := by
  obtain ⟨m, rfl⟩ := Int.eq_ofNat_of_zero_le h0
  have e0 : ((31 : Int) - n).toNat = 31 - n := by omega
  have hb' : m / 2 ^ (31 - n) % 2 = 0 := by
    have h : bitI (m : Int) (31 - n) = ((m / 2 ^ (31 - n) % 2 : Nat) : Int) := by unfold bitI; rw [e0]; simp
    omega
  have hh' : m < 2 ^ (32 - n) := by exact_mod_cast hh
  have hq : m / 2 ^ (31 - n) < 2 := by
    rw [Nat.div_lt_iff_lt_mul (Nat.pow_pos (by decide)), ← Nat.pow_succ', show (31 - n).succ = 32 - n by omega]; exact hh'
  have h1 : m / 2 ^ (31 - n) = 0 := by
    clear hh hb e0 hh' hn h0
    generalize m / 2 ^ (31 - n) = q at *
    omega
  have : m < 2 ^ (31 - n) := by
    rcases Nat.lt_or_ge m (2 ^ (31 - n)) with h | h
    · exact h
    · have := Nat.div_pos h (Nat.pow_pos (by decide)); omega
  rw [show 32 - (n + 1) = 31 - n by omega]
  exact_mod_cast this
theorem zero_clz : 32 - (Lib.bitLen (0 : Int).toNat : Int) = 32 := by decide
theorem zero_ctz : (Lib.ctz 32 (0 : Int).toNat : Int) = 32 := by decide
end Go.Proofs.YtabffkninpikpaaDoor.Num
