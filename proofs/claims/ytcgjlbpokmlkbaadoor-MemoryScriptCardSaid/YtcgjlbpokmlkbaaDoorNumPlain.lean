/-
  NUM: the results of the operations on words of 32 bits, as plain functions on integers. It imports nothing of any translation.
-/
namespace Go.Proofs.YtcgjlbpokmlkbaaDoor.Num

/-- A word, signed. -/
def sg (a : Int) : Int := if 2147483648 ≤ a then a - 4294967296 else a
/-- How many words an operation takes. -/
def arity (op : Int) : Int := if op = 69 ∨ (103 ≤ op ∧ op ≤ 105) then 1 else if (70 ≤ op ∧ op ≤ 79) ∨ (106 ≤ op ∧ op ≤ 120) then 2 else 0
/-- A bit of a word. -/
def bitI (a i : Int) : Int := a / 2 ^ i.toNat % 2
def word (n : Int) : Int := n % 4294967296
def truth (b : Bool) : Int := if b then 1 else 0
/-- The operations bit by bit, moved, turned. -/
def andW (a b : Int) : Int := ((a.toNat &&& b.toNat : Nat) : Int)
def orW (a b : Int) : Int := ((a.toNat ||| b.toNat : Nat) : Int)
def xorW (a b : Int) : Int := ((a.toNat ^^^ b.toNat : Nat) : Int)
def shlW (a b : Int) : Int := a * 2 ^ (b % 32).toNat % 4294967296
def shrU (a b : Int) : Int := a / 2 ^ (b % 32).toNat
def shrS (a b : Int) : Int := sg a / 2 ^ (b % 32).toNat % 4294967296
/-- A turn by k bits, 0 to 31. -/
def turn (a : Int) (k : Nat) : Int := orW (a * 2 ^ k % 4294967296) (a / 2 ^ (32 - k))
def rotl (a b : Int) : Int := turn a (b % 32).toNat
def rotr (a b : Int) : Int := turn a ((32 - b % 32) % 32).toNat
/-- What a comparison says. -/
def cmp (op a b : Int) : Bool :=
  if op = 70 then decide (a = b) else if op = 71 then decide (a ≠ b) else if op = 72 then decide (sg a < sg b) else if op = 73 then decide (a < b)
  else if op = 74 then decide (sg b < sg a) else if op = 75 then decide (b < a) else if op = 76 then decide (sg a ≤ sg b) else if op = 77 then decide (a ≤ b)
  else if op = 78 then decide (sg b ≤ sg a) else decide (b ≤ a)
/-- What a division can't do. -/
def refuse (op a b : Int) : Int :=
  if 109 ≤ op ∧ op ≤ 112 then (if b = 0 then 130 else if op = 109 ∧ a = 2147483648 ∧ b = 4294967295 then 131 else 0) else 0
/-- What an operation on two words makes, if it is no refused division. -/
def comb (op a b : Int) : Int :=
  if op = 106 then word (a + b) else if op = 107 then word (a - b) else if op = 108 then word (a * b)
  else if op = 109 then word ((sg a).tdiv (sg b)) else if op = 110 then a / b else if op = 111 then word ((sg a).tmod (sg b)) else if op = 112 then a % b
  else if op = 113 then andW a b else if op = 114 then orW a b else if op = 115 then xorW a b
  else if op = 116 then shlW a b else if op = 117 then shrS a b else if op = 118 then shrU a b else if op = 119 then rotl a b else if op = 120 then rotr a b
  else truth (cmp op a b)
/-- What an operation on two words tells: the word and the error. -/
def twoV (op a b : Int) : Int := if arity op = 2 ∧ refuse op a b = 0 then comb op a b else 0
def twoE (op a b : Int) : Int := if arity op = 2 then refuse op a b else 2

theorem sg_bounds {a : Int} (h0 : 0 ≤ a) (h1 : a < 4294967296) : -2147483648 ≤ sg a ∧ sg a ≤ 2147483647 := by unfold sg; split <;> omega
theorem sg_zero {a : Int} (h0 : 0 ≤ a) (h1 : a < 4294967296) : sg a = 0 ↔ a = 0 := by unfold sg; split <;> omega
theorem arity_two {op : Int} (h : arity op = 2) : (70 ≤ op ∧ op ≤ 79) ∨ (106 ≤ op ∧ op ≤ 120) := by
  unfold arity at h
  split at h
  · omega
  · split at h
    · assumption
    · omega
end Go.Proofs.YtcgjlbpokmlkbaaDoor.Num
