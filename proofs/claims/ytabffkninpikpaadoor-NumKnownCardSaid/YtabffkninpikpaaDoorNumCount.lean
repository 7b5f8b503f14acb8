/-
  NUM: the functions of math/bits that count, and One, by contracts: how many bits are 0 from the highest, from the lowest on; how many are 1.
-/
import Derived.Test.YtabffkninpikpaaDoorNumAwake
import Derived.Test.YtabffkninpikpaaDoorShelf
import Derived.Lib.Tables
import Derived.Lib.BitFns
import Derived.Lib.TrailingZeros
import Derived.Deep.QuietTactic
import Derived.BigQuiet
namespace Go.Proofs.YtabffkninpikpaaDoor.Num
open Go.RowKit

/-- The table of math/bits lies as it was laid. -/
def DeB (w : World) : Prop := ∀ j, j < 32 → w.cell? ⟨1, j, none⟩ = some (.int .u8 ((Lib.deBruijn32tab.getD j 0 : Nat) : Int))
theorem DeB.below {w w' : World} (h : DeB w) (hb : Below w.heap.size w w') : DeB w' := fun j hj => keep hb (h j hj)

theorem neg_mod {a : Int} (h0 : 0 < a) (h1 : a < 4294967296) : -a % 4294967296 = 4294967296 - a := by omega
theorem deB_key {a : Int} (h0 : 0 < a) (h1 : a < 4294967296) :
    bits .and .u32 a (-a % 4294967296) * 125613361 % 4294967296 / 134217728 = ((2 ^ Lib.ctz 32 a.toNat * 125613361 % 4294967296 / 134217728 : Nat) : Int) ∧ Lib.ctz 32 a.toNat < 32 := by
  have hl := Lib.lowest_bit 32 a.toNat (by omega) (by omega)
  rw [neg_mod h0 h1, and_u32 (by omega) h1 (by omega) (by omega)]
  have e : (4294967296 - a).toNat = 2 ^ 32 - a.toNat := by omega
  unfold andW
  rw [e, hl.1]
  exact ⟨by simp, hl.2⟩
set_option maxHeartbeats 800000 in
theorem TrailingZeros32_any (a : Int) (w : World) (h0 : 0 ≤ a) (h1 : a < 4294967296) (hT : DeB w) :
    Calls Tryd.prog 32 #[.int .u32 a] w fun e w' => e = .returned (.int .i64 (Lib.ctz 32 a.toNat)) ∧ w = w' := by
  by_cases hz : a = 0
  · subst hz
    rw [show ((Lib.ctz 32 (0 : Int).toNat : Nat) : Int) = 32 by decide]
    clear hT
    go_enter Tryd.func32, Tryd.ntmps32
    go_wp2
    go_ret
    exact ⟨rfl, rfl⟩
  · have h0' : 0 < a := by omega
    obtain ⟨key, hk⟩ := deB_key h0' h1
    obtain ⟨hi, htab⟩ := Lib.deBruijn32_at _ hk
    have hcell := hT _ hi
    rw [htab] at hcell
    obtain ⟨c, hc⟩ : ∃ c : Int, ((Lib.ctz 32 a.toNat : Nat) : Int) = c := ⟨_, rfl⟩
    obtain ⟨i, hi'⟩ : ∃ i : Int, ((2 ^ Lib.ctz 32 a.toNat * 125613361 % 4294967296 / 134217728 : Nat) : Int) = i := ⟨_, rfl⟩
    have e : (2 ^ Lib.ctz 32 a.toNat * 125613361 % 4294967296 / 134217728 : Nat) = i.toNat := by omega
    have i0 : 0 ≤ i := by omega
    have i1 : i < 32 := by omega
    have c0 : 0 ≤ c := by omega
    have c1 : c < 32 := by omega
    rw [e] at hcell
    rw [hi'] at key
    rw [hc] at hcell ⊢
    clear hT hi htab e hc hi' hk hz
    go_enter Tryd.func32, Tryd.ntmps32
    go_wp2
    go_ret
    exact ⟨rfl, rfl⟩

theorem and255 {b : Int} (k0 : 0 ≤ b) (k1 : b < 4294967296) : bits .and .u32 b 255 = b % 256 := bits_mask .u32 32 (by decide) (fun n h h' => by rw [wrapU32]; omega) 8 (by decide) b k0 (by omega)
theorem pop8_one {b : Int} (h0 : 0 ≤ b) (h1 : b ≤ 255) : Lib.pop8 b = (Lib.onesCount b.toNat : Int) ∧ Lib.onesCount b.toNat ≤ 8 := by
  have e := Lib.pop8_eq ⟨b.toNat, by omega⟩
  have l := Lib.onesCount_le8 ⟨b.toNat, by omega⟩
  simp only [Int.toNat_of_nonneg h0] at e
  exact ⟨e, l⟩
/-- How many bits are 1, by bytes. -/
def ones (a : Int) : Int := Lib.pop8 (a / 16777216) + Lib.pop8 (a / 65536 % 256) + Lib.pop8 (a / 256 % 256) + Lib.pop8 (a % 256)
theorem pop8_range {b : Int} (h0 : 0 ≤ b) (h1 : b ≤ 255) : 0 ≤ Lib.pop8 b ∧ Lib.pop8 b ≤ 8 := by
  have := pop8_one h0 h1
  omega
set_option maxHeartbeats 1600000 in
theorem OnesCount32_any (a : Int) (w : World) (h0 : 0 ≤ a) (h1 : a < 4294967296) :
    Calls Tryd.prog 33 #[.int .u32 a] w fun e w' => e = .returned (.int .i64 (ones a)) ∧ Below w.heap.size w w' := by
  obtain ⟨b3, e3⟩ : ∃ b, a / 16777216 = b := ⟨_, rfl⟩
  obtain ⟨b2, e2⟩ : ∃ b, a / 65536 % 256 = b := ⟨_, rfl⟩
  obtain ⟨b1, e1⟩ : ∃ b, a / 256 % 256 = b := ⟨_, rfl⟩
  obtain ⟨b0, e0⟩ : ∃ b, a % 256 = b := ⟨_, rfl⟩
  have m2 := and255 (b := a / 65536) (by omega) (by omega)
  have m1 := and255 (b := a / 256) (by omega) (by omega)
  have m0 := and255 (b := a) (by omega) (by omega)
  rw [e2] at m2
  rw [e1] at m1
  rw [e0] at m0
  have r3 : 0 ≤ b3 ∧ b3 ≤ 255 := by omega
  have r2 : 0 ≤ b2 ∧ b2 ≤ 255 := by omega
  have r1 : 0 ≤ b1 ∧ b1 ≤ 255 := by omega
  have r0 : 0 ≤ b0 ∧ b0 ≤ 255 := by omega
  have p3 := pop8_range r3.1 r3.2
  have p2 := pop8_range r2.1 r2.2
  have p1 := pop8_range r1.1 r1.2
  have p0 := pop8_range r0.1 r0.2
  have H : Hid (ones a = Lib.pop8 b3 + Lib.pop8 b2 + Lib.pop8 b1 + Lib.pop8 b0) := hid (by unfold ones; rw [e3, e2, e1, e0])
  obtain ⟨r30, r31⟩ := r3
  obtain ⟨r20, r21⟩ := r2
  obtain ⟨r10, r11⟩ := r1
  obtain ⟨r00, r01⟩ := r0
  clear e2 e1 e0
  go_enter Tryd.func33, Tryd.ntmps33
  go_wp2
  go_quiet (fail)
  go_wp2
  go_ret
  refine ⟨ret_int ?_, ?_⟩
  · exact H.out.symm
  · exact below_drewN (Below.refl _ _) _
/-- What an operation on one word makes. -/
def cnt (op a : Int) : Int := if op = 103 then 32 - (Lib.bitLen a.toNat : Int) else if op = 104 then (Lib.ctz 32 a.toNat : Int) else if op = 105 then ones a else truth (decide (a = 0))
def oneV (op a : Int) : Int := if arity op = 1 then cnt op a else 0
def oneE (op : Int) : Int := if arity op = 1 then 0 else 2
theorem arity_one {op : Int} (h : arity op = 1) : op = 69 ∨ op = 103 ∨ op = 104 ∨ op = 105 := by
  unfold arity at h
  split at h
  · omega
  · split at h <;> omega
theorem ones_range {a : Int} (h0 : 0 ≤ a) (h1 : a < 4294967296) : 0 ≤ ones a ∧ ones a ≤ 32 := by
  have p3 := pop8_range (b := a / 16777216) (by omega) (by omega)
  have p2 := pop8_range (b := a / 65536 % 256) (by omega) (by omega)
  have p1 := pop8_range (b := a / 256 % 256) (by omega) (by omega)
  have p0 := pop8_range (b := a % 256) (by omega) (by omega)
  unfold ones; omega
theorem bitLen_range {a : Int} (h0 : 0 ≤ a) (h1 : a < 4294967296) : Lib.bitLen a.toNat ≤ 32 := Lib.bitLen_le a.toNat 32 (by omega) (by omega)
theorem ctz_range (a : Int) (h0 : 0 ≤ a) (h1 : a < 4294967296) : Lib.ctz 32 a.toNat ≤ 32 := by
  by_cases h : a.toNat = 0
  · rw [h]; decide
  · exact Nat.le_of_lt (Lib.lowest_bit 32 a.toNat h (by omega)).2
set_option maxHeartbeats 1600000 in
theorem count_any (op a : Int) (w : World) (ho : arity op = 1) (h0 : 0 ≤ a) (h1 : a < 4294967296) (hT : DeB w) :
    Calls Tryd.prog 22 #[.int .i64 op, .int .u32 a] w fun e w' => e = .returned (.int .u32 (cnt op a)) ∧ Below w.heap.size w w' := by
  have hh := arity_one ho
  clear ho
  rcases hh with rfl | rfl | rfl | rfl
  · rw [show cnt 69 a = truth (decide (a = 0)) from rfl]
    clear hT
    go_enter Tryd.func22, Tryd.ntmps22
    go_wp2_with fail
    refine (truth_any _ _).mono ?_
    rintro e w' ⟨rfl, rfl⟩
    go_wp2
    go_ret
    exact ⟨rfl, Below.refl _ _⟩
  · have hl := bitLen_range h0 h1
    have C := Tryd.bits_LeadingZeros32 a w h0 (by omega)
    rw [show cnt 103 a = 32 - (Lib.bitLen a.toNat : Int) from rfl]
    obtain ⟨n, hn⟩ : ∃ n : Int, 32 - (Lib.bitLen a.toNat : Int) = n := ⟨_, rfl⟩
    have n0 : 0 ≤ n ∧ n ≤ 32 := by omega
    rw [hn] at C ⊢
    have C := hid C
    clear hT hl hn
    go_enter Tryd.func22, Tryd.ntmps22
    go_wp2_with fail
    refine C.out.mono ?_
    rintro e w' ⟨rfl, rfl⟩
    go_wp2
    go_ret
    exact ⟨rfl, Below.refl _ _⟩
  · have hl := ctz_range a h0 h1
    have C := TrailingZeros32_any a w h0 h1 hT
    rw [show cnt 104 a = (Lib.ctz 32 a.toNat : Int) from rfl]
    obtain ⟨n, hn⟩ : ∃ n : Int, (Lib.ctz 32 a.toNat : Int) = n := ⟨_, rfl⟩
    have n0 : 0 ≤ n ∧ n ≤ 32 := by omega
    rw [hn] at C ⊢
    have C := hid C
    clear hT hl hn
    go_enter Tryd.func22, Tryd.ntmps22
    go_wp2_with fail
    refine C.out.mono ?_
    rintro e w' ⟨rfl, rfl⟩
    go_wp2
    go_ret
    exact ⟨rfl, Below.refl _ _⟩
  · have n0 := ones_range h0 h1
    have C := OnesCount32_any a w h0 h1
    rw [show cnt 105 a = ones a from rfl]
    generalize ones a = n at *
    have C := hid C
    clear hT
    go_enter Tryd.func22, Tryd.ntmps22
    go_wp2_with fail
    refine C.out.mono ?_
    rintro e w1 ⟨rfl, hb⟩
    go_wp2
    go_ret
    exact ⟨rfl, hb⟩
set_option maxHeartbeats 800000 in
theorem One_any (op a : Int) (w : World) (h0 : 0 ≤ a) (h1 : a < 4294967296) (hA : Arit w) (hT : DeB w) :
    Calls Tryd.prog 10 #[.int .i64 op, .int .u32 a] w fun e w' => e = .returned (.tuple #[.int .u32 (oneV op a), .int .i64 (oneE op)]) ∧ Below w.heap.size w w' := by
  have CA := Arity_any op w hA
  by_cases ha : arity op = 1
  · have CC := count_any op a w ha h0 h1 hT
    rw [ha] at CA
    rw [show oneE op = 0 by unfold oneE; rw [if_pos ha], show oneV op a = cnt op a by unfold oneV; rw [if_pos ha]]
    generalize cnt op a = c at *
    clear ha hA hT
    have CA := hid CA
    have CC := hid CC
    go_enter Tryd.func10, Tryd.ntmps10
    go_wp2_with fail
    refine CA.out.mono ?_
    rintro e w' ⟨rfl, rfl⟩
    go_wp2_with fail
    refine CC.out.mono ?_
    rintro e w1 ⟨rfl, hb⟩
    go_wp2
    go_ret2
    exact ⟨rfl, hb⟩
  · rw [show oneE op = 2 by unfold oneE; rw [if_neg ha], show oneV op a = 0 by unfold oneV; rw [if_neg ha]]
    have hr := arity_range op
    generalize arity op = c at *
    have hne : (c != 1) = true := by simpa using ha
    clear ha hA hT
    have CA := hid CA
    go_enter Tryd.func10, Tryd.ntmps10
    go_wp2_with fail
    refine CA.out.mono ?_
    rintro e w' ⟨rfl, rfl⟩
    go_wp2
    go_ret2
    exact ⟨rfl, Below.refl _ _⟩
end Go.Proofs.YtabffkninpikpaaDoor.Num
