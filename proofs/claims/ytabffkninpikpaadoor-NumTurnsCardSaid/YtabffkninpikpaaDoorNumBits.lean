/-
  NUM: the document's own bits, one bit of what an operation makes, by contract.
-/
import Derived.Test.YtabffkninpikpaaDoorNumRef
namespace Go.Proofs.YtabffkninpikpaaDoor.Num
open Go.RowKit

/-- A bit of what an operation makes of two words, as the document's own answer has it. -/
def bitsF (op a b i : Int) : Int :=
  if op = 113 then bitI a i * bitI b i
  else if op = 114 then bitI a i + bitI b i - bitI a i * bitI b i
  else if op = 115 then (bitI a i + bitI b i) % 2
  else if op = 119 then bitI a ((i + 32 - b) % 32)
  else if op = 120 then bitI a ((i + b) % 32)
  else if op = 116 then (if b % 32 ≤ i then bitI a (i - b % 32) else 0)
  else if i + b % 32 < 32 then bitI a (i + b % 32)
  else if op = 117 then bitI a 31 else 0
theorem bitI_range (a i : Int) : bitI a i = 0 ∨ bitI a i = 1 := by unfold bitI; omega
theorem bitsF_range (op a b i : Int) : 0 ≤ bitsF op a b i ∧ bitsF op a b i ≤ 1 := by
  have h1 := bitI_range a i
  have h2 := bitI_range b i
  have h3 := bitI_range a ((i + 32 - b) % 32)
  have h4 := bitI_range a ((i + b) % 32)
  have h5 := bitI_range a (i - b % 32)
  have h6 := bitI_range a (i + b % 32)
  have h7 := bitI_range a 31
  unfold bitsF
  rcases h1 with h1 | h1 <;> rcases h2 with h2 | h2 <;> rw [h1, h2] <;> (repeat' split) <;> omega

set_option maxHeartbeats 3200000 in
theorem bits_low (op a b i : Int) (w : World) (ho : 113 ≤ op ∧ op ≤ 115) (h0 : 0 ≤ a) (h1 : a < 4294967296) (k0 : 0 ≤ b) (k1 : b < 4294967296) (i0 : 0 ≤ i) (i1 : i ≤ 31) :
    Calls Tryd.prog 30 #[.int .i64 op, .int .u32 a, .int .u32 b, .int .i64 i] w fun e w' => e = .returned (.int .i64 (bitsF op a b i)) ∧ w = w' := by
  have X := refBit_any a i w h0 h1 i0 (by omega)
  have Y := refBit_any b i w k0 k1 i0 (by omega)
  have hh : op = 113 ∨ op = 114 ∨ op = 115 := by omega
  have hx := bitI_range a i
  have hy := bitI_range b i
  obtain ⟨x, ex⟩ : ∃ x, bitI a i = x := ⟨_, rfl⟩
  obtain ⟨y, ey⟩ : ∃ y, bitI b i = y := ⟨_, rfl⟩
  have F : ∀ op, (op = 113 ∨ op = 114 ∨ op = 115) → bitsF op a b i = if op = 113 then x * y else if op = 114 then x + y - x * y else (x + y) % 2 := by
    intro op h
    unfold bitsF
    rw [ex, ey]
    rcases h with rfl | rfl | rfl <;> rfl
  rw [F op hh]
  rw [ex] at X hx
  rw [ey] at Y hy
  have X := hid X
  have Y := hid Y
  clear F ex ey
  rcases hh with rfl | rfl | rfl <;> rcases hx with rfl | rfl <;> rcases hy with rfl | rfl
  all_goals
    clear ho
    go_enter Tryd.func30, Tryd.ntmps30
    go_wp2_with fail
    refine X.out.mono ?_
    rintro e w' ⟨rfl, rfl⟩
    go_wp2_with fail
    refine Y.out.mono ?_
    rintro e w' ⟨rfl, rfl⟩
    go_wp2
    go_ret
    exact ⟨rfl, rfl⟩
set_option maxHeartbeats 3200000 in
theorem bits_high (op a b i : Int) (w : World) (ho : 116 ≤ op ∧ op ≤ 120) (h0 : 0 ≤ a) (h1 : a < 4294967296) (k0 : 0 ≤ b) (k1 : b < 4294967296) (i0 : 0 ≤ i) (i1 : i ≤ 31) :
    Calls Tryd.prog 30 #[.int .i64 op, .int .u32 a, .int .u32 b, .int .i64 i] w fun e w' => e = .returned (.int .i64 (bitsF op a b i)) ∧ w = w' := by
  have X := refBit_any a i w h0 h1 i0 (by omega)
  have Y := refBit_any b i w k0 k1 i0 (by omega)
  generalize bitI a i = x at X
  generalize bitI b i = y at Y
  have X := hid X
  have Y := hid Y
  have hh : op = 119 ∨ op = 120 ∨ (op = 116 ∧ b % 32 ≤ i) ∨ (op = 116 ∧ i < b % 32) ∨ (op = 117 ∧ i + b % 32 < 32) ∨ (op = 117 ∧ 32 ≤ i + b % 32) ∨ (op = 118 ∧ i + b % 32 < 32) ∨ (op = 118 ∧ 32 ≤ i + b % 32) := by omega
  rcases hh with rfl | rfl | ⟨rfl, hk⟩ | ⟨rfl, hk⟩ | ⟨rfl, hk⟩ | ⟨rfl, hk⟩ | ⟨rfl, hk⟩ | ⟨rfl, hk⟩
  · rw [show bitsF 119 a b i = bitI a ((i + 32 - b) % 32) from rfl]
    clear ho
    go_enter Tryd.func30, Tryd.ntmps30
    go_wp2_with fail
    refine X.out.mono ?_
    rintro e w' ⟨rfl, rfl⟩
    go_wp2_with fail
    refine Y.out.mono ?_
    rintro e w' ⟨rfl, rfl⟩
    go_wp2_with fail
    refine (refBit_any a ((i + 32 - b) % 32) _ h0 h1 (by omega) (by omega)).mono ?_
    rintro e w' ⟨rfl, rfl⟩
    go_wp2
    go_ret
    exact ⟨rfl, rfl⟩
  · rw [show bitsF 120 a b i = bitI a ((i + b) % 32) from rfl]
    clear ho
    go_enter Tryd.func30, Tryd.ntmps30
    go_wp2_with fail
    refine X.out.mono ?_
    rintro e w' ⟨rfl, rfl⟩
    go_wp2_with fail
    refine Y.out.mono ?_
    rintro e w' ⟨rfl, rfl⟩
    go_wp2_with fail
    refine (refBit_any a ((i + b) % 32) _ h0 h1 (by omega) (by omega)).mono ?_
    rintro e w' ⟨rfl, rfl⟩
    go_wp2
    go_ret
    exact ⟨rfl, rfl⟩
  · rw [show bitsF 116 a b i = bitI a (i - b % 32) from (show bitsF 116 a b i = if b % 32 ≤ i then bitI a (i - b % 32) else 0 from rfl).trans (if_pos hk)]
    clear ho
    go_enter Tryd.func30, Tryd.ntmps30
    go_wp2_with fail
    refine X.out.mono ?_
    rintro e w' ⟨rfl, rfl⟩
    go_wp2_with fail
    refine Y.out.mono ?_
    rintro e w' ⟨rfl, rfl⟩
    go_wp2_with fail
    refine (refBit_any a (i - b % 32) _ h0 h1 (by omega) (by omega)).mono ?_
    rintro e w' ⟨rfl, rfl⟩
    go_wp2
    go_ret
    exact ⟨rfl, rfl⟩
  · rw [show bitsF 116 a b i = 0 from (show bitsF 116 a b i = if b % 32 ≤ i then bitI a (i - b % 32) else 0 from rfl).trans (if_neg (by omega))]
    clear ho
    go_enter Tryd.func30, Tryd.ntmps30
    go_wp2_with fail
    refine X.out.mono ?_
    rintro e w' ⟨rfl, rfl⟩
    go_wp2_with fail
    refine Y.out.mono ?_
    rintro e w' ⟨rfl, rfl⟩
    go_wp2
    go_ret
    exact ⟨rfl, rfl⟩
  · rw [show bitsF 117 a b i = bitI a (i + b % 32) from (show bitsF 117 a b i = if i + b % 32 < 32 then bitI a (i + b % 32) else bitI a 31 from rfl).trans (if_pos hk)]
    clear ho
    go_enter Tryd.func30, Tryd.ntmps30
    go_wp2_with fail
    refine X.out.mono ?_
    rintro e w' ⟨rfl, rfl⟩
    go_wp2_with fail
    refine Y.out.mono ?_
    rintro e w' ⟨rfl, rfl⟩
    go_wp2_with fail
    refine (refBit_any a (i + b % 32) _ h0 h1 (by omega) (by omega)).mono ?_
    rintro e w' ⟨rfl, rfl⟩
    go_wp2
    go_ret
    exact ⟨rfl, rfl⟩
  · rw [show bitsF 117 a b i = bitI a 31 from (show bitsF 117 a b i = if i + b % 32 < 32 then bitI a (i + b % 32) else bitI a 31 from rfl).trans (if_neg (by omega))]
    clear ho
    go_enter Tryd.func30, Tryd.ntmps30
    go_wp2_with fail
    refine X.out.mono ?_
    rintro e w' ⟨rfl, rfl⟩
    go_wp2_with fail
    refine Y.out.mono ?_
    rintro e w' ⟨rfl, rfl⟩
    go_wp2_with fail
    refine (refBit_any a 31 _ h0 h1 (by omega) (by omega)).mono ?_
    rintro e w' ⟨rfl, rfl⟩
    go_wp2
    go_ret
    exact ⟨rfl, rfl⟩
  · rw [show bitsF 118 a b i = bitI a (i + b % 32) from (show bitsF 118 a b i = if i + b % 32 < 32 then bitI a (i + b % 32) else 0 from rfl).trans (if_pos hk)]
    clear ho
    go_enter Tryd.func30, Tryd.ntmps30
    go_wp2_with fail
    refine X.out.mono ?_
    rintro e w' ⟨rfl, rfl⟩
    go_wp2_with fail
    refine Y.out.mono ?_
    rintro e w' ⟨rfl, rfl⟩
    go_wp2_with fail
    refine (refBit_any a (i + b % 32) _ h0 h1 (by omega) (by omega)).mono ?_
    rintro e w' ⟨rfl, rfl⟩
    go_wp2
    go_ret
    exact ⟨rfl, rfl⟩
  · rw [show bitsF 118 a b i = 0 from (show bitsF 118 a b i = if i + b % 32 < 32 then bitI a (i + b % 32) else 0 from rfl).trans (if_neg (by omega))]
    clear ho
    go_enter Tryd.func30, Tryd.ntmps30
    go_wp2_with fail
    refine X.out.mono ?_
    rintro e w' ⟨rfl, rfl⟩
    go_wp2_with fail
    refine Y.out.mono ?_
    rintro e w' ⟨rfl, rfl⟩
    go_wp2
    go_ret
    exact ⟨rfl, rfl⟩
theorem bits_any (op a b i : Int) (w : World) (ho : 113 ≤ op ∧ op ≤ 120) (h0 : 0 ≤ a) (h1 : a < 4294967296) (k0 : 0 ≤ b) (k1 : b < 4294967296) (i0 : 0 ≤ i) (i1 : i ≤ 31) :
    Calls Tryd.prog 30 #[.int .i64 op, .int .u32 a, .int .u32 b, .int .i64 i] w fun e w' => e = .returned (.int .i64 (bitsF op a b i)) ∧ w = w' := by
  by_cases h : op ≤ 115
  · exact bits_low op a b i w (by omega) h0 h1 k0 k1 i0 i1
  · exact bits_high op a b i w (by omega) h0 h1 k0 k1 i0 i1
end Go.Proofs.YtabffkninpikpaaDoor.Num
