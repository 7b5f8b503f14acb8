/-
  NUM: Arity, refusal and Two by contracts: what the plain functions tell, wherever the table of arities lies as it was laid.
-/
import Derived.Test.YtabffkninpikpaaDoorNumWords
import Derived.Test.YtabffkninpikpaaDoorBase2
namespace Go.Proofs.YtabffkninpikpaaDoor.Num
open Go.RowKit

/-- The table of arities, as the program's text lays it. -/
def arTab : List Int := List.replicate 69 0 ++ [1] ++ List.replicate 10 2 ++ List.replicate 23 0 ++ [1, 1, 1] ++ List.replicate 15 2
/-- The table of arities lies as it was laid. -/
def Arit (w : World) : Prop := ∀ j, j < 121 → w.cell? ⟨0, j, none⟩ = some (.int .u8 (arTab.getD j 0))
theorem Arit.below {w w' : World} (h : Arit w) (hb : Below w.heap.size w w') : Arit w' := fun j hj => keep hb (h j hj)
theorem arTab_at : ∀ j : Fin 121, arTab.getD j.val 0 = arity (j.val : Int) := by decide +kernel
theorem arity_range (op : Int) : 0 ≤ arity op ∧ arity op ≤ 2 := by unfold arity; split <;> (try split) <;> omega
theorem arity_out {op : Int} (h : op < 0 ∨ 121 ≤ op) : arity op = 0 := by unfold arity; rw [if_neg (by omega), if_neg (by omega)]

set_option maxHeartbeats 400000 in
theorem Arity_any (op : Int) (w : World) (hT : Arit w) : Calls Tryd.prog 12 #[.int .i64 op] w fun e w' => e = .returned (.int .i64 (arity op)) ∧ w = w' := by
  obtain ⟨v, hv⟩ : ∃ v, arity op = v := ⟨_, rfl⟩
  by_cases h : 0 ≤ op ∧ op < 121
  · have hc := hT op.toNat (by omega)
    rw [arTab_at ⟨op.toNat, by omega⟩] at hc
    simp only [Int.toNat_of_nonneg h.1] at hc
    have hr := arity_range op
    rw [hv] at hr hc ⊢
    obtain ⟨h0, h1⟩ := h
    obtain ⟨r0, r1⟩ := hr
    clear hv hT
    go_enter Tryd.func12, Tryd.ntmps12
    go_wp2
    go_ret
    exact ⟨rfl, rfl⟩
  · rw [arity_out (by omega)]
    clear hv hT
    have h' : op < 0 ∨ 121 ≤ op := by omega
    clear h
    rcases h' with h' | h'
    all_goals
      go_enter Tryd.func12, Tryd.ntmps12
      go_wp2
      go_ret
      exact ⟨rfl, rfl⟩
theorem refuse_out {op a b : Int} (h : op < 109 ∨ 112 < op) : refuse op a b = 0 := by unfold refuse; rw [if_neg (by omega)]
theorem refuse_zero {op a : Int} (h : 109 ≤ op ∧ op ≤ 112) : refuse op a 0 = 130 := by unfold refuse; rw [if_pos h, if_pos rfl]
theorem refuse_range (op a b : Int) : 0 ≤ refuse op a b ∧ refuse op a b ≤ 131 := by unfold refuse; (repeat' split) <;> omega
set_option maxHeartbeats 1600000 in
theorem refusal_any (op a b : Int) (w : World) (h0 : 0 ≤ a) (h1 : a < 4294967296) (k0 : 0 ≤ b) (k1 : b < 4294967296) :
    Calls Tryd.prog 25 #[.int .i64 op, .int .u32 a, .int .u32 b] w fun e w' => e = .returned (.int .i64 (refuse op a b)) ∧ w = w' := by
  by_cases ho : 109 ≤ op ∧ op ≤ 112
  · by_cases hb : b = 0
    · subst hb
      rw [refuse_zero ho]
      have hh : op = 109 ∨ op = 110 ∨ op = 111 ∨ op = 112 := by omega
      rcases hh with rfl | rfl | rfl | rfl
      all_goals
        clear ho
        go_enter Tryd.func25, Tryd.ntmps25
        go_wp2
        go_ret
        exact ⟨rfl, rfl⟩
    · by_cases h9 : op = 109 ∧ a = 2147483648 ∧ b = 4294967295
      · obtain ⟨rfl, rfl, rfl⟩ := h9
        clear ho hb
        go_enter Tryd.func25, Tryd.ntmps25
        go_wp2
        go_ret
        exact ⟨rfl, rfl⟩
      · have hz : refuse op a b = 0 := by unfold refuse; rw [if_pos ho, if_neg hb, if_neg h9]
        rw [hz]
        have hh : op = 109 ∧ a ≠ 2147483648 ∨ op = 109 ∧ a = 2147483648 ∧ b ≠ 4294967295 ∨ op = 110 ∨ op = 111 ∨ op = 112 := by omega
        have hb0 : 0 < b := by omega
        clear hz h9
        rcases hh with ⟨rfl, hn⟩ | ⟨rfl, rfl, hn⟩ | rfl | rfl | rfl
        · have hn' : a < 2147483648 ∨ 2147483648 < a := by omega
          clear hn hb ho
          rcases hn' with hn' | hn'
          all_goals
            go_enter Tryd.func25, Tryd.ntmps25
            go_wp2
            go_ret
            exact ⟨rfl, rfl⟩
        · have hn' : b < 4294967295 := by omega
          clear hn hb ho
          go_enter Tryd.func25, Tryd.ntmps25
          go_wp2
          go_ret
          exact ⟨rfl, rfl⟩
        all_goals
          clear hb ho
          go_enter Tryd.func25, Tryd.ntmps25
          go_wp2
          go_ret
          exact ⟨rfl, rfl⟩
  · have ho' : op < 109 ∨ 112 < op := by omega
    rw [refuse_out ho']
    clear ho
    rcases ho' with ho' | ho'
    all_goals
      go_enter Tryd.func25, Tryd.ntmps25
      go_wp2
      go_ret
      exact ⟨rfl, rfl⟩
theorem combine_any (op a b : Int) (w : World) (ho : arity op = 2) (h0 : 0 ≤ a) (h1 : a < 4294967296) (k0 : 0 ≤ b) (k1 : b < 4294967296) (hr : refuse op a b = 0) :
    Calls Tryd.prog 26 #[.int .i64 op, .int .u32 a, .int .u32 b] w fun e w' => e = .returned (.int .u32 (comb op a b)) ∧ w = w' := by
  have h := arity_two ho
  by_cases h1' : op ≤ 79
  · exact combine_cmp op a b w (by omega) h0 h1 k0 k1
  · by_cases h2 : 109 ≤ op ∧ op ≤ 112
    · exact combine_div op a b w h2 h0 h1 k0 k1 hr
    · exact combine_plain op a b w (by omega) h0 h1 k0 k1

set_option maxHeartbeats 800000 in
theorem Two_any (op a b : Int) (w : World) (h0 : 0 ≤ a) (h1 : a < 4294967296) (k0 : 0 ≤ b) (k1 : b < 4294967296) (hT : Arit w) :
    Calls Tryd.prog 15 #[.int .i64 op, .int .u32 a, .int .u32 b] w fun e w' => e = .returned (.tuple #[.int .u32 (twoV op a b), .int .i64 (twoE op a b)]) ∧ w = w' := by
  have CA := Arity_any op w hT
  have CR := refusal_any op a b w h0 h1 k0 k1
  have hrr := refuse_range op a b
  by_cases ha : arity op = 2
  · have CC := combine_any op a b w ha h0 h1 k0 k1
    rw [ha] at CA
    have E : twoE op a b = refuse op a b := by unfold twoE; rw [if_pos ha]
    rw [E]
    by_cases hr : refuse op a b = 0
    · have V : twoV op a b = comb op a b := by unfold twoV; rw [if_pos ⟨ha, hr⟩]
      rw [V]
      rw [hr] at CR ⊢
      have CC := CC hr
      generalize comb op a b = c at *
      clear E V ha hr hrr
      have CA := hid CA
      have CR := hid CR
      have CC := hid CC
      go_enter Tryd.func15, Tryd.ntmps15
      go_wp2_with fail
      refine CA.out.mono ?_
      rintro e w' ⟨rfl, rfl⟩
      go_wp2_with fail
      refine CR.out.mono ?_
      rintro e w' ⟨rfl, rfl⟩
      go_wp2_with fail
      refine CC.out.mono ?_
      rintro e w' ⟨rfl, rfl⟩
      go_wp2
      go_ret2
      exact ⟨rfl, rfl⟩
    · have V : twoV op a b = 0 := by unfold twoV; rw [if_neg (fun h => hr h.2)]
      rw [V]
      have hr' : 0 < refuse op a b := by omega
      clear CC
      generalize refuse op a b = c at *
      clear E V ha hr
      have CA := hid CA
      have CR := hid CR
      go_enter Tryd.func15, Tryd.ntmps15
      go_wp2_with fail
      refine CA.out.mono ?_
      rintro e w' ⟨rfl, rfl⟩
      go_wp2_with fail
      refine CR.out.mono ?_
      rintro e w' ⟨rfl, rfl⟩
      go_wp2
      go_ret2
      exact ⟨rfl, rfl⟩
  · have V : twoV op a b = 0 := by unfold twoV; rw [if_neg (fun h => ha h.1)]
    have E : twoE op a b = 2 := by unfold twoE; rw [if_neg ha]
    rw [V, E]
    have hr := arity_range op
    have ha' : arity op < 2 := by omega
    generalize arity op = c at *
    clear E V ha CR hrr
    have CA := hid CA
    go_enter Tryd.func15, Tryd.ntmps15
    go_wp2_with fail
    refine CA.out.mono ?_
    rintro e w' ⟨rfl, rfl⟩
    go_wp2
    go_ret2
    exact ⟨rfl, rfl⟩
end Go.Proofs.YtabffkninpikpaaDoor.Num
