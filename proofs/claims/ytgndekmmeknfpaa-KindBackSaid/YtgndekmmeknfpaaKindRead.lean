/-
  Kind: the reader's small methods by contracts: faulty, refuse, oneOf; slices.Contains of bytes.
-/
import Derived.Test.YtgndekmmeknfpaaSave
import Derived.Test.YtgndekmmeknfpaaKindPlain
import Derived.BigQuiet
import Derived.Deep.QuietTactic
namespace Go.Proofs.Ytgndekmmeknfpaa.Kind
open Go.RowKit

/-- The reader in block k: over the bytes of v, in the state s. -/
structure RdIs (w : World) (k : Nat) (v : Value) (s : Rd) : Prop where
  c0 : w.cell? ⟨k, 0, none⟩ = some v
  c1 : w.cell? ⟨k, 1, none⟩ = some (.int .i64 s.1)
  c2 : w.cell? ⟨k, 2, none⟩ = some (.int .i64 s.2.1)
  c3 : w.cell? ⟨k, 3, none⟩ = some (.int .i64 s.2.2)
  f0 : w.frozen? ⟨k, 0, none⟩ = false
  f1 : w.frozen? ⟨k, 1, none⟩ = false
  f2 : w.frozen? ⟨k, 2, none⟩ = false
  f3 : w.frozen? ⟨k, 3, none⟩ = false
theorem RdIs.below {w w' : World} {k : Nat} {v : Value} {s : Rd} (h : RdIs w k v s) (hb : Below w.heap.size w w') : RdIs w' k v s := by
  have hk := World.block_lt_of_cell? w _ h.c0
  exact ⟨keep hb h.c0, keep hb h.c1, keep hb h.c2, keep hb h.c3, (hb.frozen (p := ⟨k, 0, none⟩) hk).trans h.f0, (hb.frozen (p := ⟨k, 1, none⟩) hk).trans h.f1, (hb.frozen (p := ⟨k, 2, none⟩) hk).trans h.f2, (hb.frozen (p := ⟨k, 3, none⟩) hk).trans h.f3⟩
theorem RdIs.save {w w' : World} {k j : Nat} {v : Value} {s : Rd} (h : RdIs w k v s) (hb : Save j w w') (hj : k ≠ j) : RdIs w' k v s := by
  have hk := World.block_lt_of_cell? w _ h.c0
  exact ⟨hb.cell hj h.c0, hb.cell hj h.c1, hb.cell hj h.c2, hb.cell hj h.c3, hb.frozen hk hj h.f0, hb.frozen hk hj h.f1, hb.frozen hk hj h.f2, hb.frozen hk hj h.f3⟩

/-- What a method does: this it hands back, in this state it leaves the reader; nothing else turns. -/
def Does (k : Nat) (v : Value) (w : World) (r : Value) (s : Rd) (e : Ending) (w' : World) : Prop := e = .returned r ∧ RdIs w' k v s ∧ Save k w w'

theorem faulty_no (k : Nat) (v : Value) (s : Rd) (w : World) (h : RdIs w k v s) (h0 : s.2.1 = 0) :
    Calls Try.prog 36 #[.pointer (some ⟨k, 0, none⟩)] w fun e w' => e = .returned (.bool false) ∧ w = w' := by
  have c2 := h.c2
  rw [h0] at c2
  clear h h0
  go_enter Try.func36, Try.ntmps36
  go_wp2
  go_ret
  exact ⟨rfl, rfl⟩
theorem faulty_yes (k : Nat) (v : Value) (s : Rd) (w : World) (h : RdIs w k v s) (h0 : s.2.1 ≠ 0) :
    Calls Try.prog 36 #[.pointer (some ⟨k, 0, none⟩)] w fun e w' => e = .returned (.bool true) ∧ w = w' := by
  have c2 := h.c2
  have hn : ¬ s.2.1 = 0 := h0
  have hb : (s.2.1 != 0) = true := by simp [h0]
  generalize s.2.1 = er at *
  clear h h0
  go_enter Try.func36, Try.ntmps36
  go_wp2
  go_ret
  exact ⟨ret_bool (by first | rfl | simpa using hn), rfl⟩

theorem refuse_any (k : Nat) (v : Value) (s : Rd) (e f : Int) (w : World) (h : RdIs w k v s) :
    Calls Try.prog 31 #[.pointer (some ⟨k, 0, none⟩), .int .i64 e, .int .i64 f] w (Does k v w (.tuple #[]) (refuseR s e f)) := by
  have h2 := h.f2
  have h3 := h.f3
  have k2 := h.c2
  have k3 := h.c3
  by_cases h0 : s.2.1 = 0
  · have hf := faulty_no k v s w h h0
    have HE : Hid (refuseR s e f = (s.1, e, f)) := by unfold refuseR; rw [if_pos h0]; rfl
    have H0 := hid h0
    clear h0
    go_enter Try.func31, Try.ntmps31
    go_wp2_with fail
    refine hf.mono ?_
    rintro e1 w1 ⟨rfl, rfl⟩
    clear hf
    go_wp2
    go_end0
    refine ⟨rfl, ?_, ?_⟩
    · rw [HE.out]
      refine ⟨?_, ?_, ?_, ?_, ?_, ?_, ?_, ?_⟩ <;> simp [go_sem, h.c0, h.c1, h.c2, h.c3, h.f0, h.f1, h.f2, h.f3]
    · exact ((Save.refl k w).setCell (p := ⟨k, 2, none⟩) (.inl rfl) _).setCell (p := ⟨k, 3, none⟩) (.inl rfl) _
  · have hf := faulty_yes k v s w h h0
    have HE : Hid (refuseR s e f = s) := by unfold refuseR; rw [if_neg h0]; rfl
    clear h0 h2 h3 k2 k3
    go_enter Try.func31, Try.ntmps31
    go_wp2_with fail
    refine hf.mono ?_
    rintro e1 w1 ⟨rfl, rfl⟩
    clear hf
    go_wp2
    go_end0
    exact ⟨rfl, by rw [HE.out]; exact h, Save.refl _ _⟩

/-- Where a byte stands in a list: some number that is not below 0 just if it does. -/
def Finds (ls : List Int) (x : Int) (w : World) (e : Ending) (w' : World) : Prop := ∃ j : Int, e = .returned (.int .i64 j) ∧ decide (0 ≤ j) = ls.contains x ∧ w = w'
theorem contains_drop {ls : List Int} {x : Int} {i : Nat} (hi : i < ls.length) (h : (ls.drop i).contains x = ls.contains x) (hx : x ≠ ls.getD i 0) : (ls.drop (i + 1)).contains x = ls.contains x := by
  rw [← h, drop_at hi, List.contains_cons]
  have : (x == ls.getD i 0) = false := by simpa using hx
  rw [this, Bool.false_or]
theorem contains_here {ls : List Int} {x : Int} {i : Nat} (hi : i < ls.length) (h : (ls.drop i).contains x = ls.contains x) (hx : x = ls.getD i 0) : ls.contains x = true := by
  rw [← h, drop_at hi, List.contains_cons, hx]
  simp
set_option maxHeartbeats 400000 in
theorem index_any (a : Option Addr) (len cap : Nat) (ls : List Int) (x : Int) (w : World) (hlen : ls.length = len) (hz : Bytes w a ls) :
    Calls Try.prog 42 #[.slice a len cap, .int .u8 x] w (Finds ls x w) := by
  have hmax := hz.size
  rw [hlen] at hmax
  have HL := hid hlen
  clear hlen
  go_enter Try.func42, Try.ntmps42
  go_wp2
  go_loop [8] (fun si => ∃ i : Nat, i ≤ len ∧ si = .int .i64 i ∧ Hid ((ls.drop i).contains x = ls.contains x)) (fun si => len - (intOf si).toNat)
  case atStart => exact ⟨0, by omega, rfl, rfl⟩
  case round =>
    obtain ⟨i, hi, rfl, HC⟩ := hrel
    by_cases hlt : i < len
    · have hil : i < ls.length := by have := HL.out; omega
      obtain ⟨b, off, rfl, hcell⟩ := hz.at (by omega)
      have hc := hcell i hil
      clear hcell
      by_cases hx : x = ls.getD i 0
      · have HY := hid (contains_here hil HC.out hx)
        rw [← hx] at hc
        clear hx
        go_wp2
        go_ret
        exact ⟨i, rfl, by rw [HY.out]; simp, rfl⟩
      · have HY := hid (contains_drop hil HC.out hx)
        generalize ls.getD i 0 = y at hx hc
        have hx' : (x == y) = false := by simpa using hx
        go_wp2
        go_round
        case rel => exact ⟨i + 1, by omega, by go_num, HY⟩
        case measure => simp [intOf]; omega
    · have HY : Hid (ls.contains x = false) := by
        show _ = _
        rw [← HC.out, List.drop_eq_nil_of_le (by have := HL.out; omega)]; rfl
      go_wp2
      go_ret
      exact ⟨-1, rfl, by rw [HY.out]; rfl, rfl⟩
set_option maxHeartbeats 400000 in
theorem contains_any (a : Option Addr) (len cap : Nat) (ls : List Int) (x : Int) (w : World) (hlen : ls.length = len) (hz : Bytes w a ls) :
    Calls Try.prog 37 #[.slice a len cap, .int .u8 x] w fun e w' => e = .returned (.bool (ls.contains x)) ∧ w = w' := by
  have hI := index_any a len cap ls x w hlen hz
  clear hlen hz
  go_enter Try.func37, Try.ntmps37
  go_wp2_with fail
  refine hI.mono ?_
  rintro e w' ⟨j, rfl, hj, rfl⟩
  have HJ := hid hj
  clear hj hI
  go_wp2
  go_ret
  exact ⟨ret_bool HJ.out, rfl⟩
end Go.Proofs.Ytgndekmmeknfpaa.Kind
