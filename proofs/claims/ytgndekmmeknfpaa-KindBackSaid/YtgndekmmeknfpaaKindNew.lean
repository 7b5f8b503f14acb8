/-
  Kind: newReader, and the two deferred closures, by contract.
-/
import Derived.Test.YtgndekmmeknfpaaKindWords
import Derived.Defers
import Derived.FnLit
namespace Go.Proofs.Ytgndekmmeknfpaa.Kind
open Go.RowKit

/-- A new reader in the next block. -/
def NewR (w : World) (v : Value) (s : Rd) (e : Ending) (w' : World) : Prop := e = .returned (.pointer (some ⟨w.heap.size, 0, none⟩)) ∧ RdIs w' w.heap.size v s ∧ Below w.heap.size w w'

theorem rd_new (w : World) (v : Value) (p : Int) (t : TypeId) : RdIs (w.alloc (.cells #[v, .int .i64 p, .int .i64 0, .int .i64 0] t)) w.heap.size v (p, 0, 0) := by
  refine ⟨?_, ?_, ?_, ?_, ?_, ?_, ?_, ?_⟩ <;> go_simp

set_option maxHeartbeats 800000 in
theorem newReader_any (av : Option Addr) (len cap : Nat) (zs : List Int) (p : Int) (w : World) (hlen : zs.length = len) :
    Calls Try.prog 25 #[.slice av len cap, .int .i64 p] w (NewR w (.slice av len cap) (startR zs p)) := by
  have hR := rd_new w (.slice av len cap) p 52
  have HR := hid hR
  have hB : Below w.heap.size w (w.alloc (.cells #[.slice av len cap, .int .i64 p, .int .i64 0, .int .i64 0] 52)) := (Below.refl _ _).alloc (Nat.le_refl _) _
  have HB := hid hB
  clear hR hB
  by_cases h0 : p < 0
  · have HS : Hid (startR zs p = (p, 5, 0)) := by show _ = _; unfold startR; rw [if_pos (.inl h0)]
    clear hlen
    go_enter Try.func25, Try.ntmps25
    go_wp2_with fail
    refine (refuse_any w.heap.size _ _ 5 0 _ HR.out).mono ?_
    rintro e2 w2 ⟨rfl, h2, s2⟩
    go_wp2
    go_ret
    rw [HS.out]
    exact ⟨rfl, h2, HB.out.trans (s2.below (by simp) (Nat.le_refl _))⟩
  · by_cases h1 : (len : Int) < p
    · have HS : Hid (startR zs p = (p, 5, 0)) := by show _ = _; unfold startR; rw [if_pos (.inr (by omega))]
      clear hlen
      go_enter Try.func25, Try.ntmps25
      go_wp2_with fail
      refine (refuse_any w.heap.size _ _ 5 0 _ HR.out).mono ?_
      rintro e2 w2 ⟨rfl, h2, s2⟩
      go_wp2
      go_ret
      rw [HS.out]
      exact ⟨rfl, h2, HB.out.trans (s2.below (by simp) (Nat.le_refl _))⟩
    · have HS : Hid (startR zs p = (p, 0, 0)) := by show _ = _; unfold startR; rw [if_neg (by omega)]
      clear hlen
      go_enter Try.func25, Try.ntmps25
      go_wp2
      go_ret
      rw [HS.out]
      exact ⟨rfl, HR.out, HB.out⟩

theorem closeT_ok (R F T N k : Nat) (f : Int) (u v : Value) (w : World) (hr : w.cell? ⟨R, 0, none⟩ = some (.pointer (some ⟨k, 0, none⟩))) (c2 : w.cell? ⟨k, 2, none⟩ = some (.int .i64 0)) (c3 : w.cell? ⟨k, 3, none⟩ = some (.int .i64 f))
    (f0 : w.cell? ⟨F, 0, none⟩ = some u) (f1 : w.cell? ⟨F, 1, none⟩ = some v) (g0 : w.frozen? ⟨F, 0, none⟩ = false) (g1 : w.frozen? ⟨F, 1, none⟩ = false) :
    CallsD Try.prog 26 #[.pointer (some ⟨R, 0, none⟩), .pointer (some ⟨F, 0, none⟩), .pointer (some ⟨T, 0, none⟩), .pointer (some ⟨N, 0, none⟩)] .returning w
      fun e u' w' => u' = .returning ∧ (e = .returned (.tuple #[]) ∧ w' = (w.setCell ⟨F, 0, none⟩ (.int .i64 0)).setCell ⟨F, 1, none⟩ (.int .i64 f)) := by
  go_enter_d Try.func26, Try.ntmps26
  go_wp2
  go_end0
  exact ⟨rfl, rfl⟩

theorem closeT_no (R F T N k : Nat) (e f : Int) (u v x y n : Value) (w : World) (he : e ≠ 0) (hr : w.cell? ⟨R, 0, none⟩ = some (.pointer (some ⟨k, 0, none⟩))) (c2 : w.cell? ⟨k, 2, none⟩ = some (.int .i64 e)) (c3 : w.cell? ⟨k, 3, none⟩ = some (.int .i64 f))
    (f0 : w.cell? ⟨F, 0, none⟩ = some u) (f1 : w.cell? ⟨F, 1, none⟩ = some v) (g0 : w.frozen? ⟨F, 0, none⟩ = false) (g1 : w.frozen? ⟨F, 1, none⟩ = false)
    (t0 : w.cell? ⟨T, 0, none⟩ = some x) (t1 : w.cell? ⟨T, 1, none⟩ = some y) (i0 : w.frozen? ⟨T, 0, none⟩ = false) (i1 : w.frozen? ⟨T, 1, none⟩ = false)
    (n0 : w.cell? ⟨N, 0, none⟩ = some n) (j0 : w.frozen? ⟨N, 0, none⟩ = false) (hTF : T ≠ F) (hNF : N ≠ F) (hNT : N ≠ T) :
    CallsD Try.prog 26 #[.pointer (some ⟨R, 0, none⟩), .pointer (some ⟨F, 0, none⟩), .pointer (some ⟨T, 0, none⟩), .pointer (some ⟨N, 0, none⟩)] .returning w
      fun e' u' w' => u' = .returning ∧ (e' = .returned (.tuple #[]) ∧ w' = ((((w.setCell ⟨F, 0, none⟩ (.int .i64 e)).setCell ⟨F, 1, none⟩ (.int .i64 f)).setCell ⟨T, 0, none⟩ (.int .i64 0)).setCell ⟨T, 1, none⟩ (.int .i64 0)).setCell ⟨N, 0, none⟩ (.int .i64 0)) := by
  have he1 : (e != 0) = true := by simp [he]
  have he2 : ¬ e = 0 := he
  have hTF' : ¬ F = T := fun h => hTF h.symm
  have hNF' : ¬ F = N := fun h => hNF h.symm
  have hNT' : ¬ T = N := fun h => hNT h.symm
  clear he
  go_enter_d Try.func26, Try.ntmps26
  go_wp2
  go_end0
  exact ⟨rfl, rfl⟩
end Go.Proofs.Ytgndekmmeknfpaa.Kind
