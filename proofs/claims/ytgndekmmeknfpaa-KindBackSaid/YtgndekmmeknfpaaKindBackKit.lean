/-
  KindBack: what its four calls tell, plain.
-/
import Derived.Test.YtgndekmmeknfpaaKindPuts
import Derived.Test.YtgndekmmeknfpaaKindKnownC
import Derived.Test.YtgndekmmeknfpaaKindBackPlain
namespace Go.Proofs.Ytgndekmmeknfpaa
set_option linter.unusedVariables false
open Go.RowKit Leb Kind

theorem own_empty (w : World) : Own w.heap.size (w.alloc (.cells #[] 5)) (.slice (some ⟨w.heap.size, 0, none⟩) 0 0) [] := by
  refine ⟨rfl, .inr ⟨w.heap.size, 0, #[], rfl, Nat.le_refl _, ?_, Nat.le_refl _, by unfold maxLen; omega, rfl, rfl⟩⟩
  show (w.heap.push _)[w.heap.size]? = _
  simp
theorem back_type {p r : Int} {m : Nat} (h : okType p r = true) (hm : (putZ p r).length = m) : m ≤ 1000 ∧ (∀ z ∈ putZ p r, 0 ≤ z ∧ z < 256) ∧ ∀ b, getT (putZ p r ++ b) 0 = (p, r, (m : Int), 0, 0) := by
  have e1 : putZ p r = typeL p r := by unfold putZ; rw [if_pos h]
  rw [e1] at hm ⊢
  obtain ⟨a, b, rfl, rfl, ha, hb⟩ := okType_nat h
  refine ⟨by rw [← hm]; exact typeL_le a b ha hb, typeL_bytes _ _, fun y => ?_⟩
  rw [getT_put a b ha hb y, hm]
theorem back_lim {n x most : Int} {c : Bool} {m : Nat} (h : okLim n x c most = true) (h0 : 0 ≤ n ∧ n ≤ 4294967295) (h1 : 0 ≤ x ∧ x ≤ 4294967295) (hm : (limZ n x c most).length = m) :
    m ≤ 1000 ∧ (∀ z ∈ limZ n x c most, 0 ≤ z ∧ z < 256) ∧ ∀ b, getLim (limZ n x c most ++ b) 0 most = (n, x, c, (m : Int), 0, 0) := by
  have e1 : limZ n x c most = limL n x c := by unfold limZ; rw [if_pos h]
  rw [e1] at hm ⊢
  refine ⟨by rw [← hm]; exact limL_le _ _ _, limL_bytes _ _ _, fun y => ?_⟩
  rw [getLim_put n x c most h ⟨h0.1, by omega⟩ ⟨h1.1, by omega⟩ y, hm]
theorem short_type {zs : List Int} (hz : ∀ c ∈ zs, 0 ≤ c ∧ c < 256) : ∃ (a b q e f : Int) (m : Nat) (k : Int), getT zs 0 = (a, b, q, e, f) ∧
    (∀ W, Calls Try.prog 6 #[.agg #[.int .i64 a, .int .i64 b]] W (PutRes W (putZ a b) m k)) ∧ (e = 0 → k = 0 ∧ (m : Int) ≤ q) := by
  obtain ⟨a, b, q, e, f, h⟩ : ∃ a b q e f, getT zs 0 = (a, b, q, e, f) := ⟨_, _, _, _, _, rfl⟩
  refine ⟨a, b, q, e, f, (putZ a b).length, codeType a b, h, fun W => put_any a b _ rfl W, fun he => ?_⟩
  obtain ⟨m, n, rfl, rfl, h1, h2, h3⟩ := getT_short hz h he
  have ok : okType (m : Int) (n : Int) = true := by unfold okType; simp; omega
  refine ⟨by unfold codeType; rw [if_pos ok], ?_⟩
  unfold putZ; rw [if_pos ok]; omega
theorem short_lim {zs : List Int} (hz : ∀ c ∈ zs, 0 ≤ c ∧ c < 256) (most : Int) : ∃ (a b : Int) (c : Bool) (q e f : Int) (m : Nat) (k : Int), getLim zs 0 most = (a, b, c, q, e, f) ∧
    (∀ W, Calls Try.prog 8 #[.agg #[.int .u32 a, .int .u32 b, .bool c], .int .u32 most] W (PutRes W (limZ a b c most) m k)) ∧ (e = 0 → k = 0 ∧ (m : Int) ≤ q) := by
  obtain ⟨a, b, c, q, e, f, h⟩ : ∃ a b c q e f, getLim zs 0 most = (a, b, c, q, e, f) := ⟨_, _, _, _, _, _, rfl⟩
  by_cases he : e = 0
  · obtain ⟨ok, h1, h2, h3⟩ := getLim_short hz h he
    refine ⟨a, b, c, q, e, f, (limZ a b c most).length, codeLim a b c most, h, fun W => putLim_any a b c most _ rfl h2 h3 W, fun _ => ⟨by unfold codeLim; rw [if_pos ok], ?_⟩⟩
    unfold limZ; rw [if_pos ok]; omega
  · obtain ⟨rfl, rfl, rfl⟩ : a = 0 ∧ b = 0 ∧ c = false := by
      exact getLim_zero h he
    exact ⟨0, 0, false, q, e, f, (limZ 0 0 false most).length, codeLim 0 0 false most, h, fun W => putLim_any 0 0 false most _ rfl (by decide) (by decide) W, fun h9 => absurd h9 he⟩
end Go.Proofs.Ytgndekmmeknfpaa
