/-
  Kind: GetLimits, by contract, in one piece.
-/
import Derived.Test.YtgndekmmeknfpaaKindLim
namespace Go.Proofs.Ytgndekmmeknfpaa.Kind
open Go.RowKit Go.Proofs.Ytgndekmmeknfpaa.Leb

theorem getLim_fin (zs : List Int) (p most : Int) (c6 n x : Int) (q6 q7 q8 : Rd) (e6 : oneR zs is01 (startR zs p) = (c6, q6)) (e7 : numR zs q6 = (n, q7)) (e8 : numR zs q7 = (x, q8)) :
    getLim zs p most = finL n (if c6 = 1 then x else 0) (decide (c6 = 1)) (
      (fun s4 => if c6 = 1 ∧ (most < (if c6 = 1 then x else 0) ∨ (if c6 = 1 then x else 0) < n) then refuseR s4 141 q7.1 else s4) (if most < n then refuseR (if c6 = 1 then q8 else q7) 141 q6.1 else (if c6 = 1 then q8 else q7))) := by
  unfold getLim finL
  simp only [e6, e7, e8]
  by_cases hc : c6 = 1 <;> simp [hc]

theorem getL_any (av : Option Addr) (len cap : Nat) (zs : List Int) (p most : Int) (w : World) (hlen : zs.length = len) (hz : Bytes w av zs) (hm : 0 ≤ most ∧ most ≤ 4294967295) :
    Calls Try.prog 17 #[.slice av len cap, .int .i64 p, .int .u32 most] w (GotL w (getLim zs p most)) := by
  obtain ⟨c6, q6, e6⟩ : ∃ c6 q6, oneR zs is01 (startR zs p) = (c6, q6) := ⟨_, _, rfl⟩
  obtain ⟨n, q7, e7⟩ : ∃ n q7, numR zs q6 = (n, q7) := ⟨_, _, rfl⟩
  obtain ⟨x, q8, e8⟩ : ∃ x q8, numR zs q7 = (x, q8) := ⟨_, _, rfl⟩
  rw [getLim_fin zs p most c6 n x q6 q7 q8 e6 e7 e8]
  by_cases hc : c6 = 1
  · by_cases hn : most < n
    · by_cases hx : most < x
      · have := getLim_111 av len cap zs p most w hlen hz c6 n x q6 q7 q8 e6 e7 e8 hm hc hn hx
        simpa [hc, hn, hx] using this
      · by_cases hy : x < n
        · have := getLim_112 av len cap zs p most w hlen hz c6 n x q6 q7 q8 e6 e7 e8 hm hc hn hx hy
          simpa [hc, hn, hx, hy] using this
        · omega
    · by_cases hx : most < x
      · have := getLim_101 av len cap zs p most w hlen hz c6 n x q6 q7 q8 e6 e7 e8 hm hc hn hx
        simpa [hc, hn, hx] using this
      · by_cases hy : x < n
        · have := getLim_102 av len cap zs p most w hlen hz c6 n x q6 q7 q8 e6 e7 e8 hm hc hn hx hy
          simpa [hc, hn, hx, hy] using this
        · have := getLim_100 av len cap zs p most w hlen hz c6 n x q6 q7 q8 e6 e7 e8 hm hc hn hx hy
          simpa [hc, hn, hx, hy] using this
  · by_cases hn : most < n
    · have := getLim_010 av len cap zs p most w hlen hz c6 n x q6 q7 q8 e6 e7 e8 hm hc hn
      simpa [hc, hn] using this
    · have := getLim_000 av len cap zs p most w hlen hz c6 n x q6 q7 q8 e6 e7 e8 hm hc hn
      simpa [hc, hn] using this
end Go.Proofs.Ytgndekmmeknfpaa.Kind
