/-
  MEMORY: any call of both.
-/
import Derived.Test.YtcgjlbpokmlkbaaDoorMemActS
import Derived.Test.YtcgjlbpokmlkbaaDoorMemActR
import Derived.Test.YtcgjlbpokmlkbaaDoorMemActW
namespace Go.Proofs.YtcgjlbpokmlkbaaDoor.Mem
open Go.RowKit Go.Proofs.YtcgjlbpokmlkbaaDoor.Instr Go.Proofs.YtcgjlbpokmlkbaaDoor.Num
set_option linter.unusedVariables false

def AT.agg (y : AT) : Value := .agg #[.int .i64 y.kind, .int .i64 y.op, .int .u32 y.at_, .int .u32 y.off, .int .u32 y.v, .slice y.ba y.bl y.bc]
theorem act_any {B : Nat} {W : World} {p q K : Nat} {m : Mm} (hM : MemIs B W p K m) (hI : RefIs B W q K m) (hB : B ≤ W.heap.size) (hT : Arit W) (y : AT) (hy : y.Good B W) (hl : y.bl ≤ 300) (hK : K + 300 ≤ 1000000) :
    Calls Tryd.prog 12 #[.pointer (some ⟨p, 0, none⟩), .pointer (some ⟨q, 0, none⟩), y.agg] W fun e w' => e = .returned (.bool true) ∧ Both B W p q (K + 300) w' := by
  obtain ⟨k, op, x, o, v, a, n, c, zs⟩ := y
  obtain ⟨hx, ho, hv, hn, hz, hc, hlow⟩ := hy
  simp only at hx ho hv hn hz hc hlow hl
  simp only [AT.agg]
  obtain ⟨x', rfl⟩ : ∃ x' : Nat, x = (x' : Int) := ⟨x.toNat, by omega⟩
  obtain ⟨v', rfl⟩ : ∃ v' : Nat, v = (v' : Int) := ⟨v.toNat, by omega⟩
  by_cases h0 : k = 0
  · subst h0; exact act_load hM hI hB hT op x' o v' a n c hx ho
  by_cases h1 : k = 1
  · subst h1; exact act_store hM hI hB (by omega) hT op x' o v' a n c hx ho hv
  by_cases h2 : k = 2
  · subst h2; exact act_grow hM hI hB op x' o v' a n c (by omega)
  by_cases h3 : k = 3
  · subst h3; exact act_read hM hI hB op o x' v' a n c (by omega) (by omega)
  by_cases h4 : k = 4
  · subst h4; exact act_write hM hI hB op o v' x' a n c zs (by omega) hn hz hl hlow hK
  exact act_none hM hI hB k op x' o v' a n c h0 h1 h2 h3 h4
end Go.Proofs.YtcgjlbpokmlkbaaDoor.Mem
