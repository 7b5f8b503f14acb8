/-
  LEX: the document's writer: Named: by contract.
-/
import Derived.Test.YtojgibigmoaejaaDoorLexRefA
namespace Go.Proofs.YtojgibigmoaejaaDoor.Lex
open Go.RowKit Go.Proofs.YtojgibigmoaejaaDoor.Utf
set_option linter.unusedSimpArgs false
set_option linter.unusedVariables false

/-- A name of this kind, as the document has it. -/
def namedB (k : Int) (zs : List Int) : Bool :=
  decide (zs.length ≠ 0) && decide (zs.length ≤ 64) && zs.all letterB && (if k = 4 then greatB (zs.getD 0 0) else if k = 5 then smallB (zs.getD 0 0) else beginsB (zs.getD 0 0) && decide (zs ≠ [95]) && !keysL.contains zs)
theorem takeWhile_eq (p : Int → Bool) : ∀ zs : List Int, decide (zs.takeWhile p = zs) = zs.all p
  | [] => rfl
  | c :: t => by
    rw [List.takeWhile_cons, List.all_cons]
    cases hp : p c with
    | true => simp only [if_true, Bool.true_and, ← takeWhile_eq p t, List.cons.injEq, true_and]
    | false => simp
theorem named_may {k n a : Int} {zs : List Int} (hk : k = 3 ∨ k = 4 ∨ k = 5) : mayB ⟨k, n, a, zs⟩ = (decide (n = 0) && namedB k zs) := by
  unfold mayB namedB
  rcases hk with rfl | rfl | rfl
  · by_cases hn : n = 0
    · simp only [hn, nameB, takeWhile_eq]
      simp only [show ¬ (3 : Int) = 1 by decide, if_false, ne_eq, not_true, if_true, show ¬ (3 : Int) = 2 by decide, show ¬ (3 : Int) = 4 by decide, show ¬ (3 : Int) = 5 by decide, decide_true, Bool.true_and]
      generalize decide (¬zs = [95]) = q1
      generalize keysL.contains zs = q2
      generalize decide (¬zs.length = 0) = q3
      generalize decide (zs.length ≤ 64) = q4
      generalize beginsB (zs.getD 0 0) = q5
      generalize zs.all letterB = q6
      revert q1 q2 q3 q4 q5 q6
      decide
    · simp [hn]
  · by_cases hn : n = 0
    · simp only [hn, nameB, takeWhile_eq]
      simp only [show ¬ (4 : Int) = 1 by decide, if_false, ne_eq, not_true, if_true, show ¬ (4 : Int) = 2 by decide, show ¬ (4 : Int) = 3 by decide, decide_true, Bool.true_and]
      generalize decide (¬zs.length = 0) = q3
      generalize decide (zs.length ≤ 64) = q4
      generalize greatB (zs.getD 0 0) = q5
      generalize zs.all letterB = q6
      revert q3 q4 q5 q6
      decide
    · simp [hn]
  · by_cases hn : n = 0
    · simp only [hn, nameB, takeWhile_eq]
      simp only [show ¬ (5 : Int) = 1 by decide, if_false, ne_eq, not_true, if_true, show ¬ (5 : Int) = 2 by decide, show ¬ (5 : Int) = 3 by decide, show ¬ (5 : Int) = 4 by decide, decide_true, Bool.true_and]
      generalize decide (¬zs.length = 0) = q3
      generalize decide (zs.length ≤ 64) = q4
      generalize smallB (zs.getD 0 0) = q5
      generalize zs.all letterB = q6
      revert q3 q4 q5 q6
      decide
    · simp [hn]
end Go.Proofs.YtojgibigmoaejaaDoor.Lex
