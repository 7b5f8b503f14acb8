/-
  The chapter's examples, call by call. (Written by wip/tools/gen_kindknown.py.)
-/
import Derived.Test.YtgndekmmeknfpaaKindAll
namespace Go.Proofs.Ytgndekmmeknfpaa
set_option linter.unusedVariables false
open Go.RowKit Leb Kind

/-- Behind one call: two cells of the frame's. -/
def Two (w : World) (k : Nat) (x y : Value) : Prop := w.cell? ⟨k, 0, none⟩ = some x ∧ w.cell? ⟨k, 1, none⟩ = some y
theorem Two.below {w w' : World} {k : Nat} {x y : Value} (h : Two w k x y) (hb : Below w.heap.size w w') : Two w' k x y := ⟨keep hb h.1, keep hb h.2⟩
theorem three_two {W w' : World} {x y z u v : Value} {t t' : TypeId} (hb : Below ((W.alloc (.cells #[x, y, z] t)).alloc (.cells #[u, v] t')).heap.size ((W.alloc (.cells #[x, y, z] t)).alloc (.cells #[u, v] t')) w') :
    w'.cell? ⟨W.heap.size + 1, 0, none⟩ = some u ∧ w'.cell? ⟨W.heap.size + 1, 1, none⟩ = some v := by
  obtain ⟨hc, _⟩ := old hb
  refine ⟨(hc _ _ (by simp)).trans ?_, (hc _ _ (by simp)).trans ?_⟩ <;> go_simp
theorem av_lt {w' : World} {k : Nat} (hk : k < w'.heap.size) : ∀ b off, (some (⟨k, 0, none⟩ : Addr)) = some ⟨b, off, none⟩ → b < w'.heap.size := by
  intro b off h; simp at h; omega
theorem known0 (W : World) (g : Nat) (hg : g = W.heap.size) : Calls Try.prog 16 #[.slice (some ⟨g, 0, none⟩) 3 3, .int .i64 0] (W.alloc (.cells #[.int .u8 96, .int .u8 0, .int .u8 2] 5)) (GotT (W.alloc (.cells #[.int .u8 96, .int .u8 0, .int .u8 2] 5)) (0, 0, 0, 141, 2)) := by
  subst hg
  have hz := lit3 W 96 0 2 (by decide)
  have := getT_any (some ⟨W.heap.size, 0, none⟩) 3 3 [96, 0, 2] 0 _ rfl hz
  rwa [show getT [96, 0, 2] 0 = (0, 0, 0, 141, 2) by decide +kernel] at this

theorem known1 (W : World) (g : Nat) (hg : g = W.heap.size) : Calls Try.prog 16 #[.slice (some ⟨g, 0, none⟩) 3 3, .int .i64 0] (W.alloc (.cells #[.int .u8 96, .int .u8 1, .int .u8 126] 5)) (GotT (W.alloc (.cells #[.int .u8 96, .int .u8 1, .int .u8 126] 5)) (0, 0, 0, 140, 2)) := by
  subst hg
  have hz := lit3 W 96 1 126 (by decide)
  have := getT_any (some ⟨W.heap.size, 0, none⟩) 3 3 [96, 1, 126] 0 _ rfl hz
  rwa [show getT [96, 1, 126] 0 = (0, 0, 0, 140, 2) by decide +kernel] at this

theorem known2 (W : World) (g : Nat) (hg : g = W.heap.size) : Calls Try.prog 16 #[.slice (some ⟨g, 0, none⟩) 1 1, .int .i64 0] (W.alloc (.cells #[.int .u8 95] 5)) (GotT (W.alloc (.cells #[.int .u8 95] 5)) (0, 0, 0, 140, 0)) := by
  subst hg
  have hz := lit1 W 95 (by decide)
  have := getT_any (some ⟨W.heap.size, 0, none⟩) 1 1 [95] 0 _ rfl hz
  rwa [show getT [95] 0 = (0, 0, 0, 140, 0) by decide +kernel] at this

theorem known3 (W : World) (g : Nat) (hg : g = W.heap.size) : Calls Try.prog 16 #[.slice (some ⟨g, 0, none⟩) 2 2, .int .i64 0] (W.alloc (.cells #[.int .u8 96, .int .u8 1] 5)) (GotT (W.alloc (.cells #[.int .u8 96, .int .u8 1] 5)) (0, 0, 0, 4, 2)) := by
  subst hg
  have hz := lit2 W 96 1 (by decide)
  have := getT_any (some ⟨W.heap.size, 0, none⟩) 2 2 [96, 1] 0 _ rfl hz
  rwa [show getT [96, 1] 0 = (0, 0, 0, 4, 2) by decide +kernel] at this

theorem known4 (W : World) : Calls Try.prog 8 #[.agg #[.int .u32 4, .int .u32 0, .bool false], .int .u32 65536] W (PutRes W [0, 4] 2 0) := by
  have := putLim_any 4 0 false 65536 2 (by decide +kernel) (by decide) (by decide) W
  rwa [show limZ 4 0 false 65536 = [0, 4] by decide +kernel, show codeLim 4 0 false 65536 = 0 by decide +kernel] at this

theorem known5 (W : World) : Calls Try.prog 8 #[.agg #[.int .u32 4, .int .u32 3, .bool true], .int .u32 65536] W (PutRes W [] 0 2) := by
  have := putLim_any 4 3 true 65536 0 (by decide +kernel) (by decide) (by decide) W
  rwa [show limZ 4 3 true 65536 = [] by decide +kernel, show codeLim 4 3 true 65536 = 2 by decide +kernel] at this

theorem known6 (W : World) (g : Nat) (hg : g = W.heap.size) : Calls Try.prog 17 #[.slice (some ⟨g, 0, none⟩) 3 3, .int .i64 0, .int .u32 100] (W.alloc (.cells #[.int .u8 1, .int .u8 4, .int .u8 3] 5)) (GotL (W.alloc (.cells #[.int .u8 1, .int .u8 4, .int .u8 3] 5)) (0, 0, false, 0, 141, 2)) := by
  subst hg
  have hz := lit3 W 1 4 3 (by decide)
  have := getL_any (some ⟨W.heap.size, 0, none⟩) 3 3 [1, 4, 3] 0 100 _ rfl hz (by decide)
  rwa [show getLim [1, 4, 3] 0 100 = (0, 0, false, 0, 141, 2) by decide +kernel] at this

theorem known7 (W : World) (g : Nat) (hg : g = W.heap.size) : Calls Try.prog 17 #[.slice (some ⟨g, 0, none⟩) 2 2, .int .i64 0, .int .u32 100] (W.alloc (.cells #[.int .u8 0, .int .u8 101] 5)) (GotL (W.alloc (.cells #[.int .u8 0, .int .u8 101] 5)) (0, 0, false, 0, 141, 1)) := by
  subst hg
  have hz := lit2 W 0 101 (by decide)
  have := getL_any (some ⟨W.heap.size, 0, none⟩) 2 2 [0, 101] 0 100 _ rfl hz (by decide)
  rwa [show getLim [0, 101] 0 100 = (0, 0, false, 0, 141, 1) by decide +kernel] at this

theorem known8 (W : World) (g : Nat) (hg : g = W.heap.size) : Calls Try.prog 17 #[.slice (some ⟨g, 0, none⟩) 1 1, .int .i64 0, .int .u32 100] (W.alloc (.cells #[.int .u8 2] 5)) (GotL (W.alloc (.cells #[.int .u8 2] 5)) (0, 0, false, 0, 140, 0)) := by
  subst hg
  have hz := lit1 W 2 (by decide)
  have := getL_any (some ⟨W.heap.size, 0, none⟩) 1 1 [2] 0 100 _ rfl hz (by decide)
  rwa [show getLim [2] 0 100 = (0, 0, false, 0, 140, 0) by decide +kernel] at this
end Go.Proofs.Ytgndekmmeknfpaa
