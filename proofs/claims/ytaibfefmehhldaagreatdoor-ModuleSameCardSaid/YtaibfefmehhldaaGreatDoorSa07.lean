import Derived.Test.YtaibfefmehhldaaGreatDoorSa05
import Derived.Test.YtaibfefmehhldaaGreatDoorSa06
import Derived.RegionTactic
import Derived.Deep.RegionHeld3
import Derived.Deep.Cut
namespace Go.Proofs.YtaibfefmehhldaaGreatDoor.Instr
end Go.Proofs.YtaibfefmehhldaaGreatDoor.Instr
namespace Go.Proofs.YtaibfefmehhldaaGreatDoor.Mod
open Go.RowKit Go.Proofs.YtaibfefmehhldaaGreatDoor.Instr
set_option linter.unusedVariables false
set_option linter.unusedSimpArgs false

theorem len_map {α : Type} {f : α → List Value} {sz : Nat} (h : ∀ x, (f x).length = sz) (l : List α) : ∀ r ∈ l.map f, r.length = sz := by
  intro r hr
  obtain ⟨x, _, rfl⟩ := List.mem_map.1 hr
  exact h x
theorem one_map {α : Type} {f : α → List Value} (h : ∀ x, ∀ u ∈ f x, u.oneCell' = true) (l : List α) : ∀ r ∈ l.map f, ∀ u ∈ r, u.oneCell' = true := by
  intro r hr
  obtain ⟨x, _, rfl⟩ := List.mem_map.1 hr
  exact h x
theorem tyV_one : ∀ x, ∀ u ∈ tyV x, u.oneCell' = true := by intro x u hu; simp only [tyV, List.mem_cons, List.not_mem_nil, or_false] at hu; rcases hu with rfl | rfl <;> rfl
theorem im_one : ∀ x : Imp, ∀ u ∈ x.v, u.oneCell' = true := by intro x u hu; simp only [Imp.v, List.mem_cons, List.not_mem_nil, or_false] at hu; rcases hu with rfl | rfl | rfl <;> rfl
theorem li_one : ∀ x : Li, ∀ u ∈ x.v, u.oneCell' = true := by intro x u hu; simp only [Li.v, List.mem_cons, List.not_mem_nil, or_false] at hu; rcases hu with rfl | rfl | rfl <;> rfl
theorem ex_one : ∀ x : Ex, ∀ u ∈ x.v, u.oneCell' = true := by intro x u hu; simp only [Ex.v, List.mem_cons, List.not_mem_nil, or_false] at hu; rcases hu with rfl | rfl | rfl <;> rfl
theorem fn_one : ∀ x : Fn, ∀ u ∈ x.v, u.oneCell' = true := by intro x u hu; simp only [Fn.v, Lst.val, List.mem_cons, List.not_mem_nil, or_false] at hu; rcases hu with rfl | rfl | rfl <;> rfl
theorem gl_one : ∀ x : Gl, ∀ u ∈ x.v, u.oneCell' = true := by intro x u hu; simp only [Gl.v, Lst.val, List.mem_cons, List.not_mem_nil, or_false] at hu; rcases hu with rfl | rfl <;> rfl
theorem el_one : ∀ x : El, ∀ u ∈ x.v, u.oneCell' = true := by intro x u hu; simp only [El.v, Lst.val, List.mem_cons, List.not_mem_nil, or_false] at hu; rcases hu with rfl | rfl <;> rfl
theorem da_one : ∀ x : Da, ∀ u ∈ x.v, u.oneCell' = true := by intro x u hu; simp only [Da.v, Lst.val, List.mem_cons, List.not_mem_nil, or_false] at hu; rcases hu with rfl | rfl <;> rfl
end Go.Proofs.YtaibfefmehhldaaGreatDoor.Mod
