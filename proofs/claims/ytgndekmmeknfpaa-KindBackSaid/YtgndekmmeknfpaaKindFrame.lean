/-
  What the frames of layer 4 share: a type, and limits, that come in by value are opened, and shut.
-/
import Derived.Test.YtgndekmmeknfpaaFrame
import Derived.Lib.SmallJoins
import Derived.ChangeArms
namespace Go.Proofs.Ytgndekmmeknfpaa
open Go.ChangeShapes Go.WideShapes Go.ChangeAt Go.RowKit Go.Joins

theorem cellsType : Try.prog.cellsOf 23 = 2 := by kernel_rfl
theorem cellsLim : Try.prog.cellsOf 26 = 3 := by kernel_rfl

theorem open_type {H : Type} {enc : TypeId × Value → H} {W : World} {base : Nat} {v : Value} {d : DataW H} {p : List MemPlace} (hv : Value.okWide Try.prog W .any base 23 v) (h : DataW.Trod enc Try.prog W 0 (fun _ => true) true 23 v d p) :
    ∃ a b : Int, v = .agg #[.int .i64 a, .int .i64 b] ∧ d = .agg [.lit (.int .i64 a), .lit (.int .i64 b)] ∧ p = [] ∧ (Lit.int .i64 a).wf = true ∧ (Lit.int .i64 b).wf = true := by
  obtain ⟨c0, c1, y0, y1, m, rfl, rfl, rfl, hy0, hy1⟩ := open_agg2 Try.underlying23 (by kernel_rfl) cellsType hv h
  obtain ⟨a, e0, rfl, wa⟩ := DataW.trod_int Try.underlying3 hy0
  obtain ⟨b, e1, rfl, wb⟩ := DataW.trod_int Try.underlying3 hy1
  simp at e0 e1
  subst e0 e1
  exact ⟨a, b, rfl, rfl, rfl, wa, wb⟩
theorem shut_type {H : Type} {enc : TypeId × Value → H} {W : World} {sp : Nat → Bool} {a b : Int} (wa : (Lit.int .i64 a).wf = true) (wb : (Lit.int .i64 b).wf = true) :
    DataW.Trod enc Try.prog W 0 sp true 23 (.agg #[.int .i64 a, .int .i64 b]) (.agg [.lit (.int .i64 a), .lit (.int .i64 b)]) [] :=
  shut_agg2 (y0 := (.lit (.int .i64 a), [])) (y1 := (.lit (.int .i64 b), [])) Try.underlying23 (by kernel_rfl) cellsType ⟨1, by simp [DataW.trod, Try.underlying3, wa]⟩ ⟨1, by simp [DataW.trod, Try.underlying3, wb]⟩

theorem open_lim {H : Type} {enc : TypeId × Value → H} {W : World} {base : Nat} {v : Value} {d : DataW H} {p : List MemPlace} (hv : Value.okWide Try.prog W .any base 26 v) (h : DataW.Trod enc Try.prog W 0 (fun _ => true) true 26 v d p) :
    ∃ (a b : Int) (c : Bool), v = .agg #[.int .u32 a, .int .u32 b, .bool c] ∧ d = .agg [.lit (.int .u32 a), .lit (.int .u32 b), .lit (.bool c)] ∧ p = [] ∧ (Lit.int .u32 a).wf = true ∧ (Lit.int .u32 b).wf = true := by
  obtain ⟨c0, c1, c2, y0, y1, y2, m, rfl, rfl, rfl, hy0, hy1, hy2⟩ := open_agg3 Try.underlying26 (by kernel_rfl) cellsLim hv h
  obtain ⟨a, e0, rfl, wa⟩ := DataW.trod_int Try.underlying24 hy0
  obtain ⟨b, e1, rfl, wb⟩ := DataW.trod_int Try.underlying24 hy1
  obtain ⟨c, e2, rfl⟩ := DataW.trod_bool Try.underlying4 hy2
  simp at e0 e1 e2
  subst e0 e1 e2
  exact ⟨a, b, c, rfl, rfl, rfl, wa, wb⟩
theorem shut_lim {H : Type} {enc : TypeId × Value → H} {W : World} {sp : Nat → Bool} {a b : Int} {c : Bool} (wa : (Lit.int .u32 a).wf = true) (wb : (Lit.int .u32 b).wf = true) :
    DataW.Trod enc Try.prog W 0 sp true 26 (.agg #[.int .u32 a, .int .u32 b, .bool c]) (.agg [.lit (.int .u32 a), .lit (.int .u32 b), .lit (.bool c)]) [] :=
  shut_agg3 (y0 := (.lit (.int .u32 a), [])) (y1 := (.lit (.int .u32 b), [])) (y2 := (.lit (.bool c), [])) Try.underlying26 (by kernel_rfl) cellsLim ⟨1, by simp [DataW.trod, Try.underlying24, wa]⟩ ⟨1, by simp [DataW.trod, Try.underlying24, wb]⟩ ⟨1, by simp [DataW.trod, Try.underlying4]⟩
end Go.Proofs.Ytgndekmmeknfpaa
