/-
  MEMORY: the calls of a script, as plain data, and where they lie.
-/
import Derived.Test.YtcgjlbpokmlkbaaDoorMemScrKit
namespace Go.Proofs.YtcgjlbpokmlkbaaDoor.Mem
open Go.RowKit Go.Proofs.YtcgjlbpokmlkbaaDoor.Instr Go.Proofs.YtcgjlbpokmlkbaaDoor.Num

set_option linter.unusedVariables false

structure AT where
  kind : Int
  op : Int
  at_ : Int
  off : Int
  v : Int
  ba : Option Addr
  bl : Nat
  bc : Nat
  zs : List Int
def AT.vs (y : AT) : List Value := [.int .i64 y.kind, .int .i64 y.op, .int .u32 y.at_, .int .u32 y.off, .int .u32 y.v, .slice y.ba y.bl y.bc]
structure AT.Good (n₀ : Nat) (W : World) (y : AT) : Prop where
  at_ : 0 ≤ y.at_ ∧ y.at_ ≤ 4294967295
  off : 0 ≤ y.off ∧ y.off ≤ 4294967295
  v : 0 ≤ y.v ∧ y.v ≤ 4294967295
  len : y.zs.length = y.bl
  bytes : Bytes W y.ba y.zs
  cap : y.bl ≤ y.bc
  low : ∀ b off, y.ba = some ⟨b, off, none⟩ → y.zs ≠ [] → b < n₀
theorem AT.Good.below {n₀ : Nat} {W W' : World} {y : AT} (h : y.Good n₀ W) (hb : Below W.heap.size W W') : y.Good n₀ W' :=
  ⟨h.at_, h.off, h.v, h.len, h.bytes.below hb, h.cap, h.low⟩
/-- What lies below the base outlives whatever keeps that. -/
theorem AT.Good.below' {W W' : World} {y : AT} (h : y.Good W.heap.size W) (hb : Below W.heap.size W W') : y.Good W.heap.size W' := h.below hb
theorem AT.Good.under {W W' : World} {y : AT} (h : y.Good W.heap.size W) (hb : Below W.heap.size W W') : y.Good W.heap.size W' := h.below hb
/-- Where the k-th call lies. -/
theorem acts_cells {n₀ : Nat} {w : World} {a : Option Addr} {l : List AT} (h : Stk.Rows n₀ w a 6 (l.map AT.vs)) {k : Nat} (hk : k < l.length) :
    ∃ b off, a = some ⟨b, off, none⟩ ∧ b < n₀ ∧ w.cell? ⟨b, off + k * 6, none⟩ = some (.int .i64 l[k].kind) ∧ w.cell? ⟨b, off + k * 6 + 1, none⟩ = some (.int .i64 l[k].op) ∧ w.cell? ⟨b, off + k * 6 + 2, none⟩ = some (.int .u32 l[k].at_) ∧
      w.cell? ⟨b, off + k * 6 + 3, none⟩ = some (.int .u32 l[k].off) ∧ w.cell? ⟨b, off + k * 6 + 4, none⟩ = some (.int .u32 l[k].v) ∧ w.cell? ⟨b, off + k * 6 + 5, none⟩ = some (.slice l[k].ba l[k].bl l[k].bc) := by
  obtain ⟨b, off, ha, hb, hc⟩ := h.get hk
  exact ⟨b, off, ha, hb, hc 0 (by omega) _ rfl, hc 1 (by omega) _ rfl, hc 2 (by omega) _ rfl, hc 3 (by omega) _ rfl, hc 4 (by omega) _ rfl, hc 5 (by omega) _ rfl⟩
end Go.Proofs.YtcgjlbpokmlkbaaDoor.Mem
