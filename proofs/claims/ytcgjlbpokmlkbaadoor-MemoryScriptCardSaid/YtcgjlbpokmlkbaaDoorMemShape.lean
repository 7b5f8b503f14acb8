/-
  INSTR: shapeOf and Shape by contracts.
-/
import Derived.Test.YtcgjlbpokmlkbaaDoorNumArity
import Derived.Test.YtcgjlbpokmlkbaaDoorMemLeaf
import Derived.Laws.Tables
import Derived.Deep.WholeRow
namespace Go.Proofs.YtcgjlbpokmlkbaaDoor.Instr
open Go.RowKit

def takesTab : List Int := [0, 0, 0, 0, 0, 0, 0, 0, 0, 0, 0, 0, 0, 0, 0, 0, 0, 0, 0, 0, 0, 0, 0, 0, 0, 0, 1, 3, 0, 0, 0, 0, 0, 1, 1, 0, 1, 0, 0, 0, 1, 0, 0, 0, 1, 1, 1, 1, 0, 0, 0, 0, 0, 0, 2, 0, 0, 0, 2, 2, 0, 0, 0, 0, 1, 0]
def leavesTab : List Int := [0, 0, 0, 0, 0, 0, 0, 0, 0, 0, 0, 0, 0, 0, 0, 0, 0, 0, 0, 0, 0, 0, 0, 0, 0, 0, 0, 1, 0, 0, 0, 0, 1, 0, 1, 1, 0, 0, 0, 0, 1, 0, 0, 0, 1, 1, 1, 1, 0, 0, 0, 0, 0, 0, 0, 0, 0, 0, 0, 0, 0, 0, 0, 1, 1, 1]
def knownTab : List Bool := [false, true, false, false, false, false, false, false, false, false, false, false, false, false, false, false, false, false, false, false, false, false, false, false, false, false, true, true, false, false, false, false, true, true, true, true, true, false, false, false, true, false, false, false, true, true, true, true, false, false, false, false, false, false, true, false, false, false, true, true, false, false, false, true, true, true]
def shapeCells : List Value := (List.range 66).flatMap fun j => [.int .u8 (takesTab.getD j 0), .int .u8 (leavesTab.getD j 0), .bool (knownTab.getD j false)]
def shapeParts : List (Nat × Value) := [(1, .agg #[.int .u8 0, .int .u8 0, .bool true]), (26, .agg #[.int .u8 1, .int .u8 0, .bool true]), (27, .agg #[.int .u8 3, .int .u8 1, .bool true]), (32, .agg #[.int .u8 0, .int .u8 1, .bool true]), (33, .agg #[.int .u8 1, .int .u8 0, .bool true]), (34, .agg #[.int .u8 1, .int .u8 1, .bool true]), (35, .agg #[.int .u8 0, .int .u8 1, .bool true]), (36, .agg #[.int .u8 1, .int .u8 0, .bool true]), (40, .agg #[.int .u8 1, .int .u8 1, .bool true]), (44, .agg #[.int .u8 1, .int .u8 1, .bool true]), (45, .agg #[.int .u8 1, .int .u8 1, .bool true]), (46, .agg #[.int .u8 1, .int .u8 1, .bool true]), (47, .agg #[.int .u8 1, .int .u8 1, .bool true]), (54, .agg #[.int .u8 2, .int .u8 0, .bool true]), (58, .agg #[.int .u8 2, .int .u8 0, .bool true]), (59, .agg #[.int .u8 2, .int .u8 0, .bool true]), (63, .agg #[.int .u8 0, .int .u8 1, .bool true]), (64, .agg #[.int .u8 1, .int .u8 1, .bool true]), (65, .agg #[.int .u8 0, .int .u8 1, .bool true])]
theorem shape_built : Tryd.prog.built 104 shapeParts = some shapeCells.toArray := by kernel_rfl
theorem shapeCells_all : ((List.range 66).map fun j => (shapeCells[j * 3]?, shapeCells[j * 3 + 1]?, shapeCells[j * 3 + 2]?)) = (List.range 66).map fun j => (some (.int .u8 (takesTab.getD j 0)), some (.int .u8 (leavesTab.getD j 0)), some (.bool (knownTab.getD j false))) := by kernel_rfl
theorem shapeCells_at (j : Nat) (h : j < 66) : shapeCells[j * 3]? = some (.int .u8 (takesTab.getD j 0)) ∧ shapeCells[j * 3 + 1]? = some (.int .u8 (leavesTab.getD j 0)) ∧ shapeCells[j * 3 + 2]? = some (.bool (knownTab.getD j false)) := by
  have h1 := (List.map_inj_left.1 shapeCells_all) j (List.mem_range.2 h)
  simp only [Prod.mk.injEq] at h1
  exact h1
/-- What an operation that is not of num takes and leaves, and whether it has a shape. -/
def takesO (op : Int) : Int := if 0 ≤ op ∧ op < 66 then takesTab.getD op.toNat 0 else 0
def leavesO (op : Int) : Int := if 0 ≤ op ∧ op < 66 then leavesTab.getD op.toNat 0 else 0
def knownO (op : Int) : Bool := if 0 ≤ op ∧ op < 66 then knownTab.getD op.toNat false else false

section
variable {ops : Array Oper} {rest : List Oper} {o : Oper} {act : Act} {w : World} {Q : Exit → Act → World → Prop}
theorem build_shapes (hgd : o.guard = none) (parts : Array (Nat × Operand)) (ho : o.op = .build 104 parts) (he : (parts.map fun (i, x) => (i, act.eval x)).toList = shapeParts)
    (h : ∀ C : Array Value, C = shapeCells.toArray → wpList Tryd.prog ops Q rest (act.put o.dst (.agg C)) w) : wpList Tryd.prog ops Q (o :: rest) act w := by
  refine wpList_build hgd 104 parts ho ?_ ?_
  · rw [he, shape_built]; rfl
  · rw [he, shape_built]; exact h _ rfl
end
/-- The zero value of the table of shapes, as the program has it: never written out. -/
theorem zero56 : ∃ Z : Array Value, (∀ w : World, (zeroValue 104).run Tryd.prog w = .ok (.agg Z) w) ∧ Z.size = 198 ∧ ¬ Z = #[] := by
  have h : ∃ Z : Array Value, Tryd.t104.zero = some (.agg Z) ∧ Z.size = 198 := ⟨_, rfl, rfl⟩
  obtain ⟨Z, h, hs⟩ := h
  refine ⟨Z, fun w => ?_, hs, fun e => ?_⟩
  · unfold zeroValue
    simp [Tryd.typeInfo104, h]
  · rw [e] at hs
    simp at hs
theorem info56 : (Tryd.prog.info? 104).map (·.size) = some 198 := by kernel_rfl
theorem all56 : shapeCells.toArray.all (·.oneCell') = true := by kernel_rfl

set_option maxRecDepth 100000 in
set_option maxHeartbeats 2000000 in
theorem shapeOf_in (op : Int) (w : World) (h0 : 0 ≤ op) (h1 : op < 66) (x y : Int) (z : Bool) (hx : takesTab.getD op.toNat 0 = x) (hy : leavesTab.getD op.toNat 0 = y) (hz : knownTab.getD op.toNat false = z) :
    Calls Tryd.prog 54 #[.int .i64 op] w fun e w' => e = .returned (.agg #[.int .u8 x, .int .u8 y, .bool z]) ∧ Below w.heap.size w w' := by
  have hc := shapeCells_at op.toNat (by omega)
  simp only [hx, hy, hz] at hc
  have HC := hid hc
  clear hc hx hy hz
  obtain ⟨Z, hz0, zero, hz1⟩ := zero56
  go_enter Tryd.func54, Tryd.ntmps54
  go_wp2_with (refine build_shapes rfl _ rfl (by simp [shapeParts, go_sem]) ?_; intro C hC; replace hC := hid hC; refine Hid.out ?_)
  refine hid ?_
  have hs : C.size = 198 := by rw [hC.out]; kernel_rfl
  have ha : C.all (·.oneCell') = true := by rw [hC.out]; exact all56
  have hc0 : C[op.toNat * 3]? = some (.int .u8 x) := by rw [hC.out]; simpa using HC.out.1
  have hc1 : C[op.toNat * 3 + 1]? = some (.int .u8 y) := by rw [hC.out]; simpa using HC.out.2.1
  have hc2 : C[op.toNat * 3 + 2]? = some (.bool z) := by rw [hC.out]; simpa using HC.out.2.2
  clear HC hC
  have hst := run_storeAt_new (P := Tryd.prog) (w.alloc (.cells #[.int .u8 0, .int .u8 0, .bool false] 101)) 104 Z C (by rw [info56, hs]) (by rw [zero, hs]) ha
  have hst2 := run_storeCells_new (P := Tryd.prog) (w.alloc (.cells #[.int .u8 0, .int .u8 0, .bool false] 101)) 104 Z C (by rw [info56, hs]) (by rw [zero, hs]) ha
  rw [World.size_alloc] at hst hst2
  clear ha
  go_wp2
  refine bodyPost_ret (v := .agg #[.int .u8 x, .int .u8 y, .bool z]) (by simp [results, Tryd.f54, go_sem]) rfl ?_
  exact ⟨rfl, thenA (thenA (Below.refl _ _) _) _⟩
set_option maxRecDepth 100000 in
set_option maxHeartbeats 4000000 in
theorem shapeOf_out (op : Int) (w : World) (h : op < 0 ∨ 66 ≤ op) :
    Calls Tryd.prog 54 #[.int .i64 op] w fun e w' => e = .returned (.agg #[.int .u8 0, .int .u8 0, .bool false]) ∧ Below w.heap.size w w' := by
  rcases h with h | h
  all_goals
    obtain ⟨Z, hz0, zero, hz1⟩ := zero56
    go_enter Tryd.func54, Tryd.ntmps54
    go_wp2_with (refine build_shapes rfl _ rfl (by simp [shapeParts, go_sem]) ?_; intro C hC; replace hC := hid hC; refine Hid.out ?_)
    refine hid ?_
    have hs : C.size = 198 := by rw [hC.out]; kernel_rfl
    have ha : C.all (·.oneCell') = true := by rw [hC.out]; exact all56
    clear hC
    have hst := run_storeAt_new (P := Tryd.prog) (w.alloc (.cells #[.int .u8 0, .int .u8 0, .bool false] 101)) 104 Z C (by rw [info56, hs]) (by rw [zero, hs]) ha
    have hst2 := run_storeCells_new (P := Tryd.prog) (w.alloc (.cells #[.int .u8 0, .int .u8 0, .bool false] 101)) 104 Z C (by rw [info56, hs]) (by rw [zero, hs]) ha
    rw [World.size_alloc] at hst hst2
    clear ha
    go_wp2
    refine bodyPost_ret (v := .agg #[.int .u8 0, .int .u8 0, .bool false]) (by simp [results, Tryd.f54, go_sem]) rfl ?_
    exact ⟨rfl, thenA (thenA (Below.refl _ _) _) _⟩
theorem shapeOf_any (op : Int) (w : World) :
    Calls Tryd.prog 54 #[.int .i64 op] w fun e w' => e = .returned (.agg #[.int .u8 (takesO op), .int .u8 (leavesO op), .bool (knownO op)]) ∧ Below w.heap.size w w' := by
  unfold takesO leavesO knownO
  by_cases h : 0 ≤ op ∧ op < 66
  · rw [if_pos h, if_pos h, if_pos h]
    exact shapeOf_in op w h.1 h.2 _ _ _ rfl rfl rfl
  · rw [if_neg h, if_neg h, if_neg h]
    exact shapeOf_out op w (by omega)
def takesP (op : Int) : Int := if 0 < Num.arity op then Num.arity op else takesO op
def leavesP (op : Int) : Int := if 0 < Num.arity op then 1 else leavesO op
def knownP (op : Int) : Bool := if 0 < Num.arity op then true else knownO op
theorem takesO_range (op : Int) : 0 ≤ takesO op ∧ takesO op ≤ 3 := by
  unfold takesO
  split
  · have : ∀ j : Fin 66, 0 ≤ takesTab.getD j.val 0 ∧ takesTab.getD j.val 0 ≤ 3 := by decide +kernel
    exact this ⟨op.toNat, by omega⟩
  · omega
theorem leavesO_range (op : Int) : 0 ≤ leavesO op ∧ leavesO op ≤ 1 := by
  unfold leavesO
  split
  · have : ∀ j : Fin 66, 0 ≤ leavesTab.getD j.val 0 ∧ leavesTab.getD j.val 0 ≤ 1 := by decide +kernel
    exact this ⟨op.toNat, by omega⟩
  · omega
set_option maxHeartbeats 1000000 in
theorem Shape_any (op : Int) (w : World) (hT : Num.Arit w) :
    Calls Tryd.prog 52 #[.int .i64 op] w fun e w' => e = .returned (.tuple #[.int .i64 (takesP op), .int .i64 (leavesP op), .bool (knownP op)]) ∧ Below w.heap.size w w' := by
  have CN := Num.Arity_any op w hT
  have CS := shapeOf_any op w
  have hr := takesO_range op
  have hr2 := leavesO_range op
  unfold takesP leavesP knownP
  obtain ⟨n, hn⟩ : ∃ n, Num.arity op = n := ⟨_, rfl⟩
  obtain ⟨x, hx⟩ : ∃ x, takesO op = x := ⟨_, rfl⟩
  obtain ⟨y, hy⟩ : ∃ y, leavesO op = y := ⟨_, rfl⟩
  obtain ⟨z, hz⟩ : ∃ z, knownO op = z := ⟨_, rfl⟩
  rw [hn] at CN
  rw [hx, hy, hz] at CS
  rw [hx] at hr
  rw [hy] at hr2
  rw [hn, hx, hy, hz]
  obtain ⟨r0, r1⟩ := hr
  obtain ⟨r2, r3⟩ := hr2
  clear hn hx hy hz hT
  have C := hid CN
  have D := hid CS
  clear CN CS
  by_cases h : 0 < n
  · rw [if_pos h, if_pos h, if_pos h]
    clear D
    go_enter Tryd.func52, Tryd.ntmps52
    go_wp2_with fail
    refine C.out.mono ?_
    clear C
    rintro e w1 ⟨rfl, rfl⟩
    go_wp2
    go_ret3
    exact ⟨rfl, Below.refl _ _⟩
  · rw [if_neg h, if_neg h, if_neg h]
    have h' : n ≤ 0 := by omega
    clear h
    go_enter Tryd.func52, Tryd.ntmps52
    go_wp2_with fail
    refine C.out.mono ?_
    clear C
    rintro e w1 ⟨rfl, rfl⟩
    go_wp2_with fail
    refine D.out.mono ?_
    clear D
    rintro e w1 ⟨rfl, hb⟩
    go_wp2_with fail
    go_quiet (fail)
    go_wp2
    go_ret3
    exact ⟨rfl, drewN (thenA hb _)⟩
end Go.Proofs.YtcgjlbpokmlkbaaDoor.Instr
