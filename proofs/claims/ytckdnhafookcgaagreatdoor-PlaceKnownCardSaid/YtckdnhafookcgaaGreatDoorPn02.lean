import Derived.Test.YtckdnhafookcgaaGreatDoorPn01
import Derived.Laws.Tables
import Derived.Deep.WholeRow
import Derived.Deep.RegionHeld3
import Derived.RangeFuncNested
import Derived.RangeFuncBound
import Derived.RangeFuncCalls
import Derived.RangeFuncLeaves
import Derived.BigQuiet
import Derived.Deep.QuietTactic
import Derived.Lib.SliceRun
import Derived.Deep.Cut
import Derived.Deep.RegionHeld
import Derived.Deep.RegionHeldLaw
import Derived.ChangeArms
namespace Go.Proofs.YtckdnhafookcgaaGreatDoor.Instr
end Go.Proofs.YtckdnhafookcgaaGreatDoor.Instr
namespace Go.Proofs.YtckdnhafookcgaaGreatDoor.Mod
end Go.Proofs.YtckdnhafookcgaaGreatDoor.Mod
namespace Go.Proofs.YtckdnhafookcgaaGreatDoor.Stk
end Go.Proofs.YtckdnhafookcgaaGreatDoor.Stk
namespace Go.Proofs.YtckdnhafookcgaaGreatDoor.Num
end Go.Proofs.YtckdnhafookcgaaGreatDoor.Num
namespace Go.Proofs.YtckdnhafookcgaaGreatDoor.Instr
open Go.RowKit

def takesTab : List Int := [0, 0, 0, 0, 0, 0, 0, 0, 0, 0, 0, 0, 0, 0, 0, 0, 0, 0, 0, 0, 0, 0, 0, 0, 0, 0, 1, 3, 0, 0, 0, 0, 0, 1, 1, 0, 1, 0, 0, 0, 1, 0, 0, 0, 1, 1, 1, 1, 0, 0, 0, 0, 0, 0, 2, 0, 0, 0, 2, 2, 0, 0, 0, 0, 1, 0]
def leavesTab : List Int := [0, 0, 0, 0, 0, 0, 0, 0, 0, 0, 0, 0, 0, 0, 0, 0, 0, 0, 0, 0, 0, 0, 0, 0, 0, 0, 0, 1, 0, 0, 0, 0, 1, 0, 1, 1, 0, 0, 0, 0, 1, 0, 0, 0, 1, 1, 1, 1, 0, 0, 0, 0, 0, 0, 0, 0, 0, 0, 0, 0, 0, 0, 0, 1, 1, 1]
def knownTab : List Bool := [false, true, false, false, false, false, false, false, false, false, false, false, false, false, false, false, false, false, false, false, false, false, false, false, false, false, true, true, false, false, false, false, true, true, true, true, true, false, false, false, true, false, false, false, true, true, true, true, false, false, false, false, false, false, true, false, false, false, true, true, false, false, false, true, true, true]
def shapeCells : List Value := (List.range 66).flatMap fun j => [.int .u8 (takesTab.getD j 0), .int .u8 (leavesTab.getD j 0), .bool (knownTab.getD j false)]
def shapeParts : List (Nat × Value) := [(1, .agg #[.int .u8 0, .int .u8 0, .bool true]), (26, .agg #[.int .u8 1, .int .u8 0, .bool true]), (27, .agg #[.int .u8 3, .int .u8 1, .bool true]), (32, .agg #[.int .u8 0, .int .u8 1, .bool true]), (33, .agg #[.int .u8 1, .int .u8 0, .bool true]), (34, .agg #[.int .u8 1, .int .u8 1, .bool true]), (35, .agg #[.int .u8 0, .int .u8 1, .bool true]), (36, .agg #[.int .u8 1, .int .u8 0, .bool true]), (40, .agg #[.int .u8 1, .int .u8 1, .bool true]), (44, .agg #[.int .u8 1, .int .u8 1, .bool true]), (45, .agg #[.int .u8 1, .int .u8 1, .bool true]), (46, .agg #[.int .u8 1, .int .u8 1, .bool true]), (47, .agg #[.int .u8 1, .int .u8 1, .bool true]), (54, .agg #[.int .u8 2, .int .u8 0, .bool true]), (58, .agg #[.int .u8 2, .int .u8 0, .bool true]), (59, .agg #[.int .u8 2, .int .u8 0, .bool true]), (63, .agg #[.int .u8 0, .int .u8 1, .bool true]), (64, .agg #[.int .u8 1, .int .u8 1, .bool true]), (65, .agg #[.int .u8 0, .int .u8 1, .bool true])]
theorem shape_built : Tryz.prog.built 316 shapeParts = some shapeCells.toArray := by kernel_rfl
theorem shapeCells_all : ((List.range 66).map fun j => (shapeCells[j * 3]?, shapeCells[j * 3 + 1]?, shapeCells[j * 3 + 2]?)) = (List.range 66).map fun j => (some (.int .u8 (takesTab.getD j 0)), some (.int .u8 (leavesTab.getD j 0)), some (.bool (knownTab.getD j false))) := by kernel_rfl
theorem shapeCells_at (j : Nat) (h : j < 66) : shapeCells[j * 3]? = some (.int .u8 (takesTab.getD j 0)) ∧ shapeCells[j * 3 + 1]? = some (.int .u8 (leavesTab.getD j 0)) ∧ shapeCells[j * 3 + 2]? = some (.bool (knownTab.getD j false)) := by
  have h1 := (List.map_inj_left.1 shapeCells_all) j (List.mem_range.2 h)
  simp only [Prod.mk.injEq] at h1
  exact h1
/-- What an operation that is not of num takes and leaves, and whether it has a shape. -/
def takesO (op : Int) : Int := if 0 ≤ op ∧ op < 66 then takesTab.getD op.toNat 0 else 0
def leavesO (op : Int) : Int := if 0 ≤ op ∧ op < 66 then leavesTab.getD op.toNat 0 else 0
def knownO (op : Int) : Bool := if 0 ≤ op ∧ op < 66 then knownTab.getD op.toNat false else false

section
variable {ops : Array Oper} {rest : List Oper} {o : Oper} {act : Act} {w : World} {Q : Exit → Act → World → Prop}
theorem build_shapes (hgd : o.guard = none) (parts : Array (Nat × Operand)) (ho : o.op = .build 316 parts) (he : (parts.map fun (i, x) => (i, act.eval x)).toList = shapeParts)
    (h : ∀ C : Array Value, C = shapeCells.toArray → wpList Tryz.prog ops Q rest (act.put o.dst (.agg C)) w) : wpList Tryz.prog ops Q (o :: rest) act w := by
  refine wpList_build hgd 316 parts ho ?_ ?_
  · rw [he, shape_built]; rfl
  · rw [he, shape_built]; exact h _ rfl
end
theorem zero56 : Tryz.zeroCells316.size = 198 := by kernel_rfl
theorem info56 : (Tryz.prog.info? 316).map (·.size) = some 198 := by kernel_rfl
theorem all56 : shapeCells.toArray.all (·.oneCell') = true := by kernel_rfl

set_option maxRecDepth 100000 in
set_option maxHeartbeats 2000000 in
theorem shapeOf_in (op : Int) (w : World) (h0 : 0 ≤ op) (h1 : op < 66) (x y : Int) (z : Bool) (hx : takesTab.getD op.toNat 0 = x) (hy : leavesTab.getD op.toNat 0 = y) (hz : knownTab.getD op.toNat false = z) :
    Calls Tryz.prog 250 #[.int .i64 op] w fun e w' => e = .returned (.agg #[.int .u8 x, .int .u8 y, .bool z]) ∧ Below w.heap.size w w' := by
  have hc := shapeCells_at op.toNat (by omega)
  simp only [hx, hy, hz] at hc
  have HC := hid hc
  clear hc hx hy hz
  go_enter Tryz.func250, Tryz.ntmps250
  go_wp2_with (refine build_shapes rfl _ rfl (by simp [shapeParts, go_sem]) ?_; intro C hC; replace hC := hid hC; refine Hid.out ?_)
  refine hid ?_
  have hs : C.size = 198 := by rw [hC.out]; kernel_rfl
  have ha : C.all (·.oneCell') = true := by rw [hC.out]; exact all56
  have hc0 : C[op.toNat * 3]? = some (.int .u8 x) := by rw [hC.out]; simpa using HC.out.1
  have hc1 : C[op.toNat * 3 + 1]? = some (.int .u8 y) := by rw [hC.out]; simpa using HC.out.2.1
  have hc2 : C[op.toNat * 3 + 2]? = some (.bool z) := by rw [hC.out]; simpa using HC.out.2.2
  clear HC hC
  have hst := run_storeAt_new (P := Tryz.prog) (w.alloc (.cells #[.int .u8 0, .int .u8 0, .bool false] 304)) 316 Tryz.zeroCells316 C (by rw [info56, hs]) (by rw [zero56, hs]) ha
  have hst2 := run_storeCells_new (P := Tryz.prog) (w.alloc (.cells #[.int .u8 0, .int .u8 0, .bool false] 304)) 316 Tryz.zeroCells316 C (by rw [info56, hs]) (by rw [zero56, hs]) ha
  rw [World.size_alloc] at hst hst2
  clear ha
  go_wp2
  refine bodyPost_ret (v := .agg #[.int .u8 x, .int .u8 y, .bool z]) (by simp [results, Tryz.f250, go_sem]) rfl ?_
  exact ⟨rfl, thenA (thenA (Below.refl _ _) _) _⟩
set_option maxRecDepth 100000 in
set_option maxHeartbeats 4000000 in
theorem shapeOf_out (op : Int) (w : World) (h : op < 0 ∨ 66 ≤ op) :
    Calls Tryz.prog 250 #[.int .i64 op] w fun e w' => e = .returned (.agg #[.int .u8 0, .int .u8 0, .bool false]) ∧ Below w.heap.size w w' := by
  rcases h with h | h
  all_goals
    go_enter Tryz.func250, Tryz.ntmps250
    go_wp2_with (refine build_shapes rfl _ rfl (by simp [shapeParts, go_sem]) ?_; intro C hC; replace hC := hid hC; refine Hid.out ?_)
    refine hid ?_
    have hs : C.size = 198 := by rw [hC.out]; kernel_rfl
    have ha : C.all (·.oneCell') = true := by rw [hC.out]; exact all56
    clear hC
    have hst := run_storeAt_new (P := Tryz.prog) (w.alloc (.cells #[.int .u8 0, .int .u8 0, .bool false] 304)) 316 Tryz.zeroCells316 C (by rw [info56, hs]) (by rw [zero56, hs]) ha
    have hst2 := run_storeCells_new (P := Tryz.prog) (w.alloc (.cells #[.int .u8 0, .int .u8 0, .bool false] 304)) 316 Tryz.zeroCells316 C (by rw [info56, hs]) (by rw [zero56, hs]) ha
    rw [World.size_alloc] at hst hst2
    clear ha
    go_wp2
    refine bodyPost_ret (v := .agg #[.int .u8 0, .int .u8 0, .bool false]) (by simp [results, Tryz.f250, go_sem]) rfl ?_
    exact ⟨rfl, thenA (thenA (Below.refl _ _) _) _⟩
theorem shapeOf_any (op : Int) (w : World) :
    Calls Tryz.prog 250 #[.int .i64 op] w fun e w' => e = .returned (.agg #[.int .u8 (takesO op), .int .u8 (leavesO op), .bool (knownO op)]) ∧ Below w.heap.size w w' := by
  unfold takesO leavesO knownO
  by_cases h : 0 ≤ op ∧ op < 66
  · rw [if_pos h, if_pos h, if_pos h]
    exact shapeOf_in op w h.1 h.2 _ _ _ rfl rfl rfl
  · rw [if_neg h, if_neg h, if_neg h]
    exact shapeOf_out op w (by omega)
def takesP (op : Int) : Int := if 0 < Num.arity op then Num.arity op else takesO op
def leavesP (op : Int) : Int := if 0 < Num.arity op then 1 else leavesO op
def knownP (op : Int) : Bool := if 0 < Num.arity op then true else knownO op
theorem takesO_range (op : Int) : 0 ≤ takesO op ∧ takesO op ≤ 3 := by
  unfold takesO
  split
  · have : ∀ j : Fin 66, 0 ≤ takesTab.getD j.val 0 ∧ takesTab.getD j.val 0 ≤ 3 := by decide +kernel
    exact this ⟨op.toNat, by omega⟩
  · omega
theorem leavesO_range (op : Int) : 0 ≤ leavesO op ∧ leavesO op ≤ 1 := by
  unfold leavesO
  split
  · have : ∀ j : Fin 66, 0 ≤ leavesTab.getD j.val 0 ∧ leavesTab.getD j.val 0 ≤ 1 := by decide +kernel
    exact this ⟨op.toNat, by omega⟩
  · omega
set_option maxHeartbeats 1000000 in
theorem Shape_any (op : Int) (w : World) (hT : Num.Arit w) :
    Calls Tryz.prog 226 #[.int .i64 op] w fun e w' => e = .returned (.tuple #[.int .i64 (takesP op), .int .i64 (leavesP op), .bool (knownP op)]) ∧ Below w.heap.size w w' := by
  have CN := Num.Arity_any op w hT
  have CS := shapeOf_any op w
  have hr := takesO_range op
  have hr2 := leavesO_range op
  unfold takesP leavesP knownP
  obtain ⟨n, hn⟩ : ∃ n, Num.arity op = n := ⟨_, rfl⟩
  obtain ⟨x, hx⟩ : ∃ x, takesO op = x := ⟨_, rfl⟩
  obtain ⟨y, hy⟩ : ∃ y, leavesO op = y := ⟨_, rfl⟩
  obtain ⟨z, hz⟩ : ∃ z, knownO op = z := ⟨_, rfl⟩
  rw [hn] at CN
  rw [hx, hy, hz] at CS
  rw [hx] at hr
  rw [hy] at hr2
  rw [hn, hx, hy, hz]
  obtain ⟨r0, r1⟩ := hr
  obtain ⟨r2, r3⟩ := hr2
  clear hn hx hy hz hT
  have C := hid CN
  have D := hid CS
  clear CN CS
  by_cases h : 0 < n
  · rw [if_pos h, if_pos h, if_pos h]
    clear D
    go_enter Tryz.func226, Tryz.ntmps226
    go_wp2_with fail
    refine C.out.mono ?_
    clear C
    rintro e w1 ⟨rfl, rfl⟩
    go_wp2
    go_ret3
    exact ⟨rfl, Below.refl _ _⟩
  · rw [if_neg h, if_neg h, if_neg h]
    have h' : n ≤ 0 := by omega
    clear h
    go_enter Tryz.func226, Tryz.ntmps226
    go_wp2_with fail
    refine C.out.mono ?_
    clear C
    rintro e w1 ⟨rfl, rfl⟩
    go_wp2_with fail
    refine D.out.mono ?_
    clear D
    rintro e w1 ⟨rfl, hb⟩
    go_wp2_with fail
    go_quiet (fail)
    go_wp2
    go_ret3
    exact ⟨rfl, drewN (thenA hb _)⟩
end Go.Proofs.YtckdnhafookcgaaGreatDoor.Instr

namespace Go.Proofs.YtckdnhafookcgaaGreatDoor.Val
open Go.RowKit Go.Proofs.YtckdnhafookcgaaGreatDoor.Instr Go.Proofs.YtckdnhafookcgaaGreatDoor.Mod
open Go.Proofs.YtckdnhafookcgaaGreatDoor.Stk (Fr R pushR popR deadR enterR leaveR labelR newR)

/-- A checker's own: the stand, how many instructions have been begun, which one is checked, the first error. -/
structure St where
  h : Int
  l : List Fr
  cnt : Int
  at_ : Int
  er : Int
def St.put (s : St) (r : R) : St := ⟨r.h, r.l, s.cnt, s.at_, r.e⟩
def failS (e : Int) (s : St) : St := if s.er = 0 then ⟨s.h, s.l, s.cnt, s.at_, e⟩ else s
def pushS (n : Int) (s : St) : St := if s.er = 0 then s.put (pushR s.h s.l n) else s
def popS (n : Int) (s : St) : St := if s.er = 0 then s.put (popR s.h s.l n) else s
def deadS (s : St) : St := if s.er = 0 then s.put (deadR s.h s.l) else s
def enterS (op re : Int) (s : St) : St := if s.er = 0 then s.put (enterR s.h s.l op re) else s
def leaveS (own : Int) (s : St) : St := if s.er = 0 then St.put ⟨s.h, s.l, s.cnt, own, s.er⟩ (leaveR s.h s.l) else s
def labelS (n : Int) (s : St) : Int × St := if s.er = 0 then ((labelR s.h s.l n).1, failS (labelR s.h s.l n).2 s) else (0, s)
def tagsS (k : Int) : List Int → Bool → St → Bool × St
  | [], b, s => (b, s)
  | t :: r, b, s => tagsS k r (decide ((labelS t s).1 = k) && b) (labelS t s).2
def tableS (tags : List Int) (last : Int) (s : St) : St :=
  if (tagsS (labelS last s).1 tags true (labelS last s).2).1 then (tagsS (labelS last s).1 tags true (labelS last s).2).2 else failS 214 (tagsS (labelS last s).1 tags true (labelS last s).2).2
def brS (a : Int) (s : St) : St := deadS (popS (labelS a s).1 (labelS a s).2)
def brIfS (a : Int) (s : St) : St := pushS (labelS a s).1 (popS (labelS a s).1 (popS 1 (labelS a s).2))
/-- What an instruction calls. -/
def calleeP (m : Md) (x : Ix) : (Int × Int) × Bool :=
  if x.op = 16 then m.typeOf x.a.toNat else if m.tb.length = 0 ∨ (m.ty.length : Int) ≤ x.a then ((0, 0), false) else (m.ty.getD x.a.toNat (0, 0), true)
def lacksP (m : Md) (lo : Int) (x : Ix) : Int :=
  if x.op = 16 ∨ x.op = 17 then (if (calleeP m x).2 then 0 else 6)
  else if x.op = 32 ∨ x.op = 33 ∨ x.op = 34 then (if x.a < lo then 0 else 6)
  else if x.op = 35 ∨ x.op = 36 then (if x.a < (m.gl.length : Int) then (if x.op = 36 ∧ (m.gl.map (·.mu)).getD x.a.toNat false = false then 212 else 0) else 6)
  else if storedP x.op then (if m.me.length = 0 then 6 else if alignP x.op < x.a then 211 else 0)
  else if x.op = 63 ∨ x.op = 64 then (if m.me.length = 0 then 6 else 0) else 0
def callS (t : Int × Int) (s : St) : St := pushS t.2 (popS t.1 s)
def St.back (s b : St) : St := ⟨b.h, b.l, s.cnt, s.at_, s.er⟩
def eitherS (re : Int) (L E : St → St) (s : St) : St := E (enterS 5 re ((L (enterS 4 re (popS 1 s))).back (popS 1 s)))
/-- One instruction, behind what it lacks. -/
def opS (m : Md) (re : Int) (x : Ix) (L E : St → St) (s : St) : St :=
  if x.op = 0 then deadS s
  else if x.op = 2 ∨ x.op = 3 then L (enterS x.op x.res s)
  else if x.op = 4 then eitherS x.res L E s
  else if x.op = 14 then brS x.a (popS 1 (tableS x.tags x.a s))
  else if x.op = 12 then brS x.a s
  else if x.op = 13 then brIfS x.a s
  else if x.op = 15 then deadS (popS re s)
  else if x.op = 17 then callS (calleeP m x).1 (popS 1 s)
  else if x.op = 16 then callS (calleeP m x).1 s
  else pushS (leavesP x.op) (popS (takesP x.op) s)
def insS (m : Md) (lo re : Int) (x : Ix) (L E : St → St) (s : St) : St := opS m re x L E (failS (lacksP m lo x) s)
def St.next (s : St) : St := ⟨s.h, s.l, s.cnt + 1, s.cnt + 1, s.er⟩
/-- A list, but for its end. -/
def runS (m : Md) (lo re : Int) : Il → St → St
  | .nil, s => s
  | .cons x l e r, s => if s.er = 0 then runS m lo re r (insS m lo re x (fun s => leaveS s.at_ (runS m lo re l s)) (fun s => leaveS s.at_ (runS m lo re e s)) s.next) else s
def listS (m : Md) (lo re : Int) (t : Il) (s : St) : St := leaveS s.at_ (runS m lo re t s)
theorem runS_cons (m : Md) (lo re : Int) (x : Ix) (l e r : Il) (s : St) : runS m lo re (.cons x l e r) s = if s.er = 0 then runS m lo re r (insS m lo re x (listS m lo re l) (listS m lo re e) s.next) else s := rfl
theorem runS_er (m : Md) (lo re : Int) (t : Il) (s : St) (h : s.er ≠ 0) : runS m lo re t s = s := by
  cases t with
  | nil => rfl
  | cons x l e r => rw [runS_cons, if_neg h]
def startS (re : Int) : St := ⟨(newR re).h, (newR re).l, 0, 0, (newR re).e⟩
/-- The first error of a function, and where. -/
def Md.bodyP (m : Md) (n : Nat) : Int × Int :=
  if (m.typeOf (m.im.length + n)).2 = false then (6, 0)
  else
    let f := m.fu.getD n ⟨0, 0, ⟨none, 0, .nil⟩⟩
    let t := (m.typeOf (m.im.length + n)).1
    let s := listS m (t.1 + f.lo) t.2 f.l.t (startS t.2)
    (s.er, s.at_)
/-- How many have been begun, behind each step: as many as there are. -/
theorem failS_cnt (e : Int) (s : St) : (failS e s).cnt = s.cnt := by unfold failS; split <;> rfl
theorem pushS_cnt (e : Int) (s : St) : (pushS e s).cnt = s.cnt := by unfold pushS; split <;> rfl
theorem popS_cnt (e : Int) (s : St) : (popS e s).cnt = s.cnt := by unfold popS; split <;> rfl
theorem deadS_cnt (s : St) : (deadS s).cnt = s.cnt := by unfold deadS; split <;> rfl
theorem enterS_cnt (o e : Int) (s : St) : (enterS o e s).cnt = s.cnt := by unfold enterS; split <;> rfl
theorem leaveS_cnt (e : Int) (s : St) : (leaveS e s).cnt = s.cnt := by unfold leaveS; split <;> rfl
theorem labelS_cnt (n : Int) (s : St) : (labelS n s).2.cnt = s.cnt := by unfold labelS; split <;> simp [failS_cnt]
theorem tagsS_cnt (k : Int) : ∀ (l : List Int) (b : Bool) (s : St), (tagsS k l b s).2.cnt = s.cnt
  | [], _, _ => rfl
  | t :: r, b, s => by rw [tagsS, tagsS_cnt k r, labelS_cnt]
theorem tableS_cnt (tags : List Int) (last : Int) (s : St) : (tableS tags last s).cnt = s.cnt := by unfold tableS; split <;> simp [failS_cnt, tagsS_cnt, labelS_cnt]
theorem brS_cnt (a : Int) (s : St) : (brS a s).cnt = s.cnt := by simp [brS, deadS_cnt, popS_cnt, labelS_cnt]
theorem brIfS_cnt (a : Int) (s : St) : (brIfS a s).cnt = s.cnt := by simp [brIfS, pushS_cnt, popS_cnt, labelS_cnt]
theorem callS_cnt (t : Int × Int) (s : St) : (callS t s).cnt = s.cnt := by simp [callS, pushS_cnt, popS_cnt]
theorem opS_cnt {m : Md} {re : Int} {x : Ix} {L E : St → St} {a b : Int} (ha : 0 ≤ a) (hb : 0 ≤ b) (hL : ∀ s, s.cnt ≤ (L s).cnt ∧ (L s).cnt ≤ s.cnt + a) (hE : ∀ s, s.cnt ≤ (E s).cnt ∧ (E s).cnt ≤ s.cnt + b) (s : St) : s.cnt ≤ (opS m re x L E s).cnt ∧ (opS m re x L E s).cnt ≤ s.cnt + a + b := by
  have h0 : ∀ s' : St, s'.cnt = s.cnt → s.cnt ≤ s'.cnt ∧ s'.cnt ≤ s.cnt + a + b := fun s' h => by omega
  unfold opS
  split; · exact h0 _ (deadS_cnt _)
  split
  · have := hL (enterS x.op x.res s); rw [enterS_cnt] at this; omega
  split
  · unfold eitherS
    have h1 := hE (enterS 5 x.res ((L (enterS 4 x.res (popS 1 s))).back (popS 1 s)))
    have h2 := hL (enterS 4 x.res (popS 1 s))
    rw [enterS_cnt] at h1 h2
    rw [popS_cnt] at h2
    have h3 : ((L (enterS 4 x.res (popS 1 s))).back (popS 1 s)).cnt = (L (enterS 4 x.res (popS 1 s))).cnt := rfl
    omega
  split; · exact h0 _ (by rw [brS_cnt, popS_cnt, tableS_cnt])
  split; · exact h0 _ (brS_cnt _ _)
  split; · exact h0 _ (brIfS_cnt _ _)
  split; · exact h0 _ (by rw [deadS_cnt, popS_cnt])
  split; · exact h0 _ (by rw [callS_cnt, popS_cnt])
  split; · exact h0 _ (callS_cnt _ _)
  exact h0 _ (by rw [pushS_cnt, popS_cnt])
theorem runS_cnt (m : Md) (lo re : Int) : ∀ (t : Il) (s : St), s.cnt ≤ (runS m lo re t s).cnt ∧ (runS m lo re t s).cnt ≤ s.cnt + t.count
  | .nil, s => by simp [runS, Il.count]
  | .cons x l e r, s => by
    rw [runS_cons]
    split
    · have hL : ∀ s, s.cnt ≤ (listS m lo re l s).cnt ∧ (listS m lo re l s).cnt ≤ s.cnt + l.count := fun s => by unfold listS; rw [leaveS_cnt]; exact runS_cnt m lo re l s
      have hE : ∀ s, s.cnt ≤ (listS m lo re e s).cnt ∧ (listS m lo re e s).cnt ≤ s.cnt + e.count := fun s => by unfold listS; rw [leaveS_cnt]; exact runS_cnt m lo re e s
      have h1 := runS_cnt m lo re r (insS m lo re x (listS m lo re l) (listS m lo re e) s.next)
      have h2 := opS_cnt (m := m) (re := re) (x := x) (by omega) (by omega) hL hE (failS (lacksP m lo x) s.next)
      rw [failS_cnt] at h2
      have h3 : s.next.cnt = s.cnt + 1 := rfl
      unfold insS at h1 ⊢
      simp only [Il.count]
      omega
    · simp only [Il.count]; omega
theorem listS_cnt (m : Md) (lo re : Int) (t : Il) (s : St) : s.cnt ≤ (listS m lo re t s).cnt ∧ (listS m lo re t s).cnt ≤ s.cnt + t.count := by
  unfold listS; rw [leaveS_cnt]; exact runS_cnt m lo re t s
end Go.Proofs.YtckdnhafookcgaaGreatDoor.Val

namespace Go.Proofs.YtckdnhafookcgaaGreatDoor.Instr
open Go.RowKit

def Ix.vals (x : Ix) : Array Value := #[.int .i64 x.op, .int .i64 x.res, .int .u32 x.a, .int .u32 x.b, .int .i32 x.n, .slice x.ta x.tags.length x.tc, .slice x.la x.ln x.lc, .slice x.ea x.en x.ec]
/-- What a field of an instruction may hold. -/
structure Ix.ok (x : Ix) : Prop where
  op : -9223372036854775808 ≤ x.op ∧ x.op ≤ 9223372036854775807
  res : -9223372036854775808 ≤ x.res ∧ x.res ≤ 9223372036854775807
  a : 0 ≤ x.a ∧ x.a < 4294967296
  b : 0 ≤ x.b ∧ x.b < 4294967296
  n : -2147483648 ≤ x.n ∧ x.n < 2147483648
  tags : ∀ z ∈ x.tags, 0 ≤ z ∧ z < 4294967296
  tn : x.tags.length ≤ 140737488351232
  ln : x.ln ≤ 140737488351232
  en : x.en ≤ 140737488351232

/-- An instruction in a block of its own. -/
structure At (x : Ix) (g : Nat) (w : World) : Prop where
  c0 : w.cell? ⟨g, 0, none⟩ = some (.int .i64 x.op)
  c1 : w.cell? ⟨g, 1, none⟩ = some (.int .i64 x.res)
  c2 : w.cell? ⟨g, 2, none⟩ = some (.int .u32 x.a)
  c3 : w.cell? ⟨g, 3, none⟩ = some (.int .u32 x.b)
  c4 : w.cell? ⟨g, 4, none⟩ = some (.int .i32 x.n)
  c5 : w.cell? ⟨g, 5, none⟩ = some (.slice x.ta x.tags.length x.tc)
  c6 : w.cell? ⟨g, 6, none⟩ = some (.slice x.la x.ln x.lc)
  c7 : w.cell? ⟨g, 7, none⟩ = some (.slice x.ea x.en x.ec)
theorem At.save {x : Ix} {g k : Nat} {w w' : World} (h : At x g w) (hs : Save k w w') (hk : g ≠ k) : At x g w' :=
  ⟨hs.cell hk h.c0, hs.cell hk h.c1, hs.cell hk h.c2, hs.cell hk h.c3, hs.cell hk h.c4, hs.cell hk h.c5, hs.cell hk h.c6, hs.cell hk h.c7⟩
theorem At.below {x : Ix} {g : Nat} {w w' : World} (h : At x g w) (hb : Below w.heap.size w w') : At x g w' :=
  ⟨keep hb h.c0, keep hb h.c1, keep hb h.c2, keep hb h.c3, keep hb h.c4, keep hb h.c5, keep hb h.c6, keep hb h.c7⟩
theorem At.made (x : Ix) (w : World) : At x w.heap.size (w.alloc (.cells x.vals 105)) := by
  constructor <;> simp [Ix.vals, go_sem]

/-- What has been found so far. -/
structure Fil (w0 : World) (x : Ix) (u : Int) (w : World) : Prop where
  below : Below w0.heap.size w0 w
  at_ : At x w0.heap.size w
  out : w.cell? ⟨w0.heap.size + 1, 0, none⟩ = some (.int .u8 u)
  frozen : w.frozen? ⟨w0.heap.size + 1, 0, none⟩ = false
theorem add_any (w0 : World) (x : Ix) (b : Bool) (k : Int) (u : Int) (w : World) (h : Fil w0 x u w) :
    Calls Tryz.prog 256 #[.bool b, .int .u8 k, .pointer (some ⟨w0.heap.size + 1, 0, none⟩)] w fun e w' => (∃ v, e = .returned v) ∧ ∃ u', Hid ((if b then bits .or .u8 u k else u) = u') ∧ Fil w0 x u' w' := by
  obtain ⟨hb, ha, hc, hf⟩ := h
  obtain ⟨g, hg⟩ : ∃ g, w0.heap.size + 1 = g := ⟨_, rfl⟩
  have HG := hid hg
  rw [hg] at hc hf ⊢
  clear hg
  cases b
  · go_enter Tryz.func256, Tryz.ntmps256
    go_wp2
    go_end0
    exact ⟨⟨_, rfl⟩, u, rfl, hb, ha, by rw [HG.out]; exact hc, by rw [HG.out]; exact hf⟩
  · go_enter Tryz.func256, Tryz.ntmps256
    go_wp2
    go_end0
    have hg := HG.out
    have hs : Save g w (w.setCell ⟨g, 0, none⟩ (.int .u8 (bits .or .u8 u k))) := (Save.refl g w).setCell (.inl rfl) _
    refine ⟨⟨_, rfl⟩, bits .or .u8 u k, rfl, hb.trans (hs.below hb.size (by omega)), ha.save hs (by omega), ?_, ?_⟩
    · rw [hg]; simp [go_sem, hc]
    · rw [hg]; simp [go_sem, hf]
theorem add_fills (b1 b2 b3 b4 b5 b6 b7 : Bool) : ∀ u1 u2 u3 u4 u5 u6 : Int, (if b1 then bits .or .u8 0 1 else 0) = u1 → (if b2 then bits .or .u8 u1 2 else u1) = u2 → (if b3 then bits .or .u8 u2 4 else u2) = u3 → (if b4 then bits .or .u8 u3 8 else u3) = u4 →
    (if b5 then bits .or .u8 u4 16 else u4) = u5 → (if b6 then bits .or .u8 u5 32 else u5) = u6 → (if b7 then bits .or .u8 u6 64 else u6) = bit b1 1 + bit b2 2 + bit b3 4 + bit b4 8 + bit b5 16 + bit b6 32 + bit b7 64 := by
  intro u1 u2 u3 u4 u5 u6 h1 h2 h3 h4 h5 h6
  subst h1 h2 h3 h4 h5 h6
  cases b1 <;> cases b2 <;> cases b3 <;> cases b4 <;> cases b5 <;> cases b6 <;> cases b7 <;> rfl
set_option maxHeartbeats 1000000 in
theorem filled_any (x : Ix) (w : World) : Calls Tryz.prog 236 #[.agg x.vals] w fun e w' => e = .returned (.int .u8 (filledP x)) ∧ Below w.heap.size w w' := by
  have hmf : ∀ (fn : Fn) (first cap : Array Value) (w : World), (Instr.makeFunc fn first cap).run Tryz.prog w = .ok (.func fn first cap) w := fun fn first cap w => by simp [Instr.makeFunc, go_sem]
  obtain ⟨u, hu⟩ : ∃ u, filledP x = u := ⟨_, rfl⟩
  rw [hu]
  have HU := hid hu
  clear hu
  unfold Ix.vals
  go_enter Tryz.func236, Tryz.ntmps236
  go_wp2_with fail
  have hF0 : Fil w x 0 ((w.alloc (.cells x.vals 105)).alloc (.cells #[.int .u8 0] 291)) := by
    refine ⟨thenA (thenA (Below.refl _ _) _) _, (At.made x w).below ((Below.refl _ _).alloc (Nat.le_refl _) _), ?_, ?_⟩ <;> simp [go_sem]
  refine (add_any w x _ 1 _ _ hF0).mono ?_
  clear hF0
  rintro e w1 ⟨⟨v1, rfl⟩, u1, hu1, hF1⟩
  obtain ⟨ab1, at1, ao1, af1⟩ := hF1
  have hF1 : Fil w x u1 w1 := ⟨ab1, at1, ao1, af1⟩
  obtain ⟨c0, c1, c2, c3, c4, c5, c6, c7⟩ := at1
  go_wp2_with fail
  clear c0 c1 c2 c3 c4 c5 c6 c7 ao1 af1
  refine (add_any w x _ 2 _ _ hF1).mono ?_
  clear hF1
  rintro e w2 ⟨⟨v2, rfl⟩, u2, hu2, hF2⟩
  obtain ⟨ab2, at2, ao2, af2⟩ := hF2
  have hF2 : Fil w x u2 w2 := ⟨ab2, at2, ao2, af2⟩
  obtain ⟨c0, c1, c2, c3, c4, c5, c6, c7⟩ := at2
  go_wp2_with fail
  clear c0 c1 c2 c3 c4 c5 c6 c7 ao2 af2
  refine (add_any w x _ 4 _ _ hF2).mono ?_
  clear hF2
  rintro e w3 ⟨⟨v3, rfl⟩, u3, hu3, hF3⟩
  obtain ⟨ab3, at3, ao3, af3⟩ := hF3
  have hF3 : Fil w x u3 w3 := ⟨ab3, at3, ao3, af3⟩
  obtain ⟨c0, c1, c2, c3, c4, c5, c6, c7⟩ := at3
  go_wp2_with fail
  clear c0 c1 c2 c3 c4 c5 c6 c7 ao3 af3
  refine (add_any w x _ 8 _ _ hF3).mono ?_
  clear hF3
  rintro e w4 ⟨⟨v4, rfl⟩, u4, hu4, hF4⟩
  obtain ⟨ab4, at4, ao4, af4⟩ := hF4
  have hF4 : Fil w x u4 w4 := ⟨ab4, at4, ao4, af4⟩
  obtain ⟨c0, c1, c2, c3, c4, c5, c6, c7⟩ := at4
  go_wp2_with fail
  clear c0 c1 c2 c3 c4 c5 c6 c7 ao4 af4
  refine (add_any w x _ 16 _ _ hF4).mono ?_
  clear hF4
  rintro e w5 ⟨⟨v5, rfl⟩, u5, hu5, hF5⟩
  obtain ⟨ab5, at5, ao5, af5⟩ := hF5
  have hF5 : Fil w x u5 w5 := ⟨ab5, at5, ao5, af5⟩
  obtain ⟨c0, c1, c2, c3, c4, c5, c6, c7⟩ := at5
  go_wp2_with fail
  clear c0 c1 c2 c3 c4 c5 c6 c7 ao5 af5
  refine (add_any w x _ 32 _ _ hF5).mono ?_
  clear hF5
  rintro e w6 ⟨⟨v6, rfl⟩, u6, hu6, hF6⟩
  obtain ⟨ab6, at6, ao6, af6⟩ := hF6
  have hF6 : Fil w x u6 w6 := ⟨ab6, at6, ao6, af6⟩
  obtain ⟨c0, c1, c2, c3, c4, c5, c6, c7⟩ := at6
  go_wp2_with fail
  clear c0 c1 c2 c3 c4 c5 c6 c7 ao6 af6
  refine (add_any w x _ 64 _ _ hF6).mono ?_
  clear hF6
  rintro e w7 ⟨⟨v7, rfl⟩, u7, hu7, hF7⟩
  obtain ⟨ab7, at7, ao7, af7⟩ := hF7
  have hF7 : Fil w x u7 w7 := ⟨ab7, at7, ao7, af7⟩
  obtain ⟨c0, c1, c2, c3, c4, c5, c6, c7⟩ := at7
  go_wp2_with fail
  go_ret
  refine ⟨ret_int ?_, ab7⟩
  have := add_fills (x.res != 0) (x.a != 0) (x.b != 0) (x.n != 0) (decide (0 < x.tags.length)) (decide (0 < x.ln)) (decide (0 < x.en)) _ _ _ _ _ _ hu1.out hu2.out hu3.out hu4.out hu5.out hu6.out
  rw [← hu7.out, this, ← HU.out, filledP]
end Go.Proofs.YtckdnhafookcgaaGreatDoor.Instr

namespace Go.Proofs.YtckdnhafookcgaaGreatDoor.Instr
open Go.RowKit

/-- Labels in memory below block n₀. -/
def TagsAt (n₀ : Nat) (w : World) (a : Option Addr) (zs : List Int) : Prop :=
  zs = [] ∨ ∃ b off, a = some ⟨b, off, none⟩ ∧ b < n₀ ∧ ∀ i, i < zs.length → w.cell? ⟨b, off + i, none⟩ = some (.int .u32 (zs.getD i 0))
/-- From a place in block b on lie these instructions; all below block n₀. -/
def Items (n₀ : Nat) (w : World) : Nat → Nat → Il → Prop
  | _, _, .nil => True
  | b, off, .cons x l e r =>
    b < n₀ ∧ x.ok ∧
    (w.cell? ⟨b, off, none⟩ = some (.int .i64 x.op) ∧ w.cell? ⟨b, off + 1, none⟩ = some (.int .i64 x.res) ∧ w.cell? ⟨b, off + 2, none⟩ = some (.int .u32 x.a) ∧ w.cell? ⟨b, off + 3, none⟩ = some (.int .u32 x.b) ∧
      w.cell? ⟨b, off + 4, none⟩ = some (.int .i32 x.n) ∧ w.cell? ⟨b, off + 5, none⟩ = some (.slice x.ta x.tags.length x.tc) ∧ w.cell? ⟨b, off + 6, none⟩ = some (.slice x.la x.ln x.lc) ∧ w.cell? ⟨b, off + 7, none⟩ = some (.slice x.ea x.en x.ec)) ∧
    TagsAt n₀ w x.ta x.tags ∧
    (l.len = x.ln ∧ (l = .nil ∨ ∃ b' o', x.la = some ⟨b', o', none⟩ ∧ Items n₀ w b' o' l)) ∧
    (e.len = x.en ∧ (e = .nil ∨ ∃ b' o', x.ea = some ⟨b', o', none⟩ ∧ Items n₀ w b' o' e)) ∧
    Items n₀ w b (off + 8) r
/-- A slice of this many at this address is these instructions. -/
def ListAt (n₀ : Nat) (w : World) (a : Option Addr) (n : Nat) (t : Il) : Prop := t.len = n ∧ (t = .nil ∨ ∃ b off, a = some ⟨b, off, none⟩ ∧ Items n₀ w b off t)

theorem TagsAt.below {n₀ : Nat} {w w' : World} {a : Option Addr} {zs : List Int} (hb : Below n₀ w w') (h : TagsAt n₀ w a zs) : TagsAt n₀ w' a zs := by
  rcases h with h | ⟨b, off, ha, hl, hc⟩
  · exact .inl h
  · exact .inr ⟨b, off, ha, hl, fun i hi => (hb.cell (p := ⟨b, off + i, none⟩) hl).trans (hc i hi)⟩
theorem Items.below {n₀ : Nat} {w w' : World} (hb : Below n₀ w w') : ∀ {t : Il} {b off : Nat}, Items n₀ w b off t → Items n₀ w' b off t
  | .nil, _, _, _ => trivial
  | .cons x l e r, b, off, ⟨hl, hx, ⟨c0, c1, c2, c3, c4, c5, c6, c7⟩, ht, ⟨l1, l2⟩, ⟨e1, e2⟩, hr⟩ => by
    have k : ∀ j v, w.cell? ⟨b, off + j, none⟩ = some v → w'.cell? ⟨b, off + j, none⟩ = some v := fun j v h => (hb.cell (p := ⟨b, off + j, none⟩) hl).trans h
    refine ⟨hl, hx, ⟨k 0 _ c0, k 1 _ c1, k 2 _ c2, k 3 _ c3, k 4 _ c4, k 5 _ c5, k 6 _ c6, k 7 _ c7⟩, ht.below hb, ⟨l1, ?_⟩, ⟨e1, ?_⟩, Items.below hb hr⟩
    · rcases l2 with h | ⟨b', o', ha, hi⟩
      · exact .inl h
      · exact .inr ⟨b', o', ha, Items.below hb hi⟩
    · rcases e2 with h | ⟨b', o', ha, hi⟩
      · exact .inl h
      · exact .inr ⟨b', o', ha, Items.below hb hi⟩
theorem ListAt.below {n₀ : Nat} {w w' : World} {a : Option Addr} {n : Nat} {t : Il} (hb : Below n₀ w w') (h : ListAt n₀ w a n t) : ListAt n₀ w' a n t := by
  refine ⟨h.1, ?_⟩
  rcases h.2 with h | ⟨b', o', ha, hi⟩
  · exact .inl h
  · exact .inr ⟨b', o', ha, hi.below hb⟩
theorem TagsAt.more {n₀ n₁ : Nat} {w : World} {a : Option Addr} {zs : List Int} (hn : n₀ ≤ n₁) (h : TagsAt n₀ w a zs) : TagsAt n₁ w a zs := by
  rcases h with h | ⟨b, off, ha, hl, hc⟩
  · exact .inl h
  · exact .inr ⟨b, off, ha, by omega, hc⟩
theorem Items.more {n₀ n₁ : Nat} {w : World} (hn : n₀ ≤ n₁) : ∀ {t : Il} {b off : Nat}, Items n₀ w b off t → Items n₁ w b off t
  | .nil, _, _, _ => trivial
  | .cons x l e r, b, off, ⟨hl, hx, hc, ht, ⟨l1, l2⟩, ⟨e1, e2⟩, hr⟩ => by
    refine ⟨by omega, hx, hc, ht.more hn, ⟨l1, ?_⟩, ⟨e1, ?_⟩, Items.more hn hr⟩
    · rcases l2 with h | ⟨b', o', ha, hi⟩
      · exact .inl h
      · exact .inr ⟨b', o', ha, Items.more hn hi⟩
    · rcases e2 with h | ⟨b', o', ha, hi⟩
      · exact .inl h
      · exact .inr ⟨b', o', ha, Items.more hn hi⟩
theorem ListAt.more {n₀ n₁ : Nat} {w : World} {a : Option Addr} {n : Nat} {t : Il} (hn : n₀ ≤ n₁) (h : ListAt n₀ w a n t) : ListAt n₁ w a n t := by
  refine ⟨h.1, ?_⟩
  rcases h.2 with h | ⟨b', o', ha, hi⟩
  · exact .inl h
  · exact .inr ⟨b', o', ha, hi.more hn⟩
/-- Behind a call that leaves all that was there. -/
theorem ListAt.on {w w' : World} {a : Option Addr} {n : Nat} {t : Il} (h : ListAt w.heap.size w a n t) (hb : Below w.heap.size w w') : ListAt w'.heap.size w' a n t := (h.below hb).more hb.size

/-- What a round leaves: all cells but those of the blocks from n₀ to n₁; and all below n₀. -/
structure Kept (n₀ n₁ : Nat) (w w' : World) : Prop where
  below : Below n₀ w w'
  cells : ∀ j o, w.heap[j]? = some o → o.isCells = true → n₁ ≤ j → w'.heap[j]? = some o
theorem Kept.refl (n₀ n₁ : Nat) (w : World) : Kept n₀ n₁ w w := ⟨Below.refl _ _, fun _ _ h _ _ => h⟩
theorem Kept.trans {n₀ n₁ : Nat} {a b c : World} (h : Kept n₀ n₁ a b) (g : Kept n₀ n₁ b c) : Kept n₀ n₁ a c := ⟨h.below.trans g.below, fun j o hj ho hn => g.cells j o (h.cells j o hj ho hn) ho hn⟩
theorem Kept.alloc {n₀ n₁ : Nat} {a b : World} (h : Kept n₀ n₁ a b) (o : Obj) (hn : n₀ ≤ b.heap.size) : Kept n₀ n₁ a (b.alloc o) :=
  ⟨h.below.alloc hn o, fun j p hj hp hn => ((Below.refl b.heap.size b).alloc (Nat.le_refl _) o).block j (Array.getElem?_eq_some_iff.1 (h.cells j p hj hp hn)).1 |>.trans (h.cells j p hj hp hn)⟩
theorem Kept.of_below {n₀ n₁ : Nat} {a b : World} (h : Below a.heap.size a b) (hn : n₀ ≤ a.heap.size) : Kept n₀ n₁ a b :=
  ⟨h.mono hn, fun j _ hj _ _ => (h.block j (Array.getElem?_eq_some_iff.1 hj).1).trans hj⟩
theorem Kept.setCell {n₀ n₁ : Nat} {a b : World} (h : Kept n₀ n₁ a b) {p : Addr} (h0 : n₀ ≤ p.block) (h1 : p.block < n₁) (v : Value) : Kept n₀ n₁ a (b.setCell p v) :=
  ⟨h.below.setCell h0 v, fun j o hj ho hn => (Below.heap_setCell b p v j (by omega)).trans (h.cells j o hj ho hn)⟩
theorem Kept.cell {n₀ n₁ : Nat} {a b : World} (h : Kept n₀ n₁ a b) {p : Addr} {v : Value} (hp : n₁ ≤ p.block) (hc : a.cell? p = some v) : b.cell? p = some v := by
  obtain ⟨o, ho, hi⟩ := cells_of_cell hc
  exact (World.cell?_of_block (w := a) ((h.cells _ o ho hi hp).trans ho.symm)).trans hc
theorem At.kept {n₀ n₁ g : Nat} {x : Ix} {a b : World} (h : At x g a) (hk : Kept n₀ n₁ a b) (hg : n₁ ≤ g) : At x g b :=
  ⟨hk.cell hg h.c0, hk.cell hg h.c1, hk.cell hg h.c2, hk.cell hg h.c3, hk.cell hg h.c4, hk.cell hg h.c5, hk.cell hg h.c6, hk.cell hg h.c7⟩
theorem kept_b {n₀ n₁ : Nat} {w : World} (hn : n₀ ≤ w.heap.size) : ∀ (W : World) (l : Nat) (o o' : Obj), w.heap.size ≤ l → W.heap[l]? = some o → o.isCells = false → o.isWalk = false → Kept n₀ n₁ W (W.putObj l o') := fun W l o o' hl ho hi hw =>
  ⟨belowK_b hn W l o o' hl ho hi hw, fun j p hj hp _ => by
    have hne : j ≠ l := by rintro rfl; rw [ho] at hj; cases hj; rw [hi] at hp; cases hp
    exact (World.putObj_heap_other hne).trans hj⟩
end Go.Proofs.YtckdnhafookcgaaGreatDoor.Instr

namespace Go.Proofs.YtckdnhafookcgaaGreatDoor.Mod
open Go.RowKit Go.Proofs.YtckdnhafookcgaaGreatDoor.Instr

/-- From address a on lie these rows, each of sz cells; below block n₀. -/
def Rows (n₀ : Nat) (w : World) (a : Option Addr) (sz : Nat) (rs : List (List Value)) : Prop :=
  rs = [] ∨ ∃ b off, a = some ⟨b, off, none⟩ ∧ b < n₀ ∧ ∀ i, i < rs.length → ∀ j, j < sz → ∀ v, (rs.getD i [])[j]? = some v → w.cell? ⟨b, off + i * sz + j, none⟩ = some v
theorem Rows.below {n₀ sz : Nat} {w w' : World} {a : Option Addr} {rs : List (List Value)} (hb : Below n₀ w w') (h : Rows n₀ w a sz rs) : Rows n₀ w' a sz rs := by
  rcases h with h | ⟨b, off, ha, hl, hc⟩
  · exact .inl h
  · exact .inr ⟨b, off, ha, hl, fun i hi j hj v hv => (hb.cell (p := ⟨b, off + i * sz + j, none⟩) hl).trans (hc i hi j hj v hv)⟩
theorem Rows.more {n₀ n₁ sz : Nat} {w : World} {a : Option Addr} {rs : List (List Value)} (hn : n₀ ≤ n₁) (h : Rows n₀ w a sz rs) : Rows n₁ w a sz rs := by
  rcases h with h | ⟨b, off, ha, hl, hc⟩
  · exact .inl h
  · exact .inr ⟨b, off, ha, by omega, hc⟩
/-- Where the k-th of them lies. -/
theorem Rows.get {α : Type} {f : α → List Value} {l : List α} {n₀ sz : Nat} {w : World} {a : Option Addr} (h : Rows n₀ w a sz (l.map f)) {k : Nat} (hk : k < l.length) :
    ∃ b off, a = some ⟨b, off, none⟩ ∧ b < n₀ ∧ ∀ j, j < sz → ∀ v, (f l[k])[j]? = some v → w.cell? ⟨b, off + k * sz + j, none⟩ = some v := by
  rcases h with h | ⟨b, off, ha, hl, hc⟩
  · rw [List.map_eq_nil_iff] at h; subst h; simp at hk
  · refine ⟨b, off, ha, hl, fun j hj v hv => hc k (by simpa using hk) j hj v ?_⟩
    rw [List.getD_eq_getElem?_getD, List.getElem?_map, List.getElem?_eq_getElem hk]
    exact hv
/-- Bytes in memory below block n₀. -/
def BytesAt (n₀ : Nat) (w : World) (a : Option Addr) (zs : List Int) : Prop :=
  zs = [] ∨ ∃ b off, a = some ⟨b, off, none⟩ ∧ b < n₀ ∧ ∀ i, i < zs.length → w.cell? ⟨b, off + i, none⟩ = some (.int .u8 (zs.getD i 0))
theorem BytesAt.below {n₀ : Nat} {w w' : World} {a : Option Addr} {zs : List Int} (hb : Below n₀ w w') (h : BytesAt n₀ w a zs) : BytesAt n₀ w' a zs := by
  rcases h with h | ⟨b, off, ha, hl, hc⟩
  · exact .inl h
  · exact .inr ⟨b, off, ha, hl, fun i hi => (hb.cell (p := ⟨b, off + i, none⟩) hl).trans (hc i hi)⟩
theorem BytesAt.more {n₀ n₁ : Nat} {w : World} {a : Option Addr} {zs : List Int} (hn : n₀ ≤ n₁) (h : BytesAt n₀ w a zs) : BytesAt n₁ w a zs := by
  rcases h with h | ⟨b, off, ha, hl, hc⟩
  · exact .inl h
  · exact .inr ⟨b, off, ha, by omega, hc⟩

/-- A module in memory, below block n₀. -/
structure ModAt (n₀ : Nat) (w : World) (m : Md) : Prop where
  ty : Rows n₀ w m.ty'.a 2 (m.ty.map tyV)
  im : Rows n₀ w m.im'.a 3 (m.im.map Imp.v)
  fu : Rows n₀ w m.fu'.a 3 (m.fu.map Fn.v)
  tb : Rows n₀ w m.tb'.a 3 (m.tb.map Li.v)
  me : Rows n₀ w m.me'.a 3 (m.me.map Li.v)
  gl : Rows n₀ w m.gl'.a 2 (m.gl.map Gl.v)
  ex : Rows n₀ w m.ex'.a 3 (m.ex.map Ex.v)
  el : Rows n₀ w m.el'.a 2 (m.el.map El.v)
  da : Rows n₀ w m.da'.a 2 (m.da.map Da.v)
  ls : ∀ l ∈ m.codes, ListAt n₀ w l.a l.t.len l.t
  fs : ∀ e ∈ m.el, TagsAt n₀ w e.fa e.fs
  bs : ∀ d ∈ m.da, BytesAt n₀ w d.ba d.bs
theorem ModAt.below {n₀ : Nat} {w w' : World} {m : Md} (hb : Below n₀ w w') (h : ModAt n₀ w m) : ModAt n₀ w' m :=
  ⟨h.ty.below hb, h.im.below hb, h.fu.below hb, h.tb.below hb, h.me.below hb, h.gl.below hb, h.ex.below hb, h.el.below hb, h.da.below hb, fun l hl => (h.ls l hl).below hb, fun e he => (h.fs e he).below hb, fun d hd => (h.bs d hd).below hb⟩
theorem ModAt.more {n₀ n₁ : Nat} {w : World} {m : Md} (hn : n₀ ≤ n₁) (h : ModAt n₀ w m) : ModAt n₁ w m :=
  ⟨h.ty.more hn, h.im.more hn, h.fu.more hn, h.tb.more hn, h.me.more hn, h.gl.more hn, h.ex.more hn, h.el.more hn, h.da.more hn, fun l hl => (h.ls l hl).more hn, fun e he => (h.fs e he).more hn, fun d hd => (h.bs d hd).more hn⟩
theorem ModAt.on {w w' : World} {m : Md} (h : ModAt w.heap.size w m) (hb : Below w.heap.size w w') : ModAt w'.heap.size w' m := (h.below hb).more hb.size

/-- Sizes that any machine has. -/
structure Md.fits (m : Md) : Prop where
  ty : m.ty.length ≤ 140737488351232
  im : m.im.length ≤ 140737488351232
  fu : m.fu.length ≤ 140737488351232
  tb : m.tb.length ≤ 140737488351232
  me : m.me.length ≤ 140737488351232
  gl : m.gl.length ≤ 140737488351232
  ex : m.ex.length ≤ 140737488351232
  el : m.el.length ≤ 140737488351232
  da : m.da.length ≤ 140737488351232
  ls : ∀ l ∈ m.codes, l.t.len ≤ 140737488351232
  fs : ∀ e ∈ m.el, e.fs.length ≤ 140737488351232
  bs : ∀ d ∈ m.da, d.bs.length ≤ 140737488351232
  iS : ∀ i ∈ m.im, i.mo.size ≤ 140737488351232 ∧ i.na.size ≤ 140737488351232
  eS : ∀ e ∈ m.ex, e.na.size ≤ 140737488351232
/-- Of which all parts together are few. -/
structure Md.few (m : Md) : Prop where
  fit : m.fits
  cs : ∀ l ∈ m.codes, l.t.count ≤ 1000000
  lens : m.ty.length ≤ 1000000 ∧ m.im.length ≤ 1000000 ∧ m.fu.length ≤ 1000000 ∧ m.tb.length ≤ 1000000 ∧ m.me.length ≤ 1000000 ∧ m.gl.length ≤ 1000000 ∧ m.ex.length ≤ 1000000 ∧ m.el.length ≤ 1000000 ∧ m.da.length ≤ 1000000

/-- The box that a module lies in: cell by cell. -/
def BoxAt (w : World) (g : Nat) (v : Array Value) : Prop := ∀ j x, v[j]? = some x → w.cell? ⟨g, j, none⟩ = some x
theorem BoxAt.made (w : World) (v : Array Value) (t : TypeId) : BoxAt (w.alloc (.cells v t)) w.heap.size v := by
  intro j x h
  simp [go_sem, h]
theorem BoxAt.keep {w w' : World} {g : Nat} {v : Array Value} (hb : Below w.heap.size w w') (h : BoxAt w g v) : BoxAt w' g v := fun j x hj => Go.Proofs.YtckdnhafookcgaaGreatDoor.keep hb (h j x hj)
end Go.Proofs.YtckdnhafookcgaaGreatDoor.Mod

namespace Go.Proofs.YtckdnhafookcgaaGreatDoor.Stk
open Go.RowKit
set_option linter.unusedVariables false

def wrongH (h : Int) : Bool := decide (h < 0) || decide (1073741824 < h)
theorem wrongHeight_any (h : Int) (w : World) : Calls Tryz.prog 267 #[.int .i64 h] w fun e w' => e = .returned (.bool (wrongH h)) ∧ w = w' := by
  have H : Hid (wrongH h = (decide (h < 0) || decide (1073741824 < h))) := rfl
  by_cases g : h < 0
  · have HE : Hid (wrongH h = true) := by show _ = _; rw [H.out]; simp [g]
    go_enter Tryz.func267, Tryz.ntmps267
    go_wp2
    go_ret
    exact ⟨ret_bool HE.out.symm, rfl⟩
  · have h' : decide (h < 0) = false := by simpa using g
    have HE : Hid (wrongH h = decide (1073741824 < h)) := by show _ = _; rw [H.out, h', Bool.false_or]
    clear H
    go_enter Tryz.func267, Tryz.ntmps267
    go_wp2
    go_ret
    exact ⟨ret_bool HE.out.symm, rfl⟩
theorem wrongResults_any (h : Int) (w : World) : Calls Tryz.prog 195 #[.int .i64 h] w fun e w' => e = .returned (.bool (wrongRe h)) ∧ w = w' := by
  have H : Hid (wrongRe h = (decide (h < 0) || decide (1 < h))) := rfl
  by_cases g : h < 0
  · have HE : Hid (wrongRe h = true) := by show _ = _; rw [H.out]; simp [g]
    go_enter Tryz.func195, Tryz.ntmps195
    go_wp2
    go_ret
    exact ⟨ret_bool HE.out.symm, rfl⟩
  · have h' : decide (h < 0) = false := by simpa using g
    have HE : Hid (wrongRe h = decide (1 < h)) := by show _ = _; rw [H.out, h', Bool.false_or]
    clear H
    go_enter Tryz.func195, Tryz.ntmps195
    go_wp2
    go_ret
    exact ⟨ret_bool HE.out.symm, rfl⟩
theorem opensList_any (op : Int) (w : World) : Calls Tryz.prog 259 #[.int .i64 op] w fun e w' => e = .returned (.bool (opens op)) ∧ w = w' := by
  have H : Hid (opens op = (decide (op = 2) || decide (op = 3) || decide (op = 4) || decide (op = 5))) := rfl
  by_cases g2 : op = 2
  · have HE : Hid (opens op = true) := by show _ = _; rw [H.out]; simp [g2]
    subst g2
    clear H
    go_enter Tryz.func259, Tryz.ntmps259
    go_wp2
    go_ret
    exact ⟨ret_bool HE.out.symm, rfl⟩
  by_cases g3 : op = 3
  · have HE : Hid (opens op = true) := by show _ = _; rw [H.out]; simp [g3]
    subst g3
    clear H
    go_enter Tryz.func259, Tryz.ntmps259
    go_wp2
    go_ret
    exact ⟨ret_bool HE.out.symm, rfl⟩
  by_cases g4 : op = 4
  · have HE : Hid (opens op = true) := by show _ = _; rw [H.out]; simp [g4]
    subst g4
    clear H
    go_enter Tryz.func259, Tryz.ntmps259
    go_wp2
    go_ret
    exact ⟨ret_bool HE.out.symm, rfl⟩
  by_cases g5 : op = 5
  · have HE : Hid (opens op = true) := by show _ = _; rw [H.out]; simp [g5]
    subst g5
    clear H
    go_enter Tryz.func259, Tryz.ntmps259
    go_wp2
    go_ret
    exact ⟨ret_bool HE.out.symm, rfl⟩
  have HE : Hid (opens op = false) := by show _ = _; rw [H.out]; simp [g2, g3, g4, g5]
  have q2 : (op == 2) = false := by simp [g2]
  have q3 : (op == 3) = false := by simp [g3]
  have q4 : (op == 4) = false := by simp [g4]
  have q5 : (op == 5) = false := by simp [g5]
  clear H
  go_enter Tryz.func259, Tryz.ntmps259
  go_wp2
  go_ret
  exact ⟨ret_bool HE.out.symm, rfl⟩
theorem s64_in {x : Int} (h0 : -9223372036854775808 ≤ x) (h1 : x ≤ 9223372036854775807) : IntKind.i64.wrap x = x := by rw [IntKind.wrap_i64]; omega
/-- What is left when n words are taken in a frame. -/
theorem without_any (h n : Int) (f : Fr) (w : World) (h0 : 0 ≤ h) (h1 : h ≤ 1073741824) (b0 : 0 ≤ f.ba) (b1 : f.ba ≤ h) (n0 : 0 ≤ n) (n1 : n ≤ 9223372036854775807) :
    Calls Tryz.prog 252 #[.int .i64 h, .int .i64 n, .agg #[.int .i64 f.op, .int .i64 f.ba, .int .i64 f.re, .bool f.de]] w fun e w' => e = .returned (.tuple #[.int .i64 (without h n f).1, .int .i64 (without h n f).2]) ∧ Below w.heap.size w w' := by
  have HW : Hid (without h n f = if h - f.ba < n ∧ f.de = false then (0, 200) else (if f.ba ≤ h - n then h - n else f.ba, 0)) := rfl
  generalize hR : without h n f = R at HW ⊢
  obtain ⟨op, ba, re, de⟩ := f
  dsimp only at *
  clear hR
  have k1 : IntKind.i64.wrap (h - ba) = h - ba := s64_in (by omega) (by omega)
  have k2 : IntKind.i64.wrap (h - n) = h - n := s64_in (by omega) (by omega)
  by_cases g1 : h - ba < n
  · cases de with
    | false =>
      have HR : Hid (R = (0, 200)) := by show _ = _; rw [HW.out]; simp [g1]
      clear HW
      go_enter Tryz.func252, Tryz.ntmps252
      go_wp2
      go_ret2
      exact ⟨by rw [HR.out]; rfl, (Below.refl _ _).alloc (Nat.le_refl _) _⟩
    | true =>
      have HR : Hid (R = (ba, 0)) := by show _ = _; rw [HW.out]; simp; omega
      clear HW
      go_enter Tryz.func252, Tryz.ntmps252
      go_wp2
      go_ret2
      exact ⟨by rw [HR.out]; simp <;> omega, (Below.refl _ _).alloc (Nat.le_refl _) _⟩
  · have HR : Hid (R = (h - n, 0)) := by show _ = _; rw [HW.out, if_neg (fun h => g1 h.1), if_pos (by omega)]
    clear HW
    go_enter Tryz.func252, Tryz.ntmps252
    go_wp2
    go_ret2
    exact ⟨by rw [HR.out]; simp <;> omega, (Below.refl _ _).alloc (Nat.le_refl _) _⟩
end Go.Proofs.YtckdnhafookcgaaGreatDoor.Stk

namespace Go.Proofs.YtckdnhafookcgaaGreatDoor.Stk
open Go.RowKit
set_option linter.unusedVariables false

theorem drewn {B : Nat} {a w : World} (h : Below B a w) (n : Nat) : Below B a (w.drewN n) := ⟨h.os, h.tape, h.output, h.size, h.block⟩
/-- A stand in memory, below block n₀. -/
structure StAt (n₀ : Nat) (w : World) (a : Option Addr) (n c : Nat) (l : List Fr) : Prop where
  rows : Rows n₀ w a 4 (l.map Fr.v)
  len : l.length = n
  cap : n ≤ c
  fit : n ≤ 140737488351232
theorem StAt.below {n₀ : Nat} {w w' : World} {a : Option Addr} {n c : Nat} {l : List Fr} (hb : Below n₀ w w') (h : StAt n₀ w a n c l) : StAt n₀ w' a n c l := ⟨h.rows.below hb, h.len, h.cap, h.fit⟩
theorem StAt.more {n₀ n₁ : Nat} {w : World} {a : Option Addr} {n c : Nat} {l : List Fr} (hn : n₀ ≤ n₁) (h : StAt n₀ w a n c l) : StAt n₁ w a n c l := ⟨h.rows.more hn, h.len, h.cap, h.fit⟩
theorem StAt.on {w w' : World} {a : Option Addr} {n c : Nat} {l : List Fr} (h : StAt w.heap.size w a n c l) (hb : Below w.heap.size w w') : StAt w'.heap.size w' a n c l := (h.below hb).more hb.size
/-- Where the k-th frame lies. -/
theorem StAt.get {n₀ : Nat} {w : World} {a : Option Addr} {n c : Nat} {l : List Fr} (h : StAt n₀ w a n c l) (h0 : 0 < n) : ∃ b off, a = some ⟨b, off, none⟩ ∧ b < n₀ ∧ ∀ k (hk : k < l.length),
    w.cell? ⟨b, off + k * 4, none⟩ = some (.int .i64 l[k].op) ∧ w.cell? ⟨b, off + k * 4 + 1, none⟩ = some (.int .i64 l[k].ba) ∧ w.cell? ⟨b, off + k * 4 + 2, none⟩ = some (.int .i64 l[k].re) ∧ w.cell? ⟨b, off + k * 4 + 3, none⟩ = some (.bool l[k].de) := by
  have hl := h.len
  rcases h.rows with h1 | ⟨b, off, ha, hb, hc⟩
  · rw [List.map_eq_nil_iff] at h1; subst h1; simp at hl; omega
  · refine ⟨b, off, ha, hb, fun k hk => ?_⟩
    have key : ∀ j, j < 4 → ∀ v, (l[k].v)[j]? = some v → w.cell? ⟨b, off + k * 4 + j, none⟩ = some v := fun j hj v hv => hc k (by simpa using hk) j hj v (by
      rw [List.getD_eq_getElem?_getD, List.getElem?_map, List.getElem?_eq_getElem hk]; exact hv)
    exact ⟨key 0 (by omega) _ rfl, key 1 (by omega) _ rfl, key 2 (by omega) _ rfl, key 3 (by omega) _ rfl⟩

set_option maxRecDepth 100000 in
set_option maxHeartbeats 2000000 in
theorem wrongFrames_any (h : Int) (a : Option Addr) (n c : Nat) (l : List Fr) (w : World) (hs : StAt w.heap.size w a n c l) :
    Calls Tryz.prog 268 #[.agg #[.int .i64 h, .slice a n c]] w fun e w' => e = .returned (.bool (badAll h l)) ∧ Below w.heap.size w w' := by
  have HL := hid hs.len
  have HB1 := hid ((Below.refl w.heap.size w).alloc (Nat.le_refl _) (.cells #[.int .i64 h, .slice a n c] 214))
  have x0 : (w.alloc (.cells #[.int .i64 h, .slice a n c] 214)).cell? ⟨w.heap.size, 0, none⟩ = some (.int .i64 h) := by go_simp
  have x1 : (w.alloc (.cells #[.int .i64 h, .slice a n c] 214)).cell? ⟨w.heap.size, 1, none⟩ = some (.slice a n c) := by go_simp
  by_cases h0 : n = 0
  · subst h0
    have HE : Hid (badAll h l = true) := by show _ = _; rw [List.eq_nil_of_length_eq_zero HL.out]; rfl
    clear hs
    go_enter Tryz.func268, Tryz.ntmps268
    go_wp2
    go_ret
    exact ⟨ret_bool HE.out.symm, HB1.out⟩
  by_cases h1 : 1000 < n
  · have HE : Hid (badAll h l = true) := by
      show _ = _
      cases l with
      | nil => rfl
      | cons f l => have hl := HL.out; simp only [List.length_cons] at hl; simp only [badAll, Bool.or_eq_true, decide_eq_true_eq]; left; omega
    have h1i : (1000 : Int) < (n : Int) := by omega
    have h0i : ((n : Int) == 0) = false := by simp; omega
    clear hs
    go_enter Tryz.func268, Tryz.ntmps268
    go_wp2
    go_ret
    exact ⟨ret_bool HE.out.symm, HB1.out⟩
  have HN1 := hid h1
  obtain ⟨b, off, rfl, hb, hc⟩ := hs.get (Nat.pos_of_ne_zero h0)
  have HC := hid hc
  cases l with
  | nil => exact absurd HL.out (by simp; omega)
  | cons f l' =>
  obtain ⟨op, ba, re, de⟩ := f
  obtain ⟨c0, c1, c2, c3⟩ := HC.out 0 (by simp)
  simp only [List.getElem_cons_zero, Nat.zero_mul, Nat.add_zero] at c0 c1 c2 c3
  have h1i : ¬ (1000 : Int) < (n : Int) := by omega
  have h0i : ((n : Int) == 0) = false := by simp; omega
  have h0j : (0 : Int) < (n : Int) := by omega
  have HW1 := hid hs.cap
  have HE0 : Hid (badAll h (⟨op, ba, re, de⟩ :: l') = (badFirst ⟨op, ba, re, de⟩ || badL h 0 l')) := by
    show _ = _
    have hl := HL.out
    simp only [List.length_cons] at hl
    simp only [badAll]
    rw [show decide (1000 < l'.length + 1) = false by simp; omega, Bool.false_or]
  have CR := hid (fun W => wrongResults_any re W)
  obtain ⟨W1, hW1⟩ : ∃ W1, W1 = ((w.alloc (.cells #[.int .i64 h, .slice (some ⟨b, off, none⟩) n c] 214)).alloc (.cells #[.int .i64 op, .int .i64 ba, .int .i64 re, .bool de] 254)) := ⟨_, rfl⟩
  have HBW := hid (show Below w.heap.size w W1 by rw [hW1]; exact HB1.out.alloc (by simp) _)
  have y0 : W1.cell? ⟨w.heap.size, 0, none⟩ = some (.int .i64 h) := by rw [hW1]; go_simp
  have y1 : W1.cell? ⟨w.heap.size, 1, none⟩ = some (.slice (some ⟨b, off, none⟩) n c) := by rw [hW1]; go_simp
  have HSZ := hid (show w.heap.size + 2 = W1.heap.size by rw [hW1]; simp)
  have HW := hid hW1
  clear hc hs h1 hW1
  by_cases g0 : op = 0
  rotate_left
  · have HE : Hid (badAll h (⟨op, ba, re, de⟩ :: l') = true) := by show _ = _; rw [HE0.out]; simp [badFirst, g0]
    have q0 : (op != 0) = true := by simp [g0]
    clear HE0 HC
    go_enter Tryz.func268, Tryz.ntmps268
    go_wp2_with fail
    go_ret
    exact ⟨ret_bool HE.out.symm, by rw [← HW.out]; exact HBW.out⟩
  subst g0
  by_cases g1 : ba = 0
  rotate_left
  · have HE : Hid (badAll h (⟨0, ba, re, de⟩ :: l') = true) := by show _ = _; rw [HE0.out]; simp [badFirst, g1]
    have q0 : (ba != 0) = true := by simp [g1]
    clear HE0 HC
    go_enter Tryz.func268, Tryz.ntmps268
    go_wp2_with fail
    go_ret
    exact ⟨ret_bool HE.out.symm, by rw [← HW.out]; exact HBW.out⟩
  subst g1
  obtain ⟨q, hq⟩ : ∃ q, wrongRe re = q := ⟨_, rfl⟩
  rw [hq] at CR
  have HE1 : Hid (badAll h (⟨0, 0, re, de⟩ :: l') = (q || badL h 0 l')) := by show _ = _; rw [HE0.out]; simp [badFirst, hq]
  obtain ⟨R, hR⟩ : ∃ R, badAll h (⟨0, 0, re, de⟩ :: l') = R := ⟨_, rfl⟩
  rw [hR] at HE1 ⊢
  clear hq HE0 hR
  cases q with
  | true =>
    have HE : Hid (R = true) := HE1.out
    clear HE1 HC
    go_enter Tryz.func268, Tryz.ntmps268
    go_wp2_with fail
    refine (CR.out _).mono ?_
    rintro e w1 ⟨rfl, rfl⟩
    rw [← HW.out]
    go_wp2
    go_ret
    exact ⟨ret_bool HE.out.symm, HBW.out⟩
  | false =>
    go_enter Tryz.func268, Tryz.ntmps268
    go_wp2_with fail
    refine (CR.out _).mono ?_
    rintro e w1 ⟨rfl, rfl⟩
    rw [← HW.out]
    clear CR HW
    by_cases hcc : c = 1
    · subst hcc
      obtain rfl : n = 1 := by have := HW1.out; omega
      have hl0 : l' = [] := List.eq_nil_of_length_eq_zero (by have := HL.out; simpa using this)
      subst hl0
      have HE : Hid (R = false) := HE1.out
      clear HE1 HC
      go_wp2
      go_loopw [4, 5, 37] (fun _ _ vi wr => vi = .int .i64 0 ∧ wr = W1) (fun _ _ _ _ => 0)
      case atStart => exact ⟨rfl, rfl⟩
      case round =>
        obtain ⟨rfl, rfl⟩ := hrel
        go_wp2
        go_ret
        exact ⟨ret_bool HE.out.symm, HBW.out⟩
    · obtain ⟨m, rfl⟩ : ∃ m, n = m + 1 := ⟨n - 1, by omega⟩
      have hc1 : 1 ≤ m + 1 := by omega
      have hc2 : m + 1 ≤ c := HW1.out
      have hc3 : ¬ ((c : Int) = 1) := by omega
      have HLM : Hid (l'.length = m) := hid (by have := HL.out; simpa using this)
      have HE2 : Hid (R = badL h 0 l') := HE1.out
      clear HE1 HL
      have HCC := hid (fun (W : World) (hW : Below W1.heap.size W1 W) k (hk : k < l'.length + 1) => (by
        obtain ⟨g0, g1, g2, g3⟩ := HC.out k (by simpa using hk)
        have hbw := HBW.out.trans (hW.mono HBW.out.size)
        exact ⟨(hbw.cell (p := ⟨b, off + k * 4, none⟩) hb).trans g0, (hbw.cell (p := ⟨b, off + k * 4 + 1, none⟩) hb).trans g1, (hbw.cell (p := ⟨b, off + k * 4 + 2, none⟩) hb).trans g2, (hbw.cell (p := ⟨b, off + k * 4 + 3, none⟩) hb).trans g3⟩ :
        W.cell? ⟨b, off + k * 4, none⟩ = some (.int .i64 ((⟨0, 0, re, de⟩ :: l' : List Fr)[k]'(by simpa using hk)).op) ∧ W.cell? ⟨b, off + k * 4 + 1, none⟩ = some (.int .i64 ((⟨0, 0, re, de⟩ :: l' : List Fr)[k]'(by simpa using hk)).ba) ∧ W.cell? ⟨b, off + k * 4 + 2, none⟩ = some (.int .i64 ((⟨0, 0, re, de⟩ :: l' : List Fr)[k]'(by simpa using hk)).re) ∧ W.cell? ⟨b, off + k * 4 + 3, none⟩ = some (.bool ((⟨0, 0, re, de⟩ :: l' : List Fr)[k]'(by simpa using hk)).de)))
      clear HC c0 c1 c2 c3
      go_wp2
      go_loopw [4, 5, 37] (fun _ _ vi wr => ∃ k : Nat, vi = .int .i64 k ∧ k ≤ m ∧ Hid (Below W1.heap.size W1 wr) ∧ Hid (R = badL h ((⟨0, 0, re, de⟩ :: l' : List Fr).getD k Fr.none).ba (l'.drop k))) (fun _ _ vi _ => m - (intOf vi).toNat)
      case atStart => exact ⟨0, rfl, Nat.zero_le _, Below.refl _ _, HE2.out⟩
      case round =>
        obtain ⟨k, rfl, hk, HB, HI⟩ := hrel
        by_cases hlt : k < m
        · have hkl : k < l'.length := by rw [HLM.out]; exact hlt
          obtain ⟨g0, g1, g2, g3⟩ := HCC.out wr HB.out (k + 1) (by omega)
          obtain ⟨-, e1, -, -⟩ := HCC.out wr HB.out k (by omega)
          have hy : (⟨0, 0, re, de⟩ :: l' : List Fr)[k + 1]'(by simpa using hkl) = l'[k] := rfl
          have HS : Hid (R = (badF h ((⟨0, 0, re, de⟩ :: l' : List Fr).getD k Fr.none).ba l'[k] || badL h l'[k].ba (l'.drop (k + 1)))) := hid (by rw [HI.out, badL_at hkl])
          have hgd : ((⟨0, 0, re, de⟩ :: l' : List Fr).getD k Fr.none) = (⟨0, 0, re, de⟩ :: l' : List Fr)[k]'(by simp; omega) := by rw [List.getD_eq_getElem?_getD, List.getElem?_eq_getElem (by simp; omega)]; rfl
          have hgd1 : ((⟨0, 0, re, de⟩ :: l' : List Fr).getD (k + 1) Fr.none) = l'[k] := by rw [List.getD_eq_getElem?_getD, List.getElem?_eq_getElem (by simpa using hkl)]; rfl
          have HG1 := hid hgd1
          rw [hgd] at HS
          rw [hy] at g0 g1 g2 g3
          obtain ⟨b0, hb0⟩ : ∃ b0, ((⟨0, 0, re, de⟩ :: l' : List Fr)[k]'(by simp; omega)).ba = b0 := ⟨_, rfl⟩
          rw [hb0] at e1 HS
          obtain ⟨y, hye⟩ : ∃ y, l'[k] = y := ⟨_, rfl⟩
          rw [hye] at g0 g1 g2 g3 HS HG1
          obtain ⟨yo, yb, yr, yd⟩ := y
          dsimp only at g0 g1 g2 g3 HS HG1
          have ad : off + (k + 1) * 4 = off + 4 + k * 4 := by omega
          rw [ad] at g0 g1 g2 g3
          have hki : (k : Int) < (m : Int) := by omega
          clear hye hb0 hgd hgd1 hy ad HI
          have hks : k < m + 1 := by omega
          have hkj : (k : Int) < (m : Int) + 1 := by omega
          have t0 : wr.cell? ⟨w.heap.size, 0, none⟩ = some (.int .i64 h) := (HB.out.cell (p := ⟨w.heap.size, 0, none⟩) (by have := HSZ.out; show w.heap.size < _; omega)).trans y0
          have t1 : wr.cell? ⟨w.heap.size, 1, none⟩ = some (.slice (some ⟨b, off, none⟩) (m + 1) c) := (HB.out.cell (p := ⟨w.heap.size, 1, none⟩) (by have := HSZ.out; show w.heap.size < _; omega)).trans y1
          obtain ⟨W2, hW2⟩ : ∃ W2, W2 = wr.alloc (.cells #[.int .i64 yo, .int .i64 yb, .int .i64 yr, .bool yd] 254) := ⟨_, rfl⟩
          have HW2 := hid hW2
          have hA := (Below.refl wr.heap.size wr).alloc (Nat.le_refl _) (.cells #[.int .i64 yo, .int .i64 yb, .int .i64 yr, .bool yd] 254)
          rw [← hW2] at hA
          have HB2 := hid (HB.out.trans (hA.mono HB.out.size))
          have z0 : W2.cell? ⟨wr.heap.size, 0, none⟩ = some (.int .i64 yo) := by rw [hW2]; go_simp
          have z1 : W2.cell? ⟨wr.heap.size, 1, none⟩ = some (.int .i64 yb) := by rw [hW2]; go_simp
          have z2 : W2.cell? ⟨wr.heap.size, 2, none⟩ = some (.int .i64 yr) := by rw [hW2]; go_simp
          have t0' := keep hA t0
          have t1' := keep hA t1
          have e1' := keep hA e1
          clear hA hW2 y0 y1
          obtain ⟨q, hq⟩ : ∃ q, opens yo = q := ⟨_, rfl⟩
          have CO := hid (fun W => opensList_any yo W)
          rw [hq] at CO
          cases q with
          | false =>
            have HF : Hid (R = true) := hid (by rw [HS.out]; simp [badF, hq])
            clear hq HS HE2 HG1 HCC HLM
            go_wp2
            rw [← HW2.out]
            go_quiet ((go_at_call 259; exact Calls.quiet_of_same ((CO.out _).mono fun e w' h => ⟨h.1, h.2.symm⟩)))
            go_wp2
            go_ret
            exact ⟨ret_bool HF.out.symm, HBW.out.trans ((drewn HB2.out _).mono HBW.out.size)⟩
          | true =>
            have CR2 := hid (fun W => wrongResults_any yr W)
            by_cases d1 : yb < b0
            · have HF : Hid (R = true) := hid (by rw [HS.out]; simp [badF, hq, d1])
              clear hq HS HE2 HG1 HCC HLM
              go_wp2
              rw [← HW2.out]
              go_quiet (first | (go_at_call 259; exact Calls.quiet_of_same ((CO.out _).mono fun e w' h => ⟨h.1, h.2.symm⟩)) | (go_at_call 195; exact Calls.quiet_of_same ((CR2.out _).mono fun e w' h => ⟨h.1, h.2.symm⟩)))
              go_wp2
              go_ret
              exact ⟨ret_bool HF.out.symm, HBW.out.trans ((drewn HB2.out _).mono HBW.out.size)⟩
            have d1' : decide (yb < b0) = false := by simpa using d1
            by_cases d2 : h < yb
            · have HF : Hid (R = true) := hid (by rw [HS.out]; simp [badF, hq, d1, d2])
              clear hq HS HE2 HG1 HCC HLM d1
              go_wp2
              rw [← HW2.out]
              go_quiet (first | (go_at_call 259; exact Calls.quiet_of_same ((CO.out _).mono fun e w' h => ⟨h.1, h.2.symm⟩)) | (go_at_call 195; exact Calls.quiet_of_same ((CR2.out _).mono fun e w' h => ⟨h.1, h.2.symm⟩)))
              go_wp2
              go_ret
              exact ⟨ret_bool HF.out.symm, HBW.out.trans ((drewn HB2.out _).mono HBW.out.size)⟩
            have d2' : decide (h < yb) = false := by simpa using d2
            obtain ⟨q2, hq2⟩ : ∃ q, wrongRe yr = q := ⟨_, rfl⟩
            rw [hq2] at CR2
            have HX : Hid (R = (q2 || badL h yb (l'.drop (k + 1)))) := hid (by rw [HS.out]; simp [badF, hq, d1, d2, hq2])
            clear hq HS hq2 d1 d2
            cases q2 with
            | true =>
              have HF : Hid (R = true) := HX.out
              clear HX HE2 HG1 HCC HLM
              go_wp2
              rw [← HW2.out]
              go_quiet (first | (go_at_call 259; exact Calls.quiet_of_same ((CO.out _).mono fun e w' h => ⟨h.1, h.2.symm⟩)) | (go_at_call 195; exact Calls.quiet_of_same ((CR2.out _).mono fun e w' h => ⟨h.1, h.2.symm⟩)))
              go_wp2
              go_ret
              exact ⟨ret_bool HF.out.symm, HBW.out.trans ((drewn HB2.out _).mono HBW.out.size)⟩
            | false =>
              have HF : Hid (R = badL h yb (l'.drop (k + 1))) := HX.out
              clear HX HE2
              go_wp2
              rw [← HW2.out]
              go_quiet (first | (go_at_call 259; exact Calls.quiet_of_same ((CO.out _).mono fun e w' h => ⟨h.1, h.2.symm⟩)) | (go_at_call 195; exact Calls.quiet_of_same ((CR2.out _).mono fun e w' h => ⟨h.1, h.2.symm⟩)))
              go_wp2
              go_roundw
              case rel => exact ⟨k + 1, by go_num, by omega, drewn HB2.out _, by rw [HG1.out]; exact HF.out⟩
              case measure => simp [intOf]; omega
        · obtain rfl : k = m := by omega
          have HF : Hid (R = false) := hid (by rw [HI.out, List.drop_eq_nil_of_le (by rw [HLM.out]; exact Nat.le_refl _)]; rfl)
          clear HI HE2
          go_wp2
          go_ret
          exact ⟨ret_bool HF.out.symm, HBW.out.trans (HB.out.mono HBW.out.size)⟩
end Go.Proofs.YtckdnhafookcgaaGreatDoor.Stk

namespace Go.Proofs.YtckdnhafookcgaaGreatDoor.Stk
open Go.RowKit
set_option linter.unusedVariables false

theorem chk_low {h : Int} {l : List Fr} (g : h < 0) : chk h l = 2 := by unfold chk valid; rw [show decide (0 ≤ h) = false by simp; omega]; simp
theorem chk_high {h : Int} {l : List Fr} (g : 1073741824 < h) : chk h l = 2 := by unfold chk valid; rw [show decide (h ≤ 1073741824) = false by simp; omega]; simp
theorem chk_in {h : Int} {l : List Fr} (g0 : ¬ h < 0) (g1 : ¬ 1073741824 < h) : chk h l = if badAll h l then 2 else 0 := by
  unfold chk valid
  rw [show decide (0 ≤ h) = true by simp; omega, show decide (h ≤ 1073741824) = true by simp; omega]
  cases badAll h l <;> rfl
set_option maxHeartbeats 2000000 in
theorem check_any (h : Int) (a : Option Addr) (n c : Nat) (l : List Fr) (w : World) (hs : StAt w.heap.size w a n c l) :
    Calls Tryz.prog 260 #[.agg #[.int .i64 h, .slice a n c]] w fun e w' => e = .returned (.int .i64 (chk h l)) ∧ Below w.heap.size w w' := by
  have HB1 := hid ((Below.refl w.heap.size w).alloc (Nat.le_refl _) (.cells #[.int .i64 h, .slice a n c] 214))
  have CW := hid (wrongFrames_any h a n c l (w.alloc (.cells #[.int .i64 h, .slice a n c] 214)) (hs.on HB1.out))
  have CH := hid (fun W => wrongHeight_any h W)
  obtain ⟨q, hq⟩ : ∃ q, wrongH h = q := ⟨_, rfl⟩
  rw [hq] at CH
  have x0 : (w.alloc (.cells #[.int .i64 h, .slice a n c] 214)).cell? ⟨w.heap.size, 0, none⟩ = some (.int .i64 h) := by go_simp
  have x1 : (w.alloc (.cells #[.int .i64 h, .slice a n c] 214)).cell? ⟨w.heap.size, 1, none⟩ = some (.slice a n c) := by go_simp
  have HQ := hid hq
  have HI := hid (fun g0 g1 => chk_in (h := h) (l := l) g0 g1)
  have HT := hid (fun g => chk_low (h := h) (l := l) g)
  have HT2 := hid (fun g => chk_high (h := h) (l := l) g)
  obtain ⟨B, hB⟩ : ∃ B, badAll h l = B := ⟨_, rfl⟩
  obtain ⟨R, hR⟩ : ∃ R, chk h l = R := ⟨_, rfl⟩
  rw [hB] at CW HI
  rw [hR] at HI HT HT2 ⊢
  clear hq hs hB hR
  cases q with
  | true =>
    have HR : Hid (R = 2) := hid (by
      have h := HQ.out
      simp only [wrongH, Bool.or_eq_true, decide_eq_true_eq] at h
      exact h.elim HT.out HT2.out)
    clear HQ HI HT HT2 CW
    go_enter Tryz.func260, Tryz.ntmps260
    go_wp2_with fail
    refine (CH.out _).mono ?_
    rintro e w1 ⟨rfl, rfl⟩
    go_wp2
    go_ret
    exact ⟨ret_int HR.out.symm, HB1.out⟩
  | false =>
    have HR : Hid (R = if B then 2 else 0) := hid (by
      have h := HQ.out
      simp only [wrongH, Bool.or_eq_false_iff, decide_eq_false_iff_not] at h
      exact HI.out h.1 h.2)
    clear HQ HI HT HT2
    cases B with
    | true =>
      have HF : Hid (R = 2) := HR.out
      clear HR
      go_enter Tryz.func260, Tryz.ntmps260
      go_wp2_with fail
      refine (CH.out _).mono ?_
      rintro e w1 ⟨rfl, rfl⟩
      go_wp2_with fail
      refine CW.out.mono ?_
      rintro e w1 ⟨rfl, hb⟩
      have HB := hid (HB1.out.trans (hb.mono HB1.out.size))
      clear hb
      go_wp2
      go_ret
      exact ⟨ret_int HF.out.symm, HB.out⟩
    | false =>
      have HF : Hid (R = 0) := HR.out
      clear HR
      go_enter Tryz.func260, Tryz.ntmps260
      go_wp2_with fail
      refine (CH.out _).mono ?_
      rintro e w1 ⟨rfl, rfl⟩
      go_wp2_with fail
      refine CW.out.mono ?_
      rintro e w1 ⟨rfl, hb⟩
      have HB := hid (HB1.out.trans (hb.mono HB1.out.size))
      clear hb
      go_wp2
      go_ret
      exact ⟨ret_int HF.out.symm, HB.out⟩

end Go.Proofs.YtckdnhafookcgaaGreatDoor.Stk

namespace Go.Proofs.YtckdnhafookcgaaGreatDoor.Stk
open Go.RowKit
set_option linter.unusedVariables false

theorem infoFr : (Tryz.prog.info? 254).map (fun i => (i.zero, i.size, i.bytes)) = some (some (.agg #[.int .i64 0, .int .i64 0, .int .i64 0, .bool false]), 4, 32) := by kernel_rfl
/-- A box that holds a stand. -/
def Bx (W : World) (g : Nat) (x y : Value) : Prop := W.heap[g]? = some (.cells #[x, y] 214 (0, 0))
theorem Bx.lt {W : World} {g : Nat} {x y : Value} (h : Bx W g x y) : g < W.heap.size := (Array.getElem?_eq_some_iff.1 h).1
theorem Bx.made (W : World) (x y : Value) : Bx (W.alloc (.cells #[x, y] 214)) W.heap.size x y := heap_alloc_new W _
theorem Bx.belowB {B : Nat} {W W' : World} {g : Nat} {x y : Value} (h : Bx W g x y) (hb : Below B W W') (hg : g < B) : Bx W' g x y := (hb.block g hg).trans h
theorem Bx.below {W W' : World} {g : Nat} {x y : Value} (h : Bx W g x y) (hb : Below W.heap.size W W') : Bx W' g x y := h.belowB hb h.lt
theorem Bx.c0 {W : World} {g : Nat} {x y : Value} (h : Bx W g x y) : W.cell? ⟨g, 0, none⟩ = some x := cell_of_row W g 0 _ _ _ h
theorem Bx.c1 {W : World} {g : Nat} {x y : Value} (h : Bx W g x y) : W.cell? ⟨g, 1, none⟩ = some y := cell_of_row W g 1 _ _ _ h
theorem Bx.f {W : World} {g : Nat} {x y : Value} (h : Bx W g x y) (j : Nat) : W.frozen? ⟨g, j, none⟩ = false := frozen_of_row W g j _ _ h
theorem Bx.set0 {W : World} {g : Nat} {x y : Value} (h : Bx W g x y) (u : Value) : Bx (W.setCell ⟨g, 0, none⟩ u) g u y := heap_setCell_same W g 0 _ _ u h
theorem Bx.set1 {W : World} {g : Nat} {x y : Value} (h : Bx W g x y) (u : Value) : Bx (W.setCell ⟨g, 1, none⟩ u) g x u := heap_setCell_same W g 1 _ _ u h
theorem Bx.far {W : World} {g : Nat} {x y : Value} (h : Bx W g x y) {p : Addr} (hp : g ≠ p.block) (u : Value) : Bx (W.setCell p u) g x y := (Below.heap_setCell W p u g hp).trans h

theorem four (f : Fr) : f.v.length = 4 := rfl
theorem fours (l : List Fr) : ∀ r ∈ l.map Fr.v, r.length = 4 := by
  intro r hr
  obtain ⟨f, _, rfl⟩ := List.mem_map.1 hr
  rfl
theorem ones (l : List Fr) : ∀ r ∈ l.map Fr.v, ∀ u ∈ r, u.oneCell' = true := by
  intro r hr u hu
  obtain ⟨f, _, rfl⟩ := List.mem_map.1 hr
  simp only [Fr.v, List.mem_cons, List.not_mem_nil, or_false] at hu
  rcases hu with rfl | rfl | rfl | rfl <;> rfl
/-- Frames that a call made itself. -/
def OwnF (base : Nat) (w : World) (v : Value) (l : List Fr) : Prop := OwnR 254 4 base w v (l.map Fr.v)
theorem OwnF.slice {base : Nat} {w : World} {v : Value} {l : List Fr} (h : OwnF base w v l) (hl : l.length ≤ 1000000) : ∃ a c, v = .slice a l.length c ∧ StAt w.heap.size w a l.length c l := by
  obtain ⟨a, c, hv, hr, _⟩ := OwnR.rows h
  rw [List.length_map] at hv
  refine ⟨a, c, hv, ⟨hr, rfl, ?_, by omega⟩⟩
  · rcases h.row.2 with ⟨h1, h0⟩ | ⟨g, cap, cur, h1, _, _, hc, _⟩
    · rw [List.length_map] at h0; omega
    · rw [hv] at h1
      simp only [Value.slice.injEq] at h1
      rw [List.length_map] at hc
      omega
/-- Two stores, and what they leave. -/
theorem box2 {W : World} {g : Nat} {x y : Value} (h : Bx W g x y) (u v : Value) : Bx ((W.setCell ⟨g, 0, none⟩ u).setCell ⟨g, 1, none⟩ v) g u v := (h.set0 u).set1 v
theorem OwnF.set {base : Nat} {w : World} {v : Value} {l : List Fr} (h : OwnF base w v l) {p : Addr} (hp : p.block < base) (u : Value) : OwnF base (w.setCell p u) v l := OwnR.setCell h hp u
theorem OwnF.mono {base base' : Nat} {w : World} {v : Value} {l : List Fr} (h : OwnF base w v l) (hb : base' ≤ base) : OwnF base' w v l := OwnR.mono h hb
theorem OwnF.below {base : Nat} {w w' : World} {v : Value} {l : List Fr} (h : OwnF base w v l) (hb : Below w.heap.size w w') : OwnF base w' v l := OwnR.below h hb
theorem ownF_nil (base : Nat) (w : World) : OwnF base w (.slice none 0 0) [] := OwnR.start _ _ _ _
set_option maxHeartbeats 1000000 in
theorem clone_any (w : World) (a : Option Addr) (n c : Nat) (l : List Fr) (hn : l.length = n) (hr : Rows w.heap.size w a 4 (l.map Fr.v)) (hl : n ≤ 1000000) :
    Calls Tryz.prog 261 #[.slice a n c] w fun e w' => ∃ v, e = .returned v ∧ OwnF w.heap.size w' v l ∧ Below w.heap.size w w' := by
  unfold OwnF
  have HL := hid (fours l)
  have H1 := hid (ones l)
  have HN0 : Hid (l = [] ∨ (l.map Fr.v).length = n) := hid (.inr (by simpa using hn))
  have HE := hid (fun (h : l.map Fr.v = []) => h)
  obtain ⟨ys, hys⟩ : ∃ ys, l.map Fr.v = ys := ⟨_, rfl⟩
  have HN := hid (show ys.length = n by rw [← hys]; simpa using hn)
  rw [hys] at hr HL H1 ⊢
  have HR := hid hr
  have HM := hid (show ys.length ≤ 1000000000 by rw [HN.out]; omega)
  clear hn hr hl HN0 HE hys
  cases a with
  | none =>
    have HY : Hid (ys = []) := hid (HR.out.elim id (fun ⟨b, off, h, _⟩ => by cases h))
    have qn := Lib.run_eql_slice_nil (P := Tryz.prog) w 212 254 Option.none n c 0 0 Tryz.underlying212
    rw [Option.isNone_none] at qn
    go_enter Tryz.func261, Tryz.ntmps261
    go_wp2
    go_ret
    exact ⟨_, rfl, by rw [HY.out]; exact OwnR.start _ _ _ _, Below.refl _ _⟩
  | some ad =>
    have qn := Lib.run_eql_slice_nil (P := Tryz.prog) w 212 254 (some ad) n c 0 0 Tryz.underlying212
    rw [Option.isNone_some] at qn
    go_enter Tryz.func261, Tryz.ntmps261
    go_wp2_with (at_builtin; refine append_list infoFr rfl (by omega) (by omega) Tryz.underlying212 rfl (.tmp 5) (.tmp 6) rfl rfl (OwnR.madeG 254 4 _ rfl) (by simp) _ _ _ rfl ys HN.out ((HR.out.below ((Below.refl _ _).alloc (Nat.le_refl _) _)).more (by simp)) HL.out H1.out HM.out ?_; intro v1 u1 ho hb hsz)
    go_ret
    exact ⟨_, rfl, ho, (((Below.refl w.heap.size w).alloc (Nat.le_refl _) _).trans hb)⟩
end Go.Proofs.YtckdnhafookcgaaGreatDoor.Stk

namespace Go.Proofs.YtckdnhafookcgaaGreatDoor.Stk
open Go.RowKit
set_option linter.unusedVariables false

theorem results_cs {fn : Func} {p q : Tmp} (h : fn.results = #[.cell p 214, .tmp q]) (tmps : Array Value) (w : World) (g : Nat) {x y : Value} (hp : tmps.getD p undef = .pointer (some ⟨g, 0, none⟩)) (hb : Bx w g x y) :
    (results fn tmps).run Tryz.prog w = .ok (.tuple #[.agg #[x, y], tmps.getD q undef]) w := by
  have hp' : tmps[p]?.getD undef = .pointer (some ⟨g, 0, none⟩) := by simpa using hp
  simp [results, h, hp', asAddr, run_loadVar_row w g _ 214 _ _ _ hb Tryz.underlying214 rfl (by kernel_rfl)]
theorem results_css {fn : Func} {p q r : Tmp} (h : fn.results = #[.cell p 214, .tmp q, .tmp r]) (tmps : Array Value) (w : World) (g : Nat) {x y : Value} (hp : tmps.getD p undef = .pointer (some ⟨g, 0, none⟩)) (hb : Bx w g x y) :
    (results fn tmps).run Tryz.prog w = .ok (.tuple #[.agg #[x, y], tmps.getD q undef, tmps.getD r undef]) w := by
  have hp' : tmps[p]?.getD undef = .pointer (some ⟨g, 0, none⟩) := by simpa using hp
  simp [results, h, hp', asAddr, run_loadVar_row w g _ 214 _ _ _ hb Tryz.underlying214 rfl (by kernel_rfl)]
/-- Two boxes: what came in, and the result. -/
theorem two_boxes (w : World) (x y : Value) : ∃ W0, W0 = (w.alloc (.cells #[x, y] 214)).alloc (.cells #[.int .i64 0, .slice none 0 0] 214) ∧ Below w.heap.size w W0 ∧ Bx W0 w.heap.size x y ∧ Bx W0 (w.heap.size + 1) (.int .i64 0) (.slice none 0 0) ∧ W0.heap.size = w.heap.size + 2 := by
  refine ⟨_, rfl, ((Below.refl w.heap.size w).alloc (Nat.le_refl _) _).alloc (by simp) _, (Bx.made w _ _).below ((Below.refl _ _).alloc (Nat.le_refl _) _), ?_, by simp⟩
  have h := Bx.made (w.alloc (.cells #[x, y] 214)) (.int .i64 0) (.slice none 0 0)
  rw [World.size_alloc] at h
  exact h
set_option maxHeartbeats 2000000 in
theorem copied_no (h : Int) (a : Option Addr) (n c : Nat) (l : List Fr) (w : World) (hs : StAt w.heap.size w a n c l) (hv : valid h l = false) :
    Calls Tryz.prog 251 #[.agg #[.int .i64 h, .slice a n c]] w fun e w' => e = .returned (.tuple #[.agg #[.int .i64 0, .slice none 0 0], .pointer none, .int .i64 2]) ∧ Below w.heap.size w w' := by
  obtain ⟨W0, hW0, hb, hx, hy, hsz⟩ := two_boxes w (.int .i64 h) (.slice a n c)
  have CC := hid (check_any h a n c l W0 (hs.on hb))
  have he : chk h l = 2 := by unfold chk; rw [hv]; rfl
  rw [he] at CC
  have c0 := hx.c0
  have c1 := hx.c1
  have HB := hid hb
  have HY := hid hy
  have HW := hid hW0
  have HS := hid hsz
  clear hs hv he hb hx hy hW0 hsz
  go_enter Tryz.func251, Tryz.ntmps251
  go_upto_region 1 with fail
  rw [← HW.out]
  go_wp2_with fail
  refine CC.out.mono ?_
  rintro e w1 ⟨rfl, hb1⟩
  have hy1 := HY.out.below hb1
  have f0 := hy1.f 0
  have f1 := hy1.f 1
  have k0 := hy1.c0
  have k1 := hy1.c1
  have HY1 := hid hy1
  have HB1 := hid (HB.out.trans (hb1.mono HB.out.size))
  clear hy1 hb1
  go_wp2
  exact bodyPost_ret (results_css Tryz.results251 _ _ (w.heap.size + 1) rfl (box2 HY1.out _ _)) rfl ⟨rfl, (HB1.out.setCell (by simp) _).setCell (by simp) _⟩
theorem Bx.drew {W : World} {g : Nat} {x y : Value} (h : Bx W g x y) : Bx W.drew g x y := h
theorem OwnF.drew {base : Nat} {w : World} {v : Value} {l : List Fr} (h : OwnF base w v l) : OwnF base w.drew v l := ⟨h.row, h.len⟩
theorem bx_keep {w W W' : World} {x y : Value} (hx : Bx W w.heap.size x y) (h : Below (w.heap.size + 1) W W') : W'.cell? ⟨w.heap.size, 0, none⟩ = some x ∧ W'.cell? ⟨w.heap.size, 1, none⟩ = some y :=
  ⟨(hx.belowB h (by omega)).c0, (hx.belowB h (by omega)).c1⟩
set_option maxHeartbeats 2000000 in
theorem copied_yes (h : Int) (a : Option Addr) (n c : Nat) (l : List Fr) (w : World) (hs : StAt w.heap.size w a n c l) (hv : valid h l = true) :
    Calls Tryz.prog 251 #[.agg #[.int .i64 h, .slice a n c]] w fun e w' => ∃ g c', e = .returned (.tuple #[.agg #[.int .i64 h, .slice (some ⟨g, 0, none⟩) n c'], .pointer (some ⟨g, (n - 1) * 4, none⟩), .int .i64 0]) ∧ OwnF w.heap.size w' (.slice (some ⟨g, 0, none⟩) n c') l ∧ Below w.heap.size w w' := by
  obtain ⟨W0, hW0, hb, hx, hy, hsz⟩ := two_boxes w (.int .i64 h) (.slice a n c)
  obtain ⟨-, -, hne, hle⟩ := valid_yes hv
  have hl := hs.len
  have CC := hid (check_any h a n c l W0 (hs.on hb))
  have CL := hid (fun W (hB : Below W0.heap.size W0 W) => clone_any W a n c l hl (((hs.on hb).below hB).more hB.size).rows (by omega))
  have he : chk h l = 0 := by unfold chk; rw [hv]; rfl
  rw [he] at CC
  obtain ⟨m, rfl⟩ : ∃ m, n = m + 1 := ⟨n - 1, by have := List.length_pos_iff.2 hne; omega⟩
  rw [Nat.add_sub_cancel]
  have hmm : m ≤ 1000 := by omega
  have hm0 : (m : Int) < (m : Int) + 1 := by omega
  have km : IntKind.i64.wrap (m : Int) = m := s64_in (by omega) (by omega)
  have c0 := hx.c0
  have c1 := hx.c1
  have HL := hid hl
  have HB := hid hb
  have HX := hid hx
  have HY := hid hy
  have HW := hid hW0
  have HS := hid hsz
  clear hs hv he hb hx hy hW0 hsz hl hne hle
  go_enter Tryz.func251, Tryz.ntmps251
  go_upto_region 1 with fail
  rw [← HW.out]
  go_wp2_with fail
  refine CC.out.mono ?_
  rintro e w1 ⟨rfl, hb1⟩
  have hx1 := HX.out.below hb1
  have d0 := hx1.c0
  have d1 := hx1.c1
  have HX1 := hid hx1
  have HB1 := hid hb1
  clear hb1 hx1 c0 c1
  go_wp2_with fail
  refine (CL.out _ HB1.out).mono ?_
  rintro e w2 ⟨v, rfl, ho, hb2⟩
  obtain ⟨a1, c1, hv1, hst⟩ := OwnF.slice ho (by rw [HL.out]; omega)
  rw [HL.out] at hv1
  have hpos : ∃ g, a1 = some ⟨g, 0, none⟩ ∧ w1.heap.size ≤ g := by
    rcases ho.row.2 with ⟨h1, h0⟩ | ⟨g, cap, cur, h1, hg, _⟩
    · rw [List.length_map, HL.out] at h0; omega
    · rw [hv1] at h1
      simp only [Value.slice.injEq] at h1
      exact ⟨g, h1.1, hg⟩
  obtain ⟨g, rfl, hg⟩ := hpos
  subst hv1
  have hx2 := HX1.out.below hb2
  have e0 := hx2.c0
  have e1 := hx2.c1
  have f1 := hx2.f 1
  have HX2 := hid hx2
  have HY2 := hid ((HY.out.below HB1.out).below hb2)
  have HO := hid ho
  have HB2 := hid (HB.out.trans ((HB1.out.trans (hb2.mono HB1.out.size)).mono HB.out.size))
  have HZ := hid (show w.heap.size + 2 ≤ w1.heap.size by have := HB1.out.size; have := HS.out; omega)
  have HG := hid hg
  clear ho hst hb2 hx2 CC CL HX1 hg d0 d1
  go_wp2
  obtain ⟨w3, hw3⟩ : ∃ w3, w3 = w2.setCell ⟨w.heap.size, 1, none⟩ (.slice (some ⟨g, 0, none⟩) (m + 1) c1) := ⟨_, rfl⟩
  rw [← hw3]
  have hx3 : Bx w3 w.heap.size (.int .i64 h) (.slice (some ⟨g, 0, none⟩) (m + 1) c1) := by rw [hw3]; exact HX2.out.set1 _
  have hy3 : Bx w3 (w.heap.size + 1) (.int .i64 0) (.slice none 0 0) := by rw [hw3]; exact HY2.out.far (by simp) _
  have HO3 : Hid (OwnF w1.heap.size w3 (.slice (some ⟨g, 0, none⟩) (m + 1) c1) l) := hid (by rw [hw3]; exact HO.out.set (by have := HZ.out; show w.heap.size < _; omega) _)
  have HB3 : Hid (Below w.heap.size w w3) := hid (by rw [hw3]; exact HB2.out.setCell (by simp) _)
  have HY3 := hid hy3
  have e0 := hx3.c0
  have e1 := hx3.c1
  have f0 := hy3.f 0
  have f1 := hy3.f 1
  have k0 := hy3.c0
  have k1 := hy3.c1
  have hS : w3.cell? ⟨w.heap.size, 0, none⟩ = some (.int .i64 h) ∧ w3.cell? ⟨w.heap.size, 1, none⟩ = some (.slice (some ⟨g, 0, none⟩) (m + 1) c1) := ⟨e0, e1⟩
  have HK := hid (fun (W' : World) (h : Below (w.heap.size + 1) w3 W') => bx_keep hx3 h)
  clear hw3 hx3 hy3 HO HB2 HX2 HY2 HX HY HB HB1
  go_region_held3 (fun w' => w'.cell? ⟨w.heap.size, 0, none⟩ = some (.int .i64 h) ∧ w'.cell? ⟨w.heap.size, 1, none⟩ = some (.slice (some ⟨g, 0, none⟩) (m + 1) c1))
    (first
      | (with_reducible assumption)
      | (with_reducible exact HK.out _ ((Below.refl _ _).drew))
      | (with_reducible exact HK.out _ ((((Below.refl _ _).drew).setCell (by simp) _).setCell (by simp) _))
      | (with_reducible exact HK.out _ (((Below.refl _ _).setCell (by simp) _).setCell (by simp) _)))
    (fail)
  go_wp2
  have hz := HZ.out
  exact bodyPost_ret (results_css Tryz.results251 _ _ (w.heap.size + 1) rfl (Bx.drew (box2 HY3.out _ _))) rfl ⟨g, c1, rfl, OwnF.drew (((HO3.out.set (by show w.heap.size + 1 < _; omega) _).set (by show w.heap.size + 1 < _; omega) _).mono (by omega)), ((HB3.out.setCell (by simp) _).setCell (by simp) _).drew⟩
end Go.Proofs.YtckdnhafookcgaaGreatDoor.Stk

namespace Go.Proofs.YtckdnhafookcgaaGreatDoor.Stk
open Go.RowKit
set_option linter.unusedVariables false

/-- What a call that returns a stand gives: it, in memory of its own, and an error. -/
def MadeP (w : World) (r : R) (e : Ending) (w' : World) : Prop := ∃ a n c, e = .returned (.tuple #[.agg #[.int .i64 r.h, .slice a n c], .int .i64 r.e]) ∧ OwnF w.heap.size w' (.slice a n c) r.l ∧ Below w.heap.size w w'
/-- Behind the copy: both boxes, the frames. -/
structure Mid (w w2 : World) (h : Int) (g n c : Nat) (l : List Fr) : Prop where
  par : Bx w2 w.heap.size (.int .i64 h) (.slice (some ⟨g, 0, none⟩) n c)
  res : Bx w2 (w.heap.size + 1) (.int .i64 0) (.slice none 0 0)
  own : OwnF (w.heap.size + 2) w2 (.slice (some ⟨g, 0, none⟩) n c) l
  below : Below w.heap.size w w2
theorem Mid.of {w W0 w1 : World} {h : Int} {x y : Value} {g n c : Nat} {l : List Fr} (hb : Below w.heap.size w W0) (hx : Bx W0 w.heap.size x y) (hy : Bx W0 (w.heap.size + 1) (.int .i64 0) (.slice none 0 0)) (hz : W0.heap.size = w.heap.size + 2)
    (ho : OwnF W0.heap.size w1 (.slice (some ⟨g, 0, none⟩) n c) l) (hb1 : Below W0.heap.size W0 w1) : Mid w ((w1.setCell ⟨w.heap.size, 0, none⟩ (.int .i64 h)).setCell ⟨w.heap.size, 1, none⟩ (.slice (some ⟨g, 0, none⟩) n c)) h g n c l := by
  rw [hz] at ho
  refine ⟨box2 (hx.below hb1) _ _, ((hy.below hb1).far (by simp) _).far (by simp) _, (ho.set (by simp) _).set (by simp) _, ((hb.trans (hb1.mono hb.size)).setCell (by simp) _).setCell (by simp) _⟩
theorem made_ok {w W : World} {h' : Int} {a : Option Addr} {n c : Nat} {l' : List Fr} {r : R} (hr : r = ⟨h', l', 0⟩) (ho : OwnF (w.heap.size + 2) W (.slice a n c) l') (hb : Below w.heap.size w W) : MadeP w r (.returned (.tuple #[.agg #[.int .i64 h', .slice a n c], .int .i64 0])) W := by
  subst hr
  exact ⟨a, n, c, rfl, ho.mono (by omega), hb⟩
/-- The innermost frame's cells. -/
theorem own_last {base : Nat} {w : World} {g m c : Nat} {l : List Fr} (h : OwnF base w (.slice (some ⟨g, 0, none⟩) (m + 1) c) l) (hl : l.length = m + 1) (hm : m ≤ 1000) :
    w.cell? ⟨g, m * 4, none⟩ = some (.int .i64 (lastF l).op) ∧ w.cell? ⟨g, m * 4 + 1, none⟩ = some (.int .i64 (lastF l).ba) ∧ w.cell? ⟨g, m * 4 + 2, none⟩ = some (.int .i64 (lastF l).re) ∧ w.cell? ⟨g, m * 4 + 3, none⟩ = some (.bool (lastF l).de) := by
  obtain ⟨a, c', hv, hst⟩ := h.slice (by omega)
  simp only [Value.slice.injEq] at hv
  obtain ⟨rfl, _, _⟩ := hv
  obtain ⟨b, off, hbo, _, hc⟩ := hst.get (by omega)
  simp only [Option.some.injEq, Addr.mk.injEq, and_true] at hbo
  obtain ⟨rfl, rfl⟩ := hbo
  have hlast : l[m]'(by omega) = lastF l := by
    unfold lastF
    rw [List.getD_eq_getElem?_getD, List.getElem?_eq_getElem (by omega)]
    simp [hl]
  have := hc m (by omega)
  rw [hlast, Nat.zero_add] at this
  exact this
theorem own_block {base : Nat} {w : World} {g n c : Nat} {l : List Fr} (h : OwnF base w (.slice (some ⟨g, 0, none⟩) n c) l) : base ≤ g ∧ g < w.heap.size := World.ownsRow.lt h.row g rfl
theorem undrew {w W : World} (h : Below w.drew.heap.size w.drew W) : Below w.heap.size w W := ⟨h.os, h.tape, h.output, h.size, h.block⟩
theorem made_bad {w W : World} {h z : Int} {v : Value} {er : Int} (hb : Below w.heap.size w W) {r : R} (hr : r = bad er) : MadeP w r (.returned (.tuple #[.agg #[.int .i64 0, .slice none 0 0], .int .i64 er])) W := by
  subst hr
  exact ⟨none, 0, 0, rfl, ownF_nil _ _, hb⟩
set_option maxRecDepth 100000 in
set_option maxHeartbeats 4000000 in
theorem push_any (h : Int) (a : Option Addr) (n c : Nat) (l : List Fr) (k : Int) (w : World) (hs : StAt w.heap.size w a n c l) :
    Calls Tryz.prog 248 #[.agg #[.int .i64 h, .slice a n c], .int .i64 k] w fun e w' => MadeP w (pushR h l k) e w' := by
  obtain ⟨W0, hW0, hb, hx, hy, hsz⟩ := two_boxes w (.int .i64 h) (.slice a n c)
  have hsW := hs.on hb
  have c0 := hx.c0
  have c1 := hx.c1
  have HB := hid hb
  have HX := hid hx
  have HY := hid hy
  have HW := hid hW0
  have HS := hid hsz
  have HRE : Hid (pushR h l k = pushR h l k) := rfl
  obtain ⟨r, hr⟩ : ∃ r, r = pushR h l k := ⟨_, rfl⟩
  rw [← hr]
  clear HRE
  clear hb hx hy hW0 hsz
  cases hv : valid h l with
  | false =>
    have HE : Hid (r = bad 2) := hid (by rw [hr]; simp [pushR, hv])
    have CC := hid (copied_no h a n c l W0 hsW hv)
    clear hs hsW hv hr
    go_enter Tryz.func248, Tryz.ntmps248
    go_upto_region 1 with fail
    rw [← HW.out]
    go_wp2_with fail
    refine CC.out.mono ?_
    rintro e w1 ⟨rfl, hb1⟩
    have hx1 := HX.out.below hb1
    have hy1 := HY.out.below hb1
    have f0 := hx1.f 0
    have f1 := hx1.f 1
    have k0 := hx1.c0
    have k1 := hx1.c1
    have HX1 := hid hx1
    have HY1 := hid hy1
    have HB1 := hid (HB.out.trans (hb1.mono HB.out.size))
    clear hx1 hy1 hb1 c0 c1 CC
    go_upto_region 2 with fail
    obtain ⟨w2, hw2⟩ : ∃ w2, w2 = (w1.setCell ⟨w.heap.size, 0, none⟩ (.int .i64 0)).setCell ⟨w.heap.size, 1, none⟩ (.slice none 0 0) := ⟨_, rfl⟩
    rw [← hw2]
    have hy2 : Bx w2 (w.heap.size + 1) (.int .i64 0) (.slice none 0 0) := by rw [hw2]; exact (HY1.out.far (by simp) _).far (by simp) _
    have HB2 : Hid (Below w.heap.size w w2) := hid (by rw [hw2]; exact (HB1.out.setCell (by simp) _).setCell (by simp) _)
    have HY2 := hid hy2
    have f0 := hy2.f 0
    have f1 := hy2.f 1
    have k0 := hy2.c0
    have k1 := hy2.c1
    clear hy2 hw2 HX1 HY1 HB1
    go_wp2
    exact bodyPost_ret (results_cs Tryz.results248 _ _ (w.heap.size + 1) rfl (box2 HY2.out _ _)) rfl (made_bad (h := 0) (z := 0) (v := .bool true) ((HB2.out.setCell (by simp) _).setCell (by simp) _) HE.out)
  | true =>
    have CC := hid (copied_yes h a n c l W0 hsW hv)
    have HV := hid hv
    have HR := hid hr
    have HLN := hid hs.len
    clear hs hsW hv hr
    obtain ⟨hh0, hh1, -, -⟩ := valid_yes HV.out
    have q : IntKind.i64.wrap (1073741824 - h) = 1073741824 - h := s64_in (by omega) (by omega)
    have HH := hid (And.intro hh0 hh1)
    clear hh0 hh1
    by_cases g1 : k < 0
    · have HE : Hid (r = bad 2) := hid (by rw [HR.out]; simp [pushR, HV.out, g1])
      go_enter Tryz.func248, Tryz.ntmps248
      go_upto_region 1 with fail
      rw [← HW.out]
      go_wp2_with fail
      refine CC.out.mono ?_
      rintro e w1 ⟨g, c', rfl, ho, hb1⟩
      have HM0 := hid (Mid.of (h := h) HB.out HX.out HY.out HS.out ho hb1)
      have hx1 := HX.out.below hb1
      have f0 := hx1.f 0
      have f1 := hx1.f 1
      have k0 := hx1.c0
      have k1 := hx1.c1
      clear hx1 hb1 ho c0 c1 CC
      go_upto_region 2 with fail
      obtain ⟨w2, hw2⟩ : ∃ w2, w2 = (w1.setCell ⟨w.heap.size, 0, none⟩ (.int .i64 h)).setCell ⟨w.heap.size, 1, none⟩ (.slice (some ⟨g, 0, none⟩) n c') := ⟨_, rfl⟩
      rw [← hw2] at HM0 ⊢
      clear hw2 f0 f1 k0 k1 HB HX HY HS HW
      have hp := HM0.out.par
      have hy := HM0.out.res
      have p0 := hp.c0
      have p1 := hp.c1
      have pf0 := hp.f 0
      have pf1 := hp.f 1
      have r0 := hy.c0
      have r1 := hy.c1
      have rf0 := hy.f 0
      have rf1 := hy.f 1
      clear hp hy
      go_wp2
      exact bodyPost_ret (results_cs Tryz.results248 _ _ (w.heap.size + 1) rfl (box2 HM0.out.res _ _)) rfl (made_bad (h := 0) (z := 0) (v := .bool true) ((HM0.out.below.setCell (by simp) _).setCell (by simp) _) HE.out)
    by_cases g2 : 1073741824 - h < k
    · have HE : Hid (r = bad 8) := hid (by rw [HR.out]; simp [pushR, HV.out, g1, g2])
      go_enter Tryz.func248, Tryz.ntmps248
      go_upto_region 1 with fail
      rw [← HW.out]
      go_wp2_with fail
      refine CC.out.mono ?_
      rintro e w1 ⟨g, c', rfl, ho, hb1⟩
      have HM0 := hid (Mid.of (h := h) HB.out HX.out HY.out HS.out ho hb1)
      have hx1 := HX.out.below hb1
      have f0 := hx1.f 0
      have f1 := hx1.f 1
      have k0 := hx1.c0
      have k1 := hx1.c1
      clear hx1 hb1 ho c0 c1 CC
      go_upto_region 2 with fail
      obtain ⟨w2, hw2⟩ : ∃ w2, w2 = (w1.setCell ⟨w.heap.size, 0, none⟩ (.int .i64 h)).setCell ⟨w.heap.size, 1, none⟩ (.slice (some ⟨g, 0, none⟩) n c') := ⟨_, rfl⟩
      rw [← hw2] at HM0 ⊢
      clear hw2 f0 f1 k0 k1 HB HX HY HS HW
      have hp := HM0.out.par
      have hy := HM0.out.res
      have p0 := hp.c0
      have p1 := hp.c1
      have pf0 := hp.f 0
      have pf1 := hp.f 1
      have r0 := hy.c0
      have r1 := hy.c1
      have rf0 := hy.f 0
      have rf1 := hy.f 1
      clear hp hy
      go_wp2
      exact bodyPost_ret (results_cs Tryz.results248 _ _ (w.heap.size + 1) rfl (box2 HM0.out.res _ _)) rfl (made_bad (h := 0) (z := 0) (v := .bool true) ((HM0.out.below.setCell (by simp) _).setCell (by simp) _) HE.out)
    have HE : Hid (r = ⟨h + k, l, 0⟩) := hid (by rw [HR.out]; simp [pushR, HV.out, g1, g2])
    have q2 : IntKind.i64.wrap (h + k) = h + k := s64_in (by have := HH.out; omega) (by omega)
    go_enter Tryz.func248, Tryz.ntmps248
    go_upto_region 1 with fail
    rw [← HW.out]
    go_wp2_with fail
    refine CC.out.mono ?_
    rintro e w1 ⟨g, c', rfl, ho, hb1⟩
    have HM0 := hid (Mid.of (h := h) HB.out HX.out HY.out HS.out ho hb1)
    have hx1 := HX.out.below hb1
    have f0 := hx1.f 0
    have f1 := hx1.f 1
    have k0 := hx1.c0
    have k1 := hx1.c1
    clear hx1 hb1 ho c0 c1 CC
    go_upto_region 2 with fail
    obtain ⟨w2, hw2⟩ : ∃ w2, w2 = (w1.setCell ⟨w.heap.size, 0, none⟩ (.int .i64 h)).setCell ⟨w.heap.size, 1, none⟩ (.slice (some ⟨g, 0, none⟩) n c') := ⟨_, rfl⟩
    rw [← hw2] at HM0 ⊢
    clear hw2 f0 f1 k0 k1 HB HX HY HS HW
    have hp := HM0.out.par
    have hy := HM0.out.res
    have p0 := hp.c0
    have p1 := hp.c1
    have pf0 := hp.f 0
    have pf1 := hp.f 1
    have r0 := hy.c0
    have r1 := hy.c1
    have rf0 := hy.f 0
    have rf1 := hy.f 1
    clear hp hy
    go_wp2
    exact bodyPost_ret (results_cs Tryz.results248 _ _ (w.heap.size + 1) rfl (box2 (HM0.out.res.far (by simp) _) _ _)) rfl (made_ok HE.out (((HM0.out.own.set (by simp) _).set (by simp) _).set (by simp) _) (((HM0.out.below.setCell (by simp) _).setCell (by simp) _).setCell (by simp) _))
end Go.Proofs.YtckdnhafookcgaaGreatDoor.Stk

namespace Go.Proofs.YtckdnhafookcgaaGreatDoor.Mem
open Go.RowKit Go.Proofs.YtckdnhafookcgaaGreatDoor.Instr Go.Proofs.YtckdnhafookcgaaGreatDoor.Num
set_option linter.unusedVariables false

structure Mm where
  n : Nat
  most : Nat
  f : Nat → Int
/-- How many bytes an operation is for. -/
def wd (op : Int) : Nat := if op = 40 ∨ op = 54 then 4 else if op = 46 ∨ op = 47 ∨ op = 59 then 2 else 1
/-- The bytes from s on are zs. -/
def putF (f : Nat → Int) (s : Nat) (zs : List Int) : Nat → Int := fun a => if s ≤ a ∧ a < s + zs.length then zs.getD (a - s) 0 else f a
def Mm.has (m : Mm) (s k : Nat) : Bool := decide (s + k ≤ m.n * 65536)
def Mm.write (m : Mm) (s : Nat) (zs : List Int) : Mm × Int := if m.has s zs.length then ({ m with f := putF m.f s zs }, 0) else (m, 220)
/-- As a memory should be. -/
structure Mm.ok (m : Mm) : Prop where
  n : m.n ≤ m.most
  most : m.most ≤ 65536
  byte : ∀ a, 0 ≤ m.f a ∧ m.f a < 256

theorem putF_nil (f : Nat → Int) (s : Nat) : putF f s [] = f := by
  funext a; unfold putF; rw [if_neg (by simp)]
theorem putF_append (f : Nat → Int) (s : Nat) (xs ys : List Int) : putF (putF f s xs) (s + xs.length) ys = putF f s (xs ++ ys) := by
  funext a
  unfold putF
  rw [List.length_append]
  by_cases h1 : s + xs.length ≤ a ∧ a < s + xs.length + ys.length
  · rw [if_pos h1, if_pos (by omega), List.getD_eq_getElem?_getD, List.getD_eq_getElem?_getD, List.getElem?_append_right (by omega), show a - (s + xs.length) = a - s - xs.length by omega]
  · rw [if_neg h1]
    by_cases h2 : s ≤ a ∧ a < s + xs.length
    · rw [if_pos h2, if_pos (by omega), List.getD_eq_getElem?_getD, List.getD_eq_getElem?_getD, List.getElem?_append_left (by omega)]
    · rw [if_neg h2, if_neg (by omega)]
theorem putF_byte {f : Nat → Int} (hf : ∀ a, 0 ≤ f a ∧ f a < 256) {zs : List Int} (hz : ∀ z ∈ zs, 0 ≤ z ∧ z < 256) (s a : Nat) : 0 ≤ putF f s zs a ∧ putF f s zs a < 256 := by
  unfold putF
  split
  · rename_i h
    rw [getD_lt (by omega)]; exact hz _ (List.getElem_mem _)
  · exact hf a
theorem putF_other (f : Nat → Int) (s : Nat) (zs : List Int) (a : Nat) (h : a < s ∨ s + zs.length ≤ a) : putF f s zs a = f a := by
  unfold putF; rw [if_neg (by omega)]
end Go.Proofs.YtckdnhafookcgaaGreatDoor.Mem

namespace Go.Proofs.YtckdnhafookcgaaGreatDoor.Instr
open Go.RowKit Go.ChangeShapes

variable {H : Type} {enc : TypeId × Value → H} {W : World}

def w8 (w : World) (a : Addr) (i : Nat) : Option (List Value) := w.cells? 0 (a.add (i * 8)) 8
end Go.Proofs.YtckdnhafookcgaaGreatDoor.Instr
