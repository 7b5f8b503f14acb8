/-
  MEMORY: a call of both: Load, Grow, nothing.
-/
import Derived.Test.YtcgjlbpokmlkbaaDoorMemActs
namespace Go.Proofs.YtcgjlbpokmlkbaaDoor.Mem
open Go.RowKit Go.Proofs.YtcgjlbpokmlkbaaDoor.Instr Go.Proofs.YtcgjlbpokmlkbaaDoor.Num
set_option linter.unusedVariables false

theorem Both.mk' {B : Nat} {W w' : World} {p q K : Nat} {m : Mm} (h1 : MemIs B w' p K m) (h2 : RefIs B w' q K m) (h3 : Below B W w') : Both B W p q (K + 300) w' := ⟨m, h1.mono (by omega), h2.mono (by omega), h3⟩
def y6 (k op x o v : Int) (a : Option Addr) (n c : Nat) : Obj := .cells #[.int .i64 k, .int .i64 op, .int .u32 x, .int .u32 o, .int .u32 v, .slice a n c] 37
theorem act_box (W : World) (k op x o v : Int) (a : Option Addr) (n c : Nat) : (W.alloc (y6 k op x o v a n c)).heap[W.heap.size]? = some (y6 k op x o v a n c) := (MapKept.heap_alloc W _).1
theorem act_cells {W : World} {g : Nat} {k op x o v : Int} {a : Option Addr} {n c : Nat} (h : W.heap[g]? = some (y6 k op x o v a n c)) : W.cell? ⟨g, 0, none⟩ = some (.int .i64 k) ∧ W.cell? ⟨g, 1, none⟩ = some (.int .i64 op) ∧ W.cell? ⟨g, 2, none⟩ = some (.int .u32 x) ∧
    W.cell? ⟨g, 3, none⟩ = some (.int .u32 o) ∧ W.cell? ⟨g, 4, none⟩ = some (.int .u32 v) ∧ W.cell? ⟨g, 5, none⟩ = some (.slice a n c) := by
  refine ⟨?_, ?_, ?_, ?_, ?_, ?_⟩ <;> simp [World.cell?, h, y6]
theorem act_own (k op x o v : Int) (a : Option Addr) (n c : Nat) : isOwn (y6 k op x o v a n c) = false := by simp only [isOwn, y6]; decide
theorem act_ref (k op x o v : Int) (a : Option Addr) (n c : Nat) : isRef (y6 k op x o v a n c) = false := by simp only [isRef, y6]; decide
set_option maxRecDepth 100000 in
set_option maxHeartbeats 2000000 in
theorem act_load {B : Nat} {W : World} {p q K : Nat} {m : Mm} (hM : MemIs B W p K m) (hI : RefIs B W q K m) (hB : B ≤ W.heap.size) (hT : Arit W) (op x o v : Int) (a : Option Addr) (n c : Nat) (hx : 0 ≤ x ∧ x ≤ 4294967295) (ho : 0 ≤ o ∧ o ≤ 4294967295) :
    Calls Tryd.prog 12 #[.pointer (some ⟨p, 0, none⟩), .pointer (some ⟨q, 0, none⟩), .agg #[.int .i64 0, .int .i64 op, .int .u32 x, .int .u32 o, .int .u32 v, .slice a n c]] W fun e w' => e = .returned (.bool true) ∧ Both B W p q (K + 300) w' := by
  obtain ⟨s, hs⟩ : ∃ s : Nat, (s : Int) = x + o := ⟨(x + o).toNat, by omega⟩
  have hb0 := thenA (Below.refl W.heap.size W) (y6 0 op x o v a n c)
  have hM1 := hM.below hb0
  have hI1 := hI.below hb0
  have C1 := hid (Load_any hM1 op x o s hx ho hs (hT.below hb0))
  have hk := act_box W 0 op x o v a n c
  have HB0 := hid hb0
  have HM := hid hM1
  have HI := hid hI1
  have HX := hid hx
  have HO := hid ho
  have HS := hid hs
  have HBs := hid hB
  clear hM hI hb0 hM1 hI1 hx ho hs hB
  go_enter Tryd.func12, Tryd.ntmps12
  go_wp2_with fail
  refine C1.out.mono ?_
  rintro e w1 ⟨rfl, hb1⟩
  have HM1 := hid (HM.out.below hb1)
  have HI1 := hid (HI.out.below hb1)
  have hk1 := (hb1.block _ (by simp)).trans hk
  have HB1 := hid (thenB HB0.out hb1)
  have C2 := hid (Load_ref HI1.out HM1.out.ok op x o s HX.out HO.out HS.out)
  obtain ⟨_, k1, k2, k3, _, _⟩ := act_cells hk1
  clear hk hk1 hb1 HM HI C1 HB0 HX HO HS
  go_wp2_with fail
  refine C2.out.mono ?_
  rintro e w2 ⟨rfl, hb2⟩
  have HM2 := hid (HM1.out.below hb2)
  have HI2 := hid (HI1.out.below hb2)
  have HB2 := hid (thenB HB1.out hb2)
  clear C2 hb2 HM1 HI1 HB1 k1 k2 k3
  go_wp2
  go_ret
  exact ⟨ret_bool (by simp), Both.mk' HM2.out HI2.out (HB2.out.mono HBs.out)⟩
set_option maxRecDepth 100000 in
set_option maxHeartbeats 2000000 in
theorem act_grow {B : Nat} {W : World} {p q K : Nat} {m : Mm} (hM : MemIs B W p K m) (hI : RefIs B W q K m) (hB : B ≤ W.heap.size) (op x o : Int) (v : Nat) (a : Option Addr) (n c : Nat) (hv : v ≤ 4294967295) :
    Calls Tryd.prog 12 #[.pointer (some ⟨p, 0, none⟩), .pointer (some ⟨q, 0, none⟩), .agg #[.int .i64 2, .int .i64 op, .int .u32 x, .int .u32 o, .int .u32 v, .slice a n c]] W fun e w' => e = .returned (.bool true) ∧ Both B W p q (K + 300) w' := by
  have hb0 := thenA (Below.refl W.heap.size W) (y6 2 op x o v a n c)
  have hM1 := hM.below hb0
  have hI1 := hI.below hb0
  have hok := hM.ok
  have C1 := hid (Grow_any hM1 (by have := hb0.size; omega) v hv)
  have hk := act_box W 2 op x o v a n c
  have HB0 := hid hb0
  have HI := hid hI1
  have HV := hid hv
  have HBs := hid hB
  have HOK := hid hok
  clear hM hI hb0 hM1 hI1 hv hB hok
  go_enter Tryd.func12, Tryd.ntmps12
  go_wp2_with fail
  refine C1.out.mono ?_
  rintro e w1 ⟨rfl, hw1⟩
  have HM1 := hid hw1.1
  have HI1 := hid (HI.out.keep hw1.2.1)
  have hk1 := hw1.2.1.block _ _ hk (act_own _ _ _ _ _ _ _ _)
  have HB1 := hid ((HB0.out.mono HBs.out).trans hw1.2.2)
  have C2 := hid (Grow_ref HI1.out HOK.out (Nat.le_trans HBs.out (by have := HB1.out.size; omega)) v HV.out)
  obtain ⟨_, _, _, _, k4, _⟩ := act_cells hk1
  clear hk hk1 HI C1 HB0 HV hw1
  go_wp2_with fail
  refine C2.out.mono ?_
  rintro e w2 ⟨rfl, hw2⟩
  have HM2 := hid (HM1.out.keepR hw2.2.1)
  have HI2 := hid hw2.1
  have HB2 := hid (HB1.out.trans hw2.2.2)
  clear C2 hw2 HM1 HI1 HB1 k4
  go_wp2
  go_ret
  exact ⟨ret_bool (by simp), Both.mk' HM2.out HI2.out HB2.out⟩
set_option maxRecDepth 100000 in
set_option maxHeartbeats 2000000 in
theorem act_none {B : Nat} {W : World} {p q K : Nat} {m : Mm} (hM : MemIs B W p K m) (hI : RefIs B W q K m) (hB : B ≤ W.heap.size) (k op x o v : Int) (a : Option Addr) (n c : Nat) (h0 : k ≠ 0) (h1 : k ≠ 1) (h2 : k ≠ 2) (h3 : k ≠ 3) (h4 : k ≠ 4) :
    Calls Tryd.prog 12 #[.pointer (some ⟨p, 0, none⟩), .pointer (some ⟨q, 0, none⟩), .agg #[.int .i64 k, .int .i64 op, .int .u32 x, .int .u32 o, .int .u32 v, .slice a n c]] W fun e w' => e = .returned (.bool true) ∧ Both B W p q (K + 300) w' := by
  have hb0 := thenA (Below.refl W.heap.size W) (y6 k op x o v a n c)
  have HM1 := hid (hM.below hb0)
  have HI1 := hid (hI.below hb0)
  have HB0 := hid (hb0.mono hB)
  have e0 : (k == 0) = false := by simpa using h0
  have e1 : (k == 1) = false := by simpa using h1
  have e2 : (k == 2) = false := by simpa using h2
  have e3 : (k == 3) = false := by simpa using h3
  have e4 : (k == 4) = false := by simpa using h4
  clear hM hI hb0 hB h0 h1 h2 h3 h4
  go_enter Tryd.func12, Tryd.ntmps12
  go_wp2
  go_ret
  exact ⟨rfl, Both.mk' HM1.out HI1.out HB0.out⟩
end Go.Proofs.YtcgjlbpokmlkbaaDoor.Mem
