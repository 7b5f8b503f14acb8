/-
  MEMORY: a call of both: Store.
-/
import Derived.Test.YtcgjlbpokmlkbaaDoorMemAct
namespace Go.Proofs.YtcgjlbpokmlkbaaDoor.Mem
open Go.RowKit Go.Proofs.YtcgjlbpokmlkbaaDoor.Instr Go.Proofs.YtcgjlbpokmlkbaaDoor.Num
set_option linter.unusedVariables false

set_option maxRecDepth 100000 in
set_option maxHeartbeats 4000000 in
theorem act_store {B : Nat} {W : World} {p q K : Nat} {m : Mm} (hM : MemIs B W p K m) (hI : RefIs B W q K m) (hB : B ≤ W.heap.size) (hK : K + 4 ≤ 1000000) (hT : Arit W) (op x o v : Int) (a : Option Addr) (n c : Nat) (hx : 0 ≤ x ∧ x ≤ 4294967295) (ho : 0 ≤ o ∧ o ≤ 4294967295) (hv : 0 ≤ v ∧ v ≤ 4294967295) :
    Calls Tryd.prog 12 #[.pointer (some ⟨p, 0, none⟩), .pointer (some ⟨q, 0, none⟩), .agg #[.int .i64 1, .int .i64 op, .int .u32 x, .int .u32 o, .int .u32 v, .slice a n c]] W fun e w' => e = .returned (.bool true) ∧ Both B W p q (K + 300) w' := by
  obtain ⟨s, hs⟩ : ∃ s : Nat, (s : Int) = x + o := ⟨(x + o).toNat, by omega⟩
  have hv' : 0 ≤ v ∧ v < 4294967296 := by omega
  have hb0 : Below W.heap.size W (W.alloc (y6 1 op x o v a n c)).drew := (thenA (Below.refl W.heap.size W) (y6 1 op x o v a n c)).drew
  have hk : (W.alloc (y6 1 op x o v a n c)).drew.heap[W.heap.size]? = some (y6 1 op x o v a n c) := act_box W 1 op x o v a n c
  have hs0 := act_cells hk
  have hs00 := act_cells (act_box W 1 op x o v a n c)
  have C1 := hid (Store_any (hM.below hb0) (by have := hb0.size; omega) (by omega) op x o v s hx ho hv' hs (hT.below hb0))
  have HI := hid (hI.below hb0)
  have HC2 := hid (fun (w1 : World) (hi : RefIs B w1 q K m) (hb : B ≤ w1.heap.size) => Store_ref hi hM.ok hb hK op x o v s hx ho hv' hs)
  have HB0 := hid (hb0.mono hB)
  have HBs := hid hB
  have HK := hid hk
  clear hM hI hb0 hx ho hs hB hK hv hv' hk
  go_enter Tryd.func12, Tryd.ntmps12
  go_wp2
  go_region_held3 (fun w' => w'.cell? ⟨W.heap.size, 0, none⟩ = some (.int .i64 1) ∧ w'.cell? ⟨W.heap.size, 1, none⟩ = some (.int .i64 op) ∧ w'.cell? ⟨W.heap.size, 2, none⟩ = some (.int .u32 x) ∧ w'.cell? ⟨W.heap.size, 3, none⟩ = some (.int .u32 o) ∧ w'.cell? ⟨W.heap.size, 4, none⟩ = some (.int .u32 v) ∧ w'.cell? ⟨W.heap.size, 5, none⟩ = some (.slice a n c))
    (first | assumption | exact hs0 | exact act_cells (by assumption))
    (first
      | (go_at_call 18; refine C1.out.mono ?_; rintro e w1 ⟨rfl, hw1⟩; have hk1 := hw1.2.1.block _ _ HK.out (act_own _ _ _ _ _ _ _ _); have hs1 := act_cells hk1)
      | (go_at_call 26; refine (HC2.out _ (HI.out.keep hw1.2.1) (Nat.le_trans HBs.out (Nat.le_trans (by simp) (Nat.le_trans HB0.out.size hw1.2.2.size)))).mono ?_; rintro e w2 ⟨rfl, hw2⟩; have hk2 := hw2.2.1.block _ _ hk1 (act_ref _ _ _ _ _ _ _ _); have hs2 := act_cells hk2))
  go_wp2
  go_ret
  exact ⟨ret_bool (by simp), ⟨_, (hw1.1.keepR hw2.2.1).mono (by omega), hw2.1.mono (by omega), (HB0.out.trans hw1.2.2).trans hw2.2.2⟩⟩
end Go.Proofs.YtcgjlbpokmlkbaaDoor.Mem
