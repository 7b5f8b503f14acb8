import Derived.Test.YtepbjkkakfpjgaaGreatDoorEt05
import Derived.Test.YtepbjkkakfpjgaaGreatDoorEt01
import Derived.Laws.Rows
import Derived.BigQuiet
import Derived.Deep.QuietTactic
import Derived.Laws.AppendOwnNone
import Derived.Lib.OthersKept
import Derived.Laws.MakeOwn
import Derived.Deep.RegionHeld3
import Derived.Deep.RegionLaw
import Derived.Shelf.Abstract
import Derived.Shelf.RegionOpen
import Derived.OwnWalkIn
import Derived.TacticsInMore
import Derived.LoopNIn
import Derived.LoopIn
import Derived.Lib.AppendZeros
import Derived.Laws.StructEq
namespace Go.Proofs.YtepbjkkakfpjgaaGreatDoor.Body
open Go.RowKit Go.Proofs.YtepbjkkakfpjgaaGreatDoor.Instr
structure Grew (B : Nat) (v : Value) (w : World) (v' : Value) (zs : List Int) (w' : World) : Prop where
 own : Own B w' v' zs
 touch : Touch (fun j => v.ownBlock = some j) w w'
 new : ∀ g, v'.ownBlock = some g → v.ownBlock = some g ∨ w.heap.size ≤ g
theorem Grew.refl {B : Nat} {v : Value} {w : World} {zs : List Int} (h : Own B w v zs) : Grew B v w v zs w := ⟨h, .refl _ _, fun _ hg => .inl hg⟩
theorem Grew.pre {B : Nat} {v v' : Value} {w w1 w' : World} {zs : List Int} (hb : Below w.heap.size w w1) (h : Grew B v w1 v' zs w') : Grew B v w v' zs w' :=
 ⟨h.own, (Touch.of_below hb).trans h.touch, fun g hg => (h.new g hg).imp id (fun hl => Nat.le_trans hb.size hl)⟩
theorem Grew.post {B : Nat} {v v' : Value} {w w1 w' : World} {zs : List Int} (h : Grew B v w v' zs w1) (hb : Below w1.heap.size w1 w') : Grew B v w v' zs w' :=
 ⟨h.own.below hb, h.touch.trans (Touch.of_below hb), h.new⟩
theorem Grew.trans {B : Nat} {v v1 v2 : Value} {w w1 w2 : World} {xs zs : List Int} (h : Grew B v w v1 xs w1) (g : Grew B v1 w1 v2 zs w2) : Grew B v w v2 zs w2 := by
 refine ⟨g.own, ⟨g.touch.os.trans h.touch.os, g.touch.tape.trans h.touch.tape, g.touch.output.trans h.touch.output, Nat.le_trans h.touch.size g.touch.size, fun j hj hk => ?_⟩, fun q hq => ?_⟩
 ·refine (g.touch.block j (Nat.lt_of_lt_of_le hj h.touch.size) (fun e => ?_)).trans (h.touch.block j hj hk)
  rcases h.new j e with e | e
  ·exact hk e
  ·omega
 ·rcases g.new q hq with e | e
  ·exact h.new q e
  ·exact .inr (Nat.le_trans h.touch.size e)
theorem Grew.below {B : Nat} {v v' : Value} {w w' : World} {xs zs : List Int} (h : Grew B v w v' zs w') (hv : Own B w v xs) (hB : B ≤ w.heap.size) : Below B w w' := h.touch.below hB (fun j hj => (World.ownsRow.lt hv j hj).1)
theorem Grew.at_ {B X : Nat} {v v' : Value} {w w' : World} {zs : List Int} {x : Ix} (h : Grew B v w v' zs w') (ha : At x X w) (hv : v.ownBlock ≠ some X) : At x X w' :=
 ⟨h.touch.cell hv ha.c0, h.touch.cell hv ha.c1, h.touch.cell hv ha.c2, h.touch.cell hv ha.c3, h.touch.cell hv ha.c4, h.touch.cell hv ha.c5, h.touch.cell hv ha.c6, h.touch.cell hv ha.c7⟩
def PutsTo (B : Nat) (v : Value) (w : World) (zs : List Int) (e : Ending) (w' : World) : Prop := ∃ v', e = .returned v' ∧ Grew B v w v' zs w'
section
variable {ops : Array Oper} {rest : List Oper} {o : Oper} {act : Act} {Q : Exit → Act → World → Prop}
theorem put_byte (hgd : o.guard = none) (s x : Operand) (ho : o.op = .call { callee := .builtin .append, args := #[s, x], argTypes := #[35, 35] })
  {B : Nat} {w0 wr : World} {v0 v : Value} {xs : List Int} (z : Int) (hs : act.eval s = v) (hG : Grew B v0 w0 v xs wr) (hB : B ≤ w0.heap.size)
  (hx : act.eval x = .slice (some ⟨wr.heap.size, 0, none⟩) 1 1) (hl : xs.length ≤ 140737488351232)
  (h : ∀ v' w', Grew B v0 w0 v' (xs ++ [z]) w' → wpList Tryz.prog ops Q rest (act.put o.dst v') w') :
  wpList Tryz.prog ops Q (o :: rest) act (wr.alloc (.cells #[.int .u8 z] 5)) := by
 obtain ⟨i0, hi, hz0, hz1, hz2⟩ := info_parts infoByte
 have hBr : B ≤ wr.heap.size := Nat.le_trans hB hG.touch.size
 refine wpList_append_lies _ hgd s x 35 ho B 5 i0 (.int .u8 0) 1 1 Tryz.underlying35 hi hz0 hz1 hz2 rfl (by decide) v xs.length _ hs (World.ownsRow.alloc hG.own _) ⟨wr.heap.size, 0, none⟩ 1 1 [.int .u8 z] hx rfl
  ?_ ?_ (by decide) ?_ ?_ ?_ _ rfl (fun g cap w' hown' hgrow hat _ => h _ w' (hG.trans ⟨Own.of_snoc rfl hown', (Touch.refl _ wr).alloc _ |>.trans (Touch.of_grown hgrow), ?_⟩))
 ·intro j u hj
  match j, hj with
  | 0, hj => simp at hj; subst hj; simp [Addr.add]
 ·intro u hu; simp at hu; subst hu; rfl
 ·unfold maxLen; omega
 ·omega
 ·simp; omega
 ·intro q hq
  simp only [Value.ownBlock, Option.some.injEq] at hq
  rw [← hq]
  rcases hat with e | e
  ·exact .inl e
  ·exact .inr (by simp only [World.size_alloc] at e; omega)
theorem put_bytes (hgd : o.guard = none) (s x : Operand) (ho : o.op = .call { callee := .builtin .append, args := #[s, x], argTypes := #[35, 35] })
  {B : Nat} {w0 wr : World} {v0 v : Value} {xs ys : List Int} {a : Option Addr} {n c : Nat} (hs : act.eval s = v) (hG : Grew B v0 w0 v xs wr) (hB : B ≤ w0.heap.size)
  (hx : act.eval x = .slice a n c) (hn : ys.length = n) (hy : Bytes wr a ys) (hne : ys ≠ []) (hl : xs.length + ys.length ≤ 140737488351232)
  (h : ∀ v' w', Grew B v0 w0 v' (xs ++ ys) w' → wpList Tryz.prog ops Q rest (act.put o.dst v') w') :
  wpList Tryz.prog ops Q (o :: rest) act wr := by
 obtain ⟨i0, hi, hz0, hz1, hz2⟩ := info_parts infoByte
 have hBr : B ≤ wr.heap.size := Nat.le_trans hB hG.touch.size
 subst hn
 obtain ⟨b, off, rfl, hc⟩ := hy.at (List.length_pos_iff.2 hne)
 refine wpList_append_lies _ hgd s x 35 ho B 5 i0 (.int .u8 0) 1 1 Tryz.underlying35 hi hz0 hz1 hz2 rfl (by decide) v xs.length _ hs hG.own ⟨b, off, none⟩ ys.length c (ys.map (Value.int .u8)) hx (by simp)
  ?_ ?_ (List.length_pos_iff.2 hne) ?_ ?_ hBr _ rfl (fun g cap w' hown' hgrow hat _ => h _ w' (hG.trans ⟨?_, Touch.of_grown hgrow, ?_⟩))
 ·intro j u hj
  have hjl : j < ys.length := by
   rcases Nat.lt_or_ge j ys.length with h | h
   ·exact h
   ·rw [List.getElem?_eq_none (by simpa using h)] at hj; cases hj
  have hplain : (⟨b, off, none⟩ : Addr).add j = ⟨b, off + j, none⟩ := by unfold Addr.add; split <;> simp_all
  rw [hplain, hc j hjl]
  rw [← hj, getD_lt hjl]; simp [hjl]
 ·intro u hu
  obtain ⟨n, _, rfl⟩ := List.mem_map.1 hu
  rfl
 ·unfold maxLen; omega
 ·omega
 ·unfold Own; rw [List.length_append, List.map_append]; exact hown'
 ·intro q hq
  simp only [Value.ownBlock, Option.some.injEq] at hq
  rw [← hq]
  rcases hat with e | e
  ·exact .inl e
  ·exact .inr (by omega)
end
section
variable {ops : Array Oper} {o : Oper} {act : Act} {K : Act → World → Prop} {Q : Exit → Act → World → Prop} {E : Prop}
theorem step_put_byte (hgd : o.guard = none) (s x : Operand) (ho : o.op = .call { callee := .builtin .append, args := #[s, x], argTypes := #[35, 35] })
  {B g : Nat} {w0 wr : World} {v0 v : Value} {xs : List Int} (z : Int) (hs : act.eval s = v) (hG : Grew B v0 w0 v xs wr) (hB : B ≤ w0.heap.size)
  (hx : act.eval x = .slice (some ⟨g, 0, none⟩) 1 1) (hc : wr.cell? ⟨g, 0, none⟩ = some (.int .u8 z)) (hl : xs.length ≤ 140737488351232)
  (h : ∀ v' w', Grew B v0 w0 v' (xs ++ [z]) w' → K (act.put o.dst v') w') :
  if Region.wanted o (yielded ops act.tmps) = true then Oper.wp Tryz.prog o act wr K Q else E := by
 obtain ⟨i0, hi, hz0, hz1, hz2⟩ := info_parts infoByte
 have hBr : B ≤ wr.heap.size := Nat.le_trans hB hG.touch.size
 refine step_append_lies wr hgd s x 35 ho B 5 i0 (.int .u8 0) 1 1 Tryz.underlying35 hi hz0 hz1 hz2 rfl (by decide) v xs.length _ hs hG.own ⟨g, 0, none⟩ 1 1 [.int .u8 z] hx rfl
  ?_ ?_ (by decide) ?_ ?_ hBr _ rfl (fun g' cap w' hown' hgrow hat _ => h _ w' (hG.trans ⟨Own.of_snoc rfl hown', Touch.of_grown hgrow, ?_⟩))
 ·intro j u hj
  match j, hj with
  | 0, hj => simp at hj; subst hj; rw [plain_add]; exact hc
 ·intro u hu; simp at hu; subst hu; rfl
 ·unfold maxLen; omega
 ·omega
 ·intro q hq
  simp only [Value.ownBlock, Option.some.injEq] at hq
  rw [← hq]
  rcases hat with e | e
  ·exact .inl e
  ·exact .inr (by omega)
end
theorem gives_put {w w' : World} {zs : List Int} {e : Ending} (h : Gives w zs e w') (hz : ∀ z ∈ zs, 0 ≤ z ∧ z < 256) (hn : zs.length ≤ 140737488351232) : ∃ a c, e = .returned (.slice a zs.length c) ∧ Bytes w' a zs ∧ Below w.heap.size w w' := by
 obtain ⟨v, rfl, ho, hb⟩ := h
 obtain ⟨a, c, rfl⟩ := ho.slice
 exact ⟨a, c, rfl, ho.bytes hz hn, hb⟩
theorem putResults_any (r : Int) (w : World) : Calls Tryz.prog 238 #[.int .i64 r] w fun e w' => e = .returned (.int .u8 (if r = 0 then 64 else 127)) ∧ w = w' := by
 by_cases h : r = 0
 ·subst h
  rw [if_pos rfl]
  go_enter Tryz.func238, Tryz.ntmps238
  go_wp2
  go_ret
  exact ⟨rfl, rfl⟩
 ·rw [if_neg h]
  go_enter Tryz.func238, Tryz.ntmps238
  go_wp2
  go_ret
  exact ⟨rfl, rfl⟩
end Go.Proofs.YtepbjkkakfpjgaaGreatDoor.Body
namespace Go.Proofs.YtepbjkkakfpjgaaGreatDoor.Enc
open Go.RowKit
open Go.Proofs.YtepbjkkakfpjgaaGreatDoor.Body (Grew)
def Full (v : Value) (w : World) : Prop := ∀ g, v.ownBlock = some g → ∃ (cs : Array Value) (e : TypeId) (m : Nat × Nat), w.heap[g]? = some (.cells cs e m) ∧ ∀ u ∈ cs.toList, ∃ z, u = Value.int .u8 z
theorem Full.none (a : Nat) (c : Nat) (w : World) : Full (.slice none a c) w := fun g hg => by simp [Value.ownBlock] at hg
theorem Full.touch {S : Nat → Prop} {v : Value} {w w' : World} (h : Full v w) (ht : Touch S w w') (hk : ∀ g, v.ownBlock = some g → ¬ S g) : Full v w' := fun g hg => by
 obtain ⟨cs, e, m, hh, hc⟩ := h g hg
 exact ⟨cs, e, m, (ht.block g (Array.getElem?_eq_some_iff.1 hh).1 (hk g hg)).trans hh, hc⟩
theorem Full.below {v : Value} {w w' : World} (h : Full v w) (hb : Below w.heap.size w w') : Full v w' := h.touch (S := fun _ => False) (.of_below hb) (fun _ _ h => h)
theorem Full.new {w : World} {g n c : Nat} {cs : Array Value} {e : TypeId} {m : Nat × Nat} (hg : g = w.heap.size) (hc : ∀ u ∈ cs.toList, ∃ z, u = Value.int .u8 z) : Full (.slice (some ⟨g, 0, Option.none⟩) n c) (w.alloc (.cells cs e m)) := fun q hq => by
 simp only [Value.ownBlock, Option.some.injEq] at hq
 subst hq; subst hg
 exact ⟨cs, e, m, heap_alloc_new w _, hc⟩
theorem zeros_full (n : Nat) : ∀ u ∈ (Builtin.zeroCells (Value.int .u8 0).cells n).toList, ∃ z, u = Value.int .u8 z := by
 intro u hu
 simp [Builtin.zeroCells, Value.cells] at hu
 obtain ⟨a, _, h⟩ := hu
 rw [Nat.mod_one] at h
 exact ⟨0, by simpa using h.symm⟩
theorem ints_full (l : List Int) : ∀ u ∈ l.map (Value.int .u8), ∃ z, u = Value.int .u8 z := by
 intro u hu
 obtain ⟨z, _, rfl⟩ := List.mem_map.1 hu
 exact ⟨z, rfl⟩
theorem append_full (t ty : TypeId) (ht : Tryz.prog.underlying t = some (.slice 5)) {B : Nat} {wr w' : World} {v v' : Value} {xs ys : List Int} (hown : Own B wr v xs) (ad : Addr) (n c : Nat) (hn : ys.length = n)
  (hnews : ∀ (j : Nat) (u : Value), (ys.map (Value.int .u8))[j]? = some u → wr.cell? (ad.add j) = some u) (hl : xs.length + ys.length ≤ 140737488351232)
  (hr : (Builtin.append_ #[t, t] ty #[v, .slice (some ad) n c]).run Tryz.prog wr = .ok v' w') (hF : Full v wr) : Full v' w' := by
 obtain ⟨i0, hi, hz0, hz1, hz2⟩ := info_parts infoByte
 subst hn
 have hnl : (ys.map (Value.int .u8)).length = ys.length * i0.size := by rw [hz1]; simp
 rcases hown.2 with ⟨rfl, h0⟩ | ⟨g, cap, cur, rfl, hbg, hg, hnc, hcm, hcs, htake⟩
 ·by_cases hm : ys.length = 0
  ·have hy : ys = [] := List.eq_nil_of_length_eq_zero hm
   subst hy
   have : (Builtin.append_ #[t, t] ty #[.slice Option.none 0 0, .slice (some ad) ([] : List Int).length c]).run Tryz.prog wr = .ok (.slice Option.none 0 0) wr := by
    simp [Builtin.append_, run_underlying ht, sizeOf, typeInfo, hi, Builtin.lenOf, Builtin.firstCells, loadCells, loadCellsFrom]
   rw [this] at hr
   simp only [Result.ok.injEq] at hr
   obtain ⟨rfl, rfl⟩ := hr
   exact hF
  ·have h2 := run_append_nil (P := Tryz.prog) wr t ty 5 i0 (.int .u8 0) ht hi hz0 ad ys.length c (ys.map (Value.int .u8)) hnl hnews (by omega) (by omega) (by rw [hz2]; omega)
   rw [h2] at hr
   simp only [Result.ok.injEq] at hr
   obtain ⟨rfl, rfl⟩ := hr
   refine Full.new (w := wr.drew) rfl fun u hu => ?_
   rw [Array.toList_append] at hu
   rcases List.mem_append.1 hu with h | h
   ·exact ints_full ys u (by simpa using h)
   ·exact zeros_full _ u h
 ·by_cases hroom : xs.length + ys.length ≤ cap
  ·have h2 := run_append_room (P := Tryz.prog) wr t ty 5 i0 ht hi g xs.length cap cur hg ad ys.length c (ys.map (Value.int .u8)) hnl hnews (fun u hu => by obtain ⟨n, _, rfl⟩ := List.mem_map.1 hu; rfl) hroom (by rw [hz1, hcs]; simp; omega)
   rw [h2] at hr
   simp only [Result.ok.injEq] at hr
   obtain ⟨rfl, rfl⟩ := hr
   intro q hq
   simp only [Value.ownBlock, Option.some.injEq] at hq
   subst hq
   refine ⟨_, _, _, setRow_heap wr g cur _ 5 _ hg, fun u hu => ?_⟩
   obtain ⟨cs, e, m, hh, hc⟩ := hF g rfl
   rw [hg] at hh
   simp only [Option.some.injEq, Obj.cells.injEq] at hh
   obtain ⟨rfl, rfl, rfl⟩ := hh
   rw [List.toList_toArray] at hu
   rcases List.mem_append.1 hu with h | h
   ·rcases List.mem_append.1 h with h | h
    ·exact hc u (List.mem_of_mem_take h)
    ·exact ints_full ys u h
   ·exact hc u (List.mem_of_mem_drop h)
  ·have holds : ∀ (j : Nat) (u : Value), (xs.map (Value.int .u8))[j]? = some u → wr.cell? ((⟨g, 0, Option.none⟩ : Addr).add j) = some u := by
    intro j u hj
    have := World.ownsRow.cells (show wr.ownsRow B 5 1 (.slice (some ⟨g, 0, Option.none⟩) xs.length cap) xs.length (xs.map (Value.int .u8)) from hown) (g := g) rfl j u hj
    exact this
   have h2 := run_append_grow (P := Tryz.prog) wr t ty 5 i0 (.int .u8 0) ht hi hz0 ⟨g, 0, Option.none⟩ xs.length cap (xs.map (Value.int .u8)) (by rw [hz1]; simp) holds ad ys.length c (ys.map (Value.int .u8)) hnl hnews (by omega) (by omega) (growslice_fits (by omega) (by rw [hz2]; omega))
   rw [h2] at hr
   simp only [Result.ok.injEq] at hr
   obtain ⟨rfl, rfl⟩ := hr
   refine Full.new (w := wr.drew) rfl fun u hu => ?_
   simp only [Array.toList_append] at hu
   rcases List.mem_append.1 hu with h | h
   ·rcases List.mem_append.1 h with h | h
    ·exact ints_full xs u (by simpa using h)
    ·exact ints_full ys u (by simpa using h)
   ·exact zeros_full _ u h
end Go.Proofs.YtepbjkkakfpjgaaGreatDoor.Enc
namespace Go.Proofs.YtepbjkkakfpjgaaGreatDoor.Enc
open Go.RowKit
set_option linter.unusedVariables false
theorem cell_cs {w : World} {g : Nat} {cs : Array Value} {t : TypeId} {m : Nat × Nat} (hh : w.heap[g]? = some (.cells cs t m)) {i : Nat} {u : Value} (hu : cs[i]? = some u) : w.cell? ⟨g, i, none⟩ = some u := by
 simp [World.cell?, hh, hu]
set_option maxRecDepth 100000 in
set_option maxHeartbeats 2000000 in
theorem over_any (B : Nat) (v : Value) (zs : List Int) (w : World) (ho : Own B w v zs) (hf : Full v w) :
  Calls Tryz.prog 17 #[v] w fun e w' => e = .returned (.tuple #[]) ∧ Touch (fun j => v.ownBlock = some j) w w' := by
 rcases ho.2 with ⟨rfl, h0⟩ | ⟨g, cap, cur, rfl, hbg, hg, hnc, hcm, hcs, htake⟩
 ·go_enter Tryz.func17, Tryz.ntmps17
  go_wp2
  go_loopw [3] (fun vi wr => vi = .int .i64 0 ∧ wr = w) (fun _ _ => 0)
  case atStart => exact ⟨rfl, rfl⟩
  case round =>
   obtain ⟨rfl, rfl⟩ := hrel
   go_wp2
   go_end0
   exact ⟨rfl, Touch.refl _ _⟩
 ·obtain ⟨n, hn⟩ : ∃ n, zs.length = n := ⟨_, rfl⟩
  rw [hn] at hnc ⊢
  have hcap : cap ≤ 9223372036854775807 := by unfold maxLen at hcm; omega
  have HS := hid (show ∃ cs, w.heap[g]? = some (.cells cs 5 (0, 0)) ∧ cs.size = cap ∧ ∀ u ∈ cs.toList, ∃ z, u = Value.int .u8 z from by
    obtain ⟨cs, e, m, hh, hc⟩ := hf g rfl
    rw [hg] at hh
    simp only [Option.some.injEq, Obj.cells.injEq] at hh
    obtain ⟨rfl, rfl, rfl⟩ := hh
    exact ⟨_, hg, by omega, hc⟩)
  have hnci : (n : Int) ≤ (cap : Int) := by omega
  clear ho hf hg hcs htake hn hcm
  go_enter Tryz.func17, Tryz.ntmps17
  go_wp2
  go_loopw [3] (fun vi wr => ∃ i : Nat, vi = .int .i64 i ∧ i ≤ cap ∧ Hid (∃ cs, wr.heap[g]? = some (.cells cs 5 (0, 0)) ∧ cs.size = cap ∧ ∀ u ∈ cs.toList, ∃ z, u = Value.int .u8 z) ∧ Hid (Touch (fun j => some g = some j) w wr)) (fun vi _ => cap - (intOf vi).toNat)
  case atStart => exact ⟨0, rfl, Nat.zero_le _, HS, Touch.refl _ _⟩
  case round =>
   clear HS
   obtain ⟨i, rfl, hi, HS, HT⟩ := hrel
   by_cases hlt : i < cap
   ·have hii : (i : Int) < (cap : Int) := by omega
    obtain ⟨cs, hh, hsz, hc⟩ := HS.out
    obtain ⟨z, hz⟩ := hc cs[i] (by simp)
    have c := cell_cs hh (show cs[i]? = some (Value.int .u8 z) by rw [Array.getElem?_eq_getElem (by omega), hz])
    have f := frozen_of_row wr g i cs 5 hh
    have HN := hid (fun (u : Int) => heap_setCell_same wr g i cs 5 (.int .u8 u) hh)
    have HZ := hid hsz
    have HC := hid hc
    have HT2 := hid (fun (u : Value) => HT.out.setCell (p := ⟨g, i, none⟩) (.inl rfl) u)
    clear hh hsz hc hz HS HT
    go_wp2
    go_roundw
    case rel =>
     refine ⟨i + 1, by go_num, by omega, hid ⟨_, HN.out _, by simp [HZ.out], fun u hu => ?_⟩, HT2.out _⟩
     rw [Array.toList_setIfInBounds] at hu
     rcases List.mem_or_eq_of_mem_set hu with h | h
     ·exact HC.out u h
     ·exact ⟨_, h⟩
    case measure => simp [intOf]; omega
   ·obtain rfl : cap = i := by omega
    go_wp2
    go_end0
    exact ⟨rfl, HT.out⟩
end Go.Proofs.YtepbjkkakfpjgaaGreatDoor.Enc
namespace Go.Proofs.YtepbjkkakfpjgaaGreatDoor.Mod
open Go.RowKit Go.Proofs.YtepbjkkakfpjgaaGreatDoor.Instr
def Lst.bare (l : Lst) : Lst := ⟨none, 0, l.t.bare⟩
def Fn.bare (f : Fn) : Fn := ⟨f.ty, f.lo, f.l.bare⟩
def Gl.bare (g : Gl) : Gl := ⟨g.mu, g.l.bare⟩
def El.bare (e : El) : El := ⟨e.l.bare, none, 0, e.fs⟩
def Da.bare (d : Da) : Da := ⟨d.l.bare, none, 0, d.bs⟩
def Md.bare (m : Md) : Md :=
 ⟨m.ty, m.im, m.fu.map Fn.bare, m.tb, m.me, m.gl.map Gl.bare, m.ex, m.st, m.sn, m.el.map El.bare, m.da.map Da.bare, ⟨none, 0⟩, ⟨none, 0⟩, ⟨none, 0⟩, ⟨none, 0⟩, ⟨none, 0⟩, ⟨none, 0⟩, ⟨none, 0⟩, ⟨none, 0⟩, ⟨none, 0⟩⟩
theorem bare_codes (m : Md) : m.bare.codes = m.codes.map Lst.bare := by
 unfold Md.codes Md.bare
 simp only [List.map_append, List.map_map]
 rfl
theorem codeP_bare : ∀ l : List Lst, codeP (l.map Lst.bare) = codeP l
 | [] => rfl
 | x :: r => by
  rw [List.map_cons, codeP_cons, codeP_cons, codeP_bare r]
  have : checkP x.bare.t = checkP x.t := bare_check x.t
  rw [this]
theorem sumB_bare : ∀ l : List Da, sumB (l.map Da.bare) = sumB l
 | [] => rfl
 | x :: r => by rw [List.map_cons, sumB, sumB, sumB_bare r]; rfl
theorem crowded_bare (m : Md) : m.bare.crowded = m.crowded := by
 unfold Md.crowded Md.bare
 simp only [List.length_map, List.any_map]
 rfl
theorem heavy_bare (m : Md) : m.bare.heavy = m.heavy := by
 unfold Md.heavy Md.bare
 simp only [sumB_bare]
theorem wrong_bare (m : Md) : m.bare.wrong = m.wrong := by
 unfold Md.wrong Md.anyName Md.bare
 simp only [List.any_map]
 rfl
theorem check_bareM (m : Md) : m.bare.check = m.check := by
 unfold Md.check
 rw [crowded_bare, bare_codes, codeP_bare, heavy_bare, wrong_bare]
 rfl
theorem check_core {a b : Md} (h : a.bare = b.bare) : a.check = b.check := by rw [← check_bareM a, h, check_bareM]
noncomputable def is (p : Prop) : Bool := @decide p (Classical.propDecidable p)
theorem is_yes {p : Prop} (h : p) : is p = true := by unfold is; exact @decide_eq_true p (Classical.propDecidable p) h
theorem is_no {p : Prop} (h : ¬ p) : is p = false := by unfold is; exact @decide_eq_false p (Classical.propDecidable p) h
structure Same (a b : Md) : Prop where
 ty : a.ty = b.ty
 im : a.im = b.im
 fu : a.fu.map Fn.bare = b.fu.map Fn.bare
 tb : a.tb = b.tb
 me : a.me = b.me
 gl : a.gl.map Gl.bare = b.gl.map Gl.bare
 ex : a.ex = b.ex
 st : a.st = b.st
 sn : a.sn = b.sn
 el : a.el.map El.bare = b.el.map El.bare
 da : a.da.map Da.bare = b.da.map Da.bare
theorem same_iff {a b : Md} : a.bare = b.bare ↔ Same a b := by
 constructor
 ·intro h
  unfold Md.bare at h
  simp only [Md.mk.injEq] at h
  obtain ⟨h1, h2, h3, h4, h5, h6, h7, h8, h9, h10, h11, _⟩ := h
  exact ⟨h1, h2, h3, h4, h5, h6, h7, h8, h9, h10, h11⟩
 ·rintro ⟨h1, h2, h3, h4, h5, h6, h7, h8, h9, h10, h11⟩
  unfold Md.bare
  rw [h1, h2, h3, h4, h5, h6, h7, h8, h9, h10, h11]
theorem list_same {α : Type} {l r : List α} {n : Nat} (hl : l.length = n) (hr : r.length = n) (h : ∀ j (h1 : j < l.length) (h2 : j < r.length), j < n → l[j] = r[j]) : l = r := by
 refine List.ext_getElem (by omega) fun j h1 h2 => h j h1 h2 (by omega)
theorem same_step {α : Type} {l r : List α} {k : Nat} (h1 : k < l.length) (h2 : k < r.length) (h : ∀ j (h1 : j < l.length) (h2 : j < r.length), j < k → l[j] = r[j]) (hx : l[k] = r[k]) : ∀ j (h1 : j < l.length) (h2 : j < r.length), j < k + 1 → l[j] = r[j] := by
 intro j g1 g2 hj
 by_cases e : j = k
 ·subst e; exact hx
 ·exact h j g1 g2 (by omega)
theorem same_zero {α : Type} (l r : List α) : ∀ j (h1 : j < l.length) (h2 : j < r.length), j < 0 → l[j] = r[j] := fun _ _ _ h => absurd h (Nat.not_lt_zero _)
end Go.Proofs.YtepbjkkakfpjgaaGreatDoor.Mod
namespace Go.Proofs.YtepbjkkakfpjgaaGreatDoor.Body
open Go.RowKit
open Kind (Rd numR refuseR)
structure RdIs (w : World) (k : Nat) (v : Value) (s : Rd) : Prop where
 c0 : w.cell? ⟨k, 0, none⟩ = some v
 c1 : w.cell? ⟨k, 1, none⟩ = some (.int .i64 s.1)
 c2 : w.cell? ⟨k, 2, none⟩ = some (.int .i64 s.2.1)
 c3 : w.cell? ⟨k, 3, none⟩ = some (.int .i64 s.2.2)
 f0 : w.frozen? ⟨k, 0, none⟩ = false
 f1 : w.frozen? ⟨k, 1, none⟩ = false
 f2 : w.frozen? ⟨k, 2, none⟩ = false
 f3 : w.frozen? ⟨k, 3, none⟩ = false
end Go.Proofs.YtepbjkkakfpjgaaGreatDoor.Body
/-
  BODY: the reader's one, oneOf, newReader, by contract.
-/
namespace Go.Proofs.YtepbjkkakfpjgaaGreatDoor.Body
open Go.RowKit
open Kind (Rd numR refuseR)
end Go.Proofs.YtepbjkkakfpjgaaGreatDoor.Body
namespace Go.Proofs.YtepbjkkakfpjgaaGreatDoor
open Go.RowKit
structure Nums (k : IntKind) (w : World) (a : Option Addr) (zs : List Int) : Prop where
 at_ : zs = [] ∨ ∃ b off, a = some ⟨b, off, none⟩ ∧ ∀ i, i < zs.length → w.cell? ⟨b, off + i, none⟩ = some (.int k (zs.getD i 0))
def OwnK (e : TypeId) (k : IntKind) (base : Nat) (w : World) (v : Value) (zs : List Int) : Prop := w.ownsRow base e 1 v zs.length (zs.map (Value.int k))
theorem OwnK.sliceN {e : TypeId} {k : IntKind} {base n : Nat} {w : World} {v : Value} {zs : List Int} (h : OwnK e k base w v zs) (hn : zs.length = n) : ∃ a c, v = .slice a n c := by
 subst hn
 rcases h.2 with ⟨rfl, h0⟩ | ⟨g, cap, cur, rfl, _⟩
 ·exact ⟨none, 0, by rw [h0]⟩
 ·exact ⟨_, cap, rfl⟩
theorem OwnK.nil {e : TypeId} {k : IntKind} {base n c : Nat} {w : World} {a : Option Addr} {zs : List Int} (h : OwnK e k base w (.slice a n c) zs) : Hid (a = none → c = 0) := by
 refine hid fun ha => ?_
 subst ha
 rcases h.2 with ⟨h', _⟩ | ⟨g, cap, cur, h', _⟩
 ·simp at h'; exact h'.2
 ·simp at h'
theorem OwnK.nums {e : TypeId} {k : IntKind} {base n cap : Nat} {w : World} {a : Option Addr} {zs : List Int} (h : OwnK e k base w (.slice a n cap) zs) : Nums k w a zs := by
 refine ⟨?_⟩
 rcases h.2 with ⟨_, h0⟩ | ⟨g, cap', cur, hv, _, hh, _, _, _, ht⟩
 ·exact .inl (List.eq_nil_of_length_eq_zero h0)
 ·simp only [Value.slice.injEq] at hv
  obtain ⟨rfl, _, _⟩ := hv
  refine .inr ⟨g, 0, rfl, fun i hi => ?_⟩
  have hj : (zs.map (Value.int k))[i]? = some (.int k (zs.getD i 0)) := by rw [getD_lt hi]; simp [hi]
  have := World.ownsRow.cells (show w.ownsRow base e 1 (.slice (some ⟨g, 0, none⟩) n cap) zs.length (zs.map (Value.int k)) from h) (g := g) rfl i _ hj
  have hplain : (⟨g, 0, none⟩ : Addr).add i = ⟨g, 0 + i, none⟩ := by unfold Addr.add; split <;> simp_all
  rw [hplain] at this
  exact this
theorem OwnK.mono {e : TypeId} {k : IntKind} {base base' : Nat} {w : World} {v : Value} {zs : List Int} (h : OwnK e k base w v zs) (hb : base' ≤ base) : OwnK e k base' w v zs := by
 refine ⟨h.1, ?_⟩
 rcases h.2 with h0 | ⟨g, cap, cur, hv, hg, rest⟩
 ·exact .inl h0
 ·exact .inr ⟨g, cap, cur, hv, Nat.le_trans hb hg, rest⟩
theorem OwnK.setCell {e : TypeId} {k : IntKind} {base : Nat} {w : World} {v : Value} {zs : List Int} (h : OwnK e k base w v zs) {p : Addr} (hp : p.block < base) (u : Value) : OwnK e k base (w.setCell p u) v zs := by
 refine ⟨h.1, ?_⟩
 rcases h.2 with h0 | ⟨g, cap, cur, hv, hg, hh, rest⟩
 ·exact .inl h0
 ·exact .inr ⟨g, cap, cur, hv, hg, (Below.heap_setCell w p u g (by omega)).trans hh, rest⟩
theorem OwnK.below {e : TypeId} {k : IntKind} {base : Nat} {w w' : World} {v : Value} {zs : List Int} (h : OwnK e k base w v zs) (hb : Below w.heap.size w w') : OwnK e k base w' v zs := by
 refine ⟨h.1, ?_⟩
 rcases h.2 with h0 | ⟨g, cap, cur, hv, hg, hh, rest⟩
 ·exact .inl h0
 ·exact .inr ⟨g, cap, cur, hv, hg, (hb.block g (Array.getElem?_eq_some_iff.1 hh).1).trans hh, rest⟩
theorem OwnK.iterAt {e : TypeId} {k : IntKind} {base j : Nat} {w : World} {v : Value} {zs : List Int} {s : ByteArray} {p : Nat} (h : OwnK e k base w v zs) (hk : w.heap[j]? = some (.stringIter s p)) (p' : Nat) : OwnK e k base (w.iterAt j s p') v zs := by
 refine ⟨h.1, ?_⟩
 rcases h.2 with h0 | ⟨g, cap, cur, hv, hg, hh, rest⟩
 ·exact .inl h0
 ·refine .inr ⟨g, cap, cur, hv, hg, (Lib.iterAt_other w j g s p' (fun hgj => ?_)).trans hh, rest⟩
  subst hgj
  rw [hh] at hk
  cases hk
theorem iter_kept {e : TypeId} {k : IntKind} {base : Nat} {w w' : World} {v : Value} {zs : List Int} (h : OwnK e k base w v zs) (o : Obj) (hg : (w.alloc o).grownBy w' v.ownBlock) (j : Nat) (s : ByteArray) (p : Nat)
  (hk : w.heap[j]? = some (.stringIter s p)) : w'.heap[j]? = some (.stringIter s p) := by
 have hj : j < w.heap.size := (Array.getElem?_eq_some_iff.1 hk).1
 refine (hg.block j (by simp; omega) ?_).trans ((Below.heap_alloc w o j hj).trans hk)
 intro he
 rcases h.2 with ⟨rfl, _⟩ | ⟨g, cap, cur, rfl, _, hh, _⟩
 ·cases he
 ·simp [Value.ownBlock] at he
  subst he
  rw [hh] at hk
  cases hk
section
variable {ops : Array Oper} {rest : List Oper} {o : Oper} {act : Act} {Q : Exit → Act → World → Prop}
theorem append_num {e ts : TypeId} {k : IntKind} {nb : Nat} (inf : (Tryz.prog.info? e).map (fun i => (i.zero, i.size, i.bytes)) = some (some (.int k 0), 1, nb)) (ut : Tryz.prog.underlying ts = some (.slice e))
  (hgd : o.guard = none) (s x : Operand) (ho : o.op = .call { callee := .builtin .append, args := #[s, x], argTypes := #[ts, ts] })
  {base : Nat} {w0 wr : World} {v : Value} {xs : List Int} (z : Int) (hs : act.eval s = v) (hown : OwnK e k base wr v xs) (hb : Below base w0 wr) (hbase : base ≤ wr.heap.size)
  (hx : act.eval x = .slice (some ⟨wr.heap.size, 0, none⟩) 1 1) (hl : (xs.length + 1) * nb ≤ 140737488355328) (hl' : xs.length ≤ 140737488351232)
  (h : ∀ v' w', OwnK e k base w' v' (xs ++ [z]) → Below base w0 w' → base ≤ w'.heap.size → (∀ (j : Nat) (t : ByteArray) (p : Nat), wr.heap[j]? = some (Obj.stringIter t p) → w'.heap[j]? = some (Obj.stringIter t p)) → wpList Tryz.prog ops Q rest (act.put o.dst v') w') :
  wpList Tryz.prog ops Q (o :: rest) act (wr.alloc (.cells #[.int k z] e)) := by
 obtain ⟨i0, hi, hz0, hz1, hz2⟩ := info_parts inf
 refine wpList_append_own _ hgd s x ts ho base e i0 (.int k 0) 1 nb ut hi hz0 hz1 hz2 rfl (by decide) v xs.length _ hs (World.ownsRow.alloc hown _) ⟨wr.heap.size, 0, none⟩ 1 1 [.int k z] hx rfl
  ?_ ?_ ?_ ?_ ?_ (fun v' w' hown' hgrow _ => ?_)
 ·intro j u hj
  match j, hj with
  | 0, hj => simp at hj; subst hj; simp [Addr.add]
 ·intro u hu; simp at hu; subst hu; rfl
 ·unfold maxLen; omega
 ·exact hl
 ·simp; omega
 ·have hb' : Below base w0 w' := (hb.alloc hbase _).grown hgrow (by simp; omega) (fun k h => (World.ownsRow.lt hown k h).1)
  refine h v' w' (by unfold OwnK; simpa using hown') hb' ?_ (fun j t p => iter_kept hown _ hgrow j t p)
  have := hgrow.size; simp at this; omega
end
end Go.Proofs.YtepbjkkakfpjgaaGreatDoor
namespace Go.Proofs.YtepbjkkakfpjgaaGreatDoor.Body
open Go.RowKit Go.Proofs.YtepbjkkakfpjgaaGreatDoor.Instr
open Kind (Rd numR refuseR)
def partsP (op : Int) : Int :=
 if op = 2 ∨ op = 3 ∨ op = 4 then 65
 else if op = 12 ∨ op = 13 ∨ op = 16 ∨ op = 32 ∨ op = 33 ∨ op = 34 ∨ op = 35 ∨ op = 36 then 4
 else if op = 17 then 36 else if op = 14 then 6
 else if op = 40 ∨ op = 44 ∨ op = 45 ∨ op = 46 ∨ op = 47 ∨ op = 54 ∨ op = 58 ∨ op = 59 then 12
 else if op = 63 ∨ op = 64 then 32 else if op = 65 then 16 else 0
theorem parts_kind (op : Int) : (kindP op = 0 ∧ partsP op = 0) ∨ (kindP op = 1 ∧ partsP op = 65) ∨ (kindP op = 2 ∧ partsP op = 4) ∨ (kindP op = 3 ∧ partsP op = 36) ∨ (kindP op = 4 ∧ partsP op = 6) ∨ (kindP op = 5 ∧ partsP op = 12) ∨ (kindP op = 6 ∧ partsP op = 32) ∨ (kindP op = 7 ∧ partsP op = 16) := by
 unfold kindP partsP
 (repeat' split) <;> simp
theorem follows_any (op : Int) (w : World) : Calls Tryz.prog 237 #[.int .i64 op] w fun e w' => e = .returned (.int .u8 (partsP op)) ∧ w = w' := by
 obtain ⟨u, hu⟩ : ∃ u, partsP op = u := ⟨_, rfl⟩
 rw [hu]
 have HU := hid hu
 clear hu
 go_enter Tryz.func237, Tryz.ntmps237
 go_wp2
 all_goals go_ret
 all_goals
  refine ⟨ret_int ?_, rfl⟩
  have hu := HU.out
  clear HU
  simp only [beq_iff_eq, beq_eq_false_iff_ne, ne_eq] at *
  subst hu
  simp [partsP, *]
end Go.Proofs.YtepbjkkakfpjgaaGreatDoor.Body
/-
  BODY: the reader's labels, by contract: new memory that holds them.
-/
namespace Go.Proofs.YtepbjkkakfpjgaaGreatDoor.Body
open Go.RowKit Go.Proofs.YtepbjkkakfpjgaaGreatDoor.Instr
open Kind (Rd numR refuseR)
theorem infoU32 : (Tryz.prog.info? 28).map (fun i => (i.zero, i.size, i.bytes)) = some (some (.int .u32 0), 1, 4) := by kernel_rfl
end Go.Proofs.YtepbjkkakfpjgaaGreatDoor.Body
namespace Go.Proofs.YtepbjkkakfpjgaaGreatDoor.Body
open Go.RowKit Go.Proofs.YtepbjkkakfpjgaaGreatDoor.Instr
open Kind (Rd numR refuseR)
structure Bx (g : Nat) (x : Ix) (w : World) : Prop where
 at_ : At x g w
 f0 : w.frozen? ⟨g, 0, none⟩ = false
 f1 : w.frozen? ⟨g, 1, none⟩ = false
 f2 : w.frozen? ⟨g, 2, none⟩ = false
 f3 : w.frozen? ⟨g, 3, none⟩ = false
 f4 : w.frozen? ⟨g, 4, none⟩ = false
 f5 : w.frozen? ⟨g, 5, none⟩ = false
 f6 : w.frozen? ⟨g, 6, none⟩ = false
 f7 : w.frozen? ⟨g, 7, none⟩ = false
theorem bx_made (x : Ix) (w : World) : Bx w.heap.size x (w.alloc (.cells x.vals 126)) := by
 refine ⟨At.made x w, ?_, ?_, ?_, ?_, ?_, ?_, ?_, ?_⟩ <;> go_simp
theorem Bx.alloc {g : Nat} {x : Ix} {w : World} (h : Bx g x w) (o : Obj) : Bx g x (w.alloc o) := by
 have hb : Below w.heap.size w (w.alloc o) := (Below.refl _ _).alloc (Nat.le_refl _) o
 have hl : g < w.heap.size := World.block_lt_of_cell? w _ h.at_.c0
 exact ⟨h.at_.below hb, (hb.frozen (p := ⟨g, 0, none⟩) hl).trans h.f0, (hb.frozen (p := ⟨g, 1, none⟩) hl).trans h.f1, (hb.frozen (p := ⟨g, 2, none⟩) hl).trans h.f2, (hb.frozen (p := ⟨g, 3, none⟩) hl).trans h.f3, (hb.frozen (p := ⟨g, 4, none⟩) hl).trans h.f4, (hb.frozen (p := ⟨g, 5, none⟩) hl).trans h.f5, (hb.frozen (p := ⟨g, 6, none⟩) hl).trans h.f6, (hb.frozen (p := ⟨g, 7, none⟩) hl).trans h.f7⟩
def zeroX : Ix := plainX 0 0 0 0 0 []
theorem Bx.setT {g : Nat} {x : Ix} {w : World} (h : Bx g x w) (l : List Int) (ta : Option Addr) (tc : Nat) : Bx g ⟨x.op, x.res, x.a, x.b, x.n, l, ta, tc, x.la, x.ln, x.lc, x.ea, x.en, x.ec⟩ (w.setCell ⟨g, 5, none⟩ (.slice ta l.length tc)) := by
 obtain ⟨⟨c0, c1, c2, c3, c4, c5, c6, c7⟩, f0, f1, f2, f3, f4, f5, f6, f7⟩ := h
 refine ⟨⟨?_, ?_, ?_, ?_, ?_, ?_, ?_, ?_⟩, ?_, ?_, ?_, ?_, ?_, ?_, ?_, ?_⟩ <;> simp [go_sem, *]
end Go.Proofs.YtepbjkkakfpjgaaGreatDoor.Body
namespace Go.Proofs.YtepbjkkakfpjgaaGreatDoor.Body
open Go.RowKit Go.Proofs.YtepbjkkakfpjgaaGreatDoor.Instr Leb
open Kind (Rd numR refuseR)
theorem encU_lens (n : Int) : (encU n).length ≤ 5 ∧ encU n ≠ [] := by
 have := sizeU_pos n
 rw [← List.length_pos_iff, encU_length]
 omega
theorem encS_lens (n : Int) : (encS n).length ≤ 5 ∧ encS n ≠ [] := by
 have := sizeS_pos n
 rw [← List.length_pos_iff, encS_length]
 omega
theorem flatMap_snoc (l : List Int) (z : Int) : (l ++ [z]).flatMap encU = l.flatMap encU ++ encU z := by simp
theorem flatMap_len : ∀ l : List Int, (l.flatMap encU).length ≤ 5 * l.length
 | [] => by simp
 | z :: l => by have := flatMap_len l; have := (encU_lens z).1; simp only [List.flatMap_cons, List.length_append, List.length_cons]; omega
theorem putU_put (n : Int) (w : World) (h0 : 0 ≤ n) (h1 : n < 4294967296) : Calls Tryz.prog 175 #[.int .u32 n] w fun e w' => ∃ a c, e = .returned (.slice a (encU n).length c) ∧ Bytes w' a (encU n) ∧ Below w.heap.size w w' :=
 (putU_any n w h0 h1).mono fun _ _ h => gives_put h (encU_bytes n) (by have := (encU_lens n).1; omega)
theorem putS_put (n : Int) (w : World) (h0 : -2147483648 ≤ n) (h1 : n < 2147483648) : Calls Tryz.prog 240 #[.int .i32 n] w fun e w' => ∃ a c, e = .returned (.slice a (encS n).length c) ∧ Bytes w' a (encS n) ∧ Below w.heap.size w w' :=
 (putS_any n w h0 h1).mono fun _ _ h => gives_put h (encS_bytes n) (by have := (encS_lens n).1; omega)
set_option maxRecDepth 100000 in
set_option maxHeartbeats 3200000 in
theorem appendLabels_any (B : Nat) (v : Value) (xs l : List Int) (a : Option Addr) (len c : Nat) (w : World) (hv : Own B w v xs) (hB : B ≤ w.heap.size) (hlen : l.length = len) (hl : TagsAt B w a l) (hz : ∀ z ∈ l, 0 ≤ z ∧ z < 4294967296) (hfew : len ≤ 16384) (hx : xs.length ≤ 70368744178000) :
  Calls Tryz.prog 239 #[v, .slice a len c] w (PutsTo B v w (xs ++ encTags l)) := by
 have HV := hid hv
 have HT := hid hl
 have HZ := hid hz
 have HL := hid hlen
 have P1 := hid (fun w' => putU_put (len : Int) w' (by omega) (by omega))
 have HE : Hid (xs ++ encTags l = (xs ++ encU (len : Int)) ++ l.flatMap encU) := by show _ = _; rw [encTags, hlen, List.append_assoc]
 rw [HE.out]
 have hfl := flatMap_len l
 rw [hlen] at hfl
 have q1 := encU_lens (len : Int)
 obtain ⟨e1, he1⟩ : ∃ e, encU (len : Int) = e := ⟨_, rfl⟩
 rw [he1] at P1 q1 ⊢
 have Q1 := hid q1
 have HX := hid hx
 have HFL := hid hfl
 clear hv hl hz hlen HE q1 he1 hx hfl
 go_enter Tryz.func239, Tryz.ntmps239
 go_wp2_with fail
 refine (P1.out w).mono ?_
 clear P1
 rintro e w1 ⟨a1, c1, rfl, hb1, hw1⟩
 have G1 := hid ((Grew.refl HV.out).post hw1)
 have HB1 := hid hb1
 have T1 := hid (show xs.length + e1.length ≤ 140737488351232 by have := HX.out; have := Q1.out.1; omega)
 clear hb1 hw1
 go_wp2_with (first
   | (at_builtin; refine put_bytes rfl (.tmp 7) (.tmp 11) rfl rfl G1.out hB rfl rfl HB1.out Q1.out.2 T1.out ?_; intro v2 w2 hg2; refine Hid.out ?_))
 refine hid ?_
 clear G1 HB1 T1
 go_wp2
 go_loopw [0, 15] (fun s0 s15 wr => ∃ j : Nat, j ≤ len ∧ s15 = .int .i64 j ∧ Hid (Grew B v w s0 ((xs ++ e1) ++ (l.take j).flatMap encU) wr)) (fun _ s15 _ => len - (intOf s15).toNat)
 case atStart => exact ⟨0, by omega, rfl, by simpa using hid hg2⟩
 case round =>
  obtain ⟨j, hj, rfl, hG⟩ := hrel
  by_cases hlt : j < len
  ·have hil : j < l.length := by have := HL.out; omega
   have hz' := HZ.out _ (List.getElem_mem hil)
   rw [← getD_lt hil] at hz'
   have hd : Hid ((l.take (j + 1)).flatMap encU = (l.take j).flatMap encU ++ encU (l.getD j 0)) := by
    show _ = _
    rw [List.take_succ_eq_append_getElem hil, flatMap_snoc, getD_lt hil]
   rcases HT.out with h0 | ⟨b, off, rfl, hbl, hc⟩
   ·rw [h0] at hil; simp at hil
   have hcj := (hG.out.below HV.out hB).cell (p := ⟨b, off + j, none⟩) hbl |>.trans (hc j hil)
   have hlen3 : Hid (((xs ++ e1) ++ (l.take j).flatMap encU).length ≤ 70368744270000) := by
    refine hid ?_
    have h1 := flatMap_len (l.take j)
    have h2 := HX.out
    have h3 := Q1.out.1
    simp only [List.length_append, List.length_take] at h1 ⊢
    have := HL.out
    omega
   obtain ⟨z, hz⟩ : ∃ z, l.getD j 0 = z := ⟨_, rfl⟩
   rw [hz] at hz' hd hcj
   have P2 := hid (fun w' => putU_put z w' hz'.1 hz'.2)
   have q2 := encU_lens z
   obtain ⟨e2, he2⟩ : ∃ e, encU z = e := ⟨_, rfl⟩
   rw [he2] at P2 q2 hd
   obtain ⟨zs, hzs⟩ : ∃ zs, (xs ++ e1) ++ (l.take j).flatMap encU = zs := ⟨_, rfl⟩
   rw [hzs] at hG hlen3
   have hd2 : Hid ((xs ++ e1) ++ (l.take (j + 1)).flatMap encU = zs ++ e2) := by show _ = _; rw [hd.out, ← List.append_assoc, hzs]
   have Q2 := hid q2
   clear hd hzs he2 hz hz' hc hil q2
   go_wp2_with fail
   refine (P2.out _).mono ?_
   clear P2
   rintro e w3 ⟨a3, c3, rfl, hb3, hw3⟩
   have G3 := hid (hG.out.post hw3)
   have HB3 := hid hb3
   have T3 := hid (show zs.length + e2.length ≤ 140737488351232 by have := hlen3.out; have := Q2.out.1; omega)
   clear hb3 hw3
   go_wp2_with (first
     | (at_builtin; refine put_bytes rfl (.tmp 19) (.tmp 21) rfl rfl G3.out hB rfl rfl HB3.out Q2.out.2 T3.out ?_; intro v4 w4 hg4; refine Hid.out ?_))
   refine hid ?_
   go_wp2
   go_roundw
   case rel => exact ⟨j + 1, by omega, by simp, by rw [hd2.out]; exact hid hg4⟩
   case measure => simp [intOf]; omega
  ·obtain rfl : j = len := by omega
   have hd : Hid (l.take j = l) := by show _ = _; rw [List.take_of_length_le (by have := HL.out; omega)]
   rw [hd.out] at hG
   go_wp2
   go_ret
   exact ⟨_, rfl, hG.out⟩
def ALok (t : Il) : Prop := ∀ (B : Nat) (v : Value) (xs : List Int) (a : Option Addr) (n c : Nat) (w : World), Own B w v xs → B ≤ w.heap.size → ListAt B w a n t → n ≤ 140737488351232 → xs.length + (encL t).length ≤ 70368744177664 →
 Calls Tryz.prog 213 #[v, .slice a n c] w (PutsTo B v w (xs ++ encL t))
set_option maxRecDepth 100000 in
set_option maxHeartbeats 3200000 in
theorem put0 (B : Nat) (v : Value) (xs : List Int) (x : Ix) (w : World) (hv : Own B w v xs) (hB : B ≤ w.heap.size) (hx : May x) (_ht : TagsAt B w x.ta x.tags) (hl : xs.length ≤ 70368744177700) (hk : kindP x.op = 0) (hp : partsP x.op = 0) :
  Calls Tryz.prog 229 #[v, .agg x.vals] w (PutsTo B v w (xs ++ (x.op :: encRest x))) := by
 have hop := name_range ((lawful_iff x).1 hx.law).1
 obtain ⟨o0, o1, _, _⟩ := hop
 have F := hid (fun w' => follows_any x.op w')
 rw [hp] at F
 have b1 : bits .and .u8 0 1 = 0 := by decide
 have b2 : bits .and .u8 0 2 = 0 := by decide
 have b4 : bits .and .u8 0 4 = 0 := by decide
 have b8 : bits .and .u8 0 8 = 0 := by decide
 have b16 : bits .and .u8 0 16 = 0 := by decide
 have b32 : bits .and .u8 0 32 = 0 := by decide
 have b64 : bits .and .u8 0 64 = 0 := by decide
 have hXv : v.ownBlock ≠ some w.heap.size := fun h => by have := (World.ownsRow.lt hv _ h).2; omega
 have HXV := hid hXv
 have X0 := hid (At.made x w)
 have G0 := hid ((Grew.refl hv).post ((Below.refl w.heap.size w).alloc (Nat.le_refl _) (.cells x.vals 126)))
 rw [encRest0 hk]
 have GW : Hid (Grew B v (w.alloc (.cells x.vals 126)) v xs (w.alloc (.cells x.vals 126))) := hid (Grew.refl G0.out.own)
 have HL := hid hl
 have HB2 : Hid (B ≤ (w.alloc (.cells x.vals 126)).heap.size) := by refine hid ?_; simp; omega
 have HW1 : Hid (Below w.heap.size w (w.alloc (.cells x.vals 126))) := hid ((Below.refl w.heap.size w).alloc (Nat.le_refl _) _)
 clear hv hB _ht hl hk hp hXv G0 hx
 unfold Ix.vals at GW X0 HB2 HW1 ⊢
 obtain ⟨c0, c1, c2, c3, c4, c5, c6, c7⟩ := X0.out
 go_enter Tryz.func229, Tryz.ntmps229
 go_wp2_with fail
 refine (F.out _).mono ?_
 rintro e w' ⟨rfl, rfl⟩
 have T0 := hid (show xs.length ≤ 140737488351232 by have := HL.out; omega)
 generalize hW1 : (w.alloc (.cells #[.int .i64 x.op, .int .i64 x.res, .int .u32 x.a, .int .u32 x.b, .int .i32 x.n, .slice x.ta x.tags.length x.tc, .slice x.la x.ln x.lc, .slice x.ea x.en x.ec] 126)) = W1 at *
 go_wp2_with (first
   | (at_builtin; refine put_byte rfl (.tmp 9) (.tmp 13) rfl x.op rfl GW.out HB2.out rfl T0.out ?_; intro v1 w1 hg1; refine Hid.out ?_))
 refine hid ?_
 go_wp2
 go_ret
 refine ⟨_, rfl, Grew.pre HW1.out ?_⟩
 simpa [List.append_assoc] using hg1
set_option maxRecDepth 100000 in
set_option maxHeartbeats 3200000 in
theorem put2 (B : Nat) (v : Value) (xs : List Int) (x : Ix) (w : World) (hv : Own B w v xs) (hB : B ≤ w.heap.size) (hx : May x) (_ht : TagsAt B w x.ta x.tags) (hl : xs.length ≤ 70368744177700) (hk : kindP x.op = 2) (hp : partsP x.op = 4) :
  Calls Tryz.prog 229 #[v, .agg x.vals] w (PutsTo B v w (xs ++ (x.op :: encRest x))) := by
 have hop := name_range ((lawful_iff x).1 hx.law).1
 obtain ⟨o0, o1, _, _⟩ := hop
 have F := hid (fun w' => follows_any x.op w')
 rw [hp] at F
 have b1 : bits .and .u8 4 1 = 0 := by decide
 have b2 : bits .and .u8 4 2 = 0 := by decide
 have b4 : bits .and .u8 4 4 = 4 := by decide
 have b8 : bits .and .u8 4 8 = 0 := by decide
 have b16 : bits .and .u8 4 16 = 0 := by decide
 have b32 : bits .and .u8 4 32 = 0 := by decide
 have b64 : bits .and .u8 4 64 = 0 := by decide
 have hXv : v.ownBlock ≠ some w.heap.size := fun h => by have := (World.ownsRow.lt hv _ h).2; omega
 have HXV := hid hXv
 have X0 := hid (At.made x w)
 have G0 := hid ((Grew.refl hv).post ((Below.refl w.heap.size w).alloc (Nat.le_refl _) (.cells x.vals 126)))
 rw [encRest2 hk]
 have GW : Hid (Grew B v (w.alloc (.cells x.vals 126)) v xs (w.alloc (.cells x.vals 126))) := hid (Grew.refl G0.out.own)
 have P1 := hid (fun w' => putU_put x.a w' hx.a.1 hx.a.2)
 have Q1 := hid (encU_lens x.a)
 obtain ⟨ea, hea⟩ : ∃ e, encU x.a = e := ⟨_, rfl⟩
 rw [hea] at P1 Q1
 rw [hea]
 clear hea
 have HL := hid hl
 have HB2 : Hid (B ≤ (w.alloc (.cells x.vals 126)).heap.size) := by refine hid ?_; simp; omega
 have HW1 : Hid (Below w.heap.size w (w.alloc (.cells x.vals 126))) := hid ((Below.refl w.heap.size w).alloc (Nat.le_refl _) _)
 clear hv hB _ht hl hk hp hXv G0 hx
 unfold Ix.vals at GW X0 HB2 HW1 ⊢
 obtain ⟨c0, c1, c2, c3, c4, c5, c6, c7⟩ := X0.out
 go_enter Tryz.func229, Tryz.ntmps229
 go_wp2_with fail
 refine (F.out _).mono ?_
 rintro e w' ⟨rfl, rfl⟩
 have T0 := hid (show xs.length ≤ 140737488351232 by have := HL.out; omega)
 generalize hW1 : (w.alloc (.cells #[.int .i64 x.op, .int .i64 x.res, .int .u32 x.a, .int .u32 x.b, .int .i32 x.n, .slice x.ta x.tags.length x.tc, .slice x.la x.ln x.lc, .slice x.ea x.en x.ec] 126)) = W1 at *
 go_wp2_with (first
   | (at_builtin; refine put_byte rfl (.tmp 9) (.tmp 13) rfl x.op rfl GW.out HB2.out rfl T0.out ?_; intro v1 w1 hg1; refine Hid.out ?_))
 refine hid ?_
 have A1 := hg1.at_ X0.out HXV.out
 have GH1 := hid hg1
 clear c0 c1 c2 c3 c4 c5 c6 c7 hg1
 obtain ⟨c0, c1, c2, c3, c4, c5, c6, c7⟩ := A1
 go_wp2_with fail
 refine (P1.out _).mono ?_
 rintro e q1 ⟨a1, cc1, rfl, hb1, hw1⟩
 have GC1 := hid (GH1.out.post hw1)
 have HB1c := hid hb1
 have TT1 := hid (show (xs ++ [x.op]).length + ea.length ≤ 140737488351232 by have h1 := HL.out; have h2 := Q1.out.1; simp only [List.length_append, List.length_cons, List.length_nil]; omega)
 have AX1 := GC1.out.at_ X0.out HXV.out
 clear c0 c1 c2 c3 c4 c5 c6 c7 hb1 hw1
 go_wp2_with (first
   | (at_builtin; refine put_bytes rfl (.tmp 34) (.tmp 37) rfl rfl GC1.out HB2.out rfl rfl HB1c.out Q1.out.2 TT1.out ?_; intro v2 w2 hg2; refine Hid.out ?_))
 refine hid ?_
 obtain ⟨c0, c1, c2, c3, c4, c5, c6, c7⟩ := hg2.at_ X0.out HXV.out
 go_wp2
 go_ret
 refine ⟨_, rfl, Grew.pre HW1.out ?_⟩
 simpa [List.append_assoc] using hg2
set_option maxRecDepth 100000 in
set_option maxHeartbeats 3200000 in
theorem put3 (B : Nat) (v : Value) (xs : List Int) (x : Ix) (w : World) (hv : Own B w v xs) (hB : B ≤ w.heap.size) (hx : May x) (_ht : TagsAt B w x.ta x.tags) (hl : xs.length ≤ 70368744177700) (hk : kindP x.op = 3) (hp : partsP x.op = 36) :
  Calls Tryz.prog 229 #[v, .agg x.vals] w (PutsTo B v w (xs ++ (x.op :: encRest x))) := by
 have hop := name_range ((lawful_iff x).1 hx.law).1
 obtain ⟨o0, o1, _, _⟩ := hop
 have F := hid (fun w' => follows_any x.op w')
 rw [hp] at F
 have b1 : bits .and .u8 36 1 = 0 := by decide
 have b2 : bits .and .u8 36 2 = 0 := by decide
 have b4 : bits .and .u8 36 4 = 4 := by decide
 have b8 : bits .and .u8 36 8 = 0 := by decide
 have b16 : bits .and .u8 36 16 = 0 := by decide
 have b32 : bits .and .u8 36 32 = 32 := by decide
 have b64 : bits .and .u8 36 64 = 0 := by decide
 have hXv : v.ownBlock ≠ some w.heap.size := fun h => by have := (World.ownsRow.lt hv _ h).2; omega
 have HXV := hid hXv
 have X0 := hid (At.made x w)
 have G0 := hid ((Grew.refl hv).post ((Below.refl w.heap.size w).alloc (Nat.le_refl _) (.cells x.vals 126)))
 rw [encRest3 hk]
 have GW : Hid (Grew B v (w.alloc (.cells x.vals 126)) v xs (w.alloc (.cells x.vals 126))) := hid (Grew.refl G0.out.own)
 have P1 := hid (fun w' => putU_put x.a w' hx.a.1 hx.a.2)
 have Q1 := hid (encU_lens x.a)
 obtain ⟨ea, hea⟩ : ∃ e, encU x.a = e := ⟨_, rfl⟩
 rw [hea] at P1 Q1
 rw [hea]
 clear hea
 have HL := hid hl
 have HB2 : Hid (B ≤ (w.alloc (.cells x.vals 126)).heap.size) := by refine hid ?_; simp; omega
 have HW1 : Hid (Below w.heap.size w (w.alloc (.cells x.vals 126))) := hid ((Below.refl w.heap.size w).alloc (Nat.le_refl _) _)
 clear hv hB _ht hl hk hp hXv G0 hx
 unfold Ix.vals at GW X0 HB2 HW1 ⊢
 obtain ⟨c0, c1, c2, c3, c4, c5, c6, c7⟩ := X0.out
 go_enter Tryz.func229, Tryz.ntmps229
 go_wp2_with fail
 refine (F.out _).mono ?_
 rintro e w' ⟨rfl, rfl⟩
 have T0 := hid (show xs.length ≤ 140737488351232 by have := HL.out; omega)
 generalize hW1 : (w.alloc (.cells #[.int .i64 x.op, .int .i64 x.res, .int .u32 x.a, .int .u32 x.b, .int .i32 x.n, .slice x.ta x.tags.length x.tc, .slice x.la x.ln x.lc, .slice x.ea x.en x.ec] 126)) = W1 at *
 go_wp2_with (first
   | (at_builtin; refine put_byte rfl (.tmp 9) (.tmp 13) rfl x.op rfl GW.out HB2.out rfl T0.out ?_; intro v1 w1 hg1; refine Hid.out ?_))
 refine hid ?_
 have A1 := hg1.at_ X0.out HXV.out
 have GH1 := hid hg1
 clear c0 c1 c2 c3 c4 c5 c6 c7 hg1
 obtain ⟨c0, c1, c2, c3, c4, c5, c6, c7⟩ := A1
 go_wp2_with fail
 refine (P1.out _).mono ?_
 rintro e q1 ⟨a1, cc1, rfl, hb1, hw1⟩
 have GC1 := hid (GH1.out.post hw1)
 have HB1c := hid hb1
 have TT1 := hid (show (xs ++ [x.op]).length + ea.length ≤ 140737488351232 by have h1 := HL.out; have h2 := Q1.out.1; simp only [List.length_append, List.length_cons, List.length_nil]; omega)
 have AX1 := GC1.out.at_ X0.out HXV.out
 clear c0 c1 c2 c3 c4 c5 c6 c7 hb1 hw1
 go_wp2_with (first
   | (at_builtin; refine put_bytes rfl (.tmp 34) (.tmp 37) rfl rfl GC1.out HB2.out rfl rfl HB1c.out Q1.out.2 TT1.out ?_; intro v2 w2 hg2; refine Hid.out ?_))
 refine hid ?_
 obtain ⟨c0, c1, c2, c3, c4, c5, c6, c7⟩ := hg2.at_ X0.out HXV.out
 have A2 := hg2.at_ X0.out HXV.out
 have GH2 := hid hg2
 clear c0 c1 c2 c3 c4 c5 c6 c7 hg2
 obtain ⟨c0, c1, c2, c3, c4, c5, c6, c7⟩ := A2
 have TT2 := hid (show ((xs ++ [x.op]) ++ ea).length ≤ 140737488351232 by have h1 := HL.out; have h2 := Q1.out.1; simp only [List.length_append, List.length_cons, List.length_nil]; omega)
 go_wp2_with (first
   | (at_builtin; refine put_byte rfl (.tmp 58) (.tmp 59) rfl 0 rfl GH2.out HB2.out rfl TT2.out ?_; intro v3 w3 hg3; refine Hid.out ?_))
 refine hid ?_
 obtain ⟨c0, c1, c2, c3, c4, c5, c6, c7⟩ := hg3.at_ X0.out HXV.out
 go_wp2
 go_ret
 refine ⟨_, rfl, Grew.pre HW1.out ?_⟩
 simpa [List.append_assoc] using hg3
set_option maxRecDepth 100000 in
set_option maxHeartbeats 3200000 in
theorem put4 (B : Nat) (v : Value) (xs : List Int) (x : Ix) (w : World) (hv : Own B w v xs) (hB : B ≤ w.heap.size) (hx : May x) (ht : TagsAt B w x.ta x.tags) (hl : xs.length ≤ 70368744177700) (hk : kindP x.op = 4) (hp : partsP x.op = 6) :
  Calls Tryz.prog 229 #[v, .agg x.vals] w (PutsTo B v w (xs ++ (x.op :: encRest x))) := by
 have hop := name_range ((lawful_iff x).1 hx.law).1
 obtain ⟨o0, o1, _, _⟩ := hop
 have F := hid (fun w' => follows_any x.op w')
 rw [hp] at F
 have b1 : bits .and .u8 6 1 = 0 := by decide
 have b2 : bits .and .u8 6 2 = 2 := by decide
 have b4 : bits .and .u8 6 4 = 4 := by decide
 have b8 : bits .and .u8 6 8 = 0 := by decide
 have b16 : bits .and .u8 6 16 = 0 := by decide
 have b32 : bits .and .u8 6 32 = 0 := by decide
 have b64 : bits .and .u8 6 64 = 0 := by decide
 have hXv : v.ownBlock ≠ some w.heap.size := fun h => by have := (World.ownsRow.lt hv _ h).2; omega
 have HXV := hid hXv
 have X0 := hid (At.made x w)
 have G0 := hid ((Grew.refl hv).post ((Below.refl w.heap.size w).alloc (Nat.le_refl _) (.cells x.vals 126)))
 rw [encRest4 hk]
 have GW : Hid (Grew B v (w.alloc (.cells x.vals 126)) v xs (w.alloc (.cells x.vals 126))) := hid (Grew.refl G0.out.own)
 have P1 := hid (fun (v' : Value) (zs : List Int) (w' : World) (h1 : Own B w' v' zs) (h2 : B ≤ w'.heap.size) (h3 : TagsAt B w' x.ta x.tags) (h4 : zs.length ≤ 70368744178000) => appendLabels_any B v' zs x.tags x.ta x.tags.length x.tc w' h1 h2 rfl h3 hx.tags hx.few h4)
 have P2 := hid (fun w' => putU_put x.a w' hx.a.1 hx.a.2)
 have Q2 := hid (encU_lens x.a)
 obtain ⟨ea, hea⟩ : ∃ e, encU x.a = e := ⟨_, rfl⟩
 rw [hea] at P2 Q2
 rw [hea]
 clear hea
 have HTL : Hid ((encTags x.tags).length ≤ 90000) := by refine hid ?_; have h1 := flatMap_len x.tags; have h2 := hx.few; have h3 := (encU_lens (x.tags.length : Int)).1; simp only [encTags, List.length_append]; omega
 have HT := hid ht
 have HB0 := hid hB
 have HL := hid hl
 have HB2 : Hid (B ≤ (w.alloc (.cells x.vals 126)).heap.size) := by refine hid ?_; simp; omega
 have HW1 : Hid (Below w.heap.size w (w.alloc (.cells x.vals 126))) := hid ((Below.refl w.heap.size w).alloc (Nat.le_refl _) _)
 obtain ⟨et, het⟩ : ∃ e, encTags x.tags = e := ⟨_, rfl⟩
 rw [het] at P1 HTL ⊢
 clear het
 clear hv hB ht hl hk hp hXv G0 hx
 unfold Ix.vals at GW X0 HB2 HW1 ⊢
 obtain ⟨c0, c1, c2, c3, c4, c5, c6, c7⟩ := X0.out
 go_enter Tryz.func229, Tryz.ntmps229
 go_wp2_with fail
 refine (F.out _).mono ?_
 rintro e w' ⟨rfl, rfl⟩
 have T0 := hid (show xs.length ≤ 140737488351232 by have := HL.out; omega)
 generalize hW1 : (w.alloc (.cells #[.int .i64 x.op, .int .i64 x.res, .int .u32 x.a, .int .u32 x.b, .int .i32 x.n, .slice x.ta x.tags.length x.tc, .slice x.la x.ln x.lc, .slice x.ea x.en x.ec] 126)) = W1 at *
 go_wp2_with (first
   | (at_builtin; refine put_byte rfl (.tmp 9) (.tmp 13) rfl x.op rfl GW.out HB2.out rfl T0.out ?_; intro v1 w1 hg1; refine Hid.out ?_))
 refine hid ?_
 have A1 := hg1.at_ X0.out HXV.out
 have GH1 := hid hg1
 clear c0 c1 c2 c3 c4 c5 c6 c7 hg1
 obtain ⟨c0, c1, c2, c3, c4, c5, c6, c7⟩ := A1
 have TB := GH1.out.below GW.out.own HB2.out
 have TT1 := hid (show (xs ++ [x.op]).length ≤ 70368744178000 by have h1 := HL.out; simp only [List.length_append, List.length_cons, List.length_nil]; omega)
 go_wp2_with fail
 refine (P1.out _ _ _ GH1.out.own (Nat.le_trans HB2.out GH1.out.touch.size) ((HT.out.below (HW1.out.mono HB0.out)).below TB) TT1.out).mono ?_
 rintro e w2 ⟨v2, rfl, hgl⟩
 have hg2 := GH1.out.trans hgl
 clear TB hgl
 clear c0 c1 c2 c3 c4 c5 c6 c7
 obtain ⟨c0, c1, c2, c3, c4, c5, c6, c7⟩ := hg2.at_ X0.out HXV.out
 have A2 := hg2.at_ X0.out HXV.out
 have GH2 := hid hg2
 clear c0 c1 c2 c3 c4 c5 c6 c7 hg2
 obtain ⟨c0, c1, c2, c3, c4, c5, c6, c7⟩ := A2
 go_wp2_with fail
 refine (P2.out _).mono ?_
 rintro e q2 ⟨a2, cc2, rfl, hb2, hw2⟩
 have GC2 := hid (GH2.out.post hw2)
 have HB2c := hid hb2
 have TT2 := hid (show ((xs ++ [x.op]) ++ et).length + ea.length ≤ 140737488351232 by have h1 := HL.out; have h2 := Q2.out.1; have h3 := HTL.out; simp only [List.length_append, List.length_cons, List.length_nil]; omega)
 have AX2 := GC2.out.at_ X0.out HXV.out
 clear c0 c1 c2 c3 c4 c5 c6 c7 hb2 hw2
 go_wp2_with (first
   | (at_builtin; refine put_bytes rfl (.tmp 34) (.tmp 37) rfl rfl GC2.out HB2.out rfl rfl HB2c.out Q2.out.2 TT2.out ?_; intro v3 w3 hg3; refine Hid.out ?_))
 refine hid ?_
 obtain ⟨c0, c1, c2, c3, c4, c5, c6, c7⟩ := hg3.at_ X0.out HXV.out
 go_wp2
 go_ret
 refine ⟨_, rfl, Grew.pre HW1.out ?_⟩
 simpa [List.append_assoc] using hg3
set_option maxRecDepth 100000 in
set_option maxHeartbeats 3200000 in
theorem put5 (B : Nat) (v : Value) (xs : List Int) (x : Ix) (w : World) (hv : Own B w v xs) (hB : B ≤ w.heap.size) (hx : May x) (_ht : TagsAt B w x.ta x.tags) (hl : xs.length ≤ 70368744177700) (hk : kindP x.op = 5) (hp : partsP x.op = 12) :
  Calls Tryz.prog 229 #[v, .agg x.vals] w (PutsTo B v w (xs ++ (x.op :: encRest x))) := by
 have hop := name_range ((lawful_iff x).1 hx.law).1
 obtain ⟨o0, o1, _, _⟩ := hop
 have F := hid (fun w' => follows_any x.op w')
 rw [hp] at F
 have b1 : bits .and .u8 12 1 = 0 := by decide
 have b2 : bits .and .u8 12 2 = 0 := by decide
 have b4 : bits .and .u8 12 4 = 4 := by decide
 have b8 : bits .and .u8 12 8 = 8 := by decide
 have b16 : bits .and .u8 12 16 = 0 := by decide
 have b32 : bits .and .u8 12 32 = 0 := by decide
 have b64 : bits .and .u8 12 64 = 0 := by decide
 have hXv : v.ownBlock ≠ some w.heap.size := fun h => by have := (World.ownsRow.lt hv _ h).2; omega
 have HXV := hid hXv
 have X0 := hid (At.made x w)
 have G0 := hid ((Grew.refl hv).post ((Below.refl w.heap.size w).alloc (Nat.le_refl _) (.cells x.vals 126)))
 rw [encRest5 hk]
 have GW : Hid (Grew B v (w.alloc (.cells x.vals 126)) v xs (w.alloc (.cells x.vals 126))) := hid (Grew.refl G0.out.own)
 have P1 := hid (fun w' => putU_put x.a w' hx.a.1 hx.a.2)
 have Q1 := hid (encU_lens x.a)
 have P2 := hid (fun w' => putU_put x.b w' hx.b.1 hx.b.2)
 have Q2 := hid (encU_lens x.b)
 obtain ⟨ea, hea⟩ : ∃ e, encU x.a = e := ⟨_, rfl⟩
 rw [hea] at P1 Q1
 rw [hea]
 clear hea
 obtain ⟨eb, heb⟩ : ∃ e, encU x.b = e := ⟨_, rfl⟩
 rw [heb] at P2 Q2
 rw [heb]
 clear heb
 have HL := hid hl
 have HB2 : Hid (B ≤ (w.alloc (.cells x.vals 126)).heap.size) := by refine hid ?_; simp; omega
 have HW1 : Hid (Below w.heap.size w (w.alloc (.cells x.vals 126))) := hid ((Below.refl w.heap.size w).alloc (Nat.le_refl _) _)
 clear hv hB _ht hl hk hp hXv G0 hx
 unfold Ix.vals at GW X0 HB2 HW1 ⊢
 obtain ⟨c0, c1, c2, c3, c4, c5, c6, c7⟩ := X0.out
 go_enter Tryz.func229, Tryz.ntmps229
 go_wp2_with fail
 refine (F.out _).mono ?_
 rintro e w' ⟨rfl, rfl⟩
 have T0 := hid (show xs.length ≤ 140737488351232 by have := HL.out; omega)
 generalize hW1 : (w.alloc (.cells #[.int .i64 x.op, .int .i64 x.res, .int .u32 x.a, .int .u32 x.b, .int .i32 x.n, .slice x.ta x.tags.length x.tc, .slice x.la x.ln x.lc, .slice x.ea x.en x.ec] 126)) = W1 at *
 go_wp2_with (first
   | (at_builtin; refine put_byte rfl (.tmp 9) (.tmp 13) rfl x.op rfl GW.out HB2.out rfl T0.out ?_; intro v1 w1 hg1; refine Hid.out ?_))
 refine hid ?_
 have A1 := hg1.at_ X0.out HXV.out
 have GH1 := hid hg1
 clear c0 c1 c2 c3 c4 c5 c6 c7 hg1
 obtain ⟨c0, c1, c2, c3, c4, c5, c6, c7⟩ := A1
 go_wp2_with fail
 refine (P1.out _).mono ?_
 rintro e q1 ⟨a1, cc1, rfl, hb1, hw1⟩
 have GC1 := hid (GH1.out.post hw1)
 have HB1c := hid hb1
 have TT1 := hid (show (xs ++ [x.op]).length + ea.length ≤ 140737488351232 by have h1 := HL.out; have h2 := Q1.out.1; simp only [List.length_append, List.length_cons, List.length_nil]; omega)
 have AX1 := GC1.out.at_ X0.out HXV.out
 clear c0 c1 c2 c3 c4 c5 c6 c7 hb1 hw1
 go_wp2_with (first
   | (at_builtin; refine put_bytes rfl (.tmp 34) (.tmp 37) rfl rfl GC1.out HB2.out rfl rfl HB1c.out Q1.out.2 TT1.out ?_; intro v2 w2 hg2; refine Hid.out ?_))
 refine hid ?_
 obtain ⟨c0, c1, c2, c3, c4, c5, c6, c7⟩ := hg2.at_ X0.out HXV.out
 have A2 := hg2.at_ X0.out HXV.out
 have GH2 := hid hg2
 clear c0 c1 c2 c3 c4 c5 c6 c7 hg2
 obtain ⟨c0, c1, c2, c3, c4, c5, c6, c7⟩ := A2
 go_wp2_with fail
 refine (P2.out _).mono ?_
 rintro e q2 ⟨a2, cc2, rfl, hb2, hw2⟩
 have GC2 := hid (GH2.out.post hw2)
 have HB2c := hid hb2
 have TT2 := hid (show ((xs ++ [x.op]) ++ ea).length + eb.length ≤ 140737488351232 by have h1 := HL.out; have h2 := Q2.out.1; have h3 := Q1.out.1; simp only [List.length_append, List.length_cons, List.length_nil]; omega)
 have AX2 := GC2.out.at_ X0.out HXV.out
 clear c0 c1 c2 c3 c4 c5 c6 c7 hb2 hw2
 go_wp2_with (first
   | (at_builtin; refine put_bytes rfl (.tmp 42) (.tmp 45) rfl rfl GC2.out HB2.out rfl rfl HB2c.out Q2.out.2 TT2.out ?_; intro v3 w3 hg3; refine Hid.out ?_))
 refine hid ?_
 obtain ⟨c0, c1, c2, c3, c4, c5, c6, c7⟩ := hg3.at_ X0.out HXV.out
 go_wp2
 go_ret
 refine ⟨_, rfl, Grew.pre HW1.out ?_⟩
 simpa [List.append_assoc] using hg3
set_option maxRecDepth 100000 in
set_option maxHeartbeats 3200000 in
theorem put6 (B : Nat) (v : Value) (xs : List Int) (x : Ix) (w : World) (hv : Own B w v xs) (hB : B ≤ w.heap.size) (hx : May x) (_ht : TagsAt B w x.ta x.tags) (hl : xs.length ≤ 70368744177700) (hk : kindP x.op = 6) (hp : partsP x.op = 32) :
  Calls Tryz.prog 229 #[v, .agg x.vals] w (PutsTo B v w (xs ++ (x.op :: encRest x))) := by
 have hop := name_range ((lawful_iff x).1 hx.law).1
 obtain ⟨o0, o1, _, _⟩ := hop
 have F := hid (fun w' => follows_any x.op w')
 rw [hp] at F
 have b1 : bits .and .u8 32 1 = 0 := by decide
 have b2 : bits .and .u8 32 2 = 0 := by decide
 have b4 : bits .and .u8 32 4 = 0 := by decide
 have b8 : bits .and .u8 32 8 = 0 := by decide
 have b16 : bits .and .u8 32 16 = 0 := by decide
 have b32 : bits .and .u8 32 32 = 32 := by decide
 have b64 : bits .and .u8 32 64 = 0 := by decide
 have hXv : v.ownBlock ≠ some w.heap.size := fun h => by have := (World.ownsRow.lt hv _ h).2; omega
 have HXV := hid hXv
 have X0 := hid (At.made x w)
 have G0 := hid ((Grew.refl hv).post ((Below.refl w.heap.size w).alloc (Nat.le_refl _) (.cells x.vals 126)))
 rw [encRest6 hk]
 have GW : Hid (Grew B v (w.alloc (.cells x.vals 126)) v xs (w.alloc (.cells x.vals 126))) := hid (Grew.refl G0.out.own)
 have HL := hid hl
 have HB2 : Hid (B ≤ (w.alloc (.cells x.vals 126)).heap.size) := by refine hid ?_; simp; omega
 have HW1 : Hid (Below w.heap.size w (w.alloc (.cells x.vals 126))) := hid ((Below.refl w.heap.size w).alloc (Nat.le_refl _) _)
 clear hv hB _ht hl hk hp hXv G0 hx
 unfold Ix.vals at GW X0 HB2 HW1 ⊢
 obtain ⟨c0, c1, c2, c3, c4, c5, c6, c7⟩ := X0.out
 go_enter Tryz.func229, Tryz.ntmps229
 go_wp2_with fail
 refine (F.out _).mono ?_
 rintro e w' ⟨rfl, rfl⟩
 have T0 := hid (show xs.length ≤ 140737488351232 by have := HL.out; omega)
 generalize hW1 : (w.alloc (.cells #[.int .i64 x.op, .int .i64 x.res, .int .u32 x.a, .int .u32 x.b, .int .i32 x.n, .slice x.ta x.tags.length x.tc, .slice x.la x.ln x.lc, .slice x.ea x.en x.ec] 126)) = W1 at *
 go_wp2_with (first
   | (at_builtin; refine put_byte rfl (.tmp 9) (.tmp 13) rfl x.op rfl GW.out HB2.out rfl T0.out ?_; intro v1 w1 hg1; refine Hid.out ?_))
 refine hid ?_
 have A1 := hg1.at_ X0.out HXV.out
 have GH1 := hid hg1
 clear c0 c1 c2 c3 c4 c5 c6 c7 hg1
 obtain ⟨c0, c1, c2, c3, c4, c5, c6, c7⟩ := A1
 have TT1 := hid (show (xs ++ [x.op]).length ≤ 140737488351232 by have h1 := HL.out; simp only [List.length_append, List.length_cons, List.length_nil]; omega)
 go_wp2_with (first
   | (at_builtin; refine put_byte rfl (.tmp 58) (.tmp 59) rfl 0 rfl GH1.out HB2.out rfl TT1.out ?_; intro v2 w2 hg2; refine Hid.out ?_))
 refine hid ?_
 obtain ⟨c0, c1, c2, c3, c4, c5, c6, c7⟩ := hg2.at_ X0.out HXV.out
 go_wp2
 go_ret
 refine ⟨_, rfl, Grew.pre HW1.out ?_⟩
 simpa [List.append_assoc] using hg2
set_option maxRecDepth 100000 in
set_option maxHeartbeats 3200000 in
theorem put7 (B : Nat) (v : Value) (xs : List Int) (x : Ix) (w : World) (hv : Own B w v xs) (hB : B ≤ w.heap.size) (hx : May x) (_ht : TagsAt B w x.ta x.tags) (hl : xs.length ≤ 70368744177700) (hk : kindP x.op = 7) (hp : partsP x.op = 16) :
  Calls Tryz.prog 229 #[v, .agg x.vals] w (PutsTo B v w (xs ++ (x.op :: encRest x))) := by
 have hop := name_range ((lawful_iff x).1 hx.law).1
 obtain ⟨o0, o1, _, _⟩ := hop
 have F := hid (fun w' => follows_any x.op w')
 rw [hp] at F
 have b1 : bits .and .u8 16 1 = 0 := by decide
 have b2 : bits .and .u8 16 2 = 0 := by decide
 have b4 : bits .and .u8 16 4 = 0 := by decide
 have b8 : bits .and .u8 16 8 = 0 := by decide
 have b16 : bits .and .u8 16 16 = 16 := by decide
 have b32 : bits .and .u8 16 32 = 0 := by decide
 have b64 : bits .and .u8 16 64 = 0 := by decide
 have hXv : v.ownBlock ≠ some w.heap.size := fun h => by have := (World.ownsRow.lt hv _ h).2; omega
 have HXV := hid hXv
 have X0 := hid (At.made x w)
 have G0 := hid ((Grew.refl hv).post ((Below.refl w.heap.size w).alloc (Nat.le_refl _) (.cells x.vals 126)))
 rw [encRest7 hk]
 have GW : Hid (Grew B v (w.alloc (.cells x.vals 126)) v xs (w.alloc (.cells x.vals 126))) := hid (Grew.refl G0.out.own)
 have P1 := hid (fun w' => putS_put x.n w' hx.n.1 hx.n.2)
 have Q1 := hid (encS_lens x.n)
 obtain ⟨en, hen⟩ : ∃ e, encS x.n = e := ⟨_, rfl⟩
 rw [hen] at P1 Q1
 rw [hen]
 clear hen
 have HL := hid hl
 have HB2 : Hid (B ≤ (w.alloc (.cells x.vals 126)).heap.size) := by refine hid ?_; simp; omega
 have HW1 : Hid (Below w.heap.size w (w.alloc (.cells x.vals 126))) := hid ((Below.refl w.heap.size w).alloc (Nat.le_refl _) _)
 clear hv hB _ht hl hk hp hXv G0 hx
 unfold Ix.vals at GW X0 HB2 HW1 ⊢
 obtain ⟨c0, c1, c2, c3, c4, c5, c6, c7⟩ := X0.out
 go_enter Tryz.func229, Tryz.ntmps229
 go_wp2_with fail
 refine (F.out _).mono ?_
 rintro e w' ⟨rfl, rfl⟩
 have T0 := hid (show xs.length ≤ 140737488351232 by have := HL.out; omega)
 generalize hW1 : (w.alloc (.cells #[.int .i64 x.op, .int .i64 x.res, .int .u32 x.a, .int .u32 x.b, .int .i32 x.n, .slice x.ta x.tags.length x.tc, .slice x.la x.ln x.lc, .slice x.ea x.en x.ec] 126)) = W1 at *
 go_wp2_with (first
   | (at_builtin; refine put_byte rfl (.tmp 9) (.tmp 13) rfl x.op rfl GW.out HB2.out rfl T0.out ?_; intro v1 w1 hg1; refine Hid.out ?_))
 refine hid ?_
 have A1 := hg1.at_ X0.out HXV.out
 have GH1 := hid hg1
 clear c0 c1 c2 c3 c4 c5 c6 c7 hg1
 obtain ⟨c0, c1, c2, c3, c4, c5, c6, c7⟩ := A1
 go_wp2_with fail
 refine (P1.out _).mono ?_
 rintro e q1 ⟨a1, cc1, rfl, hb1, hw1⟩
 have GC1 := hid (GH1.out.post hw1)
 have HB1c := hid hb1
 have TT1 := hid (show (xs ++ [x.op]).length + en.length ≤ 140737488351232 by have h1 := HL.out; have h2 := Q1.out.1; simp only [List.length_append, List.length_cons, List.length_nil]; omega)
 have AX1 := GC1.out.at_ X0.out HXV.out
 clear c0 c1 c2 c3 c4 c5 c6 c7 hb1 hw1
 go_wp2_with (first
   | (at_builtin; refine put_bytes rfl (.tmp 50) (.tmp 53) rfl rfl GC1.out HB2.out rfl rfl HB1c.out Q1.out.2 TT1.out ?_; intro v2 w2 hg2; refine Hid.out ?_))
 refine hid ?_
 obtain ⟨c0, c1, c2, c3, c4, c5, c6, c7⟩ := hg2.at_ X0.out HXV.out
 go_wp2
 go_ret
 refine ⟨_, rfl, Grew.pre HW1.out ?_⟩
 simpa [List.append_assoc] using hg2
set_option maxRecDepth 100000 in
set_option maxHeartbeats 3200000 in
theorem inner_any (B : Nat) (v : Value) (xs : List Int) (x : Ix) (l e : Il) (w : World) (hv : Own B w v xs) (hB : B ≤ w.heap.size) (hl : ListAt B w x.la x.ln l) (he : ListAt B w x.ea x.en e) (hln : x.ln ≤ 140737488351232) (hen : x.en ≤ 140737488351232) (il : ALok l) (ie : ALok e)
  (hx : xs.length + (encL l).length + (encL e).length + 1 ≤ 70368744177664) :
  Calls Tryz.prog 241 #[v, .agg x.vals] w (PutsTo B v w (xs ++ (encL l ++ ((if x.en = 0 then [] else 5 :: encL e) ++ [11])))) := by
 have hXv : v.ownBlock ≠ some w.heap.size := fun h => by have := (World.ownsRow.lt hv _ h).2; omega
 have HXV := hid hXv
 have HW1 : Hid (Below w.heap.size w (w.alloc (.cells x.vals 126))) := hid ((Below.refl w.heap.size w).alloc (Nat.le_refl _) _)
 have X0 := hid (At.made x w)
 have GW : Hid (Grew B v (w.alloc (.cells x.vals 126)) v xs (w.alloc (.cells x.vals 126))) := hid (Grew.refl (hv.alloc _))
 have HB2 : Hid (B ≤ (w.alloc (.cells x.vals 126)).heap.size) := by refine hid ?_; simp; omega
 have LL := hid (hl.below (HW1.out.mono hB))
 have LE := hid (he.below (HW1.out.mono hB))
 have PL := hid (fun (v' : Value) (zs : List Int) (w' : World) (h1 : Own B w' v' zs) (h2 : B ≤ w'.heap.size) (h3 : ListAt B w' x.la x.ln l) (h4 : zs.length + (encL l).length ≤ 70368744177664) => il B v' zs x.la x.ln x.lc w' h1 h2 h3 hln h4)
 have PE := hid (fun (v' : Value) (zs : List Int) (w' : World) (h1 : Own B w' v' zs) (h2 : B ≤ w'.heap.size) (h3 : ListAt B w' x.ea x.en e) (h4 : zs.length + (encL e).length ≤ 70368744177664) => ie B v' zs x.ea x.en x.ec w' h1 h2 h3 hen h4)
 obtain ⟨el, hel⟩ : ∃ r, encL l = r := ⟨_, rfl⟩
 obtain ⟨ee, hee⟩ : ∃ r, encL e = r := ⟨_, rfl⟩
 rw [hel] at PL hx ⊢
 rw [hee] at PE hx ⊢
 have HL := hid hx
 clear hv hB hl he hln hen il ie hx hXv hel hee
 by_cases h0 : x.en = 0
 ·rw [if_pos h0, List.nil_append]
  have h0'' : ¬ (0 : Int) < (x.en : Int) := by omega
  clear h0
  unfold Ix.vals at GW X0 HB2 HW1 LL LE ⊢
  obtain ⟨c0, c1, c2, c3, c4, c5, c6, c7⟩ := X0.out
  have T0 := hid (show xs.length + el.length ≤ 70368744177664 by have := HL.out; omega)
  go_enter Tryz.func241, Tryz.ntmps241
  generalize hW1 : (w.alloc (.cells #[.int .i64 x.op, .int .i64 x.res, .int .u32 x.a, .int .u32 x.b, .int .i32 x.n, .slice x.ta x.tags.length x.tc, .slice x.la x.ln x.lc, .slice x.ea x.en x.ec] 126)) = W1 at *
  go_wp2_with fail
  try rw [hW1]
  refine (PL.out v xs W1 GW.out.own HB2.out LL.out T0.out).mono ?_
  clear PL
  rintro e1 w1 ⟨v1, rfl, hg1⟩
  have A1 := hg1.at_ X0.out HXV.out
  have GH1 := hid hg1
  clear c0 c1 c2 c3 c4 c5 c6 c7 hg1
  obtain ⟨c0, c1, c2, c3, c4, c5, c6, c7⟩ := A1
  have T1 := hid (show (xs ++ el).length ≤ 140737488351232 by have := HL.out; simp only [List.length_append]; omega)
  go_wp2_with (first
    | (at_builtin; refine put_byte rfl (.tmp 19) (.tmp 20) rfl 11 rfl GH1.out HB2.out rfl T1.out ?_; intro v2 w2 hg2; refine Hid.out ?_))
  refine hid ?_
  go_wp2
  go_ret
  refine ⟨_, rfl, Grew.pre HW1.out ?_⟩
  simpa [List.append_assoc] using hg2
 ·rw [if_neg h0]
  have h0'' : (0 : Int) < (x.en : Int) := by omega
  unfold Ix.vals at GW X0 HB2 HW1 LL LE ⊢
  obtain ⟨c0, c1, c2, c3, c4, c5, c6, c7⟩ := X0.out
  have T0 := hid (show xs.length + el.length ≤ 70368744177664 by have := HL.out; omega)
  go_enter Tryz.func241, Tryz.ntmps241
  generalize hW1 : (w.alloc (.cells #[.int .i64 x.op, .int .i64 x.res, .int .u32 x.a, .int .u32 x.b, .int .i32 x.n, .slice x.ta x.tags.length x.tc, .slice x.la x.ln x.lc, .slice x.ea x.en x.ec] 126)) = W1 at *
  go_wp2_with fail
  try rw [hW1]
  refine (PL.out v xs W1 GW.out.own HB2.out LL.out T0.out).mono ?_
  clear PL
  rintro e1 w1 ⟨v1, rfl, hg1⟩
  have A1 := hg1.at_ X0.out HXV.out
  have GH1 := hid hg1
  clear c0 c1 c2 c3 c4 c5 c6 c7
  obtain ⟨c0, c1, c2, c3, c4, c5, c6, c7⟩ := A1
  have LE1 := hid (LE.out.below (hg1.below GW.out.own HB2.out))
  clear hg1
  have T1 := hid (show (xs ++ el).length ≤ 140737488351232 by have := HL.out; simp only [List.length_append]; omega)
  have G1d := hid (GH1.out.post (Below.refl _ _).drew)
  have G1z := hid (GH1.out.post ((Below.refl w1.heap.size w1).alloc (Nat.le_refl _) (.cells #[.int .u8 5] 5)).drew)
  have Z5 : Hid ((w1.alloc (.cells #[.int .u8 5] 5)).drew.cell? ⟨w1.heap.size, 0, none⟩ = some (.int .u8 5)) := by refine hid ?_; go_simp
  have c7z := keepA c7 (.cells #[.int .u8 5] 5)
  have T2 := hid (show (xs ++ el ++ [5]).length + ee.length ≤ 70368744177664 by have := HL.out; simp only [List.length_append, List.length_cons, List.length_nil]; omega)
  have LE0 := LE
  go_wp2
  go_region_law
   (first
     | (refine step_put_byte rfl (.tmp 13) (.tmp 14) rfl 5 rfl G1z.out HB2.out rfl Z5.out T1.out ?_
        intro v2 w2 hg2
        have c72 := (hg2.at_ X0.out HXV.out).c7
        have LE2 := hid (LE0.out.below (hg2.below GW.out.own HB2.out))
        have HG2 := hid hg2
        clear hg2)
     | (go_simp; go_at_call 213
        refine (PE.out _ _ _ HG2.out.own (Nat.le_trans HB2.out HG2.out.touch.size) LE2.out T2.out).mono ?_
        rintro e3 w3 ⟨v3, rfl, hg3⟩
        have HG3 := hid (HG2.out.trans hg3)
        clear hg3))
  all_goals
   have T3 := hid (show (xs ++ el ++ [5] ++ ee).length ≤ 140737488351232 by have := HL.out; simp only [List.length_append, List.length_cons, List.length_nil]; omega)
   go_wp2_with (first
     | (at_builtin; refine put_byte rfl (.tmp 19) (.tmp 20) rfl 11 rfl HG3.out HB2.out rfl T3.out ?_; intro v4 w4 hg4; refine Hid.out ?_))
   refine hid ?_
   go_wp2
   go_ret
   refine ⟨_, rfl, Grew.pre HW1.out ?_⟩
   simpa [List.append_assoc] using hg4
end Go.Proofs.YtepbjkkakfpjgaaGreatDoor.Body
namespace Go.Proofs.YtepbjkkakfpjgaaGreatDoor.Instr
open Go.RowKit Go.Shelf
attribute [local go_sem] Oper.semAt_some
theorem RoundIn.anyD {m m' : Nat} {P : Program} {l : Nat} {f : FuncId} {tmps : Array Value} {assign body : Code} {w : World} {R : Ending → World → Prop}
  (h : RoundIn Fence.wide m P l f tmps assign body w R) : RoundIn Fence.wide m' P l f tmps assign body w R := ⟨h.1, fun c cs _ => h.2 c cs (fun d h => by cases h)⟩
theorem YieldAt.anyD {m m' : Nat} {P : Program} {l : Nat} {args : Array Value} {W : World} {R : Ending → World → Prop} (h : YieldAt Fence.wide m P l args W R) : YieldAt Fence.wide m' P l args W R := by
 obtain ⟨fn, tmps, assign, body, hy, hR⟩ := h
 exact ⟨fn, tmps, assign, body, hy, RoundIn.anyD hR⟩
def encs (p : Int × Ix) : Array Value := #[.int .i64 p.1, .agg p.2.vals]
set_option maxHeartbeats 4000000 in
set_option maxRecDepth 100000 in
theorem descend_in (l n₀ n₁ N : Nat) (J Jx : List (Int × Ix) → World → Prop) (B : Nat) (hJ : AbidesFrom B J) (hn : n₀ ≤ n₁)
  (hY : ∀ m pre x W, J pre W → pre.length < N → n₁ ≤ W.heap.size → YieldAt Fence.wide m Tryz.prog l (encs x) W fun e W' =>
    (e = .returned (.bool true) ∧ J (pre ++ [x]) W' ∧ Kept n₀ n₁ W W') ∨ (e = .returned (.bool false) ∧ Jx (pre ++ [x]) W')) :
  ∀ (m : Nat) (t : Il) (n : Nat) (a : Option Addr) (len cap : Nat) (d : Int) (pre : List (Int × Ix)) (W : World), t.count ≤ m → ListAt n₀ W a len t → J pre W → pre.length + t.count ≤ N → n₁ ≤ W.heap.size → 0 ≤ d → d + t.deep ≤ 4611686018427387904 → len ≤ 140737488351232 →
   CallsIn Fence.wide n Tryz.prog 187 #[.slice a len cap, .int .i64 d, .func (.yield l) #[] #[]] W fun e W' =>
    (e = .returned (.bool true) ∧ J (pre ++ t.walk d) W' ∧ Kept n₀ n₁ W W') ∨ (e = .returned (.bool false) ∧ ∃ q, q <+: t.walk d ∧ Jx (pre ++ q) W') := by
 intro m
 induction m with
 | zero =>
  intro t n a len cap d pre W hm hl hJ0 hN hW hd0 hd1 hlen
  cases t with
  | cons x l e r => simp only [Il.count] at hm; omega
  | nil =>
   have h0 : len = 0 := hl.1.symm
   subst h0
   clear hm hl hN hd1
   refine callsIn_of_wp Tryz.func187 rfl trivial ?_ rfl
   simp only [Tryz.ntmps187, List.size_toArray, List.length_cons, List.length_nil, Nat.reduceAdd, Nat.reduceSub, Array.replicate_succ, Array.replicate_zero, List.push_toArray, List.append_toArray, List.nil_append, List.cons_append]
   gi_wp2
   gi_loopw [11] (fun i wr => i = .int .i64 0 ∧ J pre wr ∧ Kept n₀ n₁ W wr) (fun _ _ => 0)
   case atStart => exact ⟨rfl, hJ0, Kept.refl _ _ _⟩
   case round =>
    obtain ⟨rfl, hJs, hk⟩ := hrel
    gi_wp2
    go_ret
    exact .inl ⟨rfl, by simpa [Il.walk] using hJs, hk⟩
 | succ m ih =>
  intro t n a len cap d pre W hm hl hJ0 hN hW hd0 hd1 hlen
  have hA : ∀ s W, J s W → ∀ o, J s (W.alloc o) := fun s W h o => hJ s W _ none h (World.grownBy_alloc W o none) (fun r e => by cases e)
  obtain ⟨hl1, hl2⟩ := hl
  have HT := hid hm
  have HN := hid hN
  have HD := hid hd1
  have HL := hid hl1
  clear hm hN hd1 hl1
  rcases hl2 with rfl | ⟨b, off, rfl, hi⟩
  ·have h0 : len = 0 := HL.out.symm
   subst h0
   refine callsIn_of_wp Tryz.func187 rfl trivial ?_ rfl
   simp only [Tryz.ntmps187, List.size_toArray, List.length_cons, List.length_nil, Nat.reduceAdd, Nat.reduceSub, Array.replicate_succ, Array.replicate_zero, List.push_toArray, List.append_toArray, List.nil_append, List.cons_append]
   gi_wp2
   gi_loopw [11] (fun i wr => i = .int .i64 0 ∧ J pre wr ∧ Kept n₀ n₁ W wr) (fun _ _ => 0)
   case atStart => exact ⟨rfl, hJ0, Kept.refl _ _ _⟩
   case round =>
    obtain ⟨rfl, hJs, hk⟩ := hrel
    gi_wp2
    go_ret
    exact .inl ⟨rfl, by simpa [Il.walk] using hJs, hk⟩
  ·refine callsIn_of_wp Tryz.func187 rfl trivial ?_ rfl
   simp only [Tryz.ntmps187, List.size_toArray, List.length_cons, List.length_nil, Nat.reduceAdd, Nat.reduceSub, Array.replicate_succ, Array.replicate_zero, List.push_toArray, List.append_toArray, List.nil_append, List.cons_append]
   gi_wp2
   gi_loopw [11] (fun i wr => ∃ (k : Nat) (done : List (Int × Ix)) (rest : Il), i = .int .i64 k ∧ k ≤ len ∧ Hid (k + rest.len = len ∧ done ++ rest.walk d = t.walk d ∧ rest.count ≤ t.count ∧ rest.deep ≤ t.deep) ∧ Items n₀ wr b (off + k * 8) rest ∧ J (pre ++ done) wr ∧ Kept n₀ n₁ W wr)
    (fun i _ => len - (intOf i).toNat)
   case atStart => exact ⟨0, [], t, rfl, Nat.zero_le _, ⟨by have := HL.out; omega, rfl, Nat.le_refl _, Nat.le_refl _⟩, by simpa using hi, by simpa using hJ0, Kept.refl _ _ _⟩
   case round =>
    obtain ⟨k, done, rest, rfl, hk, HR, hir, hJs, hkw⟩ := hrel
    cases rest with
    | nil =>
     obtain ⟨r1, r2, _, _⟩ := HR.out
     have hkl : k = len := by simpa [Il.len] using r1
     subst hkl
     gi_wp2
     go_ret
     exact .inl ⟨rfl, by rw [← r2]; simpa [Il.walk] using hJs, hkw⟩
    | cons x tl te r =>
     obtain ⟨hbn, hx, ⟨c0, c1, c2, c3, c4, c5, c6, c7⟩, ht, hLl, hLe, hir'⟩ := hir
     have hlt : k < len := by have := HR.out.1; simp only [Il.len] at this; omega
     obtain ⟨fn, tmps, assign, body, hy, hR⟩ := hY (n - 1) (pre ++ done) (d, x) (wr.alloc (.cells x.vals 126)) (hA _ _ hJs _) (by
       have h1 := congrArg List.length HR.out.2.1
       have h2 := walk_length t d
       have h3 := HN.out
       simp only [List.length_append, Il.walk, List.length_cons] at h1 ⊢
       omega) (by have := hkw.below.size; simp; omega)
     simp only [encs, Ix.vals] at hy hR
     have hbx := At.made x wr
     have hg : n₁ ≤ wr.heap.size := Nat.le_trans hW hkw.below.size
     have hw1 : IntKind.i64.wrap (d + 1) = d + 1 := by have := HD.out; rw [IntKind.wrap_i64]; omega
     have hB1 : Kept n₀ n₁ W (wr.alloc (.cells x.vals 126)) := hkw.alloc _ (Nat.le_trans hn hg)
     have hcounts : tl.count + te.count + r.count + 1 ≤ m + 1 ∧ tl.deep + 1 ≤ t.deep ∧ te.deep + 1 ≤ t.deep := by
      have h1 := HR.out.2.2
      have h2 := HT.out
      simp only [Il.count, Il.deep] at h1
      omega
     have HC := hid hcounts
     clear hcounts
     have hlens : (pre ++ done).length + 1 + tl.count + te.count + r.count ≤ N := by
      have h1 := congrArg List.length HR.out.2.1
      have h2 := HN.out
      simp only [List.length_append, Il.walk, List.length_cons, walk_length] at h1 ⊢
      omega
     have HLN := hid hlens
     clear hlens
     gi_wp2_with fail
     refine ⟨fun h => (by cases h), ?_⟩
     refine hR.mono ?_
     clear hR hy
     rintro e W2 (⟨rfl, hJ2, hk2⟩ | ⟨rfl, hx2⟩)
     ·have hb2 := hbx.kept hk2 hg
      obtain ⟨d0, d1, d2, d3, d4, d5, d6, d7⟩ := hb2
      gi_wp2_with fail
      refine ⟨trivial, fun h => (by cases h), ?_⟩
      have hL2 : ListAt n₀ W2 x.la x.ln tl := ListAt.below (((Below.refl _ wr).alloc (Nat.le_trans hn hg) _).trans hk2.below) hLl
      refine (ih tl (n - 1) x.la x.ln x.lc (d + 1) (pre ++ done ++ [(d, x)]) W2 (by have := HC.out; omega) hL2 hJ2 (by have := HLN.out; simp only [List.length_append, List.length_cons, List.length_nil] at this ⊢; omega)
        (by have := hk2.below.size; simp at this; omega) (by omega) (by have := HC.out; have := HD.out; omega) hx.ln).mono ?_
      rintro e W3 (⟨rfl, hJ3, hk3⟩ | ⟨rfl, q, hq, hx3⟩)
      ·have hb3 := hbx.kept (hk2.trans hk3) hg
       clear d0 d1 d2 d3 d4 d5 d6 d7
       obtain ⟨d0, d1, d2, d3, d4, d5, d6, d7⟩ := hb3
       gi_wp2_with fail
       refine ⟨trivial, fun h => (by cases h), ?_⟩
       have hL3 : ListAt n₀ W3 x.ea x.en te := ListAt.below ((((Below.refl _ wr).alloc (Nat.le_trans hn hg) _).trans hk2.below).trans hk3.below) hLe
       refine (ih te (n - 1) x.ea x.en x.ec (d + 1) (pre ++ done ++ [(d, x)] ++ tl.walk (d + 1)) W3 (by have := HC.out; omega) hL3 hJ3 (by have := HLN.out; simp only [List.length_append, List.length_cons, List.length_nil, walk_length] at this ⊢; omega)
         (by have := (hk2.trans hk3).below.size; simp at this; omega) (by omega) (by have := HC.out; have := HD.out; omega) hx.en).mono ?_
       rintro e W4 (⟨rfl, hJ4, hk4⟩ | ⟨rfl, q, hq, hx4⟩)
       ·clear d0 d1 d2 d3 d4 d5 d6 d7
        gi_wp2
        have hkz : Kept n₀ n₁ W W4 := hB1.trans ((hk2.trans hk3).trans hk4)
        go_roundw
        case rel =>
         refine ⟨k + 1, done ++ [(d, x)] ++ tl.walk (d + 1) ++ te.walk (d + 1), r, by simp, by omega, ?_, ?_, ?_, hkz⟩
         ·have h1 := HR.out
          refine ⟨by simp only [Il.len] at h1; omega, ?_, by simp only [Il.count] at h1; omega, by simp only [Il.deep] at h1; omega⟩
          rw [← h1.2.1]; simp [Il.walk, List.append_assoc]
         ·have := Items.below ((((((Below.refl _ wr).alloc (Nat.le_trans hn hg) (.cells x.vals 126)).trans hk2.below).trans hk3.below)).trans hk4.below) hir'
          rw [show off + (k + 1) * 8 = off + k * 8 + 8 by omega]
          exact this
         ·simpa [List.append_assoc] using hJ4
        case measure => simp [intOf]; omega
       ·gi_wp2
        go_ret
        refine .inr ⟨rfl, done ++ [(d, x)] ++ tl.walk (d + 1) ++ q, ?_, by simpa [List.append_assoc] using hx4⟩
        rw [← HR.out.2.1]
        obtain ⟨z, hz⟩ := hq
        exact ⟨z ++ r.walk d, by rw [Il.walk, ← hz]; simp [List.append_assoc]⟩
      ·gi_wp2
       refine ⟨trivial, ?_⟩
       gi_wp2
       go_ret
       refine .inr ⟨rfl, done ++ [(d, x)] ++ q, ?_, by simpa [List.append_assoc] using hx3⟩
       rw [← HR.out.2.1]
       obtain ⟨z, hz⟩ := hq
       exact ⟨z ++ (te.walk (d + 1) ++ r.walk d), by rw [Il.walk, ← hz]; simp [List.append_assoc]⟩
     ·gi_wp2
      refine ⟨trivial, ?_⟩
      gi_wp2
      refine ⟨trivial, ?_⟩
      gi_wp2
      go_ret
      refine .inr ⟨rfl, done ++ [(d, x)], ?_, by simpa [List.append_assoc] using hx2⟩
      rw [← HR.out.2.1]
      exact ⟨tl.walk (d + 1) ++ (te.walk (d + 1) ++ r.walk d), by simp [Il.walk, List.append_assoc]⟩
set_option maxHeartbeats 1000000 in
theorem within_stops (n n₀ n₁ Bs : Nat) (a : Option Addr) (len cap : Nat) (t : Il) (w : World) (hBs : Bs < w.heap.size) (hn : n₀ ≤ n₁) (hw : n₁ ≤ w.heap.size)
  (hc : w.cell? ⟨Bs, 0, none⟩ = some (.slice a len cap)) (hl : ListAt n₀ w a len t) (hd : t.deep ≤ 4611686018427387900) (hlen : len ≤ 140737488351232) :
  SeqStopsK Fence.wide n Tryz.prog 186 #[.pointer (some ⟨Bs, 0, none⟩)] encs (Kept n₀ n₁) (fun ys => ys = t.walk 1) (fun pre => pre <+: t.walk 1) t.count w := fun l J Jx W hW hJ _ hY h0 => by
 have hc' := (hW.cell (p := ⟨Bs, 0, none⟩) hBs).trans hc
 have hp := descend_in l n₀ n₁ t.count J Jx W.heap.size hJ hn (fun m pre x W1 hj hl1 _ => YieldAt.anyD (hY pre x W1 hj hl1)) t.count t (n - 1) a len cap 1 [] W (Nat.le_refl _) (hl.below (hW.mono (Nat.le_trans hn hw))) h0 (by simp) (Nat.le_trans hw hW.size) (by omega) (by omega) hlen
 have C := hid hp
 clear hp hl hd hc hY
 refine callsIn_of_wp Tryz.func186 rfl trivial ?_ rfl
 simp only [Tryz.ntmps186, List.size_toArray, List.length_cons, List.length_nil, Nat.reduceAdd, Nat.reduceSub, Array.replicate_succ, Array.replicate_zero, List.push_toArray, List.append_toArray, List.nil_append, List.cons_append]
 gi_wp2_with fail
 refine ⟨trivial, fun h => (by cases h), ?_⟩
 refine C.out.mono ?_
 clear C
 rintro e W1 (⟨rfl, hJ1, _⟩ | ⟨rfl, q, hq, hx⟩)
 ·gi_wp2
  go_end0
  exact ⟨⟨_, rfl⟩, .inl ⟨_, rfl, by simpa using hJ1⟩⟩
 ·gi_wp2
  go_end0
  exact ⟨⟨_, rfl⟩, .inr ⟨q, hq, by simpa using hx⟩⟩
theorem within_in (n : Nat) (a : Option Addr) (len cap : Nat) (w : World) :
  CallsIn Fence.wide n Tryz.prog 137 #[.slice a len cap] w fun e w' => e = .returned (.func (.func 186) #[] #[.pointer (some ⟨w.heap.size, 0, none⟩)]) ∧ w' = w.alloc (.cells #[.slice a len cap] 45) := by
 refine callsIn_of_wp Tryz.func137 rfl trivial ?_ rfl
 simp only [Tryz.ntmps137, List.size_toArray, List.length_cons, List.length_nil, Nat.reduceAdd, Nat.reduceSub, Array.replicate_succ, Array.replicate_zero, List.push_toArray, List.append_toArray, List.nil_append, List.cons_append]
 gi_wp2
 go_ret
 exact ⟨rfl, rfl⟩
end Go.Proofs.YtepbjkkakfpjgaaGreatDoor.Instr
namespace Go.Proofs.YtepbjkkakfpjgaaGreatDoor.Instr
open Go.RowKit Go.Shelf
theorem cell_new (W : World) (v : Value) (t : TypeId) : (W.alloc (.cells #[v] t)).cell? ⟨W.heap.size, 0, none⟩ = some v ∧ (W.alloc (.cells #[v] t)).frozen? ⟨W.heap.size, 0, none⟩ = false := by
 constructor <;> go_simp
end Go.Proofs.YtepbjkkakfpjgaaGreatDoor.Instr
namespace Go.Proofs.YtepbjkkakfpjgaaGreatDoor.Kind
open Go.RowKit
theorem own_new (w : World) (n : Nat) (xs : Array Value) (hs : xs.size = n) (hm : n ≤ maxLen) :
  Own w.heap.size (w.drew.alloc (.cells xs 5)) (.slice (some ⟨w.heap.size, 0, none⟩) 0 n) [] := by
 refine ⟨rfl, .inr ⟨w.heap.size, n, xs, rfl, Nat.le_refl _, ?_, Nat.zero_le _, hm, by omega, by simp⟩⟩
 show (w.heap.push _)[w.heap.size]? = _
 simp
set_option maxHeartbeats 800000 in
theorem grow_any (n : Nat) (h0 : 0 < n) (hn : n ≤ 1000000) (w : World) :
  Calls Tryz.prog 227 #[.slice none 0 0, .int .i64 n] w (Gives w []) := by
 obtain ⟨i0, hi, hz0, hz1, hz2⟩ := info_parts infoByte
 have hr := fun ty => Lib.run_append_nil_zeros w 35 3 ty 5 i0 (.int .u8 0) .i64 .i64 Tryz.underlying35 Tryz.underlying3 hi hz0 n h0 (by omega) (by omega) (by rw [hz2]; omega)
 have hG : n ≤ grownCap w n 0 5 := grownCap_ge w _ _ _
 have hG2 := grownCap_le_maxLen w n 0 5 (by unfold maxLen; omega)
 have hown := fun xs hs => own_new w (grownCap w n 0 5) xs hs hG2
 have hsz : (Builtin.zeroCells (Value.int IntKind.u8 0).cells n ++ Builtin.zeroCells (Value.int IntKind.u8 0).cells (grownCap w n 0 5 - n)).size = grownCap w n 0 5 := by
  simp [Builtin.zeroCells, Value.cells]; omega
 have hown := hown _ hsz
 generalize grownCap w n 0 5 = G at *
 generalize Builtin.zeroCells (Value.int IntKind.u8 0).cells n ++ Builtin.zeroCells (Value.int IntKind.u8 0).cells (G - n) = xs at *
 have hb : Below w.heap.size w (w.drew.alloc (.cells xs 5)) := (Below.refl _ _).drew.alloc (Nat.le_refl _) _
 have HB := hid hb
 have HO := hid hown
 have hn0 : ¬ ((n : Int) < 0) := by omega
 have hn1 : (0 : Int) < (n : Int) := by omega
 have hi1 : (0 : Int) ≤ (G : Int) := by omega
 have hm : (G : Int) ≤ 9223372036854775807 := by unfold maxLen at hG2; omega
 clear hb hown hsz hi hz0 hz1 hz2 hG2
 generalize w.drew.alloc (.cells xs 5) = w9 at *
 go_enter Tryz.func227, Tryz.ntmps227
 go_wp2_with (at_builtin; refine Lib.wpList_append_run _ rfl _ _ _ _ rfl _ _ rfl rfl _ _ (hr _) ?_)
 go_ret
 exact ⟨_, rfl, HO, HB⟩
def Parts (w : World) (g : Nat) (ls : List (List Int)) : Prop := ∀ j, j < ls.length → ∃ a c, w.cell? ⟨g, j, none⟩ = some (.slice a (ls.getD j []).length c) ∧ Bytes w a (ls.getD j []) ∧ (a = none → c = 0)
theorem Parts.below {w w' : World} {g : Nat} {ls : List (List Int)} (h : Parts w g ls) (hb : Below w.heap.size w w') : Parts w' g ls := fun j hj => by
 obtain ⟨a, c, h1, h2, h3⟩ := h j hj
 exact ⟨a, c, keep hb h1, h2.below hb, h3⟩
theorem flat_succ {ls : List (List Int)} {i : Nat} (hi : i < ls.length) : (ls.take (i + 1)).flatten = (ls.take i).flatten ++ ls.getD i [] := by
 rw [List.take_succ_eq_append_getElem hi, List.flatten_append, List.getD_eq_getElem?_getD, List.getElem?_eq_getElem hi]; simp
theorem flat_le (ls : List (List Int)) (i : Nat) : (ls.take i).flatten.length ≤ ls.flatten.length := by
 conv => rhs; rw [← List.take_append_drop i ls, List.flatten_append, List.length_append]
 omega
set_option maxHeartbeats 1600000 in
theorem concat_any (g n cap : Nat) (ls : List (List Int)) (w : World) (hn : ls.length = n) (hp : Parts w g ls) (h0 : 0 < ls.flatten.length) (hmax : ls.flatten.length ≤ 100000) (hn9 : n ≤ 9) :
  Calls Tryz.prog 211 #[.slice (some ⟨g, 0, none⟩) n cap] w (Gives w ls.flatten) := by
 have HN := hid hn
 have HP := hid hp
 have hle := flat_le ls
 have hs := fun i hi => flat_succ (ls := ls) (i := i) hi
 have HLE := hid hle
 have HS := hid hs
 have HA : Hid ((ls.take n).flatten = ls.flatten) := hid (by rw [← hn, List.take_length])
 clear hn hp hle hs
 go_enter Tryz.func211, Tryz.ntmps211
 go_wp2
 go_loop [3, 11] (fun ss si => ∃ i : Nat, i ≤ n ∧ si = .int .i64 i ∧ ss = .int .i64 ((ls.take i).flatten.length : Nat)) (fun _ si => n - (intOf si).toNat)
 case atStart => exact ⟨0, by omega, rfl, rfl⟩
 case round =>
  obtain ⟨i, hi, rfl, rfl⟩ := hrel
  by_cases hlt : i < n
  ·obtain ⟨a, c, hc, _, _⟩ := HP.out i (by have := HN.out; omega)
   have h1 := HLE.out (i + 1)
   have h2 := HS.out i (by have := HN.out; omega)
   have h3 := congrArg List.length h2
   rw [List.length_append] at h3
   have H3 := hid h3
   clear h2 h3
   generalize (ls.getD i []).length = p at *
   generalize hq : (ls.take i).flatten.length = q at *
   clear hq
   have hle2 : q + p ≤ 100000 := by have := H3.out; omega
   go_wp2
   go_round
   case rel => exact ⟨i + 1, by omega, by go_num, by rw [H3.out]; go_num⟩
   case measure => simp [intOf]; omega
  ·obtain rfl : i = n := by omega
   rw [HA.out]
   obtain ⟨t, ht⟩ : ∃ t, ls.flatten.length = t := ⟨_, rfl⟩
   have HT := hid ht
   rw [ht] at h0 hmax
   rw [ht]
   clear ht
   go_wp2_with fail
   refine (grow_any t h0 (by omega) _).mono ?_
   rintro e w1 ⟨v, rfl, ho, hb⟩
   obtain ⟨a1, c1, rfl⟩ := ho.sliceN (n := 0) rfl
   go_wp2
   go_loopw [6, 27] (fun sv si wr => ∃ j : Nat, j ≤ i ∧ si = .int .i64 j ∧ Own w.heap.size wr sv (ls.take j).flatten ∧ Below w.heap.size w wr) (fun _ si _ => i - (intOf si).toNat)
   case atStart => exact ⟨0, by omega, rfl, ho, hb⟩
   case round =>
    obtain ⟨j, hj, rfl, hown, hbw⟩ := hrel
    obtain ⟨m, hm⟩ : ∃ m, (ls.take j).flatten.length = m := ⟨_, rfl⟩
    obtain ⟨av, cv, rfl⟩ := hown.sliceN hm
    have HM := hid hm
    clear hm
    by_cases hlj : j < i
    ·obtain ⟨a, c, hc, hy, hnil⟩ := (Parts.below HP.out hbw) j (by have := HN.out; omega)
     have h1 := HLE.out (j + 1)
     have h2 := HS.out j (by have := HN.out; omega)
     have h3 := congrArg List.length h2
     rw [List.length_append] at h3
     have H2 := hid h2
     have hmm := HM.out
     have htt := HT.out
     have hle2 : (ls.take j).flatten.length + (ls.getD j []).length ≤ 100000 := by omega
     have HNIL := hid hnil
     clear h2 h3 h1 hmm htt hnil
     generalize ls.getD j [] = ys at *
     obtain ⟨m2, hm2⟩ : ∃ m2, ys.length = m2 := ⟨_, rfl⟩
     rw [hm2] at hc hle2
     have HM2 := hid hm2
     have HL2 := hid hle2
     clear hm2 hle2
     go_wp2_with (first | (at_builtin; refine append_bytes rfl (.tmp 31) (.tmp 32) rfl rfl hown hbw hbw.size _ _ _ rfl HNIL.out HM2.out hy (by have := HM2.out; have := HL2.out; omega) ?_; intro v' w5 hown5 hb5 hs5))
     go_roundw
     case rel => exact ⟨j + 1, by omega, by go_num, by rw [H2.out]; exact hown5, hb5⟩
     case measure => simp [intOf]; omega
    ·obtain rfl : j = i := by omega
     go_wp2
     go_ret
     exact ⟨_, rfl, by rw [← HA.out]; exact hown, hbw⟩
end Go.Proofs.YtepbjkkakfpjgaaGreatDoor.Kind
namespace Go.Proofs.YtepbjkkakfpjgaaGreatDoor.Kind
open Go.RowKit
theorem eqType (a b c d : Int) (w : World) : (Op.equalIn 10000 50 (.agg #[.int .i64 a, .int .i64 b]) (.agg #[.int .i64 c, .int .i64 d])).run Tryz.prog w = .ok (a == c && b == d) w := by
 have u3 := Tryz.underlying3
 have a3 := Tryz.isAgg3
 have z3 := Tryz.sizeOf3
 have hS : Tryz.prog.underlying 50 = some (.struct (Tryz.prog.fieldsOf 50)) := by kernel_rfl
 have hp : Tryz.prog.stoodInHeld 50 = false := by kernel_rfl
 rw [show (10000 : Nat) = 9999 + 1 from rfl, run_equalIn_agg w 9999 50 _ _ hS hp]
 simp only [Program.fieldsOf, Tryz.underlying50]
 go_simp
 by_cases h1 : a = c <;> by_cases h2 : b = d <;> simp [h1, h2]
theorem guardType (op : BinOp) (x y : Operand) (xs ys : Array Value) (w : World) : (eqGuard op 50 x y (.agg xs) (.agg ys)).run Tryz.prog w = .ok () w :=
 run_eqGuard_agg w op _ x y xs ys (by kernel_rfl)
theorem eqLim (a b c d : Int) (s t : Bool) (w : World) : (Op.equalIn 10000 60 (.agg #[.int .u32 a, .int .u32 b, .bool s]) (.agg #[.int .u32 c, .int .u32 d, .bool t])).run Tryz.prog w = .ok (a == c && b == d && s == t) w := by
 have u3 := Tryz.underlying28
 have a3 := Tryz.isAgg28
 have z3 := Tryz.sizeOf28
 have u4 := Tryz.underlying4
 have a4 := Tryz.isAgg4
 have z4 := Tryz.sizeOf4
 have hS : Tryz.prog.underlying 60 = some (.struct (Tryz.prog.fieldsOf 60)) := by kernel_rfl
 have hp : Tryz.prog.stoodInHeld 60 = false := by kernel_rfl
 rw [show (10000 : Nat) = 9999 + 1 from rfl, run_equalIn_agg w 9999 60 _ _ hS hp]
 simp only [Program.fieldsOf, Tryz.underlying60]
 go_simp
 by_cases h1 : a = c <;> by_cases h2 : b = d <;> by_cases h3 : s = t <;> simp [h1, h2, h3]
theorem guardLim (op : BinOp) (x y : Operand) (xs ys : Array Value) (w : World) : (eqGuard op 60 x y (.agg xs) (.agg ys)).run Tryz.prog w = .ok () w :=
 run_eqGuard_agg w op _ x y xs ys (by kernel_rfl)
end Go.Proofs.YtepbjkkakfpjgaaGreatDoor.Kind
namespace Go.Proofs.YtepbjkkakfpjgaaGreatDoor.Kind
open Go.RowKit
structure RdIs (w : World) (k : Nat) (v : Value) (s : Rd) : Prop where
 c0 : w.cell? ⟨k, 0, none⟩ = some v
 c1 : w.cell? ⟨k, 1, none⟩ = some (.int .i64 s.1)
 c2 : w.cell? ⟨k, 2, none⟩ = some (.int .i64 s.2.1)
 c3 : w.cell? ⟨k, 3, none⟩ = some (.int .i64 s.2.2)
 f0 : w.frozen? ⟨k, 0, none⟩ = false
 f1 : w.frozen? ⟨k, 1, none⟩ = false
 f2 : w.frozen? ⟨k, 2, none⟩ = false
 f3 : w.frozen? ⟨k, 3, none⟩ = false
end Go.Proofs.YtepbjkkakfpjgaaGreatDoor.Kind
namespace Go.Proofs.YtepbjkkakfpjgaaGreatDoor.Body
open Go.RowKit Go.Proofs.YtepbjkkakfpjgaaGreatDoor.Instr
theorem isSome_doc {op : Int} : ((strOfNums (nameL op)).toList.isEmpty = true) ↔ nameL op = [] := by
 rw [ByteArray.toList_eq, strOfNums_data]
 simp
end Go.Proofs.YtepbjkkakfpjgaaGreatDoor.Body
