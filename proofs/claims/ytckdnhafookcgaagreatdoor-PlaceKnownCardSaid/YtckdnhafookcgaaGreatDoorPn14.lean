import Derived.Test.YtckdnhafookcgaaGreatDoorPn13
import Derived.Test.YtckdnhafookcgaaGreatDoorPn01
import Derived.Test.YtckdnhafookcgaaGreatDoorPn02
import Derived.RegionTactic
import Derived.BigRegion
import Derived.BigQuiet
namespace Go.Proofs.YtckdnhafookcgaaGreatDoor.Instr
end Go.Proofs.YtckdnhafookcgaaGreatDoor.Instr
namespace Go.Proofs.YtckdnhafookcgaaGreatDoor.Mod
open Go.RowKit Go.Proofs.YtckdnhafookcgaaGreatDoor.Instr

theorem eqImp (a b a' b' : ByteArray) (c c' : Int) (w : World) : (Op.equalIn 10000 90 (.agg #[.string a, .string b, .int .i64 c]) (.agg #[.string a', .string b', .int .i64 c'])).run Tryz.prog w = .ok (a.toList == a'.toList && b.toList == b'.toList && c == c') w := by
  have u3 := Tryz.underlying3
  have a3 := Tryz.isAgg3
  have z3 := Tryz.sizeOf3
  have u4 := Tryz.underlying9
  have a4 := Tryz.isAgg9
  have z4 := Tryz.sizeOf9
  have hS : Tryz.prog.underlying 90 = some (.struct (Tryz.prog.fieldsOf 90)) := by kernel_rfl
  have hp : Tryz.prog.stoodInHeld 90 = false := by kernel_rfl
  rw [show (10000 : Nat) = 9999 + 1 from rfl, run_equalIn_agg w 9999 90 _ _ hS hp]
  simp only [Program.fieldsOf, Tryz.underlying90]
  go_simp
  by_cases h1 : a.toList = a'.toList <;> by_cases h2 : b.toList = b'.toList <;> by_cases h3 : c = c' <;> simp [h1, h2, h3]
theorem guardImp (op : BinOp) (x y : Operand) (xs ys : Array Value) (w : World) : (eqGuard op 90 x y (.agg xs) (.agg ys)).run Tryz.prog w = .ok () w :=
  run_eqGuard_agg w op _ x y xs ys (by kernel_rfl)
theorem eqExp (a a' : ByteArray) (b c b' c' : Int) (w : World) : (Op.equalIn 10000 111 (.agg #[.string a, .int .i64 b, .int .u32 c]) (.agg #[.string a', .int .i64 b', .int .u32 c'])).run Tryz.prog w = .ok (a.toList == a'.toList && b == b' && c == c') w := by
  have u3 := Tryz.underlying3
  have a3 := Tryz.isAgg3
  have z3 := Tryz.sizeOf3
  have u4 := Tryz.underlying9
  have a4 := Tryz.isAgg9
  have z4 := Tryz.sizeOf9
  have u5 := Tryz.underlying28
  have a5 := Tryz.isAgg28
  have z5 := Tryz.sizeOf28
  have hS : Tryz.prog.underlying 111 = some (.struct (Tryz.prog.fieldsOf 111)) := by kernel_rfl
  have hp : Tryz.prog.stoodInHeld 111 = false := by kernel_rfl
  rw [show (10000 : Nat) = 9999 + 1 from rfl, run_equalIn_agg w 9999 111 _ _ hS hp]
  simp only [Program.fieldsOf, Tryz.underlying111]
  go_simp
  by_cases h1 : a.toList = a'.toList <;> by_cases h2 : b = b' <;> by_cases h3 : c = c' <;> simp [h1, h2, h3]
theorem guardExp (op : BinOp) (x y : Operand) (xs ys : Array Value) (w : World) : (eqGuard op 111 x y (.agg xs) (.agg ys)).run Tryz.prog w = .ok () w :=
  run_eqGuard_agg w op _ x y xs ys (by kernel_rfl)
theorem toList_ne {a b : ByteArray} (h : ¬ a = b) : ¬ a.toList = b.toList := fun e => h (ByteArray.ext (Array.toList_inj.1 (by rwa [ByteArray.toList_eq, ByteArray.toList_eq] at e)))
set_option maxRecDepth 100000 in
set_option maxHeartbeats 2000000 in
theorem SameCodes_any (x y : Mod.Fn) (n₀ : Nat) (w : World) (h1 : ListAt n₀ w x.l.a x.l.t.len x.l.t) (h2 : ListAt n₀ w y.l.a y.l.t.len y.l.t) (hn : n₀ ≤ w.heap.size) (b1 : x.l.t.len ≤ 140737488351232) (b2 : y.l.t.len ≤ 140737488351232) :
    Calls Tryz.prog 53 #[.agg #[.int .i64 x.lo, .slice x.l.a x.l.t.len x.l.c], .agg #[.int .i64 y.lo, .slice y.l.a y.l.t.len y.l.c]] w fun e w' => e = .returned (.bool (is (x.lo = y.lo ∧ x.l.t.bare = y.l.t.bare))) ∧ Below w.heap.size w w' := by
  have hb0 := (Below.refl w.heap.size w).alloc (Nat.le_refl _) (.cells #[.int .i64 x.lo, .slice x.l.a x.l.t.len x.l.c] 99)
  have hb1 := thenA hb0 (.cells #[.int .i64 y.lo, .slice y.l.a y.l.t.len y.l.c] 99)
  have C := hid (SameInstrs_any n₀ (max x.l.t.count y.l.t.count) x.l.t y.l.t x.l.a y.l.a x.l.t.len y.l.t.len x.l.c y.l.c _ (by omega) (by omega) (h1.below (hb1.mono hn)) (h2.below (hb1.mono hn)) (Nat.le_trans hn hb1.size) b1 b2)
  have HB := hid hb1
  obtain ⟨lo, hlo⟩ : ∃ n, x.lo = n := ⟨_, rfl⟩
  obtain ⟨lo', hlo'⟩ : ∃ n, y.lo = n := ⟨_, rfl⟩
  have HY := hid (fun (g : lo = lo') (g2 : x.l.t.bare = y.l.t.bare) => is_yes (p := x.lo = y.lo ∧ x.l.t.bare = y.l.t.bare) ⟨by rw [hlo, hlo', g], g2⟩)
  have HN := hid (fun (g : ¬ (lo = lo' ∧ x.l.t.bare = y.l.t.bare)) => is_no (p := x.lo = y.lo ∧ x.l.t.bare = y.l.t.bare) (fun e => g ⟨by rw [← hlo, ← hlo', e.1], e.2⟩))
  obtain ⟨r, hr⟩ : ∃ r, is (x.lo = y.lo ∧ x.l.t.bare = y.l.t.bare) = r := ⟨_, rfl⟩
  rw [hr] at HY HN ⊢
  rw [hlo, hlo'] at C HB ⊢
  clear h1 h2 hb0 hb1 hlo hlo' hr
  by_cases g : lo = lo'
  · subst g
    by_cases g2 : x.l.t.bare = y.l.t.bare
    · rw [is_yes g2] at C
      have HE := hid (HY.out rfl g2)
      clear HY HN g2
      go_enter Tryz.func53, Tryz.ntmps53
      go_wp2_with fail
      refine C.out.mono ?_
      rintro e w1 ⟨rfl, hb⟩
      clear C
      go_wp2
      go_ret
      exact ⟨ret_bool HE.out.symm, HB.out.trans (hb.mono HB.out.size)⟩
    · rw [is_no g2] at C
      have HE := hid (HN.out (fun h => g2 h.2))
      clear HY HN g2
      go_enter Tryz.func53, Tryz.ntmps53
      go_wp2_with fail
      refine C.out.mono ?_
      rintro e w1 ⟨rfl, hb⟩
      clear C
      go_wp2
      go_ret
      exact ⟨ret_bool HE.out.symm, HB.out.trans (hb.mono HB.out.size)⟩
  · have HE := hid (HN.out (fun h => g h.1))
    have q1 : (lo == lo') = false := beq_eq_false_iff_ne.2 g
    clear HY HN C
    go_enter Tryz.func53, Tryz.ntmps53
    go_wp2
    go_ret
    exact ⟨ret_bool HE.out.symm, HB.out⟩
end Go.Proofs.YtckdnhafookcgaaGreatDoor.Mod
