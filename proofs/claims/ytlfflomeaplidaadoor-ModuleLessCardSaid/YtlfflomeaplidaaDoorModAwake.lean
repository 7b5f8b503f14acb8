/-
  MODULE: what the statements ask first: awake.
-/
import Derived.Test.YtlfflomeaplidaaDoorModSmallM
import Derived.Test.YtlfflomeaplidaaDoorModFind
import Derived.Test.YtlfflomeaplidaaDoorModCheck
import Derived.KernelRfl
namespace Go.Proofs.YtlfflomeaplidaaDoor.Mod
open Go.RowKit Go.Shelf Go.Proofs.YtlfflomeaplidaaDoor.Instr

theorem small_check (g : Nat) : (smallM g).check = 0 := by kernel_rfl
theorem small_size (g : Nat) : (smallM g).size = 1 := rfl
theorem small_find (g : Nat) : (smallM g).find sRun 0 = (1, true) := by simp [Md.find, smallM]
theorem small_t0 (g : Nat) : (smallM g).typeOf 0 = ((2, 0), true) := by kernel_rfl
theorem small_t1 (g : Nat) : (smallM g).typeOf 1 = ((0, 1), true) := by kernel_rfl
theorem small_t2 (g : Nat) : (smallM g).typeOf 2 = ((0, 0), false) := by kernel_rfl

theorem type0 (g : Nat) (w : World) (hm : ModAt w.heap.size w (smallM g)) : Calls Tryd.prog 20 #[.agg (smallM g).v, .int .u32 0] w fun e w' => e = .returned (.tuple #[.agg #[.int .i64 2, .int .i64 0], .bool true]) ∧ Below w.heap.size w w' := by
  have := TypeOf_any (smallM g) 0 w hm (small_few g).fit (by omega)
  rw [small_t0] at this
  exact this
theorem type1 (g : Nat) (w : World) (hm : ModAt w.heap.size w (smallM g)) : Calls Tryd.prog 20 #[.agg (smallM g).v, .int .u32 1] w fun e w' => e = .returned (.tuple #[.agg #[.int .i64 0, .int .i64 1], .bool true]) ∧ Below w.heap.size w w' := by
  have := TypeOf_any (smallM g) 1 w hm (small_few g).fit (by omega)
  rw [small_t1] at this
  exact this
theorem type2 (g : Nat) (w : World) (hm : ModAt w.heap.size w (smallM g)) : Calls Tryd.prog 20 #[.agg (smallM g).v, .int .u32 2] w fun e w' => e = .returned (.tuple #[.agg #[.int .i64 0, .int .i64 0], .bool false]) ∧ Below w.heap.size w w' := by
  have := TypeOf_any (smallM g) 2 w hm (small_few g).fit (by omega)
  rw [small_t2] at this
  exact this
theorem findS (g : Nat) (w : World) (hm : ModAt w.heap.size w (smallM g)) : Calls Tryd.prog 31 #[.agg (smallM g).v, .string ⟨#[114, 117, 110]⟩, .int .i64 0] w fun e w' => e = .returned (.tuple #[.int .u32 1, .bool true]) ∧ Below w.heap.size w w' := by
  have := Find_any (smallM g) sRun 0 w hm (small_few g).fit
  rw [small_find] at this
  exact this
theorem checkS (g : Nat) (w : World) (hT : Nams w) (hU : Utf.Tabs w) (hm : ModAt w.heap.size w (smallM g)) : Calls Tryd.prog 17 #[.agg (smallM g).v] w fun e w' => e = .returned (.int .i64 0) ∧ Below w.heap.size w w' := by
  have := ModCheck_any (smallM g) w hT hU hm (small_few g)
  rw [small_check] at this
  exact this
theorem sizeS (g : Nat) (w : World) (hm : ModAt w.heap.size w (smallM g)) : Calls Tryd.prog 32 #[.agg (smallM g).v] w fun e w' => e = .returned (.int .i64 1) ∧ Below w.heap.size w w' := by
  have := Size_any (smallM g) w hm (small_few g)
  rw [small_size] at this
  exact this
/-- A box of two numbers. -/
def Two (W : World) (b : Nat) (x y : Int) : Prop := W.cell? ⟨b, 0, none⟩ = some (.int .i64 x) ∧ W.cell? ⟨b, 1, none⟩ = some (.int .i64 y)
theorem Two.made (w : World) (x y : Int) : Two (w.alloc (.cells #[.int .i64 x, .int .i64 y] 52)) w.heap.size x y := by constructor <;> go_simp
theorem Two.on {W W' : World} {b : Nat} {x y : Int} (h : Two W b x y) (hb : Below W.heap.size W W') : Two W' b x y := ⟨Go.Proofs.YtlfflomeaplidaaDoor.keep hb h.1, Go.Proofs.YtlfflomeaplidaaDoor.keep hb h.2⟩
theorem belowA (w : World) (o : Obj) : Below w.heap.size w (w.alloc o) := (Below.refl _ _).alloc (Nat.le_refl _) o
set_option maxHeartbeats 2000000 in
set_option maxRecDepth 100000 in
theorem awake_any (w : World) (hT : Nams w) (hU : Utf.Tabs w) : Calls Tryd.prog 15 #[] w fun e w' => e = .returned (.bool true) ∧ Below w.heap.size w w' := by
  have HT := hid hT
  have HU := hid hU
  clear hT hU
  go_enter Tryd.func15, Tryd.ntmps15
  go_wp2_with fail
  refine (small_any _).mono ?_
  rintro e w1 ⟨rfl, hm, hb1⟩
  have C := hid (type0 _ w1 hm)
  have B := hid hb1
  clear hm hb1
  go_wp2_with fail
  refine C.out.mono ?_
  rintro e w2 ⟨rfl, hb⟩
  have B2 := hid (thenB B.out hb)
  clear C hb B
  go_wp2_with fail
  refine (small_any _).mono ?_
  rintro e w3 ⟨rfl, hm, hb⟩
  rw [World.size_alloc] at hm
  have A3 := hid ((Two.made w2 2 0).on hb)
  have B3 := hid (thenB B2.out (thenB (belowA w2 _) hb))
  have C := hid (type1 _ w3 hm)
  clear hm hb B2
  go_wp2_with fail
  refine C.out.mono ?_
  rintro e w4 ⟨rfl, hb⟩
  have A4 := hid (A3.out.on hb)
  have B4 := hid (thenB B3.out hb)
  clear C hb B3 A3
  go_wp2_with fail
  refine (small_any _).mono ?_
  rintro e w5 ⟨rfl, hm, hb⟩
  rw [World.size_alloc] at hm
  have A5 := hid ((A4.out.on (belowA w4 _)).on hb)
  have D5 := hid ((Two.made w4 0 1).on hb)
  have B5 := hid (thenB B4.out (thenB (belowA w4 _) hb))
  have C := hid (type2 _ w5 hm)
  clear hm hb B4 A4
  go_wp2_with fail
  refine C.out.mono ?_
  rintro e w6 ⟨rfl, hb⟩
  have A6 := hid (A5.out.on hb)
  have D6 := hid (D5.out.on hb)
  have B6 := hid (thenB B5.out hb)
  clear C hb B5 A5 D5
  go_wp2_with fail
  refine (small_any _).mono ?_
  rintro e w7 ⟨rfl, hm, hb⟩
  rw [World.size_alloc] at hm
  have A7 := hid ((A6.out.on (belowA w6 _)).on hb)
  have D7 := hid ((D6.out.on (belowA w6 _)).on hb)
  have B7 := hid (thenB B6.out (thenB (belowA w6 _) hb))
  have C := hid (findS _ w7 hm)
  clear hm hb B6 A6 D6
  go_wp2_with fail
  refine C.out.mono ?_
  rintro e w8 ⟨rfl, hb⟩
  have A8 := hid (A7.out.on hb)
  have D8 := hid (D7.out.on hb)
  have B8 := hid (thenB B7.out hb)
  clear C hb B7 A7 D7
  go_wp2_with fail
  refine (small_any _).mono ?_
  rintro e w9 ⟨rfl, hm, hb⟩
  have A9 := hid (A8.out.on hb)
  have D9 := hid (D8.out.on hb)
  have B9 := hid (thenB B8.out hb)
  have C := hid (checkS _ w9 (HT.out.below B9.out) (HU.out.below B9.out) hm)
  clear hm hb B8 A8 D8
  go_wp2_with fail
  refine C.out.mono ?_
  rintro e w10 ⟨rfl, hb⟩
  obtain ⟨a0, a1⟩ := A9.out.on hb
  obtain ⟨d0, d1⟩ := D9.out.on hb
  have B10 := hid (thenB B9.out hb)
  have q1 := Kind.eqType
  have q2 := Kind.guardType
  clear C hb B9 A9 D9
  go_wp2_with fail
  refine (small_any _).mono ?_
  rintro e w11 ⟨rfl, hm, hb⟩
  have C := hid (sizeS _ w11 hm)
  have B11 := hid (thenB B10.out hb)
  clear hm hb B10 a0 a1 d0 d1 q1 q2
  go_wp2_with fail
  refine C.out.mono ?_
  rintro e w12 ⟨rfl, hb⟩
  have B12 := hid (thenB B11.out hb)
  clear C hb B11
  go_wp2
  go_ret
  exact ⟨rfl, B12.out⟩
end Go.Proofs.YtlfflomeaplidaaDoor.Mod
