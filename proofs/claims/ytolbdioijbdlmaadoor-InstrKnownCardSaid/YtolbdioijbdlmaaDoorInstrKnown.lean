/-
  INSTR: the examples: the walk.
-/
import Derived.Test.YtolbdioijbdlmaaDoorInstrText
namespace Go.Proofs.YtolbdioijbdlmaaDoor
open Go.RowKit Go.Proofs.YtolbdioijbdlmaaDoor.Instr

/-- The chapter's lists, in a world of so many blocks. -/
def blockX (g : Nat) : Ix := ⟨2, 1, 0, 0, 0, [], none, 0, some ⟨g, 0, none⟩, 1, 1, none, 0, 0⟩
def blockT (g : Nat) : Il := .cons (blockX g) (.cons (ix 65 0 0 (-1)) .nil .nil .nil) .nil .nil
def ifX (g : Nat) : Ix := ⟨4, 0, 0, 0, 0, [], none, 0, some ⟨g, 0, none⟩, 2, 2, some ⟨g + 1, 0, none⟩, 1, 1⟩
def ifT (g : Nat) : Il := .cons (ifX g) (.cons (ix 1 0 0 0) .nil .nil (.cons (ix 1 0 0 0) .nil .nil .nil)) (.cons (ix 1 0 0 0) .nil .nil .nil) .nil
def loopX (g : Nat) : Ix := ⟨3, 0, 0, 0, 0, [], none, 0, none, 0, 0, some ⟨g, 0, none⟩, 1, 1⟩
def loopT (g : Nat) (b : Il) : Il := .cons (loopX g) .nil b .nil
theorem block_ok (g : Nat) : (blockX g).ok := by constructor <;> simp [blockX]
theorem if_ok (g : Nat) : (ifX g).ok := by constructor <;> simp [ifX]
theorem loop_ok (g : Nat) : (loopX g).ok := by constructor <;> simp [loopX]
theorem decm1 : decL (-1) = [45, 49] := by
  have h := Lib.itoa_neg 1 (by omega)
  rw [decL, show (-1 : Int) = -((1 : Nat) : Int) by rfl, h]
  simp [Lib.decDigits_one]
theorem block_text (g : Nat) : (blockT g).text = [98, 108, 111, 99, 107, 32, 105, 51, 50, 59, 105, 51, 50, 46, 99, 111, 110, 115, 116, 32, 45, 49, 59, 101, 110, 100, 59] := by
  have n0 : nameL 2 = [98, 108, 111, 99, 107] := by decide
  have n1 : nameL 65 = [105, 51, 50, 46, 99, 111, 110, 115, 116] := by decide
  have u0 : usedP 2 = 33 := by decide
  have u1 : usedP 65 = 8 := by decide
  simp [blockT, blockX, ix, text_cons, oneT, Il.text, n0, n1, u0, u1, fields_33, fields_8, uses33, uses_no, numT, decm1]
theorem bad_check : checkP (.cons (ix 1 0 1 0) .nil .nil .nil) = 2 := by
  have n2 : nameL 1 = [110, 111, 112] := by decide
  have u2 : usedP 1 = 0 := by decide
  have a2 : bits .andNot .u8 2 0 = 2 := by decide
  simp [ix, checkP, Il.all, lawfulP, overP, filledP, bit, n2, u2, a2]
theorem loop_check (g : Nat) (b : Il) : checkP (loopT g b) = 2 := by
  have n2 : nameL 3 = [108, 111, 111, 112] := by decide
  have u2 : usedP 3 = 33 := by decide
  have a2 : bits .andNot .u8 64 33 = 64 := by decide
  simp [loopT, loopX, checkP, Il.all, lawfulP, overP, filledP, bit, n2, u2, a2]
theorem if_count (g : Nat) : (ifT g).count = 4 ∧ (ifT g).deep = 2 := by simp [ifT, ix, Il.count, Il.deep]
theorem name77 : strOfNums (nameL 77) = ⟨#[105, 51, 50, 46, 108, 101, 95, 117]⟩ := by rw [show nameL 77 = [105, 51, 50, 46, 108, 101, 95, 117] by decide]; rfl
theorem name5 : strOfNums (nameL 5) = ⟨#[]⟩ := by rw [show nameL 5 = [] by decide]; rfl

set_option maxRecDepth 100000 in
set_option maxHeartbeats 4000000 in
theorem instrKnown_walk (w : World) (hT : Tabs w) : Calls Tryd.prog 6 #[] w fun e w' => e = .returned (.bool true) ∧ Below w.heap.size w w' := by
  have C1 := Shape_any 103 w hT.ar
  rw [show takesP 103 = 1 by decide, show leavesP 103 = 1 by decide, show knownP 103 = true by decide] at C1
  have D1 := hid C1
  clear C1
  go_enter Tryd.func6, Tryd.ntmps6
  go_wp2_with fail
  refine D1.out.mono ?_
  clear D1
  rintro e w1 ⟨rfl, hb1⟩
  have hT1 := hT.below hb1
  go_wp2_with fail
  have C2 := Shape_any 16 w1 hT1.ar
  rw [show takesP 16 = 0 by decide, show leavesP 16 = 0 by decide, show knownP 16 = false by decide] at C2
  refine C2.mono ?_
  clear C2
  rintro e w2 ⟨rfl, hb2⟩
  have hT2 := hT1.below hb2
  go_wp2_with fail
  have C3 := Align_any 59 w2
  rw [show alignP 59 = 1 by decide, show storedP 59 = true by decide] at C3
  refine C3.mono ?_
  clear C3
  rintro e w3 ⟨rfl, rfl⟩
  have k0 : Ix.ok (ix 65 0 0 (-1)) := ok_ix _ _ _ _ (by omega) (by omega) (by omega) (by omega)
  have k1 : Ix.ok (ix 1 0 0 0) := ok_ix _ _ _ _ (by omega) (by omega) (by omega) (by omega)
  have k2 : Ix.ok (ix 1 0 1 0) := ok_ix _ _ _ _ (by omega) (by omega) (by omega) (by omega)
  have L1 := list_new w2 (ix 65 0 0 (-1)) .nil .nil k0 (.inl rfl) (no_list _ _ _) (no_list _ _ _)
  obtain ⟨A1, hA1⟩ : ∃ A1, w2.alloc (.cells (ix 65 0 0 (-1)).vals 34) = A1 := ⟨_, rfl⟩
  rw [hA1] at L1
  have s1 : A1.heap.size = w2.heap.size + 1 := by rw [← hA1]; simp
  have L2 := list_new A1 (blockX w2.heap.size) _ .nil (block_ok _) (.inl rfl) L1 (no_list _ _ _)
  obtain ⟨A2, hA2⟩ : ∃ A2, A1.alloc (.cells (blockX w2.heap.size).vals 34) = A2 := ⟨_, rfl⟩
  rw [hA2] at L2
  have s2 : A2.heap.size = w2.heap.size + 2 := by rw [← hA2]; simp [s1]
  have L3 := list_two A2 (ix 1 0 0 0) (ix 1 0 0 0) k1 k1 rfl rfl rfl rfl rfl rfl
  obtain ⟨A3, hA3⟩ : ∃ A3, A2.alloc (.cells ((ix 1 0 0 0).vals ++ (ix 1 0 0 0).vals) 34) = A3 := ⟨_, rfl⟩
  rw [hA3] at L3
  have s3 : A3.heap.size = w2.heap.size + 3 := by rw [← hA3]; simp [s2]
  have b3 : Below A2.heap.size A2 A3 := by rw [← hA3]; exact thenA (Below.refl _ _) _
  have L4 := list_new A3 (ix 1 0 0 0) .nil .nil k1 (.inl rfl) (no_list _ _ _) (no_list _ _ _)
  obtain ⟨A4, hA4⟩ : ∃ A4, A3.alloc (.cells (ix 1 0 0 0).vals 34) = A4 := ⟨_, rfl⟩
  rw [hA4] at L4
  have s4 : A4.heap.size = w2.heap.size + 4 := by rw [← hA4]; simp [s3]
  have b4 : Below A3.heap.size A3 A4 := by rw [← hA4]; exact thenA (Below.refl _ _) _
  have L5 := list_new A4 (ifX A2.heap.size) _ _ (if_ok _) (.inl rfl) (L3.on b4) (by have := L4; rw [s3] at this; rw [show (ifX A2.heap.size).ea = some ⟨w2.heap.size + 3, 0, none⟩ by simp [ifX, s2]]; exact this)
  obtain ⟨A5, hA5⟩ : ∃ A5, A4.alloc (.cells (ifX A2.heap.size).vals 34) = A5 := ⟨_, rfl⟩
  rw [hA5] at L5
  have s5 : A5.heap.size = w2.heap.size + 5 := by rw [← hA5]; simp [s4]
  have b5 : Below A4.heap.size A4 A5 := by rw [← hA5]; exact thenA (Below.refl _ _) _
  have LB := ((L2.on b3).on b4).on b5
  have L6 := list_new A5 (ix 1 0 1 0) .nil .nil k2 (.inl rfl) (no_list _ _ _) (no_list _ _ _)
  obtain ⟨A6, hA6⟩ : ∃ A6, A5.alloc (.cells (ix 1 0 1 0).vals 34) = A6 := ⟨_, rfl⟩
  rw [hA6] at L6
  have b6 : Below A5.heap.size A5 A6 := by rw [← hA6]; exact thenA (Below.refl _ _) _
  have bA : Below w2.heap.size w2 A5 := by
    rw [← hA5, ← hA4, ← hA3, ← hA2, ← hA1]; exact thenA (thenA (thenA (thenA (thenA (Below.refl _ _) _) _) _) _) _
  have hT5 := hT2.below bA
  have hT6 := hT5.below b6
  have LB6 := LB.on b6
  have LI6 := L5.on b6
  rw [s1] at LB6
  rw [s4] at LI6
  rw [s5] at L6
  have hW : A6 = ((((((w2.alloc (.cells (ix 65 0 0 (-1)).vals 34)).alloc (.cells (blockX w2.heap.size).vals 34)).alloc (.cells ((ix 1 0 0 0).vals ++ (ix 1 0 0 0).vals) 34)).alloc (.cells (ix 1 0 0 0).vals 34)).alloc (.cells (ifX (w2.heap.size + 2)).vals 34)).alloc (.cells (ix 1 0 1 0).vals 34)) := by
    rw [← hA6, ← hA5, s2, ← hA4, ← hA3, ← hA2, ← hA1]
  have b60 : Below w2.heap.size w2 A6 := thenB bA b6
  clear L1 L2 L3 L4 L5 LB hA1 hA2 hA3 hA4 hA5 hA6 s1 s2 s3 s4 b3 b4 b5
  go_wp2_with fail
  refine (show Calls Tryd.prog _ _ _ _ from hW ▸ (Check_any _ 1 1 _ A6 hT6.nm L6 (by simp [Il.count]) (by omega))).mono ?_
  rintro e w7 ⟨rfl, hb7⟩
  rw [← hW] at hb7
  rw [bad_check]
  clear hW
  have hT7 := hT6.below hb7
  have LB7 := LB6.on hb7
  have LI7 := LI6.on hb7
  have L8 := list_new w7 (loopX (w2.heap.size + 1)) .nil _ (loop_ok _) (.inl rfl) (no_list _ _ _) LB7
  have b8 : Below w7.heap.size w7 (w7.alloc (.cells (loopX (w2.heap.size + 1)).vals 34)) := thenA (Below.refl _ _) _
  have hT8 := hT7.below b8
  have LB8 := LB7.on b8
  have LI8 := LI7.on b8
  have b70 := thenB b60 hb7
  have b80 := thenB b70 b8
  go_wp2_with fail
  refine (Check_any _ 1 1 _ _ hT8.nm L8 (by simp [Il.count]) (by omega)).mono ?_
  rintro e w9 ⟨rfl, hb9⟩
  have hT9 := hT8.below hb9
  have LB9 := LB8.on hb9
  have LI9 := LI8.on hb9
  have b90 := thenB b80 hb9
  rw [show checkP (Il.cons (loopX (w2.heap.size + 1)) .nil _ .nil) = 2 from loop_check _ _]
  clear LB6 LI6 LB7 LI7 L8 L6 LB8 LI8 hb9 b8 b80 hT8
  go_wp2_with fail
  refine (awake_any w9 hT9).mono ?_
  rintro e w10 ⟨rfl, hb10⟩
  have hT10 := hT9.below hb10
  go_wp2_with fail
  refine (Name_any 77 w10 hT10.nm).mono ?_
  rintro e w11 ⟨rfl, rfl⟩
  rw [name77]
  go_wp2_with fail
  refine (Name_any 5 w10 hT10.nm).mono ?_
  rintro e w11 ⟨rfl, rfl⟩
  rw [name5]
  go_wp2_with fail
  refine (Text_any _ 1 1 (blockT w2.heap.size) w10 (LB9.on hb10) (by rw [block_text]; decide) (by omega) hT10.pow hT10.nm).mono ?_
  rintro e w12 ⟨rfl, hb12⟩
  rw [block_text, show strOfNums [98, 108, 111, 99, 107, 32, 105, 51, 50, 59, 105, 51, 50, 46, 99, 111, 110, 115, 116, 32, 45, 49, 59, 101, 110, 100, 59] = ⟨#[98, 108, 111, 99, 107, 32, 105, 51, 50, 59, 105, 51, 50, 46, 99, 111, 110, 115, 116, 32, 45, 49, 59, 101, 110, 100, 59]⟩ from rfl]
  have LI12 := (LI9.on hb10).on hb12
  go_wp2_with fail
  refine (Count_any _ 1 1 (ifT A2.heap.size) w12 LI12 (by rw [(if_count _).1]; omega) (by omega)).mono ?_
  rintro e w13 ⟨rfl, hb13⟩
  rw [(if_count _).1]
  have LI13 := LI12.on hb13
  go_wp2_with fail
  refine (Deep_any _ 1 1 (ifT A2.heap.size) w13 LI13 (by rw [(if_count _).1]; omega) (by omega)).mono ?_
  rintro e w14 ⟨rfl, hb14⟩
  rw [(if_count _).2]
  go_wp2
  go_ret
  exact ⟨rfl, thenB (thenB (thenB (thenB (thenB (thenB (thenB hb1 hb2) b90) hb10) hb12) hb13) hb14) (Below.refl _ _)⟩
end Go.Proofs.YtolbdioijbdlmaaDoor
