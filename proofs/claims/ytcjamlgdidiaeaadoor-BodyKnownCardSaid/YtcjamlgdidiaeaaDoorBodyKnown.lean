/-
  BODY: BodyKnown.
-/
import Derived.Test.YtcjamlgdidiaeaaDoorBodyAwake
import Derived.Test.YtcjamlgdidiaeaaDoorBodyCodeP
import Derived.Test.YtcjamlgdidiaeaaDoorBodyCodeG
namespace Go.Proofs.YtcjamlgdidiaeaaDoor.Body
open Go.RowKit Go.Proofs.YtcjamlgdidiaeaaDoor.Instr

theorem get_lit (zs : List Int) (hz : ∀ z ∈ zs, 0 ≤ z ∧ z < 256) (hl : zs.length ≤ 140737488351232) (n : Nat) (hn : zs.length = n) (cs : Array Value) (hc : cs = (zs.map (Value.int .u8)).toArray) (w : World) (g : Nat) (hg : g = w.heap.size) (hN : Nams w)
    (q e f s : Int) (T : Il) (hq : getQ zs 0 = (q, (s, e, f), T)) :
    Calls Tryd.prog 19 #[.slice (some ⟨g, 0, none⟩) n n, .int .i64 0] (w.alloc (.cells cs 5)) fun en w' => ∃ a l c, en = .returned (.tuple #[.slice a l c, .int .i64 q, .agg #[.int .i64 e, .int .i64 f]]) ∧ Below w.heap.size w w' := by
  have G := Get_any (some ⟨g, 0, none⟩) n n zs 0 _ hn (bytes_made w zs hz hl 5 cs hc g hg) (hN.below (alloc_below w _))
  rw [hq] at G
  refine G.mono ?_
  rintro en w' ⟨a, l, c, t, rfl, hb, _, _⟩
  exact ⟨a, l, c, rfl, (alloc_below w _).trans (hb.mono (by simp))⟩
def ifT (g : Nat) : Il := .cons ⟨4, 1, 0, 0, 0, [], none, 0, some ⟨g, 0, none⟩, 1, 1, some ⟨g + 1, 0, none⟩, 1, 1⟩ (.cons (ix 32 0 0 0) .nil .nil .nil) (.cons (ix 65 0 0 1) .nil .nil .nil) .nil
theorem check_bare (t : Il) : checkP t.bare = checkP t := by unfold checkP; simp only [bare_all, bare_count, bare_deep, bare_tags]
theorem check_if (g : Nat) : checkP (ifT g) = 0 := by
  rw [← check_bare, show (ifT g).bare = (ifT 0).bare from rfl]
  decide +kernel
theorem put_if (g : Nat) : checkP (ifT g) = 0 ∧ putB (ifT g) = [4, 127, 32, 0, 5, 65, 1, 11, 11] ∧ (encL (ifT g)).length ≤ 100 ∧ (ifT g).count ≤ 100 := by
  refine ⟨check_if g, ?_, ?_, ?_⟩
  · unfold putB
    rw [if_pos (check_if g), show encP (ifT g) = encP (ifT 0) from rfl]
    decide +kernel
  · rw [show encL (ifT g) = encL (ifT 0) from rfl]
    decide +kernel
  · rw [show (ifT g).count = 3 from rfl]
    omega
def nopT : Il := .cons (ix 1 0 0 0) .nil .nil .nil
theorem put_nop : checkC 3 nopT = 0 ∧ putC 3 nopT = [1, 3, 127, 1, 11] ∧ (encL nopT).length ≤ 100 ∧ nopT.count ≤ 100 := by refine ⟨rfl, rfl, by decide, by decide⟩
theorem k1 : getQ [5, 11] 0 = (0, ((getQ [5, 11] 0).2.1.1, 160, 0), .nil) := rfl
theorem k2 : getQ [1] 0 = (0, ((getQ [1] 0).2.1.1, 4, 1), .nil) := rfl
theorem k3 : getQ [2, 65, 11, 11] 0 = (0, ((getQ [2, 65, 11, 11] 0).2.1.1, 140, 1), .nil) := rfl
theorem k4 : getQ [63, 1, 11] 0 = (0, ((getQ [63, 1, 11] 0).2.1.1, 140, 1), .nil) := rfl
theorem k5 : getQ [6] 0 = (0, ((getQ [6] 0).2.1.1, 160, 0), .nil) := rfl
theorem k6 : codeQ [2, 1, 127, 2, 127, 1, 11] 0 = (3, 7, (7, 0, 0), nopT) := rfl
/-- A box of two numbers. -/
structure Box (g : Nat) (e f : Int) (w : World) : Prop where
  c0 : w.cell? ⟨g, 0, none⟩ = some (.int .i64 e)
  c1 : w.cell? ⟨g, 1, none⟩ = some (.int .i64 f)
theorem box2 (w : World) (e f : Int) : Box w.heap.size e f (w.alloc (.cells #[.int .i64 e, .int .i64 f] 38)) := by constructor <;> go_simp
theorem Box.below {g : Nat} {e f : Int} {w w' : World} (h : Box g e f w) (hb : Below w.heap.size w w') : Box g e f w' := ⟨keep hb h.c0, keep hb h.c1⟩
theorem Box.alloc {g : Nat} {e f : Int} {w : World} (h : Box g e f w) (o : Obj) : Box g e f (w.alloc o) := h.below (alloc_below w o)

set_option maxRecDepth 100000 in
set_option maxHeartbeats 6400000 in
theorem known_any (w : World) (hN : Nams w) : Calls Tryd.prog 8 #[] w fun e w' => e = .returned (.bool true) ∧ Below w.heap.size w w' := by
  have o1 := ok_ix 32 0 0 0 (by omega) (by omega) (by omega) (by omega)
  have o2 := ok_ix 65 0 0 1 (by omega) (by omega) (by omega) (by omega)
  have o4 := ok_ix 1 0 0 0 (by omega) (by omega) (by omega) (by omega)
  have o3 : Ix.ok ⟨4, 1, 0, 0, 0, [], none, 0, some ⟨w.heap.size, 0, none⟩, 1, 1, some ⟨w.heap.size + 1, 0, none⟩, 1, 1⟩ := by constructor <;> simp
  have L1 := list_new w (ix 32 0 0 0) .nil .nil o1 (.inl rfl) (no_list _ _ _) (no_list _ _ _)
  have L2 := list_new (w.alloc (.cells (ix 32 0 0 0).vals 52)) (ix 65 0 0 1) .nil .nil o2 (.inl rfl) (no_list _ _ _) (no_list _ _ _)
  have L3 := list_new ((w.alloc (.cells (ix 32 0 0 0).vals 52)).alloc (.cells (ix 65 0 0 1).vals 52)) ⟨4, 1, 0, 0, 0, [], none, 0, some ⟨w.heap.size, 0, none⟩, 1, 1, some ⟨w.heap.size + 1, 0, none⟩, 1, 1⟩ _ _ o3 (.inl rfl) (L1.on (alloc_below _ _)) (by simp only [World.size_alloc] at L2 ⊢; exact L2)
  have PI := put_if w.heap.size
  have hA3 : Below w.heap.size w (((w.alloc (.cells (ix 32 0 0 0).vals 52)).alloc (.cells (ix 65 0 0 1).vals 52)).alloc (.cells (Ix.vals ⟨4, 1, 0, 0, 0, [], none, 0, some ⟨w.heap.size, 0, none⟩, 1, 1, some ⟨w.heap.size + 1, 0, none⟩, 1, 1⟩) 52)) := thenA (thenA (thenA (Below.refl _ _) _) _) _
  have P0 := Put_any (ifT w.heap.size) _ 1 1 _ L3 (by omega) (hN.below hA3) (by have := PI.2.2.2; omega) (by have := PI.2.2.1; omega)
  rw [PI.1, PI.2.1] at P0
  simp only [World.size_alloc] at P0
  simp only [Ix.vals, ix, List.length_nil] at P0
  have P1 := hid P0
  have HN := hid hN
  clear L1 L2 L3 P0 PI hA3 o1 o2 o3 hN
  go_enter Tryd.func8, Tryd.ntmps8
  go_wp2_with fail
  refine P1.out.mono ?_
  clear P1
  rintro e w1 ⟨v, rfl, ho, hb1⟩
  obtain ⟨a1, c1, rfl⟩ := ho.sliceN (n := 9) rfl
  have HA1 := hid ((thenA (thenA (thenA (Below.refl w.heap.size w) (.cells #[.int .i64 32, .int .i64 0, .int .u32 0, .int .u32 0, .int .i32 0, .slice none 0 0, .slice none 0 0, .slice none 0 0] 52)) (.cells #[.int .i64 65, .int .i64 0, .int .u32 0, .int .u32 0, .int .i32 1, .slice none 0 0, .slice none 0 0, .slice none 0 0] 52)) (.cells #[.int .i64 4, .int .i64 1, .int .u32 0, .int .u32 0, .int .i32 0, .slice none 0 0, .slice (some ⟨w.heap.size, 0, none⟩) 1 1, .slice (some ⟨w.heap.size + 1, 0, none⟩) 1 1] 52)).trans (hb1.mono (by simp; omega)))
  have HX := hid (ho.bytes (by decide) (by decide))
  clear ho hb1
  go_wp2_with fail
  refine (get_lit [5, 11] (by decide) (by decide) 2 rfl #[.int .u8 5, .int .u8 11] rfl w1 _ (by simp) (HN.out.below (HA1.out)) 0 160 0 _ .nil k1).mono ?_
  rintro en w2 ⟨b2, l2, d2, rfl, hb⟩
  have HA2 := hid (HA1.out.trans (hb.mono HA1.out.size))
  have HX := hid (HX.out.below hb)
  clear hb HA1
  go_wp2_with fail
  refine (get_lit [1] (by decide) (by decide) 1 rfl #[.int .u8 1] rfl (w2.alloc (.cells #[.int .i64 160, .int .i64 0] 38)) _ (by simp) (HN.out.below (HA2.out.trans ((alloc_below _ _).mono HA2.out.size))) 0 4 1 _ .nil k2).mono ?_
  rintro en w3 ⟨b3, l3, d3, rfl, hb⟩
  have HA3 := hid ((thenA HA2.out (.cells #[.int .i64 160, .int .i64 0] 38)).trans (hb.mono (by have := HA2.out.size; simp; omega)))
  have HX := hid ((HX.out.alloc (.cells #[.int .i64 160, .int .i64 0] 38)).below hb)
  have D1 := hid ((box2 w2 160 0).below hb)
  clear hb HA2
  go_wp2_with fail
  refine (get_lit [2, 65, 11, 11] (by decide) (by decide) 4 rfl #[.int .u8 2, .int .u8 65, .int .u8 11, .int .u8 11] rfl (w3.alloc (.cells #[.int .i64 4, .int .i64 1] 38)) _ (by simp) (HN.out.below (HA3.out.trans ((alloc_below _ _).mono HA3.out.size))) 0 140 1 _ .nil k3).mono ?_
  rintro en w4 ⟨b4, l4, d4, rfl, hb⟩
  have HA4 := hid ((thenA HA3.out (.cells #[.int .i64 4, .int .i64 1] 38)).trans (hb.mono (by have := HA3.out.size; simp; omega)))
  have HX := hid ((HX.out.alloc (.cells #[.int .i64 4, .int .i64 1] 38)).below hb)
  have D2 := hid ((box2 w3 4 1).below hb)
  have D1 := hid ((D1.out.alloc (.cells #[.int .i64 4, .int .i64 1] 38)).below hb)
  clear hb HA3
  go_wp2_with fail
  refine (get_lit [63, 1, 11] (by decide) (by decide) 3 rfl #[.int .u8 63, .int .u8 1, .int .u8 11] rfl (w4.alloc (.cells #[.int .i64 140, .int .i64 1] 38)) _ (by simp) (HN.out.below (HA4.out.trans ((alloc_below _ _).mono HA4.out.size))) 0 140 1 _ .nil k4).mono ?_
  rintro en w5 ⟨b5, l5, d5, rfl, hb⟩
  have HA5 := hid ((thenA HA4.out (.cells #[.int .i64 140, .int .i64 1] 38)).trans (hb.mono (by have := HA4.out.size; simp; omega)))
  have HX := hid ((HX.out.alloc (.cells #[.int .i64 140, .int .i64 1] 38)).below hb)
  have D3 := hid ((box2 w4 140 1).below hb)
  have D1 := hid ((D1.out.alloc (.cells #[.int .i64 140, .int .i64 1] 38)).below hb)
  have D2 := hid ((D2.out.alloc (.cells #[.int .i64 140, .int .i64 1] 38)).below hb)
  clear hb HA4
  go_wp2_with fail
  refine (get_lit [6] (by decide) (by decide) 1 rfl #[.int .u8 6] rfl (w5.alloc (.cells #[.int .i64 140, .int .i64 1] 38)) _ (by simp) (HN.out.below (HA5.out.trans ((alloc_below _ _).mono HA5.out.size))) 0 160 0 _ .nil k5).mono ?_
  rintro en w6 ⟨b6, l6, d6, rfl, hb⟩
  have HA6 := hid ((thenA HA5.out (.cells #[.int .i64 140, .int .i64 1] 38)).trans (hb.mono (by have := HA5.out.size; simp; omega)))
  have HX := hid ((HX.out.alloc (.cells #[.int .i64 140, .int .i64 1] 38)).below hb)
  have D4 := hid ((box2 w5 140 1).below hb)
  have D1 := hid ((D1.out.alloc (.cells #[.int .i64 140, .int .i64 1] 38)).below hb)
  have D2 := hid ((D2.out.alloc (.cells #[.int .i64 140, .int .i64 1] 38)).below hb)
  have D3 := hid ((D3.out.alloc (.cells #[.int .i64 140, .int .i64 1] 38)).below hb)
  clear hb HA5
  have PN := put_nop
  have N0 := hid (fun W (hA : Below w.heap.size w W) => PutCode_any 3 nopT (some ⟨W.heap.size, 0, none⟩) 1 1 (W.alloc (.cells (ix 1 0 0 0).vals 52)) (list_new W (ix 1 0 0 0) .nil .nil o4 (.inl rfl) (no_list _ _ _) (no_list _ _ _)) (by omega) (HN.out.below (hA.trans ((alloc_below _ _).mono hA.size))) (by have := PN.2.2.2; omega) (by have := PN.2.2.1; omega))
  rw [PN.1, PN.2.1] at N0
  simp only [Ix.vals, ix, List.length_nil] at N0
  have N1 := hid (N0.out (w6.alloc (.cells #[.int .i64 160, .int .i64 0] 38)) (thenA HA6.out _))
  simp only [World.size_alloc] at N1
  clear PN N0 o4
  have D5 := hid (box2 w6 160 0)
  go_wp2_with fail
  refine N1.out.mono ?_
  clear N1
  rintro e w7 ⟨v7, rfl, ho7, hb7⟩
  obtain ⟨a7, c7, rfl⟩ := ho7.sliceN (n := 5) rfl
  have HY := hid (ho7.bytes (by decide) (by decide))
  have hb67 : Below w6.heap.size w6 w7 := (thenA (thenA (Below.refl w6.heap.size w6) (.cells #[.int .i64 160, .int .i64 0] 38)) (.cells #[.int .i64 1, .int .i64 0, .int .u32 0, .int .u32 0, .int .i32 0, .slice none 0 0, .slice none 0 0, .slice none 0 0] 52)).trans (hb7.mono (by simp; omega))
  have HA7 := hid (HA6.out.trans (hb67.mono HA6.out.size))
  have HX := hid (HX.out.below hb67)
  have D1 := hid (D1.out.below hb67)
  have D2 := hid (D2.out.below hb67)
  have D3 := hid (D3.out.below hb67)
  have D4 := hid (D4.out.below hb67)
  have D5 := hid ((D5.out.alloc (.cells #[.int .i64 1, .int .i64 0, .int .u32 0, .int .u32 0, .int .i32 0, .slice none 0 0, .slice none 0 0, .slice none 0 0] 52)).below hb7)
  have G0 := GetCode_any (some ⟨w7.heap.size, 0, none⟩) 7 7 [2, 1, 127, 2, 127, 1, 11] 0 _ rfl (bytes_made w7 _ (by decide) (by decide) 5 #[.int .u8 2, .int .u8 1, .int .u8 127, .int .u8 2, .int .u8 127, .int .u8 1, .int .u8 11] rfl w7.heap.size rfl) (HN.out.below (HA7.out.trans ((alloc_below _ _).mono HA7.out.size)))
  rw [k6] at G0
  have G1 := hid G0
  clear ho7 hb7 hb67 HA6 G0
  go_wp2_with fail
  refine G1.out.mono ?_
  clear G1
  rintro e w8 ⟨a8, l8, c8, t8, rfl, hb8, hF8, hbare⟩
  have hl8 : l8 = 1 := by rw [← hF8.lst.1, ← bare_len, hbare]; rfl
  subst hl8
  have hb78 : Below w7.heap.size w7 w8 := (alloc_below w7 _).trans (hb8.mono (by simp))
  have HA8 := hid (HA7.out.trans (hb78.mono HA7.out.size))
  have HX := hid (HX.out.below hb78)
  have HY := hid (HY.out.below hb78)
  have D1 := hid (D1.out.below hb78)
  have D2 := hid (D2.out.below hb78)
  have D3 := hid (D3.out.below hb78)
  have D4 := hid (D4.out.below hb78)
  have D5 := hid (D5.out.below hb78)
  clear hb8 hF8 hbare hb78 HA7
  have S1 := hid (SameBytes_yes a1 (some ⟨w8.heap.size + 1 + 1, 0, none⟩) 9 c1 9 9 [4, 127, 32, 0, 5, 65, 1, 11, 11] _ rfl rfl (((HX.out.alloc (.cells #[.int .i64 3, .slice a8 1 c8] 24)).alloc (.cells #[.int .i64 0, .int .i64 0] 38)).alloc (.cells #[.int .u8 4, .int .u8 127, .int .u8 32, .int .u8 0, .int .u8 5, .int .u8 65, .int .u8 1, .int .u8 11, .int .u8 11] 5)) (bytes_made ((w8.alloc (.cells #[.int .i64 3, .slice a8 1 c8] 24)).alloc (.cells #[.int .i64 0, .int .i64 0] 38)) _ (by decide) (by decide) 5 #[.int .u8 4, .int .u8 127, .int .u8 32, .int .u8 0, .int .u8 5, .int .u8 65, .int .u8 1, .int .u8 11, .int .u8 11] rfl (w8.heap.size + 1 + 1) (by simp)))
  obtain ⟨W9, hW9⟩ : ∃ W9, ((w8.alloc (.cells #[.int .i64 3, .slice a8 1 c8] 24)).alloc (.cells #[.int .i64 0, .int .i64 0] 38)).alloc (.cells #[.int .u8 4, .int .u8 127, .int .u8 32, .int .u8 0, .int .u8 5, .int .u8 65, .int .u8 1, .int .u8 11, .int .u8 11] 5) = W9 := ⟨_, rfl⟩
  have hb89 : Below w8.heap.size w8 W9 := by rw [← hW9]; exact thenA (thenA (thenA (Below.refl _ _) _) _) _
  have E1 := hid (show Box (w8.heap.size + 1) 0 0 W9 by rw [← hW9]; have h := (box2 (w8.alloc (.cells #[.int .i64 3, .slice a8 1 c8] 24)) 0 0).alloc (.cells #[.int .u8 4, .int .u8 127, .int .u8 32, .int .u8 0, .int .u8 5, .int .u8 65, .int .u8 1, .int .u8 11, .int .u8 11] 5); rw [World.size_alloc] at h; exact h)
  have E2 := hid (show W9.cell? ⟨w8.heap.size, 0, none⟩ = some (.int .i64 3) ∧ W9.cell? ⟨w8.heap.size, 1, none⟩ = some (.slice a8 1 c8) by rw [← hW9]; have h := (Duo.made w8 (.int .i64 3) (.slice a8 1 c8) 24).below (thenA (thenA (Below.refl _ _) (.cells #[.int .i64 0, .int .i64 0] 38)) (.cells #[.int .u8 4, .int .u8 127, .int .u8 32, .int .u8 0, .int .u8 5, .int .u8 65, .int .u8 1, .int .u8 11, .int .u8 11] 5)); exact ⟨h.c0, h.c1⟩)
  have HW9 := hid hW9
  clear hW9
  have HA9 := hid (HA8.out.trans (hb89.mono HA8.out.size))
  have HY := hid (HY.out.below hb89)
  have D1 := hid (D1.out.below hb89)
  have D2 := hid (D2.out.below hb89)
  have D3 := hid (D3.out.below hb89)
  have D4 := hid (D4.out.below hb89)
  have D5 := hid (D5.out.below hb89)
  clear hb89
  go_wp2_with fail
  refine S1.out.mono ?_
  clear S1 HX
  rw [HW9.out]
  rintro e w9 ⟨rfl, rfl⟩
  have p10 := D1.out.c0
  have p11 := D1.out.c1
  have p20 := D2.out.c0
  have p21 := D2.out.c1
  have p30 := D3.out.c0
  have p31 := D3.out.c1
  have p40 := D4.out.c0
  have p41 := D4.out.c1
  have p50 := D5.out.c0
  have p51 := D5.out.c1
  have S2 := hid (SameBytes_yes a7 (some ⟨W9.heap.size, 0, none⟩) 5 c7 5 5 [1, 3, 127, 1, 11] _ rfl rfl (HY.out.alloc (.cells #[.int .u8 1, .int .u8 3, .int .u8 127, .int .u8 1, .int .u8 11] 5)) (bytes_made W9 _ (by decide) (by decide) 5 #[.int .u8 1, .int .u8 3, .int .u8 127, .int .u8 1, .int .u8 11] rfl W9.heap.size rfl))
  obtain ⟨W10, hW10⟩ : ∃ W10, W9.alloc (.cells #[.int .u8 1, .int .u8 3, .int .u8 127, .int .u8 1, .int .u8 11] 5) = W10 := ⟨_, rfl⟩
  have hb10 : Below W9.heap.size W9 W10 := by rw [← hW10]; exact alloc_below _ _
  have HW10 := hid hW10
  clear hW10
  have HA10 := hid (HA9.out.trans (hb10.mono HA9.out.size))
  have E1 := hid (E1.out.below hb10)
  have E2 := hid (And.intro (keep hb10 E2.out.1) (keep hb10 E2.out.2))
  clear hb10 D1 D2 D3 D4 D5
  go_wp2_with fail
  refine S2.out.mono ?_
  clear S2 HY p10 p11 p20 p21 p30 p31 p40 p41 p50 p51
  rw [HW10.out]
  rintro e w10 ⟨rfl, rfl⟩
  go_wp2_with fail
  refine (awake_any W10 (HN.out.below HA10.out)).mono ?_
  rintro e w11 ⟨rfl, hb11⟩
  have q0 := keep hb11 E1.out.c0
  have q1 := keep hb11 E2.out.1
  have q2 := keep hb11 E2.out.2
  have HA11 := hid (HA10.out.trans (hb11.mono HA10.out.size))
  clear hb11 E1 E2
  go_wp2
  go_ret
  exact ⟨rfl, HA11.out⟩
end Go.Proofs.YtcjamlgdidiaeaaDoor.Body
namespace Go.Proofs.YtcjamlgdidiaeaaDoor
open Go.RowKit
theorem bodyKnown_walk (w : World) (hT : Instr.Nams w) : Calls Tryd.prog 8 #[] w fun e w' => e = .returned (.bool true) ∧ Below w.heap.size w w' := Body.known_any w hT
end Go.Proofs.YtcjamlgdidiaeaaDoor
