import Derived.Test.YtckdnhafookcgaaGreatDoorPr14
import Derived.Test.YtckdnhafookcgaaGreatDoorPr13
import Derived.Test.YtckdnhafookcgaaGreatDoorPr05
import Derived.Test.YtckdnhafookcgaaGreatDoorPr01
import Derived.Test.YtckdnhafookcgaaGreatDoorPr11
import Derived.Test.YtckdnhafookcgaaGreatDoorPr04
import Derived.Deep.RegionHeld3
import Derived.RegionTactic
import Derived.BigRegion
import Derived.BigQuiet
import Derived.Deep.Cut
namespace Go.Proofs.YtckdnhafookcgaaGreatDoor.Instr
end Go.Proofs.YtckdnhafookcgaaGreatDoor.Instr
namespace Go.Proofs.YtckdnhafookcgaaGreatDoor.Mod
end Go.Proofs.YtckdnhafookcgaaGreatDoor.Mod
namespace Go.Proofs.YtckdnhafookcgaaGreatDoor.Mod
open Go.RowKit Go.Proofs.YtckdnhafookcgaaGreatDoor.Instr

theorem cs_cell {w : World} {g : Nat} {cs : Array Value} {t : TypeId} {m : Nat × Nat} (hh : w.heap[g]? = some (.cells cs t m)) {i : Nat} {u : Value} (hu : cs[i]? = some u) : w.cell? ⟨g, i, none⟩ = some u := by
  simp [World.cell?, hh, hu]
/-- What copyInstr tells of x with its sublists l and e. -/
structure CpyX (lo : Nat) (w : World) (x' x : Ix) (l' l e' e : Il) : Prop where
  ok : x'.ok
  tags : TagsO lo w.heap.size w x'.ta x'.tags
  ls : ListO lo w.heap.size w x'.la x'.ln l'
  es : ListO lo w.heap.size w x'.ea x'.en e'
  same : AllSame x' x l' e' l e
/-- copyList, of lists of fewer than m instructions. -/
def CpyC (m : Nat) : Prop := ∀ (t : Il) (a : Option Addr) (n c : Nat) (w : World), t.count < m → t.weight ≤ 1000000000 → ListAt w.heap.size w a n t → n ≤ 140737488351232 →
    Calls Tryz.prog 166 #[.slice a n c] w fun e w' => (∃ a' c' u, e = .returned (.slice a' n c') ∧ ListO w.heap.size w'.heap.size w' a' n u ∧ u.bare = t.bare) ∧ Below w.heap.size w w'
theorem oneU_len (zs : List Int) : ∀ r ∈ oneU zs, r.length = 1 := by
  intro r hr
  unfold oneU at hr
  obtain ⟨z, _, rfl⟩ := List.mem_map.1 hr
  rfl
theorem oneU_one (zs : List Int) : ∀ r ∈ oneU zs, ∀ u ∈ r, u.oneCell' = true := by
  intro r hr u hu
  unfold oneU at hr
  obtain ⟨z, _, rfl⟩ := List.mem_map.1 hr
  rw [List.mem_singleton] at hu
  rw [hu]; rfl
set_option maxRecDepth 100000 in
set_option maxHeartbeats 4000000 in
theorem cpyI (m : Nat) (ih : CpyC m) (x : Ix) (l e : Il) (w : World) (hox : x.ok) (htx : TagsAt w.heap.size w x.ta x.tags) (hl : ListAt w.heap.size w x.la x.ln l) (he : ListAt w.heap.size w x.ea x.en e) (cl : l.count < m) (ce : e.count < m) (wt : x.tags.length ≤ 1000000000) (wl : l.weight ≤ 1000000000) (we : e.weight ≤ 1000000000) :
    Calls Tryz.prog 206 #[.agg x.vals] w fun r w' => (∃ x' l' e', r = .returned (.agg x'.vals) ∧ CpyX w.heap.size w' x' x l' l e' e) ∧ Below w.heap.size w w' := by
  obtain ⟨op, res, xa, xb, xn, tags, ta, tc, la, ln, lc, ea, en, ec⟩ := x
  dsimp only at htx hl he wt
  have HOX := hid hox
  have CT := hid (fun (W : World) (hb : Below w.heap.size w W) => clone_u4 W ta tags.length tc (oneU tags) (by unfold oneU; rw [List.length_map]) ((rows_tags (htx.below hb)).more hb.size) (oneU_len tags) (oneU_one tags) (by unfold oneU; rw [List.length_map]; exact wt))
  have CL := hid (fun (W : World) (hb : Below w.heap.size w W) => ih l la ln lc W cl wl ((hl.below hb).more hb.size) hox.ln)
  have CE := hid (fun (W : World) (hb : Below w.heap.size w W) => ih e ea en ec W ce we ((he.below hb).more hb.size) hox.en)
  have hr := heap_alloc_new w (.cells #[.int .i64 op, .int .i64 res, .int .u32 xa, .int .u32 xb, .int .i32 xn, .slice ta tags.length tc, .slice la ln lc, .slice ea en ec] 105)
  clear hox htx hl he cl ce wt wl we ih
  show Calls _ _ #[.agg #[.int .i64 op, .int .i64 res, .int .u32 xa, .int .u32 xb, .int .i32 xn, .slice ta tags.length tc, .slice la ln lc, .slice ea en ec]] w _
  go_enter Tryz.func206, Tryz.ntmps206
  have hs := heap_alloc_new (w.alloc (.cells #[.int .i64 op, .int .i64 res, .int .u32 xa, .int .u32 xb, .int .i32 xn, .slice ta tags.length tc, .slice la ln lc, .slice ea en ec] 105)) (.cells #[.int .i64 0, .int .i64 0, .int .u32 0, .int .u32 0, .int .i32 0, .slice none 0 0, .slice none 0 0, .slice none 0 0] 105)
  rw [World.size_alloc] at hs
  have hb1 : Below w.heap.size w ((w.alloc (.cells #[.int .i64 op, .int .i64 res, .int .u32 xa, .int .u32 xb, .int .i32 xn, .slice ta tags.length tc, .slice la ln lc, .slice ea en ec] 105)).alloc (.cells #[.int .i64 0, .int .i64 0, .int .u32 0, .int .u32 0, .int .i32 0, .slice none 0 0, .slice none 0 0, .slice none 0 0] 105)) := ((Below.refl w.heap.size w).alloc (Nat.le_refl _) _).alloc (by simp only [World.size_alloc]; omega) _
  have r1 : ((w.alloc (.cells #[.int .i64 op, .int .i64 res, .int .u32 xa, .int .u32 xb, .int .i32 xn, .slice ta tags.length tc, .slice la ln lc, .slice ea en ec] 105)).alloc (.cells #[.int .i64 0, .int .i64 0, .int .u32 0, .int .u32 0, .int .i32 0, .slice none 0 0, .slice none 0 0, .slice none 0 0] 105)).heap[w.heap.size]? = some (.cells #[.int .i64 op, .int .i64 res, .int .u32 xa, .int .u32 xb, .int .i32 xn, .slice ta tags.length tc, .slice la ln lc, .slice ea en ec] 105 (0, 0)) := (((Below.refl _ _).alloc (Nat.le_refl _) (.cells #[.int .i64 0, .int .i64 0, .int .u32 0, .int .u32 0, .int .i32 0, .slice none 0 0, .slice none 0 0, .slice none 0 0] 105)).block w.heap.size (by rw [World.size_alloc]; omega)).trans hr
  obtain ⟨W1, hW1⟩ : ∃ W1, ((w.alloc (.cells #[.int .i64 op, .int .i64 res, .int .u32 xa, .int .u32 xb, .int .i32 xn, .slice ta tags.length tc, .slice la ln lc, .slice ea en ec] 105)).alloc (.cells #[.int .i64 0, .int .i64 0, .int .u32 0, .int .u32 0, .int .i32 0, .slice none 0 0, .slice none 0 0, .slice none 0 0] 105)) = W1 := ⟨_, rfl⟩
  have n1 : W1.heap.size = w.heap.size + 2 := by rw [← hW1, World.size_alloc, World.size_alloc]
  rw [hW1] at hs hb1 r1
  obtain ⟨g, hg⟩ : ∃ g, w.heap.size = g := ⟨_, rfl⟩
  rw [hg] at hs hb1 r1 n1 CT CL CE
  have HW := hid hW1
  have HB := hid hb1
  have HR := hid r1
  have HS := hid hs
  have HN := hid n1
  have HG := hid hg
  clear hr hs hW1 hb1 r1 n1 hg
  go_wp2_with fail
  rw [HW.out]
  refine (CT.out _ HB.out).mono ?_
  rintro r w2 ⟨v, rfl, ho, hb2⟩
  obtain ⟨ta', tc', rfl, hT⟩ := own_tags ho
  rw [HG.out]
  have r2 : w2.heap[g]? = some (.cells #[.int .i64 op, .int .i64 res, .int .u32 xa, .int .u32 xb, .int .i32 xn, .slice ta tags.length tc, .slice la ln lc, .slice ea en ec] 105 (0, 0)) := (hb2.block g (by have := HN.out; omega)).trans HR.out
  have s2 : w2.heap[g + 1]? = some (.cells #[.int .i64 0, .int .i64 0, .int .u32 0, .int .u32 0, .int .i32 0, .slice none 0 0, .slice none 0 0, .slice none 0 0] 105 (0, 0)) := (hb2.block (g + 1) (by have := HN.out; omega)).trans HS.out
  have r3 : (w2.setCell ⟨g, 5, none⟩ (.slice ta' tags.length tc')).heap[g]? = some (.cells #[.int .i64 op, .int .i64 res, .int .u32 xa, .int .u32 xb, .int .i32 xn, .slice ta' tags.length tc', .slice la ln lc, .slice ea en ec] 105 (0, 0)) := heap_setCell_same w2 g 5 _ _ _ r2
  have s3 : (w2.setCell ⟨g, 5, none⟩ (.slice ta' tags.length tc')).heap[g + 1]? = some (.cells #[.int .i64 0, .int .i64 0, .int .u32 0, .int .u32 0, .int .i32 0, .slice none 0 0, .slice none 0 0, .slice none 0 0] 105 (0, 0)) := (Below.heap_setCell w2 ⟨g, 5, none⟩ _ (g + 1) (by simp only; omega)).trans s2
  have c5 := cs_cell r2 (i := 5) rfl
  have c6 := cs_cell r2 (i := 6) rfl
  have z5 := frozen_of_row w2 g 5 _ _ r2
  have hb3 : Below g w (w2.setCell ⟨g, 5, none⟩ (.slice ta' tags.length tc')) := (HB.out.trans (hb2.mono (by have := HN.out; omega))).setCell (p := ⟨g, 5, none⟩) (Nat.le_refl _) _
  have t3 : Same2 W1.heap.size w2.heap.size w2 (w2.setCell ⟨g, 5, none⟩ (.slice ta' tags.length tc')) := Same2.set (.inl (by have := HN.out; omega))
  have hT3 := hT.frame t3
  have e3 : (w2.setCell ⟨g, 5, none⟩ (.slice ta' tags.length tc')).heap.size = w2.heap.size := by simp [World.setCell]
  have q3 : g + 2 ≤ w2.heap.size := by have := HN.out; have := hb2.size; omega
  obtain ⟨w3, hw3⟩ : ∃ w3, w2.setCell ⟨g, 5, none⟩ (.slice ta' tags.length tc') = w3 := ⟨_, rfl⟩
  rw [hw3] at r3 s3 hb3 t3 hT3 e3
  have HW3 := hid hw3
  have HR3 := hid r3
  have HS3 := hid s3
  have HB3 := hid hb3
  have HT3 := hid hT3
  have HE3 := hid e3
  have HQ3 := hid q3
  clear r3 s3 hb3 t3 hT3 e3 q3 hT ho hb2 r2 s2 hw3
  go_wp2_with fail
  rw [HW3.out]
  refine (CL.out _ HB3.out).mono ?_
  rintro r w4 ⟨⟨la', lc', l', rfl, hL, hbare⟩, hb4⟩
  have r4 : w4.heap[g]? = some (.cells #[.int .i64 op, .int .i64 res, .int .u32 xa, .int .u32 xb, .int .i32 xn, .slice ta' tags.length tc', .slice la ln lc, .slice ea en ec] 105 (0, 0)) := (hb4.block g (by have := HQ3.out; have := HE3.out; omega)).trans HR3.out
  have s4 : w4.heap[g + 1]? = some (.cells #[.int .i64 0, .int .i64 0, .int .u32 0, .int .u32 0, .int .i32 0, .slice none 0 0, .slice none 0 0, .slice none 0 0] 105 (0, 0)) := (hb4.block (g + 1) (by have := HQ3.out; have := HE3.out; omega)).trans HS3.out
  have r5 : (w4.setCell ⟨g, 6, none⟩ (.slice la' ln lc')).heap[g]? = some (.cells #[.int .i64 op, .int .i64 res, .int .u32 xa, .int .u32 xb, .int .i32 xn, .slice ta' tags.length tc', .slice la' ln lc', .slice ea en ec] 105 (0, 0)) := heap_setCell_same w4 g 6 _ _ _ r4
  have s5 : (w4.setCell ⟨g, 6, none⟩ (.slice la' ln lc')).heap[g + 1]? = some (.cells #[.int .i64 0, .int .i64 0, .int .u32 0, .int .u32 0, .int .i32 0, .slice none 0 0, .slice none 0 0, .slice none 0 0] 105 (0, 0)) := (Below.heap_setCell w4 ⟨g, 6, none⟩ _ (g + 1) (by simp only; omega)).trans s4
  have c6 := cs_cell r4 (i := 6) rfl
  have c7 := cs_cell r4 (i := 7) rfl
  have z6 := frozen_of_row w4 g 6 _ _ r4
  have hb5 : Below g w (w4.setCell ⟨g, 6, none⟩ (.slice la' ln lc')) := (HB3.out.trans (hb4.mono (by have := HQ3.out; have := HE3.out; omega))).setCell (p := ⟨g, 6, none⟩) (Nat.le_refl _) _
  have q5 : g + 2 ≤ w4.heap.size := by have := HQ3.out; have := HE3.out; have := hb4.size; omega
  have f5 : ∀ lo, g + 2 ≤ lo → Same2 lo w2.heap.size w3 (w4.setCell ⟨g, 6, none⟩ (.slice la' ln lc')) := fun lo h => (Same2.of_below hb4 (by rw [HE3.out]; exact Nat.le_refl _)).trans (Same2.set (.inl (by omega)))
  have hL5 := hL.frame (Same2.set (lo := w3.heap.size) (hi := w4.heap.size) (b := g) (o := 6) (w := w4) (v := .slice la' ln lc') (.inl (by have := HQ3.out; have := HE3.out; omega)))
  have e5 : (w4.setCell ⟨g, 6, none⟩ (.slice la' ln lc')).heap.size = w4.heap.size := by simp [World.setCell]
  have m5 : w2.heap.size ≤ w4.heap.size := by have := HE3.out; have := hb4.size; omega
  obtain ⟨w5, hw5⟩ : ∃ w5, w4.setCell ⟨g, 6, none⟩ (.slice la' ln lc') = w5 := ⟨_, rfl⟩
  rw [hw5] at r5 s5 hb5 f5 hL5 e5
  have HW5 := hid hw5
  have HR5 := hid r5
  have HS5 := hid s5
  have HB5 := hid hb5
  have HE5 := hid e5
  have HQ5 := hid q5
  have HF5 := hid f5
  have HL5 := hid hL5
  have HU5 := hid hbare
  have HM5 := hid m5
  clear r5 s5 hb5 f5 hL5 e5 q5 m5 hL hbare hb4 r4 s4 hw5
  go_wp2_with fail
  rw [HW5.out]
  refine (CE.out _ HB5.out).mono ?_
  rintro r w6 ⟨⟨ea', ec', e', rfl, hL, hbare⟩, hb6⟩
  have r6 : w6.heap[g]? = some (.cells #[.int .i64 op, .int .i64 res, .int .u32 xa, .int .u32 xb, .int .i32 xn, .slice ta' tags.length tc', .slice la' ln lc', .slice ea en ec] 105 (0, 0)) := (hb6.block g (by have := HQ5.out; have := HE5.out; omega)).trans HR5.out
  have s6 : w6.heap[g + 1]? = some (.cells #[.int .i64 0, .int .i64 0, .int .u32 0, .int .u32 0, .int .i32 0, .slice none 0 0, .slice none 0 0, .slice none 0 0] 105 (0, 0)) := (hb6.block (g + 1) (by have := HQ5.out; have := HE5.out; omega)).trans HS5.out
  have r7 : (w6.setCell ⟨g, 7, none⟩ (.slice ea' en ec')).heap[g]? = some (.cells #[.int .i64 op, .int .i64 res, .int .u32 xa, .int .u32 xb, .int .i32 xn, .slice ta' tags.length tc', .slice la' ln lc', .slice ea' en ec'] 105 (0, 0)) := heap_setCell_same w6 g 7 _ _ _ r6
  have s7 : (w6.setCell ⟨g, 7, none⟩ (.slice ea' en ec')).heap[g + 1]? = some (.cells #[.int .i64 0, .int .i64 0, .int .u32 0, .int .u32 0, .int .i32 0, .slice none 0 0, .slice none 0 0, .slice none 0 0] 105 (0, 0)) := (Below.heap_setCell w6 ⟨g, 7, none⟩ _ (g + 1) (by simp only; omega)).trans s6
  have c0 := cs_cell r6 (i := 0) rfl
  have c1 := cs_cell r6 (i := 1) rfl
  have c2 := cs_cell r6 (i := 2) rfl
  have c3 := cs_cell r6 (i := 3) rfl
  have c4 := cs_cell r6 (i := 4) rfl
  have c5 := cs_cell r6 (i := 5) rfl
  have c6 := cs_cell r6 (i := 6) rfl
  have c7 := cs_cell r6 (i := 7) rfl
  have z7 := frozen_of_row w6 g 7 _ _ r6
  have hb7 : Below g w (w6.setCell ⟨g, 7, none⟩ (.slice ea' en ec')) := (HB5.out.trans (hb6.mono (by have := HQ5.out; have := HE5.out; omega))).setCell (p := ⟨g, 7, none⟩) (Nat.le_refl _) _
  have q7 : g + 2 ≤ w6.heap.size := by have := HQ5.out; have := HE5.out; have := hb6.size; omega
  have f7 : ∀ lo, g + 2 ≤ lo → Same2 lo w4.heap.size w5 (w6.setCell ⟨g, 7, none⟩ (.slice ea' en ec')) := fun lo h => (Same2.of_below hb6 (by rw [HE5.out]; exact Nat.le_refl _)).trans (Same2.set (.inl (by omega)))
  have hL7 := hL.frame (Same2.set (lo := w5.heap.size) (hi := w6.heap.size) (b := g) (o := 7) (w := w6) (v := .slice ea' en ec') (.inl (by have := HQ5.out; have := HE5.out; omega)))
  have e7 : (w6.setCell ⟨g, 7, none⟩ (.slice ea' en ec')).heap.size = w6.heap.size := by simp [World.setCell]
  have m7 : w4.heap.size ≤ w6.heap.size := by have := HE5.out; have := hb6.size; omega
  obtain ⟨w7, hw7⟩ : ∃ w7, w6.setCell ⟨g, 7, none⟩ (.slice ea' en ec') = w7 := ⟨_, rfl⟩
  rw [hw7] at r7 s7 hb7 f7 hL7 e7
  have HW7 := hid hw7
  have HR7 := hid r7
  have HS7 := hid s7
  have HB7 := hid hb7
  have HE7 := hid e7
  have HQ7 := hid q7
  have HF7 := hid f7
  have HL7 := hid hL7
  have HU7 := hid hbare
  have HM7 := hid m7
  have y0 := cs_cell s6 (i := 0) rfl
  have v0 := frozen_of_row w6 (g + 1) 0 _ _ s6
  have y1 := cs_cell s6 (i := 1) rfl
  have v1 := frozen_of_row w6 (g + 1) 1 _ _ s6
  have y2 := cs_cell s6 (i := 2) rfl
  have v2 := frozen_of_row w6 (g + 1) 2 _ _ s6
  have y3 := cs_cell s6 (i := 3) rfl
  have v3 := frozen_of_row w6 (g + 1) 3 _ _ s6
  have y4 := cs_cell s6 (i := 4) rfl
  have v4 := frozen_of_row w6 (g + 1) 4 _ _ s6
  have y5 := cs_cell s6 (i := 5) rfl
  have v5 := frozen_of_row w6 (g + 1) 5 _ _ s6
  have y6 := cs_cell s6 (i := 6) rfl
  have v6 := frozen_of_row w6 (g + 1) 6 _ _ s6
  have y7 := cs_cell s6 (i := 7) rfl
  have v7 := frozen_of_row w6 (g + 1) 7 _ _ s6
  have HX6 := hid r6
  clear r7 s7 hb7 f7 hL7 e7 q7 m7 hL hbare hb6 r6 s6 hw7
  go_wp2
  rw [HW7.out]
  clear y0 v0 c0 y1 v1 c1 y2 v2 c2 y3 v3 c3 y4 v4 c4 y5 v5 c5 y6 v6 c6 y7 v7 c7 z7
  have R0 := HS7.out
  have R1 : (w7.setCell ⟨g + 1, 0, none⟩ (.int .i64 op)).heap[g + 1]? = some (.cells #[.int .i64 op, .int .i64 0, .int .u32 0, .int .u32 0, .int .i32 0, .slice none 0 0, .slice none 0 0, .slice none 0 0] 105 (0, 0)) := heap_setCell_same _ (g + 1) 0 _ _ _ R0
  have R2 : ((w7.setCell ⟨g + 1, 0, none⟩ (.int .i64 op)).setCell ⟨g + 1, 1, none⟩ (.int .i64 res)).heap[g + 1]? = some (.cells #[.int .i64 op, .int .i64 res, .int .u32 0, .int .u32 0, .int .i32 0, .slice none 0 0, .slice none 0 0, .slice none 0 0] 105 (0, 0)) := heap_setCell_same _ (g + 1) 1 _ _ _ R1
  have R3 : (((w7.setCell ⟨g + 1, 0, none⟩ (.int .i64 op)).setCell ⟨g + 1, 1, none⟩ (.int .i64 res)).setCell ⟨g + 1, 2, none⟩ (.int .u32 xa)).heap[g + 1]? = some (.cells #[.int .i64 op, .int .i64 res, .int .u32 xa, .int .u32 0, .int .i32 0, .slice none 0 0, .slice none 0 0, .slice none 0 0] 105 (0, 0)) := heap_setCell_same _ (g + 1) 2 _ _ _ R2
  have R4 : ((((w7.setCell ⟨g + 1, 0, none⟩ (.int .i64 op)).setCell ⟨g + 1, 1, none⟩ (.int .i64 res)).setCell ⟨g + 1, 2, none⟩ (.int .u32 xa)).setCell ⟨g + 1, 3, none⟩ (.int .u32 xb)).heap[g + 1]? = some (.cells #[.int .i64 op, .int .i64 res, .int .u32 xa, .int .u32 xb, .int .i32 0, .slice none 0 0, .slice none 0 0, .slice none 0 0] 105 (0, 0)) := heap_setCell_same _ (g + 1) 3 _ _ _ R3
  have R5 : (((((w7.setCell ⟨g + 1, 0, none⟩ (.int .i64 op)).setCell ⟨g + 1, 1, none⟩ (.int .i64 res)).setCell ⟨g + 1, 2, none⟩ (.int .u32 xa)).setCell ⟨g + 1, 3, none⟩ (.int .u32 xb)).setCell ⟨g + 1, 4, none⟩ (.int .i32 xn)).heap[g + 1]? = some (.cells #[.int .i64 op, .int .i64 res, .int .u32 xa, .int .u32 xb, .int .i32 xn, .slice none 0 0, .slice none 0 0, .slice none 0 0] 105 (0, 0)) := heap_setCell_same _ (g + 1) 4 _ _ _ R4
  have R6 : ((((((w7.setCell ⟨g + 1, 0, none⟩ (.int .i64 op)).setCell ⟨g + 1, 1, none⟩ (.int .i64 res)).setCell ⟨g + 1, 2, none⟩ (.int .u32 xa)).setCell ⟨g + 1, 3, none⟩ (.int .u32 xb)).setCell ⟨g + 1, 4, none⟩ (.int .i32 xn)).setCell ⟨g + 1, 5, none⟩ (.slice ta' tags.length tc')).heap[g + 1]? = some (.cells #[.int .i64 op, .int .i64 res, .int .u32 xa, .int .u32 xb, .int .i32 xn, .slice ta' tags.length tc', .slice none 0 0, .slice none 0 0] 105 (0, 0)) := heap_setCell_same _ (g + 1) 5 _ _ _ R5
  have R7 : (((((((w7.setCell ⟨g + 1, 0, none⟩ (.int .i64 op)).setCell ⟨g + 1, 1, none⟩ (.int .i64 res)).setCell ⟨g + 1, 2, none⟩ (.int .u32 xa)).setCell ⟨g + 1, 3, none⟩ (.int .u32 xb)).setCell ⟨g + 1, 4, none⟩ (.int .i32 xn)).setCell ⟨g + 1, 5, none⟩ (.slice ta' tags.length tc')).setCell ⟨g + 1, 6, none⟩ (.slice la' ln lc')).heap[g + 1]? = some (.cells #[.int .i64 op, .int .i64 res, .int .u32 xa, .int .u32 xb, .int .i32 xn, .slice ta' tags.length tc', .slice la' ln lc', .slice none 0 0] 105 (0, 0)) := heap_setCell_same _ (g + 1) 6 _ _ _ R6
  have R8 : ((((((((w7.setCell ⟨g + 1, 0, none⟩ (.int .i64 op)).setCell ⟨g + 1, 1, none⟩ (.int .i64 res)).setCell ⟨g + 1, 2, none⟩ (.int .u32 xa)).setCell ⟨g + 1, 3, none⟩ (.int .u32 xb)).setCell ⟨g + 1, 4, none⟩ (.int .i32 xn)).setCell ⟨g + 1, 5, none⟩ (.slice ta' tags.length tc')).setCell ⟨g + 1, 6, none⟩ (.slice la' ln lc')).setCell ⟨g + 1, 7, none⟩ (.slice ea' en ec')).heap[g + 1]? = some (.cells #[.int .i64 op, .int .i64 res, .int .u32 xa, .int .u32 xb, .int .i32 xn, .slice ta' tags.length tc', .slice la' ln lc', .slice ea' en ec'] 105 (0, 0)) := heap_setCell_same _ (g + 1) 7 _ _ _ R7
  have F8 : ∀ lo hi, g + 2 ≤ lo → Same2 lo hi w7 ((((((((w7.setCell ⟨g + 1, 0, none⟩ (.int .i64 op)).setCell ⟨g + 1, 1, none⟩ (.int .i64 res)).setCell ⟨g + 1, 2, none⟩ (.int .u32 xa)).setCell ⟨g + 1, 3, none⟩ (.int .u32 xb)).setCell ⟨g + 1, 4, none⟩ (.int .i32 xn)).setCell ⟨g + 1, 5, none⟩ (.slice ta' tags.length tc')).setCell ⟨g + 1, 6, none⟩ (.slice la' ln lc')).setCell ⟨g + 1, 7, none⟩ (.slice ea' en ec')) := fun lo hi h =>
    (((((((Same2.set (b := g + 1) (.inl (by omega))).trans (Same2.set (b := g + 1) (.inl (by omega)))).trans (Same2.set (b := g + 1) (.inl (by omega)))).trans (Same2.set (b := g + 1) (.inl (by omega)))).trans (Same2.set (b := g + 1) (.inl (by omega)))).trans (Same2.set (b := g + 1) (.inl (by omega)))).trans (Same2.set (b := g + 1) (.inl (by omega)))).trans (Same2.set (b := g + 1) (.inl (by omega)))
  have B8 : Below g w ((((((((w7.setCell ⟨g + 1, 0, none⟩ (.int .i64 op)).setCell ⟨g + 1, 1, none⟩ (.int .i64 res)).setCell ⟨g + 1, 2, none⟩ (.int .u32 xa)).setCell ⟨g + 1, 3, none⟩ (.int .u32 xb)).setCell ⟨g + 1, 4, none⟩ (.int .i32 xn)).setCell ⟨g + 1, 5, none⟩ (.slice ta' tags.length tc')).setCell ⟨g + 1, 6, none⟩ (.slice la' ln lc')).setCell ⟨g + 1, 7, none⟩ (.slice ea' en ec')) := (((((((HB7.out.setCell (p := ⟨g + 1, 0, none⟩) (by simp only; omega) _).setCell (p := ⟨g + 1, 1, none⟩) (by simp only; omega) _).setCell (p := ⟨g + 1, 2, none⟩) (by simp only; omega) _).setCell (p := ⟨g + 1, 3, none⟩) (by simp only; omega) _).setCell (p := ⟨g + 1, 4, none⟩) (by simp only; omega) _).setCell (p := ⟨g + 1, 5, none⟩) (by simp only; omega) _).setCell (p := ⟨g + 1, 6, none⟩) (by simp only; omega) _).setCell (p := ⟨g + 1, 7, none⟩) (by simp only; omega) _
  have E8 : ((((((((w7.setCell ⟨g + 1, 0, none⟩ (.int .i64 op)).setCell ⟨g + 1, 1, none⟩ (.int .i64 res)).setCell ⟨g + 1, 2, none⟩ (.int .u32 xa)).setCell ⟨g + 1, 3, none⟩ (.int .u32 xb)).setCell ⟨g + 1, 4, none⟩ (.int .i32 xn)).setCell ⟨g + 1, 5, none⟩ (.slice ta' tags.length tc')).setCell ⟨g + 1, 6, none⟩ (.slice la' ln lc')).setCell ⟨g + 1, 7, none⟩ (.slice ea' en ec')).heap.size = w7.heap.size := by simp [World.setCell]
  obtain ⟨w8, hw8⟩ : ∃ w8, ((((((((w7.setCell ⟨g + 1, 0, none⟩ (.int .i64 op)).setCell ⟨g + 1, 1, none⟩ (.int .i64 res)).setCell ⟨g + 1, 2, none⟩ (.int .u32 xa)).setCell ⟨g + 1, 3, none⟩ (.int .u32 xb)).setCell ⟨g + 1, 4, none⟩ (.int .i32 xn)).setCell ⟨g + 1, 5, none⟩ (.slice ta' tags.length tc')).setCell ⟨g + 1, 6, none⟩ (.slice la' ln lc')).setCell ⟨g + 1, 7, none⟩ (.slice ea' en ec')) = w8 := ⟨_, rfl⟩
  rw [hw8] at F8 B8 E8 R8 ⊢
  clear hw8 R0 R1 R2 R3 R4 R5 R6 R7
  have hsz : w2.heap.size ≤ w4.heap.size ∧ w4.heap.size ≤ w6.heap.size ∧ w6.heap.size = w8.heap.size := ⟨HM5.out, HM7.out, by rw [E8, HE7.out]⟩
  have hg1 : g ≤ W1.heap.size ∧ g + 2 ≤ W1.heap.size := by have := HN.out; omega
  have hg3 : g + 2 ≤ w3.heap.size := by have := HQ3.out; have := HE3.out; omega
  have hg5 : g + 2 ≤ w5.heap.size := by have := HQ5.out; have := HE5.out; omega
  have k1 : TagsO g w8.heap.size w8 ta' tags := TagsO.mono hg1.1 (by omega) (((HT3.out.frame (HF5.out _ hg1.2)).frame (fun b h1 h2 => HF7.out _ hg1.2 b h1 (by omega))).frame (F8 _ _ hg1.2))
  have k2 : ListO g w8.heap.size w8 la' ln l' := ListO.mono (by omega) (by omega) ((HL5.out.frame (HF7.out _ hg3)).frame (F8 _ _ hg3))
  have k3 : ListO g w8.heap.size w8 ea' en e' := ListO.mono (by omega) (by omega) (HL7.out.frame (F8 _ _ hg5))
  have hok := HOX.out
  refine bodyPost_ret (v := .agg (Ix.vals ⟨op, res, xa, xb, xn, tags, ta', tc', la', ln, lc', ea', en, ec'⟩)) ?_ rfl ⟨⟨⟨op, res, xa, xb, xn, tags, ta', tc', la', ln, lc', ea', en, ec'⟩, l', e', rfl, ⟨⟨hok.op, hok.res, hok.a, hok.b, hok.n, hok.tags, hok.tn, hok.ln, hok.en⟩, by rw [HG.out]; exact k1, by rw [HG.out]; exact k2, by rw [HG.out]; exact k3, ⟨rfl, rfl, rfl, rfl, rfl, rfl, HU5.out, HU7.out⟩⟩⟩, by rw [HG.out]; exact B8⟩
  exact results_cell_row Tryz.results206 _ w8 (g + 1) _ _ _ _ rfl R8 Tryz.underlying105 rfl (by kernel_rfl)
end Go.Proofs.YtckdnhafookcgaaGreatDoor.Mod

namespace Go.Proofs.YtckdnhafookcgaaGreatDoor.Mod
open Go.RowKit Go.Proofs.YtckdnhafookcgaaGreatDoor.Instr

def Il.rows : Il → List (List Value)
  | .nil => []
  | .cons x _ _ r => x.vals.toList :: Il.rows r
theorem rows_len : ∀ t : Il, (Il.rows t).length = t.len
  | .nil => rfl
  | .cons _ _ _ r => by simp only [Il.rows, List.length_cons, Il.len, rows_len r]
theorem rows_eight : ∀ t : Il, ∀ r ∈ Il.rows t, r.length = 8
  | .nil, r, h => by simp [Il.rows] at h
  | .cons x _ _ s, r, h => by
    simp only [Il.rows, List.mem_cons] at h
    rcases h with rfl | h
    · rfl
    · exact rows_eight s r h
theorem rows_one : ∀ t : Il, ∀ r ∈ Il.rows t, ∀ u ∈ r, u.oneCell' = true
  | .nil, r, h => by simp [Il.rows] at h
  | .cons x _ _ s, r, h => by
    simp only [Il.rows, List.mem_cons] at h
    rcases h with rfl | h
    · intro u hu
      simp only [Ix.vals, List.mem_cons, List.not_mem_nil, or_false] at hu
      rcases hu with rfl | rfl | rfl | rfl | rfl | rfl | rfl | rfl <;> rfl
    · exact rows_one s r h
theorem rows_at {n₀ : Nat} {w : World} : ∀ {t : Il} {b off i : Nat}, Items n₀ w b off t → i < (Il.rows t).length → ∀ j, j < 8 → ∀ v, ((Il.rows t).getD i [])[j]? = some v → w.cell? ⟨b, off + i * 8 + j, none⟩ = some v
  | .nil, _, _, _, _, h => absurd h (Nat.not_lt_zero _)
  | .cons x l e r, b, off, 0, ⟨_, _, ⟨c0, c1, c2, c3, c4, c5, c6, c7⟩, _, _, _, _⟩, _ => by
    intro j hj v hv
    simp only [Il.rows, List.getD_cons_zero] at hv
    rw [Nat.zero_mul, Nat.add_zero]
    match j, hj with
    | 0, _ => cases hv; exact c0
    | 1, _ => cases hv; exact c1
    | 2, _ => cases hv; exact c2
    | 3, _ => cases hv; exact c3
    | 4, _ => cases hv; exact c4
    | 5, _ => cases hv; exact c5
    | 6, _ => cases hv; exact c6
    | 7, _ => cases hv; exact c7
  | .cons x l e r, b, off, i + 1, ⟨_, _, _, _, _, _, hr⟩, h => by
    intro j hj v hv
    simp only [Il.rows, List.getD_cons_succ] at hv
    rw [show off + (i + 1) * 8 + j = off + 8 + i * 8 + j by omega]
    exact rows_at (i := i) hr (by simp only [Il.rows, List.length_cons] at h; omega) j hj v hv
theorem rows_list {n₀ n : Nat} {w : World} {a : Option Addr} {t : Il} (hb : ∀ b off, Items n₀ w b off t → t = .nil ∨ b < n₀) (h : ListAt n₀ w a n t) : Rows n₀ w a 8 (Il.rows t) := by
  rcases h.2 with rfl | ⟨b, off, ha, hi⟩
  · exact .inl rfl
  · rcases hb b off hi with rfl | hlt
    · exact .inl rfl
    · exact .inr ⟨b, off, ha, hlt, fun i hi' j hj v hv => rows_at hi hi' j hj v hv⟩
theorem items_lt {n₀ : Nat} {w : World} {t : Il} (b off : Nat) (h : Items n₀ w b off t) : t = .nil ∨ b < n₀ := by
  cases t with
  | nil => exact .inl rfl
  | cons x l e r => exact .inr h.1
/-- The instructions of a list, each with its two sublists. -/
def Il.items : Il → List (Ix × Il × Il)
  | .nil => []
  | .cons x l e r => (x, l, e) :: Il.items r
theorem items_len : ∀ t : Il, (Il.items t).length = t.len
  | .nil => rfl
  | .cons _ _ _ r => by simp only [Il.items, List.length_cons, Il.len, items_len r]
/-- At a place lies a copy of an instruction with its sublists. -/
def CpyAt (lo hi : Nat) (w : World) (b o : Nat) (y : Ix × Il × Il) : Prop :=
  ∃ x' l' e', x'.ok ∧ (∀ q v, x'.vals[q]? = some v → w.cell? ⟨b, o + q, none⟩ = some v) ∧ TagsO lo hi w x'.ta x'.tags ∧ ListO lo hi w x'.la x'.ln l' ∧ ListO lo hi w x'.ea x'.en e' ∧ AllSame x' y.1 l' e' y.2.1 y.2.2 ∧ y.2.1.len = y.1.ln ∧ y.2.2.len = y.1.en
/-- A list all of whose places are copies is a copy of the list. -/
theorem put_together {lo hi : Nat} {w : World} {b : Nat} (hb : Blk lo hi w b) : ∀ (t : Il) (off : Nat), (∀ i (h : i < (Il.items t).length), CpyAt lo hi w b (off + i * 8) (Il.items t)[i]) → ∃ u : Il, u.bare = t.bare ∧ u.len = t.len ∧ ItemsO lo hi w b off u
  | .nil, _, _ => ⟨.nil, rfl, rfl, trivial⟩
  | .cons x l e r, off, h => by
    obtain ⟨u, h1, h2, h3⟩ := put_together hb r (off + 8) (fun i hi' => by
      have := h (i + 1) (by simp only [Il.items, List.length_cons]; omega)
      simp only [Il.items, List.getElem_cons_succ] at this
      rw [show off + 8 + i * 8 = off + (i + 1) * 8 by omega]
      exact this)
    have h0 := h 0 (by simp only [Il.items, List.length_cons]; omega)
    simp only [Il.items, List.getElem_cons_zero, Nat.zero_mul, Nat.add_zero] at h0
    obtain ⟨x', l', e', g1, g2, g3, g4, g5, g6, g7, g8⟩ := h0
    exact ⟨.cons x' l' e' u, (cons_same g4.1 g5.1 g7 g8).2 ⟨g6, h1⟩, by simp only [Il.len, h2], hb, g1, g2, g3, ⟨g4.1, g4.2⟩, ⟨g5.1, g5.2⟩, h3⟩
end Go.Proofs.YtckdnhafookcgaaGreatDoor.Mod

namespace Go.Proofs.YtckdnhafookcgaaGreatDoor.Mod
open Go.RowKit Go.Proofs.YtckdnhafookcgaaGreatDoor.Instr

/-- What is known of each instruction of a list that lies somewhere. -/
structure ItemIn (n₀ : Nat) (w : World) (t : Il) (y : Ix × Il × Il) : Prop where
  ok : y.1.ok
  tags : TagsAt n₀ w y.1.ta y.1.tags
  l : ListAt n₀ w y.1.la y.1.ln y.2.1
  e : ListAt n₀ w y.1.ea y.1.en y.2.2
  cl : y.2.1.count < t.count
  ce : y.2.2.count < t.count
  wt : y.1.tags.length ≤ t.weight
  wl : y.2.1.weight ≤ t.weight
  we : y.2.2.weight ≤ t.weight
theorem items_in {n₀ : Nat} {w : World} : ∀ {t : Il} {b off : Nat}, Items n₀ w b off t → ∀ y ∈ Il.items t, ItemIn n₀ w t y
  | .nil, _, _, _, y, h => by simp [Il.items] at h
  | .cons x l e r, b, off, ⟨_, hx, _, ht, hl, he, hr⟩, y, h => by
    simp only [Il.items, List.mem_cons] at h
    rcases h with rfl | h
    · exact ⟨hx, ht, ⟨hl.1, hl.2⟩, ⟨he.1, he.2⟩, by simp only [Il.count]; omega, by simp only [Il.count]; omega, by simp only [Il.weight]; omega, by simp only [Il.weight]; omega, by simp only [Il.weight]; omega⟩
    · have g := items_in hr y h
      exact ⟨g.ok, g.tags, g.l, g.e, by have := g.cl; simp only [Il.count]; omega, by have := g.ce; simp only [Il.count]; omega, by have := g.wt; simp only [Il.weight]; omega, by have := g.wl; simp only [Il.weight]; omega, by have := g.we; simp only [Il.weight]; omega⟩
theorem items_in_list {n₀ n : Nat} {w : World} {a : Option Addr} {t : Il} (h : ListAt n₀ w a n t) : ∀ y ∈ Il.items t, ItemIn n₀ w t y := by
  rcases h.2 with rfl | ⟨b, off, _, hi⟩
  · intro y hy; simp [Il.items] at hy
  · exact items_in hi
theorem len_weight : ∀ t : Il, t.len ≤ t.weight
  | .nil => Nat.le_refl _
  | .cons _ _ _ r => by have := len_weight r; simp only [Il.len, Il.weight]; omega
theorem rows_items : ∀ t : Il, Il.rows t = (Il.items t).map fun y => y.1.vals.toList
  | .nil => rfl
  | .cons _ _ _ r => by simp only [Il.rows, Il.items, List.map_cons, rows_items r]
/-- Behind k rounds: the first k places hold copies, the others what was there. -/
structure InvM (t : Il) (lo g k : Nat) (w : World) : Prop where
  soft : ∃ cs e, w.heap[g]? = some (.cells cs e (0, 0))
  done : ∀ j (h : j < (Il.items t).length), j < k → CpyAt lo w.heap.size w g (0 + j * 8) (Il.items t)[j]
  left : ∀ j (h : j < (Il.items t).length), k ≤ j → ∀ q v, (Il.items t)[j].1.vals[q]? = some v → w.cell? ⟨g, j * 8 + q, none⟩ = some v
theorem CpyAt.frame {lo hi hi' b o : Nat} {w w' : World} {y : Ix × Il × Il} (s : Same2 lo hi w w') (hh : hi ≤ hi') (hc : ∀ q, q < 8 → w'.cell? ⟨b, o + q, none⟩ = w.cell? ⟨b, o + q, none⟩) (h : CpyAt lo hi w b o y) : CpyAt lo hi' w' b o y := by
  obtain ⟨x', l', e', g1, g2, g3, g4, g5, g6⟩ := h
  refine ⟨x', l', e', g1, fun q v hv => ?_, (g3.frame s).mono (Nat.le_refl _) hh, (g4.frame s).mono (Nat.le_refl _) hh, (g5.frame s).mono (Nat.le_refl _) hh, g6⟩
  have hq : q < 8 := by
    rcases Nat.lt_or_ge q 8 with h | h
    · exact h
    · rw [Array.getElem?_eq_none (by simpa [Ix.vals] using h)] at hv; cases hv
  rw [hc q hq]; exact g2 q v hv
/-- One round more. -/
theorem InvM.step {t : Il} {lo g k : Nat} {w W w2 : World} (h : InvM t lo g k w) (hg : g < lo) (hlo : lo ≤ w.heap.size) (hW : Below w.heap.size w W) (hWs : w.heap.size ≤ W.heap.size) (hb : Below W.heap.size W w2) (hk : k < (Il.items t).length) {x' : Ix} {l' e' : Il}
    (hc : CpyX W.heap.size w2 x' (Il.items t)[k].1 l' (Il.items t)[k].2.1 e' (Il.items t)[k].2.2) (h1 : (Il.items t)[k].2.1.len = (Il.items t)[k].1.ln) (h2 : (Il.items t)[k].2.2.len = (Il.items t)[k].1.en) :
    InvM t lo g (k + 1) (w2.setCells g (k * 8) x'.vals.toList) := by
  have hbb : Below w.heap.size w w2 := hW.trans (hb.mono hWs)
  have hgl : g < w.heap.size := by omega
  have sz : ∀ (us : List Value) (o : Nat) (v : World), (v.setCells g o us).heap.size = v.heap.size := by
    intro us
    induction us with
    | nil => intro o v; rfl
    | cons u r ih => intro o v; rw [World.setCells, ih]; simp [World.setCell]
  have oth : ∀ (us : List Value) (o : Nat) (v : World) (q : Nat), q ≠ g → (v.setCells g o us).heap[q]? = v.heap[q]? := by
    intro us
    induction us with
    | nil => intro o v q _; rfl
    | cons u r ih => intro o v q hq; rw [World.setCells, ih _ _ _ hq]; exact Below.heap_setCell v ⟨g, o, none⟩ u q hq
  have sof : ∀ (us : List Value) (o : Nat) (v : World), (∃ cs e, v.heap[g]? = some (.cells cs e (0, 0))) → ∃ cs e, (v.setCells g o us).heap[g]? = some (.cells cs e (0, 0)) := by
    intro us
    induction us with
    | nil => intro o v h; exact h
    | cons u r ih =>
      intro o v ⟨cs, e, h⟩
      rw [World.setCells]
      exact ih _ _ ⟨_, _, heap_setCell_same v g o cs e u h⟩
  have c2 : ∀ j, w2.cell? ⟨g, j, none⟩ = w.cell? ⟨g, j, none⟩ := fun j => hbb.cell (p := ⟨g, j, none⟩) hgl
  have hout : ∀ j, (j < k * 8 ∨ k * 8 + 8 ≤ j) → (w2.setCells g (k * 8) x'.vals.toList).cell? ⟨g, j, none⟩ = w.cell? ⟨g, j, none⟩ := fun j hj => (World.cell?_setCells_out g _ _ _ _ (fun _ _ => by simpa [Ix.vals] using hj)).trans (c2 j)
  refine ⟨sof _ _ _ ?_, fun j hj hjk => ?_, fun j hj hjk q v hv => ?_⟩
  · obtain ⟨cs, e, h⟩ := h.soft
    exact ⟨cs, e, (hbb.block g hgl).trans h⟩
  · by_cases e : j = k
    · subst e
      refine ⟨x', l', e', hc.ok, fun q v hv => ?_, ?_, ?_, ?_, hc.same, h1, h2⟩
      · have hq : q < x'.vals.toList.length := by
          rcases Nat.lt_or_ge q x'.vals.toList.length with h | h
          · exact h
          · rw [Array.getElem?_eq_none (by simpa using h)] at hv; cases hv
        rw [Nat.zero_add]
        rw [World.cell?_setCells_in g x'.vals.toList (j * 8) w2 (fun i hi => by
          have hi8 : i < 8 := by simpa [Ix.vals] using hi
          rw [c2]
          have h8 : i < (Il.items t)[j].1.vals.size := by simpa [Ix.vals] using hi8
          rw [h.left j hj (Nat.le_refl _) i _ (Array.getElem?_eq_getElem h8)]; rfl) q hq]
        rw [← Array.getElem?_toList, List.getElem?_eq_getElem hq] at hv
        exact hv
      · exact (hc.tags.frame (fun b b1 b2 => oth _ _ _ _ (by omega))).mono (by omega) (by rw [sz]; exact Nat.le_refl _)
      · exact (hc.ls.frame (fun b b1 b2 => oth _ _ _ _ (by omega))).mono (by omega) (by rw [sz]; exact Nat.le_refl _)
      · exact (hc.es.frame (fun b b1 b2 => oth _ _ _ _ (by omega))).mono (by omega) (by rw [sz]; exact Nat.le_refl _)
    · exact (h.done j hj (by omega)).frame (fun b b1 b2 => (oth _ _ _ _ (by omega)).trans (hbb.block b b2)) (by rw [sz]; exact hbb.size) (fun q hq => hout _ (by omega))
  · have hq : q < 8 := by
      rcases Nat.lt_or_ge q 8 with h | h
      · exact h
      · rw [Array.getElem?_eq_none (by simpa [Ix.vals] using h)] at hv; cases hv
    rw [hout _ (by omega)]
    exact h.left j hj (by omega) q v hv
end Go.Proofs.YtckdnhafookcgaaGreatDoor.Mod

namespace Go.Proofs.YtckdnhafookcgaaGreatDoor.Mod
open Go.RowKit Go.Proofs.YtckdnhafookcgaaGreatDoor.Instr

theorem size_sets (g : Nat) : ∀ (us : List Value) (o : Nat) (v : World), (v.setCells g o us).heap.size = v.heap.size
  | [], _, _ => rfl
  | u :: r, o, v => by rw [World.setCells, size_sets g r]; simp [World.setCell]
theorem below_sets {B g : Nat} {w : World} : ∀ (us : List Value) (o : Nat) {W : World}, Below B w W → B ≤ g → Below B w (W.setCells g o us)
  | [], _, _, h, _ => h
  | u :: r, o, W, h, hg => by
    rw [World.setCells]
    exact below_sets r (o + 1) (h.setCell (p := ⟨g, o, none⟩) hg u) hg
set_option maxRecDepth 100000 in
set_option maxHeartbeats 4000000 in
theorem mapI (m : Nat) (ih : CpyC m) (t : Il) (a : Option Addr) (n c : Nat) (w : World) (hm : t.count ≤ m) (hw : t.weight ≤ 1000000000) (hl : ListAt w.heap.size w a n t) (hn : n ≤ 140737488351232) :
    Calls Tryz.prog 205 #[.slice a n c, .func (.func 206) #[] #[]] w fun e w' => (∃ a' c' u, e = .returned (.slice a' n c') ∧ ListO w.heap.size w'.heap.size w' a' n u ∧ u.bare = t.bare) ∧ Below w.heap.size w w' := by
  have hln : (Il.rows t).length = n := (rows_len t).trans hl.1
  have hin : (Il.items t).length = n := (items_len t).trans hl.1
  have CC := hid (clone_in w a n c (Il.rows t) hln (rows_list items_lt hl) (rows_eight t) (rows_one t) (by rw [rows_len]; have := len_weight t; omega))
  have HI := hid (items_in_list hl)
  have HLN := hid hln
  have HIN := hid hin
  have HM := hid hm
  have HWT := hid hw
  have IH := hid ih
  have HL := hid hl
  clear hln hin hl hm hw ih
  go_enter Tryz.func205, Tryz.ntmps205
  go_wp2_with fail
  refine CC.out.mono ?_
  rintro r w1 ⟨v, rfl, ho, hb1⟩
  have HB1 := hid hb1
  rcases ho.row.2 with ⟨rfl, h0⟩ | ⟨g, cap, cur, rfl, hbg, hg, hnc, hcm, hcs, htake⟩
  · obtain rfl : n = 0 := by rw [← HLN.out]; exact h0
    have ht : t = .nil := by
      have := HL.out.1
      cases t with
      | nil => rfl
      | cons x l e r => simp only [Il.len] at this; omega
    subst ht
    clear ho hb1 h0 CC
    go_wp2
    go_loopw [6, 12] (fun _ vi wr => vi = .int .i64 0 ∧ wr = w1) (fun _ _ _ => 0)
    case atStart => exact ⟨rfl, rfl⟩
    case round =>
      obtain ⟨rfl, rfl⟩ := hrel
      go_wp2
      go_ret
      exact ⟨⟨none, 0, .nil, rfl, ⟨rfl, .inl rfl⟩, rfl⟩, HB1.out⟩
  · rw [HLN.out] at hnc htake ⊢
    have hgl : g < w1.heap.size := by
      rcases Nat.lt_or_ge g w1.heap.size with h | h
      · exact h
      · rw [Array.getElem?_eq_none h] at hg; cases hg
    have HV : Hid (InvM t w1.heap.size g 0 w1) := hid (by
      refine ⟨⟨cur, _, hg⟩, fun j _ h => absurd h (Nat.not_lt_zero _), fun j hj _ q v hv => ?_⟩
      have hq : q < 8 := by
        rcases Nat.lt_or_ge q 8 with h | h
        · exact h
        · rw [Array.getElem?_eq_none (by simpa [Ix.vals] using h)] at hv; cases hv
      have hjr : j < (Il.rows t).length := by rw [rows_len, ← items_len]; exact hj
      have hf := flat_get (Il.rows t) (rows_eight t) j q hjr hq
      have hrow : (Il.rows t).getD j [] = (Il.items t)[j].1.vals.toList := by
        rw [rows_items t]; simp [hj]
      have hv2 : (Il.items t)[j].1.vals.toList[q]? = some v := by rw [Array.getElem?_toList]; exact hv
      rw [hrow, hv2] at hf
      have hjn : j < n := by rw [← HIN.out]; exact hj
      have h5 := congrArg (fun l => l[j * 8 + q]?) htake
      simp only [List.getElem?_take, if_pos (show j * 8 + q < n * 8 by omega)] at h5
      rw [hf] at h5
      have h6 : cur[j * 8 + q]? = some v := by rw [← Array.getElem?_toList]; exact h5
      simp [World.cell?, hg, h6])
    have HG := hid hgl
    have HBG := hid hbg
    clear ho hb1 CC hcs htake hcm hg hgl hbg
    go_wp2
    go_loopw [6, 12] (fun _ vi wr => ∃ k : Nat, vi = .int .i64 k ∧ k ≤ n ∧ Hid (Below w1.heap.size w1 wr ∨ True) ∧ Hid (Below w.heap.size w wr) ∧ Hid (w1.heap.size ≤ wr.heap.size) ∧ Hid (InvM t w1.heap.size g k wr)) (fun _ vi _ => n - (intOf vi).toNat)
    case atStart => exact ⟨0, rfl, Nat.zero_le _, .inr trivial, HB1, Nat.le_refl _, HV⟩
    case round =>
      obtain ⟨k, rfl, hk, _, HB, HZ, HV⟩ := hrel
      by_cases hlt : k < n
      · have hkl : k < (Il.items t).length := by rw [HIN.out]; exact hlt
        have hy := HI.out _ (List.getElem_mem hkl)
        have hleft := HV.out.left k hkl (Nat.le_refl _)
        have HST := hid (fun (W w2 : World) (x' : Ix) (l' e' : Il) (h1 : Below wr.heap.size wr W) (h2 : Below W.heap.size W w2) (hc : CpyX W.heap.size w2 x' (Il.items t)[k].1 l' (Il.items t)[k].2.1 e' (Il.items t)[k].2.2) => HV.out.step HG.out HZ.out h1 h1.size h2 hkl hc hy.l.1 hy.e.1)
        have HCI := hid (fun (W : World) (h1 : Below w.heap.size w W) => cpyI m IH.out (Il.items t)[k].1 (Il.items t)[k].2.1 (Il.items t)[k].2.2 W hy.ok ((hy.tags.below h1).more h1.size) ((hy.l.below h1).more h1.size) ((hy.e.below h1).more h1.size) (by have := hy.cl; have := HM.out; omega) (by have := hy.ce; have := HM.out; omega) (by have := hy.wt; have := HWT.out; omega) (by have := hy.wl; have := HWT.out; omega) (by have := hy.we; have := HWT.out; omega))
        obtain ⟨y, hye⟩ : ∃ y, (Il.items t)[k] = y := ⟨_, rfl⟩
        rw [hye] at hleft HST HCI
        obtain ⟨⟨op, res, xa, xb, xn, tags, ta, tc, la, ln, lc, ea, en, ec⟩, l, e⟩ := y
        dsimp only at hleft HST HCI
        have c0 : wr.cell? ⟨g, k * 8, none⟩ = some (.int .i64 op) := hleft 0 _ rfl
        have c1 : wr.cell? ⟨g, k * 8 + 1, none⟩ = some (.int .i64 res) := hleft 1 _ rfl
        have c2 : wr.cell? ⟨g, k * 8 + 2, none⟩ = some (.int .u32 xa) := hleft 2 _ rfl
        have c3 : wr.cell? ⟨g, k * 8 + 3, none⟩ = some (.int .u32 xb) := hleft 3 _ rfl
        have c4 : wr.cell? ⟨g, k * 8 + 4, none⟩ = some (.int .i32 xn) := hleft 4 _ rfl
        have c5 : wr.cell? ⟨g, k * 8 + 5, none⟩ = some (.slice ta tags.length tc) := hleft 5 _ rfl
        have c6 : wr.cell? ⟨g, k * 8 + 6, none⟩ = some (.slice la ln lc) := hleft 6 _ rfl
        have c7 : wr.cell? ⟨g, k * 8 + 7, none⟩ = some (.slice ea en ec) := hleft 7 _ rfl
        have hki : (k : Int) < (n : Int) := by omega
        have HSO := hid HV.out.soft
        clear hye hleft hy HV
        go_wp2_with fail
        refine (HCI.out _ (HB.out.alloc (HB.out.size) _)).mono ?_
        rintro r w2 ⟨⟨x', l', e', rfl, hc⟩, hb2⟩
        have hA := (Below.refl wr.heap.size wr).alloc (Nat.le_refl _) (.cells #[.int .i64 op, .int .i64 res, .int .u32 xa, .int .u32 xb, .int .i32 xn, .slice ta tags.length tc, .slice la ln lc, .slice ea en ec] 105)
        have HN := hid (HST.out _ w2 x' l' e' hA hb2 hc)
        have hA2 : Below wr.heap.size wr w2 := hA.trans (hb2.mono hA.size)
        have hgr : g < wr.heap.size := Nat.lt_of_lt_of_le HG.out HZ.out
        have HBF := hid (below_sets (g := g) x'.vals.toList (k * 8) (HB.out.trans (hA2.mono HB.out.size)) HBG.out)
        have HZF := hid (show w1.heap.size ≤ (w2.setCells g (k * 8) x'.vals.toList).heap.size by rw [size_sets]; exact Nat.le_trans HZ.out hA2.size)
        have hso2 : ∃ cs e, w2.heap[g]? = some (.cells cs e (0, 0)) := by
          obtain ⟨cs, e, h⟩ := HSO.out
          exact ⟨cs, e, (hA2.block g hgr).trans h⟩
        obtain ⟨cs, te, hcs⟩ := hso2
        have z := fun j => frozen_of_row w2 g j cs te hcs
        have z0 := z (k * 8)
        have z1 := z (k * 8 + 1)
        have z2 := z (k * 8 + 2)
        have z3 := z (k * 8 + 3)
        have z4 := z (k * 8 + 4)
        have z5 := z (k * 8 + 5)
        have z6 := z (k * 8 + 6)
        have z7 := z (k * 8 + 7)
        have c0 := Go.Proofs.YtckdnhafookcgaaGreatDoor.keep hA2 c0
        have c1 := Go.Proofs.YtckdnhafookcgaaGreatDoor.keep hA2 c1
        have c2 := Go.Proofs.YtckdnhafookcgaaGreatDoor.keep hA2 c2
        have c3 := Go.Proofs.YtckdnhafookcgaaGreatDoor.keep hA2 c3
        have c4 := Go.Proofs.YtckdnhafookcgaaGreatDoor.keep hA2 c4
        have c5 := Go.Proofs.YtckdnhafookcgaaGreatDoor.keep hA2 c5
        have c6 := Go.Proofs.YtckdnhafookcgaaGreatDoor.keep hA2 c6
        have c7 := Go.Proofs.YtckdnhafookcgaaGreatDoor.keep hA2 c7
        clear hc hb2 hA hA2 HST HCI HSO z hcs HB HZ
        obtain ⟨op', res', xa', xb', xn', tags', ta', tc', la', ln', lc', ea', en', ec'⟩ := x'
        dsimp only [Ix.vals] at HN HBF HZF ⊢
        go_wp2
        go_roundw
        case rel => exact ⟨k + 1, by go_num, by omega, .inr trivial, HBF, HZF, HN⟩
        case measure => simp [intOf]; omega
      · obtain rfl : k = n := by omega
        have HE := hid (put_together (lo := w.heap.size) (hi := wr.heap.size) (w := wr) (b := g) ⟨HBG.out, by have := HG.out; have := HZ.out; omega, HV.out.soft⟩ t 0 (fun i hi => by
          have := HV.out.done i hi (by rw [← HIN.out]; exact hi)
          exact this.frame (hi' := wr.heap.size) (fun b _ _ => rfl) (Nat.le_refl _) (fun _ _ => rfl) |> fun h => by
            obtain ⟨x', l', e', g1, g2, g3, g4, g5, g6⟩ := h
            have hb := HB1.out.size
            exact ⟨x', l', e', g1, g2, g3.mono hb (Nat.le_refl _), g4.mono hb (Nat.le_refl _), g5.mono hb (Nat.le_refl _), g6⟩))
        have HLT := hid HL.out.1
        clear HV hlt hk
        go_wp2
        go_ret
        obtain ⟨u, h1, h2, h3⟩ := HE.out
        exact ⟨⟨_, _, u, rfl, ⟨h2.trans HLT.out, .inr ⟨g, 0, rfl, h3⟩⟩, h1⟩, HB.out⟩
set_option maxRecDepth 100000 in
set_option maxHeartbeats 4000000 in
theorem cpyC : ∀ m, CpyC m := by
  intro m
  induction m with
  | zero => intro t a n c w hm; omega
  | succ m ih =>
    intro t a n c w hm hw hl hn
    have C := hid (mapI m ih t a n c w (by omega) hw hl hn)
    clear hm hw hl ih
    go_enter Tryz.func166, Tryz.ntmps166
    go_wp2_with fail
    refine C.out.mono ?_
    rintro r w2 ⟨⟨a', c', u, rfl, h1, h2⟩, hb⟩
    have H1 := hid h1
    have H2 := hid h2
    have HB := hid hb
    clear h1 h2 hb C
    go_wp2
    go_ret
    exact ⟨⟨a', c', u, rfl, H1.out, H2.out⟩, HB.out⟩
/-- copyList of any list. -/
theorem copyList_any (t : Il) (a : Option Addr) (n c : Nat) (w : World) (hw : t.weight ≤ 1000000000) (hl : ListAt w.heap.size w a n t) (hn : n ≤ 140737488351232) :
    Calls Tryz.prog 166 #[.slice a n c] w fun e w' => (∃ a' c' u, e = .returned (.slice a' n c') ∧ ListO w.heap.size w'.heap.size w' a' n u ∧ u.bare = t.bare) ∧ Below w.heap.size w w' :=
  cpyC (t.count + 1) t a n c w (Nat.lt_succ_self _) hw hl hn
end Go.Proofs.YtckdnhafookcgaaGreatDoor.Mod

namespace Go.Proofs.YtckdnhafookcgaaGreatDoor.Mod
open Go.RowKit

/-- All that a row's block holds are bytes. -/
def Full (v : Value) (w : World) : Prop := ∀ g, v.ownBlock = some g → ∃ (cs : Array Value) (e : TypeId) (m : Nat × Nat), w.heap[g]? = some (.cells cs e m) ∧ ∀ u ∈ cs.toList, ∃ z, u = Value.int .u8 z
theorem Full.touch {S : Nat → Prop} {v : Value} {w w' : World} (h : Full v w) (ht : Touch S w w') (hk : ∀ g, v.ownBlock = some g → ¬ S g) : Full v w' := fun g hg => by
  obtain ⟨cs, e, m, hh, hc⟩ := h g hg
  exact ⟨cs, e, m, (ht.block g (Array.getElem?_eq_some_iff.1 hh).1 (hk g hg)).trans hh, hc⟩
theorem Full.below {v : Value} {w w' : World} (h : Full v w) (hb : Below w.heap.size w w') : Full v w' := h.touch (S := fun _ => False) (.of_below hb) (fun _ _ h => h)
theorem Full.new {w : World} {g n c : Nat} {cs : Array Value} {e : TypeId} {m : Nat × Nat} (hg : g = w.heap.size) (hc : ∀ u ∈ cs.toList, ∃ z, u = Value.int .u8 z) : Full (.slice (some ⟨g, 0, Option.none⟩) n c) (w.alloc (.cells cs e m)) := fun q hq => by
  simp only [Value.ownBlock, Option.some.injEq] at hq
  subst hq; subst hg
  exact ⟨cs, e, m, heap_alloc_new w _, hc⟩
theorem zeros_full (n : Nat) : ∀ u ∈ (Builtin.zeroCells (Value.int .u8 0).cells n).toList, ∃ z, u = Value.int .u8 z := by
  intro u hu
  simp [Builtin.zeroCells, Value.cells] at hu
  obtain ⟨a, _, h⟩ := hu
  rw [Nat.mod_one] at h
  exact ⟨0, by simpa using h.symm⟩
theorem ints_full (l : List Int) : ∀ u ∈ l.map (Value.int .u8), ∃ z, u = Value.int .u8 z := by
  intro u hu
  obtain ⟨z, _, rfl⟩ := List.mem_map.1 hu
  exact ⟨z, rfl⟩
/-- An append of bytes to such a row gives such a row. -/
theorem append_full (t ty : TypeId) (ht : Tryz.prog.underlying t = some (.slice 5)) {B : Nat} {wr w' : World} {v v' : Value} {xs ys : List Int} (hown : Own B wr v xs) (ad : Addr) (n c : Nat) (hn : ys.length = n)
    (hnews : ∀ (j : Nat) (u : Value), (ys.map (Value.int .u8))[j]? = some u → wr.cell? (ad.add j) = some u) (hl : xs.length + ys.length ≤ 140737488351232)
    (hr : (Builtin.append_ #[t, t] ty #[v, .slice (some ad) n c]).run Tryz.prog wr = .ok v' w') (hF : Full v wr) : Full v' w' := by
  obtain ⟨i0, hi, hz0, hz1, hz2⟩ := info_parts infoByte
  subst hn
  have hnl : (ys.map (Value.int .u8)).length = ys.length * i0.size := by rw [hz1]; simp
  rcases hown.2 with ⟨rfl, h0⟩ | ⟨g, cap, cur, rfl, hbg, hg, hnc, hcm, hcs, htake⟩
  · by_cases hm : ys.length = 0
    · have hy : ys = [] := List.eq_nil_of_length_eq_zero hm
      subst hy
      have : (Builtin.append_ #[t, t] ty #[.slice Option.none 0 0, .slice (some ad) ([] : List Int).length c]).run Tryz.prog wr = .ok (.slice Option.none 0 0) wr := by
        simp [Builtin.append_, run_underlying ht, sizeOf, typeInfo, hi, Builtin.lenOf, Builtin.firstCells, loadCells, loadCellsFrom]
      rw [this] at hr
      simp only [Result.ok.injEq] at hr
      obtain ⟨rfl, rfl⟩ := hr
      exact hF
    · have h2 := run_append_nil (P := Tryz.prog) wr t ty 5 i0 (.int .u8 0) ht hi hz0 ad ys.length c (ys.map (Value.int .u8)) hnl hnews (by omega) (by omega) (by rw [hz2]; omega)
      rw [h2] at hr
      simp only [Result.ok.injEq] at hr
      obtain ⟨rfl, rfl⟩ := hr
      refine Full.new (w := wr.drew) rfl fun u hu => ?_
      rw [Array.toList_append] at hu
      rcases List.mem_append.1 hu with h | h
      · exact ints_full ys u (by simpa using h)
      · exact zeros_full _ u h
  · by_cases hroom : xs.length + ys.length ≤ cap
    · have h2 := run_append_room (P := Tryz.prog) wr t ty 5 i0 ht hi g xs.length cap cur hg ad ys.length c (ys.map (Value.int .u8)) hnl hnews (fun u hu => by obtain ⟨n, _, rfl⟩ := List.mem_map.1 hu; rfl) hroom (by rw [hz1, hcs]; simp; omega)
      rw [h2] at hr
      simp only [Result.ok.injEq] at hr
      obtain ⟨rfl, rfl⟩ := hr
      intro q hq
      simp only [Value.ownBlock, Option.some.injEq] at hq
      subst hq
      refine ⟨_, _, _, setRow_heap wr g cur _ 5 _ hg, fun u hu => ?_⟩
      obtain ⟨cs, e, m, hh, hc⟩ := hF g rfl
      rw [hg] at hh
      simp only [Option.some.injEq, Obj.cells.injEq] at hh
      obtain ⟨rfl, rfl, rfl⟩ := hh
      rw [List.toList_toArray] at hu
      rcases List.mem_append.1 hu with h | h
      · rcases List.mem_append.1 h with h | h
        · exact hc u (List.mem_of_mem_take h)
        · exact ints_full ys u h
      · exact hc u (List.mem_of_mem_drop h)
    · have holds : ∀ (j : Nat) (u : Value), (xs.map (Value.int .u8))[j]? = some u → wr.cell? ((⟨g, 0, Option.none⟩ : Addr).add j) = some u := by
        intro j u hj
        have := World.ownsRow.cells (show wr.ownsRow B 5 1 (.slice (some ⟨g, 0, Option.none⟩) xs.length cap) xs.length (xs.map (Value.int .u8)) from hown) (g := g) rfl j u hj
        exact this
      have h2 := run_append_grow (P := Tryz.prog) wr t ty 5 i0 (.int .u8 0) ht hi hz0 ⟨g, 0, Option.none⟩ xs.length cap (xs.map (Value.int .u8)) (by rw [hz1]; simp) holds ad ys.length c (ys.map (Value.int .u8)) hnl hnews (by omega) (by omega) (growslice_fits (by omega) (by rw [hz2]; omega))
      rw [h2] at hr
      simp only [Result.ok.injEq] at hr
      obtain ⟨rfl, rfl⟩ := hr
      refine Full.new (w := wr.drew) rfl fun u hu => ?_
      simp only [Array.toList_append] at hu
      rcases List.mem_append.1 hu with h | h
      · rcases List.mem_append.1 h with h | h
        · exact ints_full xs u (by simpa using h)
        · exact ints_full ys u (by simpa using h)
      · exact zeros_full _ u h
end Go.Proofs.YtckdnhafookcgaaGreatDoor.Mod

namespace Go.Proofs.YtckdnhafookcgaaGreatDoor.Mod
open Go.RowKit Go.Proofs.YtckdnhafookcgaaGreatDoor.Instr
set_option linter.unusedVariables false

/-- Bytes of a copy, and room behind them. -/
def BytesO (lo hi : Nat) (w : World) (a : Option Addr) (zs : List Int) (c : Nat) : Prop := RoomO lo hi w a zs.length c ∧ BytesAt hi w a zs
theorem RoomO.frame {lo hi n c : Nat} {w w' : World} (s : Same2 lo hi w w') {a : Option Addr} (h : RoomO lo hi w a n c) : RoomO lo hi w' a n c := by
  refine ⟨h.1, h.2.1, ?_⟩
  rcases h.2.2 with h | ⟨b, off, h1, h2, h3⟩
  · exact .inl h
  · exact .inr ⟨b, off, h1, h2.frame s, fun i hi => by obtain ⟨z, hz⟩ := h3 i hi; exact ⟨z, (s.cell h2.1 h2.2.1).trans hz⟩⟩
theorem RoomO.mono {lo hi lo' hi' n c : Nat} {w : World} (g1 : lo' ≤ lo) (g2 : hi ≤ hi') {a : Option Addr} (h : RoomO lo hi w a n c) : RoomO lo' hi' w a n c := by
  refine ⟨h.1, h.2.1, ?_⟩
  rcases h.2.2 with h | ⟨b, off, h1, h2, h3⟩
  · exact .inl h
  · exact .inr ⟨b, off, h1, h2.mono g1 g2, h3⟩
theorem BytesO.frame {lo hi c : Nat} {w w' : World} (s : Same2 lo hi w w') {a : Option Addr} {zs : List Int} (h : BytesO lo hi w a zs c) : BytesO lo hi w' a zs c := by
  refine ⟨h.1.frame s, ?_⟩
  rcases h.2 with h2 | ⟨b, off, ha, hb, hc⟩
  · exact .inl h2
  · rcases h.1.2.2 with ⟨h3, h4⟩ | ⟨b', off', h1, h2, h3⟩
    · rw [ha] at h3; cases h3
    · rw [ha] at h1
      simp only [Option.some.injEq, Addr.mk.injEq, and_true] at h1
      obtain ⟨rfl, rfl⟩ := h1
      exact .inr ⟨b, off, ha, hb, fun i hi => (s.cell h2.1 h2.2.1).trans (hc i hi)⟩
theorem BytesO.mono {lo hi lo' hi' c : Nat} {w : World} (g1 : lo' ≤ lo) (g2 : hi ≤ hi') {a : Option Addr} {zs : List Int} (h : BytesO lo hi w a zs c) : BytesO lo' hi' w a zs c := ⟨h.1.mono g1 g2, h.2.more g2⟩
section
variable {α : Type}
theorem exists_listG {P : Nat → α → Prop} : ∀ n : Nat, (∀ i, i < n → ∃ a, P i a) → ∃ l : List α, l.length = n ∧ ∀ (i : Nat) (h : i < l.length), P i l[i]
  | 0, _ => ⟨[], rfl, fun i h => absurd h (Nat.not_lt_zero _)⟩
  | n + 1, h => by
    obtain ⟨l, hl, hp⟩ := exists_listG n (fun i hi => h i (by omega))
    obtain ⟨a, ha⟩ := h n (by omega)
    refine ⟨l ++ [a], by simp [hl], fun i hi => ?_⟩
    by_cases hn : i < l.length
    · rw [List.getElem_append_left hn]; exact hp i hn
    · have : i = n := by simp at hi; omega
      subst this
      rw [List.getElem_append_right (by omega)]
      simpa [hl] using ha
/-- Kinds of items: their cells, their bare form, what they hold in blocks of a copy. -/
structure Kin (α : Type) where
  V : α → List Value
  sz : Nat
  br : α → α
  own : Nat → Nat → World → α → Prop
  len : ∀ x, (V x).length = sz
  pos : 0 < sz
  frame : ∀ {lo hi : Nat} {w w' : World} {x : α}, Same2 lo hi w w' → own lo hi w x → own lo hi w' x
  mono : ∀ {lo hi lo' hi' : Nat} {w : World} {x : α}, lo' ≤ lo → hi ≤ hi' → own lo hi w x → own lo' hi' w x
/-- Behind k rounds. -/
structure InvG (K : Kin α) (l : List α) (lo g k : Nat) (w : World) : Prop where
  soft : ∃ cs e, w.heap[g]? = some (.cells cs e (0, 0))
  done : ∀ j (h : j < l.length), j < k → ∃ x', (∀ q v, (K.V x')[q]? = some v → w.cell? ⟨g, j * K.sz + q, none⟩ = some v) ∧ K.own lo w.heap.size w x' ∧ K.br x' = K.br l[j]
  left : ∀ j (h : j < l.length), k ≤ j → ∀ q v, (K.V l[j])[q]? = some v → w.cell? ⟨g, j * K.sz + q, none⟩ = some v
theorem sets_size (g : Nat) : ∀ (us : List Value) (o : Nat) (v : World), (v.setCells g o us).heap.size = v.heap.size
  | [], _, _ => rfl
  | u :: r, o, v => by rw [World.setCells, sets_size g r]; simp [World.setCell]
theorem sets_oth (g : Nat) : ∀ (us : List Value) (o : Nat) (v : World) (q : Nat), q ≠ g → (v.setCells g o us).heap[q]? = v.heap[q]?
  | [], _, _, _, _ => rfl
  | u :: r, o, v, q, hq => by rw [World.setCells, sets_oth g r _ _ _ hq]; exact Below.heap_setCell v ⟨g, o, none⟩ u q hq
theorem sets_soft (g : Nat) : ∀ (us : List Value) (o : Nat) (v : World), (∃ cs e, v.heap[g]? = some (.cells cs e (0, 0))) → ∃ cs e, (v.setCells g o us).heap[g]? = some (.cells cs e (0, 0))
  | [], _, _, h => h
  | u :: r, o, v, ⟨cs, e, h⟩ => by
    rw [World.setCells]
    exact sets_soft g r _ _ ⟨_, _, heap_setCell_same v g o cs e u h⟩
theorem InvG.step {K : Kin α} {l : List α} {lo g k : Nat} {w W w2 : World} (h : InvG K l lo g k w) (hg : g < lo) (hlo : lo ≤ w.heap.size) (hW : Below w.heap.size w W) (hWs : w.heap.size ≤ W.heap.size) (hb : Below W.heap.size W w2) (hk : k < l.length) {x' : α}
    (hc : K.own W.heap.size w2.heap.size w2 x') (hbr : K.br x' = K.br l[k]) : InvG K l lo g (k + 1) (w2.setCells g (k * K.sz) (K.V x')) := by
  have hbb : Below w.heap.size w w2 := hW.trans (hb.mono hWs)
  have hgl : g < w.heap.size := by omega
  have c2 : ∀ j, w2.cell? ⟨g, j, none⟩ = w.cell? ⟨g, j, none⟩ := fun j => hbb.cell (p := ⟨g, j, none⟩) hgl
  have hlen := K.len x'
  have hout : ∀ j, (j < k * K.sz ∨ k * K.sz + K.sz ≤ j) → (w2.setCells g (k * K.sz) (K.V x')).cell? ⟨g, j, none⟩ = w.cell? ⟨g, j, none⟩ := fun j hj => (World.cell?_setCells_out g _ _ _ _ (fun _ _ => by rw [hlen]; exact hj)).trans (c2 j)
  have hlt : ∀ (x : α) (q : Nat) (v : Value), (K.V x)[q]? = some v → q < K.sz := fun x q v hv => by
    rcases Nat.lt_or_ge q K.sz with h | h
    · exact h
    · rw [List.getElem?_eq_none (by rw [K.len]; exact h)] at hv; cases hv
  have hne : ∀ j q, j < k → q < K.sz → j * K.sz + q < k * K.sz := fun j q hj hq => by
    have : (j + 1) * K.sz ≤ k * K.sz := Nat.mul_le_mul_right _ hj
    rw [Nat.succ_mul] at this
    omega
  refine ⟨sets_soft g _ _ _ ?_, fun j hj hjk => ?_, fun j hj hjk q v hv => ?_⟩
  · obtain ⟨cs, e, h⟩ := h.soft
    exact ⟨cs, e, (hbb.block g hgl).trans h⟩
  · by_cases e : j = k
    · subst e
      refine ⟨x', fun q v hv => ?_, ?_, hbr⟩
      · have hq : q < (K.V x').length := by rw [hlen]; exact hlt _ _ _ hv
        rw [World.cell?_setCells_in g (K.V x') (j * K.sz) w2 (fun i hi => by
          rw [c2]
          have h8 : i < (K.V l[j]).length := by rw [K.len]; rw [hlen] at hi; exact hi
          rw [h.left j hj (Nat.le_refl _) i _ (List.getElem?_eq_getElem h8)]; rfl) q hq]
        rw [List.getElem?_eq_getElem hq] at hv
        exact hv
      · exact K.mono (by omega) (by rw [sets_size]; exact Nat.le_refl _) (K.frame (fun b b1 b2 => sets_oth g _ _ _ _ (by omega)) hc)
    · obtain ⟨x1, g1, g2, g3⟩ := h.done j hj (by omega)
      refine ⟨x1, fun q v hv => ?_, ?_, g3⟩
      · rw [hout _ (.inl (hne j q (by omega) (hlt _ _ _ hv)))]; exact g1 q v hv
      · exact K.mono (Nat.le_refl _) (by rw [sets_size]; exact hbb.size) (K.frame (fun b b1 b2 => (sets_oth g _ _ _ _ (by omega)).trans (hbb.block b b2)) g2)
  · rw [hout _ (.inr (by
      have : (k + 1) * K.sz ≤ j * K.sz := Nat.mul_le_mul_right _ (by omega)
      rw [Nat.succ_mul] at this
      omega))]
    exact h.left j hj (by omega) q v hv
/-- What mapped tells of a list. -/
def MapP (K : Kin α) (l : List α) (lo : Nat) (w' : World) (v : Value) : Prop :=
  ∃ a c l', v = .slice a l.length c ∧ l'.length = l.length ∧ l'.map K.br = l.map K.br ∧ (l' = [] ∨ ∃ b off, a = some ⟨b, off, none⟩ ∧ Blk lo w'.heap.size w' b) ∧ Rows w'.heap.size w' a K.sz (l'.map K.V) ∧ ∀ x ∈ l', K.own lo w'.heap.size w' x
theorem InvG.end {K : Kin α} {l : List α} {lo g c : Nat} {w : World} (h : InvG K l lo g l.length w) {lo' : Nat} (hl : lo' ≤ lo) (hg : lo' ≤ g) (hgs : g < w.heap.size) : MapP K l lo' w (.slice (some ⟨g, 0, none⟩) l.length c) := by
  obtain ⟨l', h1, h2⟩ := exists_listG (P := fun i x' => ∀ (hi : i < l.length), (∀ q v, (K.V x')[q]? = some v → w.cell? ⟨g, i * K.sz + q, none⟩ = some v) ∧ K.own lo w.heap.size w x' ∧ K.br x' = K.br l[i]) l.length (fun i hi => by
    obtain ⟨x', g1, g2, g3⟩ := h.done i hi hi
    exact ⟨x', fun _ => ⟨g1, g2, g3⟩⟩)
  refine ⟨_, c, l', rfl, h1, ?_, .inr ⟨g, 0, rfl, hg, hgs, h.soft⟩, .inr ⟨g, 0, rfl, hgs, fun i hi j hj v hv => ?_⟩, fun x hx => ?_⟩
  · apply List.ext_getElem (by simp [h1])
    intro i i1 i2
    rw [List.getElem_map, List.getElem_map]
    rw [List.length_map] at i1 i2
    exact (h2 i i1 i2).2.2
  · rw [List.length_map] at hi
    rw [List.getD_eq_getElem?_getD, List.getElem?_map, List.getElem?_eq_getElem hi] at hv
    rw [Nat.zero_add]
    exact (h2 i hi (by omega)).1 j v hv
  · obtain ⟨i, hi, rfl⟩ := List.mem_iff_getElem.1 hx
    exact K.mono hl (Nat.le_refl _) (h2 i hi (by omega)).2.1
/-- What slices.Clone made holds what was there. -/
theorem InvG.start {K : Kin α} {l : List α} {e : TypeId} {base : Nat} {w : World} {g n c : Nat} (h : OwnR e K.sz base w (.slice (some ⟨g, 0, none⟩) n c) (l.map K.V)) (hn : l.length = n) (lo : Nat) : InvG K l lo g 0 w := by
  rcases h.row.2 with ⟨h1, _⟩ | ⟨g', cap, cur, hv, hg, hh, hc, hm, hs, ht⟩
  · simp at h1
  · rw [List.length_map] at hv ht
    simp only [Value.slice.injEq, Option.some.injEq, Addr.mk.injEq, and_true] at hv
    obtain ⟨rfl, _, rfl⟩ := hv
    refine ⟨⟨cur, e, hh⟩, fun j _ h => absurd h (Nat.not_lt_zero _), fun j hj _ q v hv => ?_⟩
    have hq : q < K.sz := by
      rcases Nat.lt_or_ge q K.sz with h | h
      · exact h
      · rw [List.getElem?_eq_none (by rw [K.len]; exact h)] at hv; cases hv
    have hf := flat_get (l.map K.V) h.len j q (by simpa using hj) hq
    have hrow : (l.map K.V).getD j [] = K.V l[j] := by rw [List.getD_eq_getElem?_getD, List.getElem?_map, List.getElem?_eq_getElem hj]; rfl
    rw [hrow, hv] at hf
    have h5 := congrArg (fun l => l[j * K.sz + q]?) ht
    have hjn : j * K.sz + q < l.length * K.sz := by
      have : (j + 1) * K.sz ≤ l.length * K.sz := Nat.mul_le_mul_right _ hj
      rw [Nat.succ_mul] at this
      omega
    simp only [List.getElem?_take, if_pos hjn] at h5
    rw [hf] at h5
    have h6 : cur[j * K.sz + q]? = some v := by rw [← Array.getElem?_toList]; exact h5
    simp [World.cell?, hh, h6]
end
end Go.Proofs.YtckdnhafookcgaaGreatDoor.Mod

namespace Go.Proofs.YtckdnhafookcgaaGreatDoor.Mod
open Go.RowKit Go.Proofs.YtckdnhafookcgaaGreatDoor.Instr
set_option linter.unusedVariables false

/-- An append of bytes that lie somewhere, to a row of one's own all of whose block holds bytes. -/
theorem wpList_bytes_full {ops : Array Oper} {rest : List Oper} {o : Oper} {act : Act} {Q : Exit → Act → World → Prop} (hgd : o.guard = none) (s x : Operand) (t : TypeId) (ut : Tryz.prog.underlying t = some (.slice 5)) (ho : o.op = .call { callee := .builtin .append, args := #[s, x], argTypes := #[t, t] })
    {base : Nat} {wr : World} {v : Value} {ys : List Int} (hs : act.eval s = v) (hown : Own base wr v []) (hF : Full v wr) (hbase : base ≤ wr.heap.size) (a2 : Option Addr) (n c : Nat) (hx : act.eval x = .slice a2 n c) (hn : ys.length = n) (hy : BytesAt wr.heap.size wr a2 ys) (hl : ys.length ≤ 1000000000)
    (h : ∀ v' w', Own base w' v' ys → Full v' w' → Below base wr w' → wpList Tryz.prog ops Q rest (act.put o.dst v') w') : wpList Tryz.prog ops Q (o :: rest) act wr := by
  obtain ⟨i0, hi, hz0, hz1, hz2⟩ := info_parts infoByte
  subst hn
  cases ha : a2 with
  | none =>
    subst ha
    have h0 : ys = [] := by
      rcases hy with h | ⟨b, off, h, _⟩
      · exact h
      · cases h
    subst h0
    exact Body.append_none hgd s x t ho base 5 i0 1 c ut hi v _ _ hs hown hx (h v wr hown hF (Below.refl _ _))
  | some ad =>
    subst ha
    have hnews : ∀ (j : Nat) (u : Value), (ys.map (Value.int .u8))[j]? = some u → wr.cell? (ad.add j) = some u := by
      intro j u hj
      have hjl : j < ys.length := by
        rcases Nat.lt_or_ge j ys.length with h | h
        · exact h
        · rw [List.getElem?_eq_none (by simpa using h)] at hj; cases hj
      rcases hy with h | ⟨b, off, h, _, hc⟩
      · rw [h] at hjl; simp at hjl
      · simp only [Option.some.injEq] at h
        subst h
        have hplain : (⟨b, off, none⟩ : Addr).add j = ⟨b, off + j, none⟩ := by unfold Addr.add; split <;> simp_all
        rw [hplain, hc j hjl, ← hj, getD_lt hjl]; simp [hjl]
    obtain ⟨v', w', hr, h2, h3, _⟩ := run_append_own (P := Tryz.prog) wr base t o.type 5 i0 (.int .u8 0) 1 1 ut hi hz0 hz1 hz2 rfl (by omega) v 0 [] hown ad ys.length c (ys.map (Value.int .u8)) (by simp) hnews (fun u hu => by obtain ⟨n, _, rfl⟩ := List.mem_map.1 hu; rfl) (by unfold maxLen; omega) (by omega) hbase
    refine wpList_plain hgd fun K hK => ?_
    unfold Oper.wp
    simp [execOp, ho, resolve, invoke, builtin, hs, hx, hr, Result.andThen]
    exact hK _ _ (h v' w' (by unfold Own; simpa using h2) (append_full t o.type ut hown ad ys.length c rfl hnews (by simp; omega) hr hF) ((Below.refl base wr).grown h3 hbase (fun k hk => (World.ownsRow.lt hown k hk).1)))
/-- Such a row is bytes of a copy. -/
theorem own_bytesO {base : Nat} {w : World} {v : Value} {zs : List Int} (h : Own base w v zs) (hF : Full v w) : ∃ a c, v = .slice a zs.length c ∧ BytesO base w.heap.size w a zs c := by
  rcases h.2 with ⟨rfl, h0⟩ | ⟨g, cap, cur, rfl, hb, hg, h1, h2, h3, h4⟩
  · have : zs = [] := List.eq_nil_of_length_eq_zero h0
    subst this
    exact ⟨none, 0, rfl, ⟨Nat.le_refl _, by omega, .inl ⟨rfl, rfl⟩⟩, .inl rfl⟩
  · have hgl : g < w.heap.size := (Array.getElem?_eq_some_iff.1 hg).1
    refine ⟨_, cap, rfl, ⟨h1, by simpa [maxLen] using h2, .inr ⟨g, 0, rfl, ⟨hb, hgl, cur, _, hg⟩, fun i hi => ?_⟩⟩, .inr ⟨g, 0, rfl, hgl, fun i hi => ?_⟩⟩
    · obtain ⟨cs, e, m, hh, hc⟩ := hF g rfl
      rw [hg] at hh
      simp only [Option.some.injEq, Obj.cells.injEq] at hh
      obtain ⟨rfl, -, -⟩ := hh
      have hx : cur[i]? = some (cur[i]'(by omega)) := Array.getElem?_eq_getElem (by omega)
      obtain ⟨z, hz⟩ := hc _ (by rw [Array.mem_toList_iff]; exact Array.getElem_mem (h := by omega) (i := i))
      refine ⟨z, ?_⟩
      rw [Nat.zero_add, ← hz]
      simp [World.cell?, hg, hx]
    · have hj : (zs.map (Value.int .u8))[i]? = some (.int .u8 (zs.getD i 0)) := by rw [getD_lt hi]; simp [hi]
      have := World.ownsRow.cells (show w.ownsRow base 5 1 (.slice (some ⟨g, 0, none⟩) zs.length cap) zs.length (zs.map (Value.int .u8)) from h) (g := g) rfl i _ hj
      have hplain : (⟨g, 0, none⟩ : Addr).add i = ⟨g, 0 + i, none⟩ := by unfold Addr.add; split <;> simp_all
      rw [hplain] at this
      exact this
theorem own_made8 (w : World) (g : Nat) (hg : g = w.heap.size) : Own g (w.alloc (.cells #[] 5)) (.slice (some ⟨g, 0, none⟩) 0 0) [] := by
  subst hg
  exact World.ownsRow_made w #[] 0 (Nat.le_refl _) (by unfold maxLen; omega) (by simp)
set_option maxHeartbeats 2000000 in
theorem clone_bytes (w : World) (a : Option Addr) (n c : Nat) (zs : List Int) (hn : zs.length = n) (hr : BytesAt w.heap.size w a zs) (hl : zs.length ≤ 1000000000) :
    Calls Tryz.prog 171 #[.slice a n c] w fun e w' => ∃ a' c', e = .returned (.slice a' n c') ∧ BytesO w.heap.size w'.heap.size w' a' zs c' ∧ Below w.heap.size w w' := by
  have HN := hid hn
  have HR := hid hr
  have HM := hid hl
  clear hn hr hl
  cases a with
  | none =>
    have HY : Hid (zs = []) := hid (HR.out.elim id (fun ⟨b, off, h, _⟩ => by cases h))
    have qn := Lib.run_eql_slice_nil (P := Tryz.prog) w 73 5 none n c 0 0 Tryz.underlying73
    rw [Option.isNone_none] at qn
    go_enter Tryz.func171, Tryz.ntmps171
    go_wp2
    go_ret
    have h0 : n = 0 := by rw [← HN.out, HY.out]; rfl
    subst h0
    exact ⟨none, 0, rfl, by rw [HY.out]; exact ⟨⟨Nat.le_refl _, by omega, .inl ⟨rfl, rfl⟩⟩, .inl rfl⟩, Below.refl _ _⟩
  | some ad =>
    have qn := Lib.run_eql_slice_nil (P := Tryz.prog) w 73 5 (some ad) n c 0 0 Tryz.underlying73
    rw [Option.isNone_some] at qn
    go_enter Tryz.func171, Tryz.ntmps171
    go_wp2_with (at_builtin; refine wpList_bytes_full rfl (.tmp 5) (.tmp 6) 73 Tryz.underlying73 rfl rfl (own_made8 w _ rfl) (Full.new rfl (by simp)) (by simp) _ _ _ rfl HN.out ((HR.out.below ((Below.refl _ _).alloc (Nat.le_refl _) _)).more (by simp)) HM.out ?_; intro v1 u1 ho hF hb)
    go_ret
    obtain ⟨a', c', rfl, hB⟩ := own_bytesO ho hF
    rw [HN.out]
    exact ⟨a', c', rfl, hB, (((Below.refl w.heap.size w).alloc (Nat.le_refl _) _).trans hb)⟩
end Go.Proofs.YtckdnhafookcgaaGreatDoor.Mod

namespace Go.Proofs.YtckdnhafookcgaaGreatDoor.Val
open Go.RowKit Go.Shelf Go.Proofs.YtckdnhafookcgaaGreatDoor.Instr Go.Proofs.YtckdnhafookcgaaGreatDoor.Mod
set_option linter.unusedVariables false

def NB (W : World) (g : Nat) (v : Array Value) : Prop := W.heap[g]? = some (.cells v 32 (0, 0))
theorem NB.lt {W : World} {g : Nat} {v : Array Value} (b : NB W g v) : g < W.heap.size := (Array.getElem?_eq_some_iff.1 b).1
theorem NB.made (W : World) (v : Array Value) : NB (W.alloc (.cells v 32)) W.heap.size v := heap_alloc_new W _
theorem NB.below {W W' : World} {g : Nat} {v : Array Value} (b : NB W g v) (hb : Below W.heap.size W W') : NB W' g v := (hb.block g b.lt).trans b
theorem NB.c {W : World} {g : Nat} {v : Array Value} (b : NB W g v) (j : Nat) : W.cell? ⟨g, j, none⟩ = v[j]? := cell_of_row W g j _ _ _ b
theorem NB.f {W : World} {g : Nat} {v : Array Value} (b : NB W g v) (j : Nat) : W.frozen? ⟨g, j, none⟩ = false := frozen_of_row W g j _ _ b
theorem NB.box {W : World} {g : Nat} {v : Array Value} (b : NB W g v) : BoxAt W g v := fun j x h => (b.c j).trans h
theorem NB.set {W : World} {g : Nat} {v : Array Value} (b : NB W g v) (j : Nat) (x : Value) : NB (W.setCell ⟨g, j, none⟩ x) g (v.set! j x) := heap_setCell_same W g j _ _ _ b
/-- The two boxes: the module's own, and that of what is made of it. -/
def Tw (n₀ : Nat) (w0 : World) (g : Nat) (u v : Array Value) (W : World) : Prop := NB W g v ∧ BoxAt W n₀ u ∧ Below n₀ w0 W ∧ n₀ < g
theorem Tw.below {n₀ g : Nat} {w0 W W' : World} {u v : Array Value} (h : Tw n₀ w0 g u v W) (hs : n₀ ≤ W.heap.size) (hb : Below W.heap.size W W') : Tw n₀ w0 g u v W' :=
  ⟨h.1.below hb, h.2.1.keep hb, h.2.2.1.trans (hb.mono hs), h.2.2.2⟩
theorem NB.fs {W : World} {g : Nat} {v : Array Value} (b : NB W g v) : W.frozen? ⟨g, 0, none⟩ = false ∧ W.frozen? ⟨g, 1, none⟩ = false ∧ W.frozen? ⟨g, 2, none⟩ = false ∧ W.frozen? ⟨g, 3, none⟩ = false ∧ W.frozen? ⟨g, 4, none⟩ = false ∧ W.frozen? ⟨g, 5, none⟩ = false ∧
    W.frozen? ⟨g, 6, none⟩ = false ∧ W.frozen? ⟨g, 7, none⟩ = false ∧ W.frozen? ⟨g, 8, none⟩ = false ∧ W.frozen? ⟨g, 9, none⟩ = false ∧ W.frozen? ⟨g, 10, none⟩ = false := ⟨b.f 0, b.f 1, b.f 2, b.f 3, b.f 4, b.f 5, b.f 6, b.f 7, b.f 8, b.f 9, b.f 10⟩
theorem NB.cs {W : World} {g : Nat} {v0 v1 v2 v3 v4 v5 v6 v7 v8 v9 v10 : Value} (b : NB W g #[v0, v1, v2, v3, v4, v5, v6, v7, v8, v9, v10]) : W.cell? ⟨g, 0, none⟩ = some v0 ∧ W.cell? ⟨g, 1, none⟩ = some v1 ∧ W.cell? ⟨g, 2, none⟩ = some v2 ∧ W.cell? ⟨g, 3, none⟩ = some v3 ∧ W.cell? ⟨g, 4, none⟩ = some v4 ∧ W.cell? ⟨g, 5, none⟩ = some v5 ∧
    W.cell? ⟨g, 6, none⟩ = some v6 ∧ W.cell? ⟨g, 7, none⟩ = some v7 ∧ W.cell? ⟨g, 8, none⟩ = some v8 ∧ W.cell? ⟨g, 9, none⟩ = some v9 ∧ W.cell? ⟨g, 10, none⟩ = some v10 := ⟨b.c 0, b.c 1, b.c 2, b.c 3, b.c 4, b.c 5, b.c 6, b.c 7, b.c 8, b.c 9, b.c 10⟩
end Go.Proofs.YtckdnhafookcgaaGreatDoor.Val
namespace Go.Proofs.YtckdnhafookcgaaGreatDoor
open Go.RowKit
end Go.Proofs.YtckdnhafookcgaaGreatDoor
