import Derived.Test.YtgecmcenhjcecaaGreatDoorVd11
namespace Go.Proofs.YtgecmcenhjcecaaGreatDoor.Instr
end Go.Proofs.YtgecmcenhjcecaaGreatDoor.Instr
namespace Go.Proofs.YtgecmcenhjcecaaGreatDoor.Mod
end Go.Proofs.YtgecmcenhjcecaaGreatDoor.Mod
namespace Go.Proofs.YtgecmcenhjcecaaGreatDoor.Val
open Go.RowKit Go.Shelf Go.Proofs.YtgecmcenhjcecaaGreatDoor.Instr Go.Proofs.YtgecmcenhjcecaaGreatDoor.Mod
set_option linter.unusedVariables false

theorem own_block {e : TypeId} {sz base k n c : Nat} {W : World} {rs : List (List Value)} (h : Stk.OwnR e sz base W (.slice (some ⟨k, 0, none⟩) n c) rs) : ∃ cs, W.heap[k]? = some (.cells cs e (0, 0)) := by
  rcases h.row.2 with ⟨h1, _⟩ | ⟨b, cap, cur, h1, h2, h3, _⟩
  · cases h1
  · simp only [Value.slice.injEq, Option.some.injEq, Addr.mk.injEq] at h1
    obtain ⟨⟨rfl, _⟩, _⟩ := h1
    exact ⟨_, h3⟩
theorem dead_few (g : Nat) (sty sfu : Sl) (a : Option Addr) (c : Nat) (x : Ix) : (deadM g sty sfu a c x).few := by
  have hR := rich_few g
  have hmem : ∀ l ∈ (deadM g sty sfu a c x).codes, l ∈ (richM g).codes ∨ l = ⟨a, c, t5 x⟩ := by
    intro l hl
    simp only [deadM, richM, Md.codes, List.map_cons, List.map_nil, List.append_nil, List.cons_append, List.nil_append, List.mem_cons, List.not_mem_nil, or_false] at hl ⊢
    rcases hl with h | h | h | h
    · exact .inl (.inl h)
    · exact .inr h
    · exact .inl (.inr (.inl h))
    · exact .inl (.inr (.inr h))
  refine ⟨⟨by simp [deadM], hR.fit.im, by simp [deadM], hR.fit.tb, hR.fit.me, hR.fit.gl, hR.fit.ex, hR.fit.el, hR.fit.da, fun l hl => ?_, hR.fit.fs, hR.fit.bs, hR.fit.iS, hR.fit.eS⟩, fun l hl => ?_, by simp [deadM], hR.lens.2.1, by simp [deadM], hR.lens.2.2.2.1, hR.lens.2.2.2.2.1, hR.lens.2.2.2.2.2.1, hR.lens.2.2.2.2.2.2.1, hR.lens.2.2.2.2.2.2.2.1, hR.lens.2.2.2.2.2.2.2.2⟩
  · rcases hmem l hl with h | rfl
    · exact hR.fit.ls l h
    · simp [t5, tail3, Il.len]
  · rcases hmem l hl with h | rfl
    · exact hR.cs l h
    · simp [t5, tail3, Il.count]
theorem Tw.save {n₀ g k : Nat} {w0 W W' : World} {u v : Array Value} (h : Tw n₀ w0 g u v W) (hs : Save k W W') (hg : g ≠ k) (hn : n₀ < k) (hz : n₀ ≤ W.heap.size) : Tw n₀ w0 g u v W' :=
  ⟨(hs.block g h.1.lt hg).trans h.1, box_save h.2.1 hs (by omega), h.2.2.1.trans (hs.below hz (by omega)), h.2.2.2⟩
set_option maxRecDepth 100000 in
set_option maxHeartbeats 1000000 in
theorem dead_plain (w : World) (op res a b n : Int) (ta la ea : Option Addr) (tc lc ec : Nat) (ox : (⟨op, res, a, b, n, [], ta, tc, la, 0, lc, ea, 0, ec⟩ : Ix).ok) (hT : Tb w) :
    Calls Tryz.prog 3 #[.agg #[.int .i64 op, .int .i64 res, .int .u32 a, .int .u32 b, .int .i32 n, .slice ta 0 tc, .slice la 0 lc, .slice ea 0 ec]] w fun e w' => e = .returned (.bool true) ∧ Below w.heap.size w w' := by
  have hb0 := belowAlloc w (.cells #[.int .i64 op, .int .i64 res, .int .u32 a, .int .u32 b, .int .i32 n, .slice ta 0 tc, .slice la 0 lc, .slice ea 0 ec] 26)
  have B0 := hid hb0
  have X0 := hid (BoxAt.made w #[.int .i64 op, .int .i64 res, .int .u32 a, .int .u32 b, .int .i32 n, .slice ta 0 tc, .slice la 0 lc, .slice ea 0 ec] 26)
  have C := hid (awake_m (w.alloc (.cells #[.int .i64 op, .int .i64 res, .int .u32 a, .int .u32 b, .int .i32 n, .slice ta 0 tc, .slice la 0 lc, .slice ea 0 ec] 26)) (hT.on hb0))
  have OX := hid ox
  have HT := hid hT
  clear hb0 hT ox
  go_enter Tryz.func3, Tryz.ntmps3
  go_wp2_with fail
  refine C.out.mono ?_
  rintro e w1 ⟨rfl, hb⟩
  have B1 := hid (thenB B0.out hb)
  have X1 := hid (X0.out.keep hb)
  obtain ⟨d0, d1, d2, d3, d4, d5, d6, d7⟩ := box8 X1.out
  clear C hb X0 B0
  go_wp2_with fail
  refine (rich_o w1).mono ?_
  rintro e w2 ⟨rfl, hm, hb, o2, o4⟩
  have B2 := hid (thenB B1.out hb)
  have X2 := hid (X1.out.keep hb)
  have X1' := hid X1.out
  have M2 := hid hm
  have O2 := hid o2
  have O4 := hid o4
  clear hm hb o2 o4 d0 d1 d2 d3 d4 d5 d6 d7 X1
  obtain ⟨g, hg⟩ : ∃ g, w1.heap.size = g := ⟨_, rfl⟩
  rw [hg] at M2 O2 O4
  rw [hg]
  have HG := hid hg
  clear hg
  unfold richM Md.v
  dsimp only
  go_upto_region 5 with fail
  have hgG : w.heap.size < w2.heap.size := World.block_lt_of_cell? w2 _ (X2.out 0 _ rfl)
  have T2 := hid (show Tw w.heap.size w w2.heap.size #[.int .i64 op, .int .i64 res, .int .u32 a, .int .u32 b, .int .i32 n, .slice ta 0 tc, .slice la 0 lc, .slice ea 0 ec] #[.slice (some ⟨g + 1 + 1, 0, none⟩) 2 2, .slice (some ⟨g + 1 + 1 + 1, 0, none⟩) 1 1, .slice (some ⟨g + 1 + 1 + 1 + 1, 0, none⟩) 1 1, .slice (some ⟨g + 1 + 1 + 1 + 1 + 1, 0, none⟩) 1 1, .slice (some ⟨g + 1 + 1 + 1 + 1 + 1 + 1, 0, none⟩) 1 1, .slice (some ⟨g + 1 + 1 + 1 + 1 + 1 + 1 + 1, 0, none⟩) 2 2, .slice none 0 0, .bool false, .int .u32 0, .slice none 0 0, .slice none 0 0] (w2.alloc (.cells #[.slice (some ⟨g + 1 + 1, 0, none⟩) 2 2, .slice (some ⟨g + 1 + 1 + 1, 0, none⟩) 1 1, .slice (some ⟨g + 1 + 1 + 1 + 1, 0, none⟩) 1 1, .slice (some ⟨g + 1 + 1 + 1 + 1 + 1, 0, none⟩) 1 1, .slice (some ⟨g + 1 + 1 + 1 + 1 + 1 + 1, 0, none⟩) 1 1, .slice (some ⟨g + 1 + 1 + 1 + 1 + 1 + 1 + 1, 0, none⟩) 2 2, .slice none 0 0, .bool false, .int .u32 0, .slice none 0 0, .slice none 0 0] 37)) from
    ⟨NB.made _ _, X2.out.keep (belowAlloc _ _), thenB B2.out (belowAlloc _ _), hgG⟩)
  have hg1 : w.heap.size < g := by rw [← HG.out]; exact World.block_lt_of_cell? w1 _ (X1'.out 0 _ rfl)
  have hg2 : g + 1 + 1 + 1 + 1 + 1 + 1 + 1 < w2.heap.size := World.block_lt_of_cell? w2 _ (M2.out.b7 0 _ rfl)
  have HG1 := hid hg1
  have HG2 := hid hg2
  clear hgG hg1 hg2
  go_cut [] from 9 (fun wx => ∃ a3 c3, Tw w.heap.size w w2.heap.size #[.int .i64 op, .int .i64 res, .int .u32 a, .int .u32 b, .int .i32 n, .slice ta 0 tc, .slice la 0 lc, .slice ea 0 ec] #[.slice a3 3 c3, .slice (some ⟨g + 1 + 1 + 1, 0, none⟩) 1 1, .slice (some ⟨g + 1 + 1 + 1 + 1, 0, none⟩) 1 1, .slice (some ⟨g + 1 + 1 + 1 + 1 + 1, 0, none⟩) 1 1, .slice (some ⟨g + 1 + 1 + 1 + 1 + 1 + 1, 0, none⟩) 1 1, .slice (some ⟨g + 1 + 1 + 1 + 1 + 1 + 1 + 1, 0, none⟩) 2 2, .slice none 0 0, .bool false, .int .u32 0, .slice none 0 0, .slice none 0 0] wx ∧ RichB g wx ∧ Stk.OwnR 40 2 g wx (.slice a3 3 c3) [[.int .i64 1, .int .i64 1], [.int .i64 0, .int .i64 0], [.int .i64 0, .int .i64 0]] ∧ Stk.OwnR 44 3 g wx (.slice (some ⟨g + 1 + 1 + 1 + 1, 0, none⟩) 1 1) [[.int .i64 1, .int .i64 0, .slice none 0 0]])
  case first =>
    have HNW := hid (World.news_of_block (heap_alloc_new (w2.alloc (.cells #[.slice (some ⟨g + 1 + 1, 0, none⟩) 2 2, .slice (some ⟨g + 1 + 1 + 1, 0, none⟩) 1 1, .slice (some ⟨g + 1 + 1 + 1 + 1, 0, none⟩) 1 1, .slice (some ⟨g + 1 + 1 + 1 + 1 + 1, 0, none⟩) 1 1, .slice (some ⟨g + 1 + 1 + 1 + 1 + 1 + 1, 0, none⟩) 1 1, .slice (some ⟨g + 1 + 1 + 1 + 1 + 1 + 1 + 1, 0, none⟩) 2 2, .slice none 0 0, .bool false, .int .u32 0, .slice none 0 0, .slice none 0 0] 37)) (.cells #[.int .i64 0, .int .i64 0] 40)))
    go_wp2_with (first
      | (at_builtin; refine Stk.append_rows infoFt rfl (by omega) (by omega) Tryz.underlying28 rfl (.tmp 29) (.tmp 31) rfl (base := g) (w0 := w2) (xs := [[.int .i64 1, .int .i64 1], [.int .i64 0, .int .i64 0]]) [[.int .i64 0, .int .i64 0]] rfl ((O2.out.alloc _).alloc _) (((Below.refl _ _).alloc (by have := HG2.out; omega) _).alloc (by have := HG2.out; simp; omega) _) (by have := HG2.out; simp; omega) ⟨w2.heap.size + 1, 0, none⟩ 1 1 rfl rfl (by simp) (by simpa using HNW.out) (by simp [Value.oneCell']) (by simp) ?_
         intro v3 u3 ho hb hsz hgrow
         obtain ⟨a3, c3, hv3, -, -⟩ := Stk.OwnR.rows ho
         have hs3 : Save (g + 1 + 1) _ u3 := save_grown hgrow
         have ht3 := ((T2.out.below (by have := T2.out.2.2.1.size; omega) (belowAlloc _ (.cells #[.int .i64 0, .int .i64 0] 40)))).save hs3 (by have := HG2.out; omega) (by have := HG1.out; omega) (by have := T2.out.2.2.1.size; simp at this ⊢; omega)
         have hr3 := (((M2.out.below (belowAlloc _ _)).below (belowAlloc _ _))).save hs3 (by omega) (by omega) (by omega) (by omega) (by omega)
         have ho4 := own_save ((O4.out.alloc _).alloc _) hs3 (fun b hb => by simp only [Value.ownBlock, Option.some.injEq] at hb; omega)
         have HT3 := hid ht3
         have HR3 := hid hr3
         have HO4 := hid ho4
         have HO3 := hid ho
         subst hv3
         have f0 := ht3.1.f 0
         have k0 := ht3.1.cs.1
         clear ho hb hsz hgrow hs3 ht3 hr3 ho4))
    go_meet
    case rel =>
      have hsv : Save w2.heap.size u3 (u3.setCell ⟨w2.heap.size, 0, none⟩ (.slice a3 3 c3)) := Save.setCell (p := ⟨w2.heap.size, 0, none⟩) (Save.refl w2.heap.size u3) (.inl rfl) _
      have hG2 := HG2.out
      exact ⟨a3, c3, HT3.out.set 0 (.slice a3 3 c3), HR3.out.save hsv (by omega) (by omega) (by omega) (by omega) (by omega), own_save HO3.out hsv (own_ne HO3.out HT3.out.1 (by decide)), own_save HO4.out hsv (own_ne HO4.out HT3.out.1 (by decide))⟩
  case rest =>
    obtain ⟨a3, c3, ht, hrb, ho3, ho4⟩ := hcut
    have T5 := hid ht
    have R5 := hid hrb
    have P3 := hid ho3
    have P4 := hid ho4
    have hlt := hid ht.1.lt
    obtain ⟨d0, d1, d2, d3, d4, d5, d6, d7⟩ := box8 ht.2.1
    obtain ⟨c0, c1, c2, c3', c4, c5, c6, c7, c8, c9, c10⟩ := ht.1.cs
    obtain ⟨f0, f1, f2, f3, f4, f5, f6, f7, f8, f9, f10⟩ := ht.1.fs
    clear ht hrb ho3 ho4 T2 O2 O4 M2 X1' B1
    have hl1 := hlt.out
    have hl2 : w.heap.size < wc.heap.size := World.block_lt_of_cell? wc _ d0
    have HNW := hid (World.news_of_block (heap_alloc_new (((wc.alloc (.cells #[.int .i64 26, .int .i64 0, .int .u32 0, .int .u32 0, .int .i32 0, .slice none 0 0, .slice none 0 0, .slice none 0 0] 26)).alloc (.cells #[.int .i64 0, .int .i64 0, .int .u32 0, .int .u32 0, .int .i32 0, .slice none 0 0, .slice none 0 0, .slice none 0 0] 26)).alloc (.cells #[.int .i64 0, .int .i64 0, .int .u32 0, .int .u32 0, .int .i32 0, .slice none 0 0, .slice none 0 0, .slice none 0 0, .int .i64 op, .int .i64 res, .int .u32 a, .int .u32 b, .int .i32 n, .slice ta 0 tc, .slice la 0 lc, .slice ea 0 ec, .int .i64 0, .int .i64 0, .int .u32 0, .int .u32 0, .int .i32 0, .slice none 0 0, .slice none 0 0, .slice none 0 0, .int .i64 26, .int .i64 0, .int .u32 0, .int .u32 0, .int .i32 0, .slice none 0 0, .slice none 0 0, .slice none 0 0, .int .i64 26, .int .i64 0, .int .u32 0, .int .u32 0, .int .i32 0, .slice none 0 0, .slice none 0 0, .slice none 0 0] 26)) (.cells #[.int .i64 2, .int .i64 3, .slice (some ⟨wc.heap.size + 1 + 1, 0, none⟩) 5 5] 44)))
    have hB4 : Below wc.heap.size wc ((((wc.alloc (.cells #[.int .i64 26, .int .i64 0, .int .u32 0, .int .u32 0, .int .i32 0, .slice none 0 0, .slice none 0 0, .slice none 0 0] 26)).alloc (.cells #[.int .i64 0, .int .i64 0, .int .u32 0, .int .u32 0, .int .i32 0, .slice none 0 0, .slice none 0 0, .slice none 0 0] 26)).alloc (.cells #[.int .i64 0, .int .i64 0, .int .u32 0, .int .u32 0, .int .i32 0, .slice none 0 0, .slice none 0 0, .slice none 0 0, .int .i64 op, .int .i64 res, .int .u32 a, .int .u32 b, .int .i32 n, .slice ta 0 tc, .slice la 0 lc, .slice ea 0 ec, .int .i64 0, .int .i64 0, .int .u32 0, .int .u32 0, .int .i32 0, .slice none 0 0, .slice none 0 0, .slice none 0 0, .int .i64 26, .int .i64 0, .int .u32 0, .int .u32 0, .int .i32 0, .slice none 0 0, .slice none 0 0, .slice none 0 0, .int .i64 26, .int .i64 0, .int .u32 0, .int .u32 0, .int .i32 0, .slice none 0 0, .slice none 0 0, .slice none 0 0] 26)).alloc (.cells #[.int .i64 2, .int .i64 3, .slice (some ⟨wc.heap.size + 1 + 1, 0, none⟩) 5 5] 44)) := (((Below.refl _ _).alloc (Nat.le_refl _) _).alloc (by simp) _).alloc (by simp; omega) _ |>.alloc (by simp; omega) _
    have hLB : BoxAt ((((wc.alloc (.cells #[.int .i64 26, .int .i64 0, .int .u32 0, .int .u32 0, .int .i32 0, .slice none 0 0, .slice none 0 0, .slice none 0 0] 26)).alloc (.cells #[.int .i64 0, .int .i64 0, .int .u32 0, .int .u32 0, .int .i32 0, .slice none 0 0, .slice none 0 0, .slice none 0 0] 26)).alloc (.cells #[.int .i64 0, .int .i64 0, .int .u32 0, .int .u32 0, .int .i32 0, .slice none 0 0, .slice none 0 0, .slice none 0 0, .int .i64 op, .int .i64 res, .int .u32 a, .int .u32 b, .int .i32 n, .slice ta 0 tc, .slice la 0 lc, .slice ea 0 ec, .int .i64 0, .int .i64 0, .int .u32 0, .int .u32 0, .int .i32 0, .slice none 0 0, .slice none 0 0, .slice none 0 0, .int .i64 26, .int .i64 0, .int .u32 0, .int .u32 0, .int .i32 0, .slice none 0 0, .slice none 0 0, .slice none 0 0, .int .i64 26, .int .i64 0, .int .u32 0, .int .u32 0, .int .i32 0, .slice none 0 0, .slice none 0 0, .slice none 0 0] 26)).alloc (.cells #[.int .i64 2, .int .i64 3, .slice (some ⟨wc.heap.size + 1 + 1, 0, none⟩) 5 5] 44)) (wc.heap.size + 1 + 1) #[.int .i64 0, .int .i64 0, .int .u32 0, .int .u32 0, .int .i32 0, .slice none 0 0, .slice none 0 0, .slice none 0 0, .int .i64 op, .int .i64 res, .int .u32 a, .int .u32 b, .int .i32 n, .slice ta 0 tc, .slice la 0 lc, .slice ea 0 ec, .int .i64 0, .int .i64 0, .int .u32 0, .int .u32 0, .int .i32 0, .slice none 0 0, .slice none 0 0, .slice none 0 0, .int .i64 26, .int .i64 0, .int .u32 0, .int .u32 0, .int .i32 0, .slice none 0 0, .slice none 0 0, .slice none 0 0, .int .i64 26, .int .i64 0, .int .u32 0, .int .u32 0, .int .i32 0, .slice none 0 0, .slice none 0 0, .slice none 0 0] := by
      have h := BoxAt.made ((wc.alloc (.cells #[.int .i64 26, .int .i64 0, .int .u32 0, .int .u32 0, .int .i32 0, .slice none 0 0, .slice none 0 0, .slice none 0 0] 26)).alloc (.cells #[.int .i64 0, .int .i64 0, .int .u32 0, .int .u32 0, .int .i32 0, .slice none 0 0, .slice none 0 0, .slice none 0 0] 26)) #[.int .i64 0, .int .i64 0, .int .u32 0, .int .u32 0, .int .i32 0, .slice none 0 0, .slice none 0 0, .slice none 0 0, .int .i64 op, .int .i64 res, .int .u32 a, .int .u32 b, .int .i32 n, .slice ta 0 tc, .slice la 0 lc, .slice ea 0 ec, .int .i64 0, .int .i64 0, .int .u32 0, .int .u32 0, .int .i32 0, .slice none 0 0, .slice none 0 0, .slice none 0 0, .int .i64 26, .int .i64 0, .int .u32 0, .int .u32 0, .int .i32 0, .slice none 0 0, .slice none 0 0, .slice none 0 0, .int .i64 26, .int .i64 0, .int .u32 0, .int .u32 0, .int .i32 0, .slice none 0 0, .slice none 0 0, .slice none 0 0] 26
      have e : ((wc.alloc (.cells #[.int .i64 26, .int .i64 0, .int .u32 0, .int .u32 0, .int .i32 0, .slice none 0 0, .slice none 0 0, .slice none 0 0] 26)).alloc (.cells #[.int .i64 0, .int .i64 0, .int .u32 0, .int .u32 0, .int .i32 0, .slice none 0 0, .slice none 0 0, .slice none 0 0] 26)).heap.size = wc.heap.size + 1 + 1 := by simp
      rw [e] at h
      exact h.keep (belowAlloc _ _)
    have HB4 := hid hB4
    have HLB := hid hLB
    clear hB4 hLB
    go_wp2_with (first
      | (at_builtin; refine Stk.append_rows infoFn rfl (by omega) (by omega) Tryz.underlying30 rfl (.tmp 37) (.tmp 46) rfl (base := g) (w0 := wc) (xs := [[.int .i64 1, .int .i64 0, .slice none 0 0]]) [[.int .i64 2, .int .i64 3, .slice (some ⟨wc.heap.size + 1 + 1, 0, none⟩) 5 5]] rfl ((((P4.out.alloc _).alloc _).alloc _).alloc _) (((((Below.refl _ _).alloc (by have := HG2.out; have := hlt.out; omega) _).alloc (by have := HG2.out; have := hlt.out; simp; omega) _).alloc (by have := HG2.out; have := hlt.out; simp; omega) _).alloc (by have := HG2.out; have := hlt.out; simp; omega) _) (by have := HG2.out; have := hlt.out; simp; omega) ⟨wc.heap.size + 1 + 1 + 1, 0, none⟩ 1 1 rfl rfl (by simp) (by simpa using HNW.out) (by simp [Value.oneCell']) (by simp) ?_
         intro v4 u4 ho hb hsz hgrow
         obtain ⟨a4, c4, hv4, -, -⟩ := Stk.OwnR.rows ho
         have hs4 : Save (g + 1 + 1 + 1 + 1) _ u4 := save_grown hgrow
         obtain ⟨cs4, hcs4⟩ := own_block (P4.out.below HB4.out)
         have hG1 := HG1.out
         have hG2 := HG2.out
         have hlo := hlt.out
         have ht4 := Tw.save (T5.out.below (by have := T5.out.2.2.1.size; omega) HB4.out) hs4 (by omega) (by omega) (by have := T5.out.2.2.1.size; have := HB4.out.size; omega)
         have hr4 := (R5.out.below HB4.out).save hs4 (by omega) (by omega) (by omega) (by omega) (by omega)
         have hp3 := own_save (P3.out.below HB4.out) hs4 (own_ne (P3.out.below HB4.out) hcs4 (by decide))
         have hlb := box_save HLB.out hs4 (by omega)
         have HT4 := hid ht4
         have HR4 := hid hr4
         have HP3 := hid hp3
         have HL4 := hid hlb
         have HO4 := hid ho
         subst hv4
         obtain ⟨m0, m1, m2, m3, m4, m5, m6, m7, m8, m9, m10⟩ := ht4.1.cs
         have n2 := ht4.1.f 2
         clear ho hb hsz hgrow hs4 ht4 hr4 hp3 hlb hcs4 hG1 hG2 hlo))
    obtain ⟨W9, hW9⟩ : ∃ W9, W9 = u4.setCell ⟨w2.heap.size, 2, none⟩ (.slice a4 2 c4) := ⟨_, rfl⟩
    rw [← hW9]
    have hsv : Save w2.heap.size u4 W9 := by rw [hW9]; exact Save.setCell (p := ⟨w2.heap.size, 2, none⟩) (Save.refl w2.heap.size u4) (.inl rfl) _
    have hG2 := HG2.out
    have hr9 := HR4.out.save hsv (by omega) (by omega) (by omega) (by omega) (by omega)
    have hp9 := own_save HP3.out hsv (own_ne HP3.out HT4.out.1 (by decide))
    have ho9 := own_save HO4.out hsv (own_ne HO4.out HT4.out.1 (by decide))
    have hl9 := box_save HL4.out hsv (by omega)
    have hB9 : Below w.heap.size w W9 := by rw [hW9]; exact HT4.out.2.2.1.setCell (by show w.heap.size ≤ w2.heap.size; have := HG1.out; omega) _
    have hx9 : BoxAt W9 w.heap.size #[.int .i64 op, .int .i64 res, .int .u32 a, .int .u32 b, .int .i32 n, .slice ta 0 tc, .slice la 0 lc, .slice ea 0 ec] := box_save HT4.out.2.1 hsv (by have := HG1.out; omega)
    have hlt9 : wc.heap.size + 1 + 1 < W9.heap.size := World.block_lt_of_cell? W9 _ (hl9 0 _ rfl)
    have nilOk : ∀ (y : Ix), y.tags = [] → y.ln = 0 → y.en = 0 → y.ok → LitOk W9.heap.size W9 (y, .nil, .nil) := fun y h1 h2 h3 h4 => ⟨h4, by rw [h1]; exact .inl rfl, ⟨by rw [h2]; rfl, .inl rfl⟩, ⟨by rw [h3]; rfl, .inl rfl⟩⟩
    have hla : ListAt W9.heap.size W9 (some ⟨wc.heap.size + 1 + 1, 0, none⟩) 5 (t5 ⟨op, res, a, b, n, [], ta, tc, la, 0, lc, ea, 0, ec⟩) := list_box (l := [(deI, .nil, .nil), (⟨op, res, a, b, n, [], ta, tc, la, 0, lc, ea, 0, ec⟩, .nil, .nil), (deI, .nil, .nil), (drI, .nil, .nil), (drI, .nil, .nil)]) hlt9 hl9 (fun y hy => by
      simp only [List.mem_cons, List.not_mem_nil, or_false] at hy
      rcases hy with rfl | rfl | rfl | rfl | rfl
      · exact nilOk _ rfl rfl rfl (by constructor <;> simp [deI])
      · exact nilOk _ rfl rfl rfl OX.out
      · exact nilOk _ rfl rfl rfl (by constructor <;> simp [deI])
      · exact nilOk _ rfl rfl rfl (by constructor <;> simp [drI])
      · exact nilOk _ rfl rfl rfl (by constructor <;> simp [drI]))
    have hT9 := HT.out.on hB9
    have C9 := hid (Body_m (deadM g ⟨a3, c3⟩ ⟨a4, c4⟩ (some ⟨wc.heap.size + 1 + 1, 0, none⟩) 5 ⟨op, res, a, b, n, [], ta, tc, la, 0, lc, ea, 0, ec⟩) 1 W9 (dead_at hr9 hp9 ho9 hla) (dead_few _ _ _ _ _ _) hT9.nt hT9.ut hT9.ar)
    have TL := hid (dead_told g ⟨a3, c3⟩ ⟨a4, c4⟩ (some ⟨wc.heap.size + 1 + 1, 0, none⟩) 5 ⟨op, res, a, b, n, [], ta, tc, la, 0, lc, ea, 0, ec⟩ rfl OX.out.a.1)
    unfold BodyQ at C9
    generalize Md.body (deadM g ⟨a3, c3⟩ ⟨a4, c4⟩ (some ⟨wc.heap.size + 1 + 1, 0, none⟩) 5 ⟨op, res, a, b, n, [], ta, tc, la, 0, lc, ea, 0, ec⟩) 1 = r at C9 TL
    have HB9 := hid hB9
    have HX9 := hid hx9
    clear hW9 hsv hr9 hp9 ho9 hl9 hB9 hx9 hlt9 nilOk hla hT9 m0 m1 m2 m3 m4 m5 m6 m7 m8 m9 m10 n2 d0 d1 d2 d3 d4 d5 d6 d7 c0 c1 c2 c3' c5 c6 c7 c8 c9 c10 f0 f1 f2 f3 f4 f5 f6 f7 f8 f9 f10
    refine C9.out.mono ?_
    rintro e w9 ⟨rfl, hb9⟩
    have HBF := hid (thenB HB9.out hb9)
    have e0 := (HX9.out.keep hb9) 0 _ rfl
    obtain ⟨er, at_⟩ := r
    have TT := TL.out
    clear TL C9 hb9 HX9 HB9
    simp only [Told] at TT
    rcases TT with rfl | ⟨rfl, rfl | rfl | rfl | ⟨rfl, rfl | rfl | rfl⟩⟩ | ⟨rfl, rfl | rfl⟩
    all_goals
      go_wp2
      go_ret
      exact ⟨rfl, HBF.out⟩
end Go.Proofs.YtgecmcenhjcecaaGreatDoor.Val

namespace Go.Proofs.YtgecmcenhjcecaaGreatDoor
open Go.RowKit Go.Proofs.YtgecmcenhjcecaaGreatDoor.Instr
set_option linter.unusedVariables false
theorem validDead_walk (W : World) (x : Ix) (l e : Il) (ox : x.ok) (tx : TagsAt W.heap.size W x.ta x.tags) (lx : ListAt W.heap.size W x.la x.ln l) (ex : ListAt W.heap.size W x.ea x.en e) (hT : Instr.Nams W ∧ Utf.Tabs W ∧ Num.Arit W) :
    Calls Tryz.prog 3 #[.agg x.vals] W fun e w' => e = .returned (.bool true) ∧ Below W.heap.size W w' := by
  have hT' := Val.Tb.mk hT.1 hT.2.1 hT.2.2
  by_cases h : x.ln ≠ 0 ∨ x.en ≠ 0 ∨ x.tags ≠ []
  · exact Val.dead_lists W x h hT'
  · obtain ⟨op, res, a, b, n, tags, ta, tc, la, ln, lc, ea, en, ec⟩ := x
    simp only [not_or, Decidable.not_not, ne_eq] at h
    obtain ⟨rfl, rfl, rfl⟩ := h
    exact Val.dead_plain W op res a b n ta la ea tc lc ec ox hT'
end Go.Proofs.YtgecmcenhjcecaaGreatDoor
