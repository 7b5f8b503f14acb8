/-
  MEMORY: the walk of MemoryBounds.
-/
import Derived.Test.YtcgjlbpokmlkbaaDoorMemAwake
namespace Go.Proofs.YtcgjlbpokmlkbaaDoor.Mem
open Go.RowKit Go.Proofs.YtcgjlbpokmlkbaaDoor.Instr Go.Proofs.YtcgjlbpokmlkbaaDoor.Num
set_option linter.unusedVariables false
theorem MemIs.lower {B B2 : Nat} {W : World} {p K : Nat} {m : Mm} (h : MemIs B W p K m) (hB : B2 ≤ B) : MemIs B2 W p K m := by
  obtain ⟨mb, D, K', hK', h⟩ := h
  refine ⟨mb, D, K', hK', ⟨h.box, Nat.le_trans hB h.bp, Nat.le_trans hB h.bm, h.map, h.isMap, h.ok, fun k => ?_, h.apart⟩⟩
  rcases h.at_ k with h1 | ⟨g, hg, h2⟩
  · exact .inl h1
  · exact .inr ⟨g, Nat.le_trans hB hg, h2⟩
theorem load_code {m : Mm} {op : Int} {s : Nat} (h : isLoad op = true) : (m.load op s).2 = if m.has s (wd op) then 0 else 220 := by
  unfold Mm.load; rw [h]; simp only [if_true]; split <;> rfl
theorem store_code {m : Mm} {op v : Int} {s : Nat} (h : isStore op = true) : (m.store op s v).2 = if m.has s (wd op) then 0 else 220 := by
  unfold Mm.store; rw [h]; simp only [if_true]; split <;> rfl
theorem store_same (m : Mm) (op v : Int) (s : Nat) : (m.store op s v).1.n = m.n ∧ (m.store op s v).1.most = m.most := by
  unfold Mm.store; split
  · split <;> exact ⟨rfl, rfl⟩
  · exact ⟨rfl, rfl⟩
theorem write_same (m : Mm) (s : Nat) (zs : List Int) : (m.write s zs).1.n = m.n ∧ (m.write s zs).1.most = m.most := by
  unfold Mm.write; split <;> exact ⟨rfl, rfl⟩
/-- What MemoryBounds' loop keeps. -/
structure BoundsAt (W : World) (p n k g1 g2 : Nat) (wr : World) : Prop where
  mem : ∃ m, m.n = n ∧ MemIs W.heap.size wr p (4 * k) m
  below : Below W.heap.size W wr
  ops : wr.heap[g1]? = some (.cells #[.int .i64 40, .int .i64 47, .int .i64 45] 3 (0, 0))
  sets : wr.heap[g2]? = some (.cells #[.int .i64 54, .int .i64 59, .int .i64 58] 3 (0, 0))
theorem three_cells {w : World} {g : Nat} {a b c : Value} {t : TypeId} (h : w.heap[g]? = some (.cells #[a, b, c] t (0, 0))) : w.cell? ⟨g, 0, none⟩ = some a ∧ w.cell? ⟨g, 1, none⟩ = some b ∧ w.cell? ⟨g, 2, none⟩ = some c := by
  refine ⟨?_, ?_, ?_⟩ <;> simp [World.cell?, h]
end Go.Proofs.YtcgjlbpokmlkbaaDoor.Mem
namespace Go.Proofs.YtcgjlbpokmlkbaaDoor
open Go.RowKit Go.Proofs.YtcgjlbpokmlkbaaDoor.Instr Go.Proofs.YtcgjlbpokmlkbaaDoor.Num Go.Proofs.YtcgjlbpokmlkbaaDoor.Mem
set_option linter.unusedVariables false
set_option maxRecDepth 100000 in
set_option maxHeartbeats 4000000 in
theorem memoryBounds_walk (W : World) (z : Int) (hz : 0 ≤ z ∧ z ≤ 4294967295) (x : Int) (hx : 0 ≤ x ∧ x ≤ 4294967295) (y : Int) (hy : 0 ≤ y ∧ y ≤ 4294967295) (hT : Arit W) :
    Calls Tryd.prog 6 #[.int .u32 z, .int .u32 x, .int .u32 y] W fun e w' => e = .returned (.bool true) ∧ Below W.heap.size W w' := by
  have HT := hid hT
  obtain ⟨N, hN⟩ : ∃ N, z.tmod 4 = N := ⟨_, rfl⟩
  have hN2 : N = z % 4 := by rw [← hN, Int.tmod_eq_emod_of_nonneg hz.1]
  obtain ⟨n, hn⟩ : ∃ n : Nat, N = n := ⟨N.toNat, by omega⟩
  have hNb : 0 ≤ N ∧ N ≤ 3 := by omega
  obtain ⟨s, hs⟩ : ∃ s : Nat, (s : Int) = x + y := ⟨(x + y).toNat, by omega⟩
  obtain ⟨N0, N3⟩ := hNb
  obtain ⟨x0, x1⟩ := hx
  obtain ⟨y0, y1⟩ := hy
  have HN := hid hn
  have HS := hid hs
  have CN : Hid (∀ w, Calls Tryd.prog 10 #[.agg #[.int .u32 N, .int .u32 0, .bool false]] w (NewTo w n 65536)) := hid (fun w => by rw [hn]; exact New_false n 0 w (by
    unfold Kind.codeLim Kind.okLim
    rw [if_pos]
    simp
    omega))
  clear hT hz hn hs hN2
  go_enter Tryd.func6, Tryd.ntmps6
  go_wp2_with fail
  refine (awake_any W HT.out).mono ?_
  rintro e w1 ⟨rfl, hb1⟩
  have HB1 := hid hb1
  clear hb1
  go_wp2_with fail
  refine (CN.out _).mono ?_
  rintro e w2 ⟨p, rfl, hm, hb2⟩
  have HM2 := hid hm
  have HB2 := hid (thenB HB1.out hb2)
  have H0 := hid (show BoundsAt W p n 0 w2.heap.size (w2.heap.size + 1) ((w2.alloc (.cells #[.int .i64 40, .int .i64 47, .int .i64 45] 3)).alloc (.cells #[.int .i64 54, .int .i64 59, .int .i64 58] 3)) from by
    have hbb := thenA (thenA (Below.refl w2.heap.size w2) (.cells #[.int .i64 40, .int .i64 47, .int .i64 45] 3)) (.cells #[.int .i64 54, .int .i64 59, .int .i64 58] 3)
    refine ⟨⟨⟨n, 65536, fun _ => 0⟩, rfl, ?_⟩, thenB HB2.out hbb, ?_, ?_⟩
    · exact (hm.below hbb).lower HB1.out.size
    · exact ((thenA (Below.refl _ _) (.cells #[.int .i64 54, .int .i64 59, .int .i64 58] 3)).block _ (by simp)).trans (MapKept.heap_alloc w2 _).1
    · have := (MapKept.heap_alloc (w2.alloc (.cells #[.int .i64 40, .int .i64 47, .int .i64 45] 3)) (.cells #[.int .i64 54, .int .i64 59, .int .i64 58] 3)).1
      rw [World.size_alloc] at this
      exact this)
  obtain ⟨g2, hg2⟩ : ∃ g2, w2.heap.size + 1 = g2 := ⟨_, rfl⟩
  obtain ⟨wA, hwA⟩ : ∃ wA, ((w2.alloc (.cells #[.int .i64 40, .int .i64 47, .int .i64 45] 3)).alloc (.cells #[.int .i64 54, .int .i64 59, .int .i64 58] 3)) = wA := ⟨_, rfl⟩
  rw [hg2, hwA] at H0
  clear hm hb2 CN HB1 HM2 HB2
  go_wp2
  clear hwA
  obtain ⟨g1, hg1⟩ : ∃ g1, w2.heap.size = g1 := ⟨_, rfl⟩
  rw [hg1] at H0 ⊢
  clear hg1 hg2 hN
  have hb8 : x + y ≤ 8589934590 := by omega
  go_loopw [14] (fun vi wr => ∃ k : Nat, vi = .int .i64 k ∧ k ≤ 3 ∧ Hid (BoundsAt W p n k g1 g2 wr)) (fun vi _ => 3 - (intOf vi).toNat)
  case atStart => exact ⟨0, rfl, by omega, H0⟩
  case round =>
    obtain ⟨k, rfl, hk, HR⟩ := hrel
    clear H0
    have hk3 : k = 0 ∨ k = 1 ∨ k = 2 ∨ k = 3 := by omega
    rcases hk3 with rfl | rfl | rfl | rfl
    · clear hk
      obtain ⟨⟨m, hmn, hm⟩, hbel, hops, hsets⟩ := HR.out
      have c1 := (three_cells hops).1
      have c2 := (three_cells hsets).1
      have CL := hid (Load_any hm 40 x y s ⟨x0, x1⟩ ⟨y0, y1⟩ HS.out (HT.out.below hbel))
      have CS := hid (fun (w : World) (hb : Below wr.heap.size wr w) => Store_any (hm.below hb) (Nat.le_trans hbel.size hb.size) (by omega) 54 x y 0 s ⟨x0, x1⟩ ⟨y0, y1⟩ ⟨by decide, by decide⟩ HS.out (HT.out.below (thenB hbel hb)))
      have HL : Hid ((m.load 40 s).2 = if s + 4 ≤ n * 65536 then 0 else 220) := hid (by rw [load_code rfl]; simp [Mm.has, wd, hmn])
      have HST : Hid ((m.store 54 s 0).2 = if s + 4 ≤ n * 65536 then 0 else 220) := hid (by rw [store_code rfl]; simp [Mm.has, wd, hmn])
      have HNX := hid (fun (w w3 : World) (hb : Below wr.heap.size wr w) (hW : Wrote W.heap.size w p (4 * 0 + 4) (m.store 54 s 0).1 w3) => (show BoundsAt W p n 1 g1 g2 w3 from ⟨⟨_, (store_same m 54 0 s).1.trans hmn, hW.1⟩, (thenB hbel hb).trans hW.2.2, hW.2.1.cells ((hb.block _ (Array.getElem?_eq_some_iff.1 hops).1).trans hops) rfl, hW.2.1.cells ((hb.block _ (Array.getElem?_eq_some_iff.1 hsets).1).trans hsets) rfl⟩))
      have hKc := hid (fun (w : World) (hb : Below wr.heap.size wr w) => (show w.cell? ⟨g2, 0, none⟩ = some (.int .i64 54) from keep hb c2))
      generalize (m.load 40 s) = r at *
      obtain ⟨u, e⟩ := r
      generalize (m.store 54 s 0) = r2 at *
      obtain ⟨m2, e2⟩ := r2
      simp only at CL CS HL HST HNX
      clear hm hbel hops hsets HR c2 hmn
      by_cases hfit : x + y + 4 ≤ N * 65536
      · obtain rfl : e = 0 := by have h := HL.out; have h2 := HS.out; have h3 := HN.out; rw [if_pos (by omega)] at h; exact h
        obtain rfl : e2 = 0 := by have h := HST.out; have h2 := HS.out; have h3 := HN.out; rw [if_pos (by omega)] at h; exact h
        clear HL HST
        go_wp2_with fail
        refine CL.out.mono ?_
        rintro e w1 ⟨rfl, hb⟩
        have c2 := hKc.out w1 hb
        have CS2 := hid (CS.out w1 hb)
        have HN2 := hid (fun w3 hW => HNX.out w1 w3 hb hW)
        clear CL CS HNX hb hKc c1
        go_wp2_with fail
        refine CS2.out.mono ?_
        rintro e w3 ⟨rfl, hW⟩
        have HN3 := hid (HN2.out w3 hW)
        clear HN2 hW c2 CS2
        go_wp2
        go_roundw
        case rel => exact ⟨1, rfl, by omega, HN3⟩
        case measure => simp [intOf]
      · obtain rfl : e = 220 := by have h := HL.out; have h2 := HS.out; have h3 := HN.out; rw [if_neg (by omega)] at h; exact h
        obtain rfl : e2 = 220 := by have h := HST.out; have h2 := HS.out; have h3 := HN.out; rw [if_neg (by omega)] at h; exact h
        clear HL HST
        go_wp2_with fail
        refine CL.out.mono ?_
        rintro e w1 ⟨rfl, hb⟩
        have c2 := hKc.out w1 hb
        have CS2 := hid (CS.out w1 hb)
        have HN2 := hid (fun w3 hW => HNX.out w1 w3 hb hW)
        clear CL CS HNX hb hKc c1
        go_wp2_with fail
        refine CS2.out.mono ?_
        rintro e w3 ⟨rfl, hW⟩
        have HN3 := hid (HN2.out w3 hW)
        clear HN2 hW c2 CS2
        go_wp2
        go_roundw
        case rel => exact ⟨1, rfl, by omega, HN3⟩
        case measure => simp [intOf]
    · clear hk
      obtain ⟨⟨m, hmn, hm⟩, hbel, hops, hsets⟩ := HR.out
      have c1 := (three_cells hops).2.1
      have c2 := (three_cells hsets).2.1
      have CL := hid (Load_any hm 47 x y s ⟨x0, x1⟩ ⟨y0, y1⟩ HS.out (HT.out.below hbel))
      have CS := hid (fun (w : World) (hb : Below wr.heap.size wr w) => Store_any (hm.below hb) (Nat.le_trans hbel.size hb.size) (by omega) 59 x y 0 s ⟨x0, x1⟩ ⟨y0, y1⟩ ⟨by decide, by decide⟩ HS.out (HT.out.below (thenB hbel hb)))
      have HL : Hid ((m.load 47 s).2 = if s + 2 ≤ n * 65536 then 0 else 220) := hid (by rw [load_code rfl]; simp [Mm.has, wd, hmn])
      have HST : Hid ((m.store 59 s 0).2 = if s + 2 ≤ n * 65536 then 0 else 220) := hid (by rw [store_code rfl]; simp [Mm.has, wd, hmn])
      have HNX := hid (fun (w w3 : World) (hb : Below wr.heap.size wr w) (hW : Wrote W.heap.size w p (4 * 1 + 4) (m.store 59 s 0).1 w3) => (show BoundsAt W p n 2 g1 g2 w3 from ⟨⟨_, (store_same m 59 0 s).1.trans hmn, hW.1⟩, (thenB hbel hb).trans hW.2.2, hW.2.1.cells ((hb.block _ (Array.getElem?_eq_some_iff.1 hops).1).trans hops) rfl, hW.2.1.cells ((hb.block _ (Array.getElem?_eq_some_iff.1 hsets).1).trans hsets) rfl⟩))
      have hKc := hid (fun (w : World) (hb : Below wr.heap.size wr w) => (show w.cell? ⟨g2, 1, none⟩ = some (.int .i64 59) from keep hb c2))
      generalize (m.load 47 s) = r at *
      obtain ⟨u, e⟩ := r
      generalize (m.store 59 s 0) = r2 at *
      obtain ⟨m2, e2⟩ := r2
      simp only at CL CS HL HST HNX
      clear hm hbel hops hsets HR c2 hmn
      by_cases hfit : x + y + 2 ≤ N * 65536
      · obtain rfl : e = 0 := by have h := HL.out; have h2 := HS.out; have h3 := HN.out; rw [if_pos (by omega)] at h; exact h
        obtain rfl : e2 = 0 := by have h := HST.out; have h2 := HS.out; have h3 := HN.out; rw [if_pos (by omega)] at h; exact h
        clear HL HST
        go_wp2_with fail
        refine CL.out.mono ?_
        rintro e w1 ⟨rfl, hb⟩
        have c2 := hKc.out w1 hb
        have CS2 := hid (CS.out w1 hb)
        have HN2 := hid (fun w3 hW => HNX.out w1 w3 hb hW)
        clear CL CS HNX hb hKc c1
        go_wp2_with fail
        refine CS2.out.mono ?_
        rintro e w3 ⟨rfl, hW⟩
        have HN3 := hid (HN2.out w3 hW)
        clear HN2 hW c2 CS2
        go_wp2
        go_roundw
        case rel => exact ⟨2, rfl, by omega, HN3⟩
        case measure => simp [intOf]
      · obtain rfl : e = 220 := by have h := HL.out; have h2 := HS.out; have h3 := HN.out; rw [if_neg (by omega)] at h; exact h
        obtain rfl : e2 = 220 := by have h := HST.out; have h2 := HS.out; have h3 := HN.out; rw [if_neg (by omega)] at h; exact h
        clear HL HST
        go_wp2_with fail
        refine CL.out.mono ?_
        rintro e w1 ⟨rfl, hb⟩
        have c2 := hKc.out w1 hb
        have CS2 := hid (CS.out w1 hb)
        have HN2 := hid (fun w3 hW => HNX.out w1 w3 hb hW)
        clear CL CS HNX hb hKc c1
        go_wp2_with fail
        refine CS2.out.mono ?_
        rintro e w3 ⟨rfl, hW⟩
        have HN3 := hid (HN2.out w3 hW)
        clear HN2 hW c2 CS2
        go_wp2
        go_roundw
        case rel => exact ⟨2, rfl, by omega, HN3⟩
        case measure => simp [intOf]
    · clear hk
      obtain ⟨⟨m, hmn, hm⟩, hbel, hops, hsets⟩ := HR.out
      have c1 := (three_cells hops).2.2
      have c2 := (three_cells hsets).2.2
      have CL := hid (Load_any hm 45 x y s ⟨x0, x1⟩ ⟨y0, y1⟩ HS.out (HT.out.below hbel))
      have CS := hid (fun (w : World) (hb : Below wr.heap.size wr w) => Store_any (hm.below hb) (Nat.le_trans hbel.size hb.size) (by omega) 58 x y 0 s ⟨x0, x1⟩ ⟨y0, y1⟩ ⟨by decide, by decide⟩ HS.out (HT.out.below (thenB hbel hb)))
      have HL : Hid ((m.load 45 s).2 = if s + 1 ≤ n * 65536 then 0 else 220) := hid (by rw [load_code rfl]; simp [Mm.has, wd, hmn])
      have HST : Hid ((m.store 58 s 0).2 = if s + 1 ≤ n * 65536 then 0 else 220) := hid (by rw [store_code rfl]; simp [Mm.has, wd, hmn])
      have HNX := hid (fun (w w3 : World) (hb : Below wr.heap.size wr w) (hW : Wrote W.heap.size w p (4 * 2 + 4) (m.store 58 s 0).1 w3) => (show BoundsAt W p n 3 g1 g2 w3 from ⟨⟨_, (store_same m 58 0 s).1.trans hmn, hW.1⟩, (thenB hbel hb).trans hW.2.2, hW.2.1.cells ((hb.block _ (Array.getElem?_eq_some_iff.1 hops).1).trans hops) rfl, hW.2.1.cells ((hb.block _ (Array.getElem?_eq_some_iff.1 hsets).1).trans hsets) rfl⟩))
      have hKc := hid (fun (w : World) (hb : Below wr.heap.size wr w) => (show w.cell? ⟨g2, 2, none⟩ = some (.int .i64 58) from keep hb c2))
      generalize (m.load 45 s) = r at *
      obtain ⟨u, e⟩ := r
      generalize (m.store 58 s 0) = r2 at *
      obtain ⟨m2, e2⟩ := r2
      simp only at CL CS HL HST HNX
      clear hm hbel hops hsets HR c2 hmn
      by_cases hfit : x + y + 1 ≤ N * 65536
      · obtain rfl : e = 0 := by have h := HL.out; have h2 := HS.out; have h3 := HN.out; rw [if_pos (by omega)] at h; exact h
        obtain rfl : e2 = 0 := by have h := HST.out; have h2 := HS.out; have h3 := HN.out; rw [if_pos (by omega)] at h; exact h
        clear HL HST
        go_wp2_with fail
        refine CL.out.mono ?_
        rintro e w1 ⟨rfl, hb⟩
        have c2 := hKc.out w1 hb
        have CS2 := hid (CS.out w1 hb)
        have HN2 := hid (fun w3 hW => HNX.out w1 w3 hb hW)
        clear CL CS HNX hb hKc c1
        go_wp2_with fail
        refine CS2.out.mono ?_
        rintro e w3 ⟨rfl, hW⟩
        have HN3 := hid (HN2.out w3 hW)
        clear HN2 hW c2 CS2
        go_wp2
        go_roundw
        case rel => exact ⟨3, rfl, by omega, HN3⟩
        case measure => simp [intOf]
      · obtain rfl : e = 220 := by have h := HL.out; have h2 := HS.out; have h3 := HN.out; rw [if_neg (by omega)] at h; exact h
        obtain rfl : e2 = 220 := by have h := HST.out; have h2 := HS.out; have h3 := HN.out; rw [if_neg (by omega)] at h; exact h
        clear HL HST
        go_wp2_with fail
        refine CL.out.mono ?_
        rintro e w1 ⟨rfl, hb⟩
        have c2 := hKc.out w1 hb
        have CS2 := hid (CS.out w1 hb)
        have HN2 := hid (fun w3 hW => HNX.out w1 w3 hb hW)
        clear CL CS HNX hb hKc c1
        go_wp2_with fail
        refine CS2.out.mono ?_
        rintro e w3 ⟨rfl, hW⟩
        have HN3 := hid (HN2.out w3 hW)
        clear HN2 hW c2 CS2
        go_wp2
        go_roundw
        case rel => exact ⟨3, rfl, by omega, HN3⟩
        case measure => simp [intOf]
    · clear hk
      obtain ⟨⟨m, hmn, hm⟩, hbel, _, _⟩ := HR.out
      obtain ⟨X, hX⟩ : ∃ X : Nat, (X : Int) = x := ⟨x.toNat, by omega⟩
      have hb1 := thenA (Below.refl wr.heap.size wr) (.cells #[.int .u8 0] 5)
      have hcell : (wr.alloc (.cells #[.int .u8 0] 5)).heap[wr.heap.size]? = some (.cells #[.int .u8 0] 5 (0, 0)) := (MapKept.heap_alloc wr _).1
      have CW := Write_any (hm.below hb1) (Nat.le_trans hbel.size hb1.size) wr.heap.size 0 (some ⟨wr.heap.size, 0, none⟩) 1 1 X [0] rfl (by decide) (Nat.le_refl _) (by decide) (by omega) (fun _ => ⟨rfl, fun i hi => by
        obtain rfl : i = 0 := by omega
        simp only [World.cell?, hcell]; rfl, _, hcell, .inl rfl⟩) (by decide)
      rw [hX] at CW
      have HWC : Hid ((m.write X [0]).2 = if X + 1 ≤ n * 65536 then 0 else 220) := hid (by
        unfold Mm.write Mm.has
        rw [hmn]
        simp only [List.length_cons, List.length_nil, Nat.zero_add, decide_eq_true_eq]
        split <;> rfl)
      have HWN := hid ((write_same m X [0]).1.trans hmn)
      have HB := hid (fun (w3 : World) (hW : Wrote W.heap.size (wr.alloc (.cells #[.int .u8 0] 5)) p (4 * 3 + 1) (m.write X [0]).1 w3) => (show MemIs W.heap.size w3 p (4 * 3 + 1) (m.write X [0]).1 ∧ Below W.heap.size W w3 from ⟨hW.1, (thenB hbel hb1).trans hW.2.2⟩))
      have HX := hid hX
      generalize m.write X [0] = r at *
      obtain ⟨m2, e2⟩ := r
      simp only at CW HWC HWN HB
      have CW := hid CW
      clear hm hbel HR hb1 hcell hX hmn
      by_cases hfit : x + 1 ≤ N * 65536
      · obtain rfl : e2 = 0 := by have h := HWC.out; have h2 := HX.out; have h3 := HN.out; rw [if_pos (by omega)] at h; exact h
        clear HWC
        go_wp2_with fail
        refine CW.out.mono ?_
        rintro e w3 ⟨rfl, hW⟩
        obtain ⟨hm3, hb3⟩ := HB.out w3 hW
        have CP := Pages_any hm3
        rw [HWN.out, ← HN.out] at CP
        have CP := hid CP
        have HB3 := hid hb3
        clear CW HB hW hm3 hb3
        go_wp2_with fail
        refine CP.out.mono ?_
        rintro e w4 ⟨rfl, rfl⟩
        go_wp2
        go_ret
        exact ⟨rfl, HB3.out⟩
      · obtain rfl : e2 = 220 := by have h := HWC.out; have h2 := HX.out; have h3 := HN.out; rw [if_neg (by omega)] at h; exact h
        clear HWC
        go_wp2_with fail
        refine CW.out.mono ?_
        rintro e w3 ⟨rfl, hW⟩
        obtain ⟨hm3, hb3⟩ := HB.out w3 hW
        have CP := Pages_any hm3
        rw [HWN.out, ← HN.out] at CP
        have CP := hid CP
        have HB3 := hid hb3
        clear CW HB hW hm3 hb3
        go_wp2_with fail
        refine CP.out.mono ?_
        rintro e w4 ⟨rfl, rfl⟩
        go_wp2
        go_ret
        exact ⟨ret_bool (by simp; omega), HB3.out⟩
end Go.Proofs.YtcgjlbpokmlkbaaDoor
