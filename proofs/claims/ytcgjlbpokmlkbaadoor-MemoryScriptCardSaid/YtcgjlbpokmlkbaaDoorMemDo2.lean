/-
  MEMORY: what every method tells of what nobody made; Pages, Grow, Load by contracts.
-/
import Derived.Test.YtcgjlbpokmlkbaaDoorMemDo
namespace Go.Proofs.YtcgjlbpokmlkbaaDoor.Mem
open Go.RowKit Go.Proofs.YtcgjlbpokmlkbaaDoor.Instr Go.Proofs.YtcgjlbpokmlkbaaDoor.Num
open Go.Maps (Keyed int_keyed IsMap)
set_option linter.unusedVariables false

theorem Pages_no (v : Value) (w : World) (h : Unmade w v) :
    Calls Tryd.prog 13 #[v] w fun e w' => e = .returned (.int .u32 0) ∧ w = w' := by
  have C := hid (made_no v w h)
  clear h
  go_enter Tryd.func13, Tryd.ntmps13
  go_wp2_with fail
  refine C.out.mono ?_
  rintro e w1 ⟨rfl, rfl⟩
  go_wp2
  go_ret
  exact ⟨rfl, rfl⟩
theorem Pages_any {B : Nat} {W : World} {p K : Nat} {m : Mm} (hM : MemIs B W p K m) :
    Calls Tryd.prog 13 #[.pointer (some ⟨p, 0, none⟩)] W fun e w' => e = .returned (.int .u32 m.n) ∧ W = w' := by
  have C := hid (made_yes p W hM.cells.1)
  have c1 := hM.cells.2.1
  clear hM
  go_enter Tryd.func13, Tryd.ntmps13
  go_wp2_with fail
  refine C.out.mono ?_
  rintro e w1 ⟨rfl, rfl⟩
  go_wp2
  go_ret
  exact ⟨rfl, rfl⟩
theorem Grow_no (v : Value) (k : Int) (w : World) (h : Unmade w v) :
    Calls Tryd.prog 16 #[v, .int .u32 k] w fun e w' => e = .returned (.tuple #[.int .u32 0, .int .i64 1]) ∧ w = w' := by
  have C := hid (made_no v w h)
  clear h
  go_enter Tryd.func16, Tryd.ntmps16
  go_wp2_with fail
  refine C.out.mono ?_
  rintro e w1 ⟨rfl, rfl⟩
  go_wp2
  go_ret2
  exact ⟨rfl, rfl⟩
theorem Load_no (v : Value) (op x y : Int) (w : World) (h : Unmade w v) :
    Calls Tryd.prog 15 #[v, .int .i64 op, .int .u32 x, .int .u32 y] w fun e w' => e = .returned (.tuple #[.int .u32 0, .int .i64 1]) ∧ w = w' := by
  have C := hid (locate_no v op 1 x y w h)
  clear h
  go_enter Tryd.func15, Tryd.ntmps15
  go_wp2_with fail
  refine C.out.mono ?_
  rintro e w1 ⟨rfl, rfl⟩
  go_wp2
  go_ret2
  exact ⟨rfl, rfl⟩
theorem Store_no (v : Value) (op x y z : Int) (w : World) (h : Unmade w v) :
    Calls Tryd.prog 18 #[v, .int .i64 op, .int .u32 x, .int .u32 y, .int .u32 z] w fun e w' => e = .returned (.int .i64 1) ∧ w = w' := by
  have C := hid (locate_no v op 2 x y w h)
  clear h
  go_enter Tryd.func18, Tryd.ntmps18
  go_wp2_with fail
  refine C.out.mono ?_
  rintro e w1 ⟨rfl, rfl⟩
  go_wp2
  go_ret
  exact ⟨rfl, rfl⟩
theorem Read_no (v : Value) (x y : Int) (w : World) (h : Unmade w v) :
    Calls Tryd.prog 17 #[v, .int .u32 x, .int .u32 y] w fun e w' => e = .returned (.tuple #[.slice none 0 0, .int .i64 1]) ∧ w = w' := by
  have C := hid (made_no v w h)
  clear h
  go_enter Tryd.func17, Tryd.ntmps17
  go_wp2_with fail
  refine C.out.mono ?_
  rintro e w1 ⟨rfl, rfl⟩
  go_wp2
  go_ret2
  exact ⟨rfl, rfl⟩
theorem Write_no (v : Value) (x : Int) (a : Option Addr) (n c : Nat) (w : World) (h : Unmade w v) :
    Calls Tryd.prog 19 #[v, .int .u32 x, .slice a n c] w fun e w' => e = .returned (.int .i64 1) ∧ w = w' := by
  have C := hid (made_no v w h)
  clear h
  go_enter Tryd.func19, Tryd.ntmps19
  go_wp2_with fail
  refine C.out.mono ?_
  rintro e w1 ⟨rfl, rfl⟩
  go_wp2
  go_ret
  exact ⟨rfl, rfl⟩

theorem locP_load (m : Mm) (op : Int) (s : Nat) : locP m op 1 s = if isLoad op then (if m.has s (wd op) then ((s : Int), (wd op : Int), 0) else (0, 0, 220)) else (0, 0, 2) := by
  unfold locP widthQ
  rw [takes_load]
theorem locP_store (m : Mm) (op : Int) (s : Nat) : locP m op 2 s = if isStore op then (if m.has s (wd op) then ((s : Int), (wd op : Int), 0) else (0, 0, 220)) else (0, 0, 2) := by
  unfold locP widthQ
  rw [takes_store]
theorem word_row (f : Nat → Int) (s : Nat) : leW f s 4 = word4 (f s) (f (s + 1)) (f (s + 2)) (f (s + 3)) ∧ leW f s 2 = word4 (f s) (f (s + 1)) 0 0 ∧ leW f s 1 = word4 (f s) 0 0 0 := by
  refine ⟨?_, ?_, ?_⟩ <;> simp [leW, word4]
theorem over_row (f : Nat → Int) (s : Nat) : over [0, 0, 0, 0] (rowF f s 4) 0 = [f s, f (s + 1), f (s + 2), f (s + 3)] ∧ over [0, 0, 0, 0] (rowF f s 2) 0 = [f s, f (s + 1), 0, 0] ∧ over [0, 0, 0, 0] (rowF f s 1) 0 = [f s, 0, 0, 0] := by
  refine ⟨?_, ?_, ?_⟩ <;> simp [over, rowF]
/-- The four bytes of a load. -/
def quad (f : Nat → Int) (s : Nat) (n : Nat) : Int × Int × Int × Int := if n = 4 then (f s, f (s + 1), f (s + 2), f (s + 3)) else if n = 2 then (f s, f (s + 1), 0, 0) else (f s, 0, 0, 0)
theorem quad_is (f : Nat → Int) (s n : Nat) (hn : n = 4 ∨ n = 2 ∨ n = 1) (hf : ∀ a, 0 ≤ f a ∧ f a < 256) : over [0, 0, 0, 0] (rowF f s n) 0 = [(quad f s n).1, (quad f s n).2.1, (quad f s n).2.2.1, (quad f s n).2.2.2] ∧ leW f s n = word4 (quad f s n).1 (quad f s n).2.1 (quad f s n).2.2.1 (quad f s n).2.2.2 ∧
    (0 ≤ (quad f s n).1 ∧ (quad f s n).1 < 256) ∧ (0 ≤ (quad f s n).2.1 ∧ (quad f s n).2.1 < 256) ∧ (0 ≤ (quad f s n).2.2.1 ∧ (quad f s n).2.2.1 < 256) ∧ (0 ≤ (quad f s n).2.2.2 ∧ (quad f s n).2.2.2 < 256) := by
  have z : (0 : Int) ≤ 0 ∧ (0 : Int) < 256 := by decide
  rcases hn with rfl | rfl | rfl
  · exact ⟨(over_row f s).1, (word_row f s).1, hf _, hf _, hf _, hf _⟩
  · exact ⟨(over_row f s).2.1, (word_row f s).2.1, hf _, hf _, z, z⟩
  · exact ⟨(over_row f s).2.2, (word_row f s).2.2, hf _, z, z, z⟩
theorem slice_four (g n : Nat) (hn : n = 4 ∨ n = 2 ∨ n = 1) (w : World) : (Instr.sliceAt 71 (.pointer (some ⟨g, 0, none⟩)) none (some (.int .i64 (n : Int))) none).run Tryd.prog w = .ok (.slice (some ⟨g, 0, none⟩) n 4) w := by
  have hl : Tryd.prog.arrayLen 71 = 4 := by simp [Program.arrayLen, Tryd.underlying71]
  have he : Tryd.prog.elem 71 = 5 := by simp [Program.elem, Tryd.underlying71]
  have hu : Tryd.prog.underlying 71 = some (.array (Tryd.prog.arrayLen 71) (Tryd.prog.elem 71)) := by rw [hl, he]; exact Tryd.underlying71
  rw [run_sliceAt_array_h w 71 ⟨g, 0, none⟩ hu .i64 (n : Int) (by omega) (by rw [hl]; omega), hl, he]
  have hadd : (⟨g, 0, none⟩ : Addr).add 0 = ⟨g, 0, none⟩ := by unfold Addr.add; split <;> simp_all
  simp [slicedAt, hadd, Tryd.sizeOf5]

set_option maxHeartbeats 1000000 in
theorem Load_any {B : Nat} {W : World} {p K : Nat} {m : Mm} (hM : MemIs B W p K m) (op x y : Int) (s : Nat) (hx : 0 ≤ x ∧ x ≤ 4294967295) (hy : 0 ≤ y ∧ y ≤ 4294967295) (hs : (s : Int) = x + y) (hT : Arit W) :
    Calls Tryd.prog 15 #[.pointer (some ⟨p, 0, none⟩), .int .i64 op, .int .u32 x, .int .u32 y] W fun e w' => e = .returned (.tuple #[.int .u32 (m.load op s).1, .int .i64 (m.load op s).2]) ∧ Below W.heap.size W w' := by
  have C1 := locate_any hM op 1 x y s hx hy hs hT
  rw [locP_load] at C1
  unfold Mm.load
  cases hl : isLoad op
  · simp only [hl, Bool.false_eq_true, if_false] at C1 ⊢
    have C1 := hid C1
    go_enter Tryd.func15, Tryd.ntmps15
    go_wp2_with fail
    refine C1.out.mono ?_
    rintro e w1 ⟨rfl, hb⟩
    go_wp2
    go_ret2
    exact ⟨rfl, hb⟩
  · cases hh : m.has s (wd op)
    · simp only [hl, hh, Bool.false_eq_true, if_false, if_true] at C1 ⊢
      have C1 := hid C1
      go_enter Tryd.func15, Tryd.ntmps15
      go_wp2_with fail
      refine C1.out.mono ?_
      rintro e w1 ⟨rfl, hb⟩
      go_wp2
      go_ret2
      exact ⟨rfl, hb⟩
    · simp only [hl, hh, if_true] at C1 ⊢
      have HC1 := hid C1
      have hin : s + wd op ≤ m.n * 65536 := by simpa [Mm.has] using hh
      have hq := quad_is m.f s (wd op) (wd_cases op) hM.ok.byte
      have hv : loadV op m.f s = if op = 44 ∨ op = 46 then wideV (leW m.f s (wd op)) (8 * (wd op : Int)) else leW m.f s (wd op) := rfl
      rw [hv, hq.2.1]
      obtain ⟨hq1, _, q1, q2, q3, q4⟩ := hq
      have hwc := wd_cases op
      have hw8 : op = 44 ∨ op = 46 → wideE (8 * (wd op : Int)) = 0 := by rintro (rfl | rfl) <;> rfl
      have HM := hid hM
      generalize wd op = n at *
      generalize (quad m.f s n).1 = b0 at *
      generalize (quad m.f s n).2.1 = b1 at *
      generalize (quad m.f s n).2.2.1 = b2 at *
      generalize (quad m.f s n).2.2.2 = b3 at *
      have CW := hid (fun (w : World) => wordOf_any b0 b1 b2 b3 w q1 q2 q3 q4)
      obtain ⟨u, hu⟩ : ∃ u, word4 b0 b1 b2 b3 = u := ⟨_, rfl⟩
      rw [hu] at CW ⊢
      have CV := hid (fun (w : World) => Wide_any u (8 * (n : Int)) w)
      have CG := hid (fun (w : World) (g : Nat) (hm : MemIs B w p K m) (hg : w.heap[g]? = some (.cells ([0, 0, 0, 0].map (Value.int .u8)).toArray 71 (0, 0))) => (show Calls Tryd.prog 35 #[.pointer (some ⟨p, 0, none⟩), .int .u64 s, .slice (some ⟨g, 0, none⟩) n 4] w fun e W' => e = .returned (.tuple #[]) ∧ GotTo w m g 71 [0, 0, 0, 0] 0 s n W' from by
        obtain ⟨mb, D, K', hK, hm⟩ := hm
        exact get_any hm g 71 [0, 0, 0, 0] (some ⟨g, 0, none⟩) 0 n 4 s hg rfl (by simp; omega) (by omega) (by omega) (fun _ => rfl) hin (fun i hi => by
          have : i = 0 ∨ i = 1 ∨ i = 2 ∨ i = 3 := by omega
          rcases this with rfl | rfl | rfl | rfl <;> rfl)))
      have HQ := hid hq1
      have hsl := fun g w => slice_four g n hwc w
      have hn0 : (0 : Int) ≤ (n : Int) ∧ (n : Int) ≤ 4 := by omega
      obtain ⟨hn0, hn1⟩ := hn0
      clear C1 hM hl hh hin hv hq1 q1 q2 q3 q4 hwc hu hT hs hx hy
      by_cases ho : op = 44
      · subst ho
        have he := hw8 (.inl rfl)
        rw [if_pos (.inl rfl)]
        rw [he] at CV
        clear hw8 he
        go_enter Tryd.func15, Tryd.ntmps15
        go_wp2_with fail
        refine HC1.out.mono ?_
        rintro e w1 ⟨rfl, hb1⟩
        clear HC1
        have hM1 := hid (HM.out.below hb1)
        have hAl : (w1.alloc (.cells #[.int .u8 0, .int .u8 0, .int .u8 0, .int .u8 0] 71)).heap[w1.heap.size]? = some (.cells ([0, 0, 0, 0].map (Value.int .u8)).toArray 71 (0, 0)) := (MapKept.heap_alloc w1 _).1
        have C2 := hid (CG.out (w1.alloc (.cells #[.int .u8 0, .int .u8 0, .int .u8 0, .int .u8 0] 71)) w1.heap.size (hM1.out.below (thenA (Below.refl _ _) _)) hAl)
        have hb2 := thenA hb1 (.cells #[.int .u8 0, .int .u8 0, .int .u8 0, .int .u8 0] 71)
        clear CG hAl HM hM1
        go_wp2_with fail
        refine C2.out.mono ?_
        rintro e w3 ⟨rfl, hG⟩
        have hh3 := hG.heap
        rw [HQ.out] at hh3
        have c0 : w3.cell? ⟨w1.heap.size, 0, none⟩ = some (.int .u8 b0) := by simp [World.cell?, hh3]
        have c1 : w3.cell? ⟨w1.heap.size, 1, none⟩ = some (.int .u8 b1) := by simp [World.cell?, hh3]
        have c2 : w3.cell? ⟨w1.heap.size, 2, none⟩ = some (.int .u8 b2) := by simp [World.cell?, hh3]
        have c3 : w3.cell? ⟨w1.heap.size, 3, none⟩ = some (.int .u8 b3) := by simp [World.cell?, hh3]
        have hb3 : Below W.heap.size W w3 := hb2.trans (hG.save.below hb2.size hb1.size)
        clear C2 HQ hG hh3 hb1 hb2
        go_wp2_with fail
        refine (CW.out _).mono ?_
        rintro e w4 ⟨rfl, hb4⟩
        have hb5 := thenB hb3 hb4
        clear CW
        go_wp2_with fail
        refine (CV.out _).mono ?_
        rintro e w5 ⟨rfl, rfl⟩
        go_wp2
        go_ret2
        exact ⟨rfl, hb5⟩
      · by_cases ho2 : op = 46
        · subst ho2
          have he := hw8 (.inr rfl)
          rw [if_pos (.inr rfl)]
          rw [he] at CV
          clear hw8 he
          go_enter Tryd.func15, Tryd.ntmps15
          go_wp2_with fail
          refine HC1.out.mono ?_
          rintro e w1 ⟨rfl, hb1⟩
          clear HC1
          have hM1 := hid (HM.out.below hb1)
          have hAl : (w1.alloc (.cells #[.int .u8 0, .int .u8 0, .int .u8 0, .int .u8 0] 71)).heap[w1.heap.size]? = some (.cells ([0, 0, 0, 0].map (Value.int .u8)).toArray 71 (0, 0)) := (MapKept.heap_alloc w1 _).1
          have C2 := hid (CG.out (w1.alloc (.cells #[.int .u8 0, .int .u8 0, .int .u8 0, .int .u8 0] 71)) w1.heap.size (hM1.out.below (thenA (Below.refl _ _) _)) hAl)
          have hb2 := thenA hb1 (.cells #[.int .u8 0, .int .u8 0, .int .u8 0, .int .u8 0] 71)
          clear CG hAl HM hM1
          go_wp2_with fail
          refine C2.out.mono ?_
          rintro e w3 ⟨rfl, hG⟩
          have hh3 := hG.heap
          rw [HQ.out] at hh3
          have c0 : w3.cell? ⟨w1.heap.size, 0, none⟩ = some (.int .u8 b0) := by simp [World.cell?, hh3]
          have c1 : w3.cell? ⟨w1.heap.size, 1, none⟩ = some (.int .u8 b1) := by simp [World.cell?, hh3]
          have c2 : w3.cell? ⟨w1.heap.size, 2, none⟩ = some (.int .u8 b2) := by simp [World.cell?, hh3]
          have c3 : w3.cell? ⟨w1.heap.size, 3, none⟩ = some (.int .u8 b3) := by simp [World.cell?, hh3]
          have hb3 : Below W.heap.size W w3 := hb2.trans (hG.save.below hb2.size hb1.size)
          clear C2 HQ hG hh3 hb1 hb2
          go_wp2_with fail
          refine (CW.out _).mono ?_
          rintro e w4 ⟨rfl, hb4⟩
          have hb5 := thenB hb3 hb4
          clear CW
          have e1 : ((46 : Int) == 44) = false := by decide
          go_wp2_with fail
          refine (CV.out _).mono ?_
          rintro e w5 ⟨rfl, rfl⟩
          go_wp2
          go_ret2
          exact ⟨rfl, hb5⟩
        · rw [if_neg (by simp [ho, ho2])]
          clear hw8 CV
          go_enter Tryd.func15, Tryd.ntmps15
          go_wp2_with fail
          refine HC1.out.mono ?_
          rintro e w1 ⟨rfl, hb1⟩
          clear HC1
          have hM1 := hid (HM.out.below hb1)
          have hAl : (w1.alloc (.cells #[.int .u8 0, .int .u8 0, .int .u8 0, .int .u8 0] 71)).heap[w1.heap.size]? = some (.cells ([0, 0, 0, 0].map (Value.int .u8)).toArray 71 (0, 0)) := (MapKept.heap_alloc w1 _).1
          have C2 := hid (CG.out (w1.alloc (.cells #[.int .u8 0, .int .u8 0, .int .u8 0, .int .u8 0] 71)) w1.heap.size (hM1.out.below (thenA (Below.refl _ _) _)) hAl)
          have hb2 := thenA hb1 (.cells #[.int .u8 0, .int .u8 0, .int .u8 0, .int .u8 0] 71)
          clear CG hAl HM hM1
          go_wp2_with fail
          refine C2.out.mono ?_
          rintro e w3 ⟨rfl, hG⟩
          have hh3 := hG.heap
          rw [HQ.out] at hh3
          have c0 : w3.cell? ⟨w1.heap.size, 0, none⟩ = some (.int .u8 b0) := by simp [World.cell?, hh3]
          have c1 : w3.cell? ⟨w1.heap.size, 1, none⟩ = some (.int .u8 b1) := by simp [World.cell?, hh3]
          have c2 : w3.cell? ⟨w1.heap.size, 2, none⟩ = some (.int .u8 b2) := by simp [World.cell?, hh3]
          have c3 : w3.cell? ⟨w1.heap.size, 3, none⟩ = some (.int .u8 b3) := by simp [World.cell?, hh3]
          have hb3 : Below W.heap.size W w3 := hb2.trans (hG.save.below hb2.size hb1.size)
          clear C2 HQ hG hh3 hb1 hb2
          go_wp2_with fail
          refine (CW.out _).mono ?_
          rintro e w4 ⟨rfl, hb4⟩
          have hb5 := thenB hb3 hb4
          clear CW
          have e1 : (op == 44) = false := by simpa using ho
          have e2 : (op == 46) = false := by simpa using ho2
          go_wp2
          go_ret2
          exact ⟨rfl, hb5⟩
end Go.Proofs.YtcgjlbpokmlkbaaDoor.Mem
