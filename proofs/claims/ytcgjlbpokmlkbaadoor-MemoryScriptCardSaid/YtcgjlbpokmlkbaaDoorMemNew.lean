/-
  MEMORY: New by contract; a fresh memory, and what the examples say (fresh, loads, awake).
-/
import Derived.Test.YtcgjlbpokmlkbaaDoorMemDo4
import Derived.Test.YtcgjlbpokmlkbaaDoorKitBytes
namespace Go.Proofs.YtcgjlbpokmlkbaaDoor.Mem
open Go.RowKit Go.Proofs.YtcgjlbpokmlkbaaDoor.Instr Go.Proofs.YtcgjlbpokmlkbaaDoor.Num Go.Proofs.YtcgjlbpokmlkbaaDoor.Kind
open Go.Maps (Keyed int_keyed IsMap)
set_option linter.unusedVariables false

theorem box_cells {W : World} {p : Nat} {a b c d : Value} {t : TypeId} (h : W.heap[p]? = some (.cells #[a, b, c, d] t (0, 0))) : W.cell? ⟨p, 0, none⟩ = some a ∧ W.cell? ⟨p, 1, none⟩ = some b ∧ W.cell? ⟨p, 2, none⟩ = some c ∧ W.cell? ⟨p, 3, none⟩ = some d := by
  refine ⟨?_, ?_, ?_, ?_⟩ <;> simp [World.cell?, h]
theorem zero_byte : (0 : Int) ≤ 0 ∧ (0 : Int) < 256 := by decide
/-- A memory that was just made. -/
theorem MemAt.new {W0 W : World} {p mb n t : Nat} {es : List Int} (hb : W.heap[p]? = some (.cells #[.pointer (some ⟨p, 0, none⟩), .int .u32 n, .int .u32 t, .map (some mb)] 47 (0, 0))) (hm : W.heap[mb]? = some (.map #[] 0)) (h1 : W0.heap.size ≤ p) (h2 : W0.heap.size ≤ mb) (hn : n ≤ t) (ht : t ≤ 65536) :
    MemAt W0.heap.size W p mb 0 (.map []) ⟨n, t, fun _ => 0⟩ := by
  refine ⟨hb, h1, h2, ⟨#[], 0, hm, ⟨by simp, MapKept.stamped_empty 0, by simp⟩, Nat.le_refl _, rfl⟩, Maps.isMap_empty, ⟨hn, ht, fun _ => zero_byte⟩, fun k => .inl ⟨rfl, fun _ _ => rfl⟩, fun k k' g h => by cases h⟩
/-- What New gives. -/
def NewTo (W : World) (n t : Nat) (e : Ending) (w' : World) : Prop := ∃ p, e = .returned (.tuple #[.pointer (some ⟨p, 0, none⟩), .int .i64 0]) ∧ MemIs W.heap.size w' p 0 ⟨n, t, fun _ => 0⟩ ∧ Below W.heap.size W w'
theorem New_no (n x : Int) (c : Bool) (e : Int) (W : World) (he : codeLim n x c 65536 = e) (hne : e ≠ 0) :
    Calls Tryd.prog 10 #[.agg #[.int .u32 n, .int .u32 x, .bool c]] W fun en w' => en = .returned (.tuple #[.pointer none, .int .i64 e]) ∧ Below W.heap.size W w' := by
  have C := hid (fun w => checkLimits_any n x c 65536 w)
  rw [he] at C
  clear he
  have hb0 := thenA (Below.refl W.heap.size W) (.cells #[.int .u32 n, .int .u32 x, .bool c] 24)
  have hne2 : (e == 0) = false := by simpa using hne
  go_enter Tryd.func10, Tryd.ntmps10
  go_wp2_with fail
  refine (C.out _).mono ?_
  rintro en w1 ⟨rfl, hb1⟩
  have hb2 := thenB hb0 hb1
  clear C hb0 hb1
  go_wp2
  go_ret2
  exact ⟨rfl, hb2⟩
theorem new_end {W w1 w2 : World} (hb : Below W.heap.size W w1) {n t : Nat} (hn : n ≤ t) (ht : t ≤ 65536)
    (hc : w2.heap[w1.heap.size + 1]? = some (.cells #[.pointer (some ⟨w1.heap.size + 1, 0, none⟩), .int .u32 n, .int .u32 t, .map (some w1.heap.size)] 47 (0, 0))) (hm : w2.heap[w1.heap.size]? = some (.map #[] 0)) (h2 : Below w1.heap.size w1 w2) :
    NewTo W n t (.returned (.tuple #[.pointer (some ⟨w1.heap.size + 1, 0, none⟩), .int .i64 0])) w2 :=
  ⟨w1.heap.size + 1, rfl, ⟨w1.heap.size, .map [], 0, Nat.le_refl _, MemAt.new (es := []) hc hm (by have := hb.size; omega) hb.size hn ht⟩, thenB hb h2⟩
theorem new_made {W w1 : World} (hb : Below W.heap.size W w1) {n t : Nat} (hn : n ≤ t) (ht : t ≤ 65536) :
    NewTo W n t (.returned (.tuple #[.pointer (some ⟨w1.heap.size + 1, 0, none⟩), .int .i64 0])) ((w1.alloc (.map #[] 0)).alloc (.cells #[.pointer (some ⟨w1.heap.size + 1, 0, none⟩), .int .u32 n, .int .u32 t, .map (some w1.heap.size)] 47)) := by
  refine new_end hb hn ht ?_ ?_ (thenA (thenA (Below.refl _ _) _) _)
  · have := (MapKept.heap_alloc (w1.alloc (.map #[] 0)) (.cells #[.pointer (some ⟨w1.heap.size + 1, 0, none⟩), .int .u32 n, .int .u32 t, .map (some w1.heap.size)] 47)).1
    rw [World.size_alloc] at this
    exact this
  · have h1 := (MapKept.heap_alloc w1 (.map #[] 0)).1
    exact ((thenA (Below.refl (w1.alloc (.map #[] 0)).heap.size (w1.alloc (.map #[] 0))) _).block _ (by simp)).trans h1
set_option maxRecDepth 100000 in
set_option maxHeartbeats 1000000 in
theorem New_false (n x : Nat) (W : World) (he : codeLim n x false 65536 = 0) :
    Calls Tryd.prog 10 #[.agg #[.int .u32 n, .int .u32 x, .bool false]] W (NewTo W n 65536) := by
  have C := hid (fun w => checkLimits_any n x false 65536 w)
  rw [he] at C
  have hn : n ≤ 65536 ∧ 65536 ≤ 65536 := by
    unfold codeLim at he
    by_cases h : okLim n x false 65536 = true
    · unfold okLim at h
      simp at h
      omega
    · rw [if_neg h] at he
      exact absurd he (by decide)
  have HN := hid hn
  clear hn he
  have hmm := @run_makeMap Tryd.prog
  go_enter Tryd.func10, Tryd.ntmps10
  go_wp2_with fail
  refine (C.out _).mono ?_
  rintro en w1 ⟨rfl, hb1⟩
  have hb2 := hid (thenB (thenA (Below.refl W.heap.size W) _) hb1)
  have k0 := keep hb1 (show (W.alloc (.cells #[.int .u32 n, .int .u32 x, .bool false] 24)).cell? ⟨W.heap.size, 0, none⟩ = some (.int .u32 n) from by go_simp)
  have k1 := keep hb1 (show (W.alloc (.cells #[.int .u32 n, .int .u32 x, .bool false] 24)).cell? ⟨W.heap.size, 1, none⟩ = some (.int .u32 x) from by go_simp)
  have k2 := keep hb1 (show (W.alloc (.cells #[.int .u32 n, .int .u32 x, .bool false] 24)).cell? ⟨W.heap.size, 2, none⟩ = some (.bool false) from by go_simp)
  have hlt : W.heap.size < w1.heap.size := by have := hb1.size; simp at this; omega
  clear C hb1
  go_wp2
  go_ret2
  exact new_made (t := 65536) hb2.out HN.out.1 HN.out.2
set_option maxRecDepth 100000 in
set_option maxHeartbeats 1000000 in
theorem New_true (n x : Nat) (W : World) (he : codeLim n x true 65536 = 0) :
    Calls Tryd.prog 10 #[.agg #[.int .u32 n, .int .u32 x, .bool true]] W (NewTo W n x) := by
  have C := hid (fun w => checkLimits_any n x true 65536 w)
  rw [he] at C
  have hn : n ≤ x ∧ x ≤ 65536 := by
    unfold codeLim at he
    by_cases h : okLim n x true 65536 = true
    · unfold okLim at h
      simp at h
      omega
    · rw [if_neg h] at he
      exact absurd he (by decide)
  have HN := hid hn
  clear hn he
  have hmm := @run_makeMap Tryd.prog
  go_enter Tryd.func10, Tryd.ntmps10
  go_wp2_with fail
  refine (C.out _).mono ?_
  rintro en w1 ⟨rfl, hb1⟩
  have hb2 := hid (thenB (thenA (Below.refl W.heap.size W) _) hb1)
  have k0 := keep hb1 (show (W.alloc (.cells #[.int .u32 n, .int .u32 x, .bool true] 24)).cell? ⟨W.heap.size, 0, none⟩ = some (.int .u32 n) from by go_simp)
  have k1 := keep hb1 (show (W.alloc (.cells #[.int .u32 n, .int .u32 x, .bool true] 24)).cell? ⟨W.heap.size, 1, none⟩ = some (.int .u32 x) from by go_simp)
  have k2 := keep hb1 (show (W.alloc (.cells #[.int .u32 n, .int .u32 x, .bool true] 24)).cell? ⟨W.heap.size, 2, none⟩ = some (.bool true) from by go_simp)
  have hlt : W.heap.size < w1.heap.size := by have := hb1.size; simp at this; omega
  clear C hb1
  go_wp2
  go_ret2
  exact new_made hb2.out HN.out.1 HN.out.2
end Go.Proofs.YtcgjlbpokmlkbaaDoor.Mem
