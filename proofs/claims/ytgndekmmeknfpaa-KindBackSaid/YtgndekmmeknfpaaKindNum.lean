/-
  Kind: the reader's number and words, by contract.
-/
import Derived.Test.YtgndekmmeknfpaaKindOne
import Derived.Test.YtgndekmmeknfpaaKindCheck
import Derived.Test.YtgndekmmeknfpaaLebCalls
namespace Go.Proofs.Ytgndekmmeknfpaa.Kind
open Go.RowKit Go.Proofs.Ytgndekmmeknfpaa.Leb

theorem number_bad (k : Nat) (v : Value) (s : Rd) (w : World) (h : RdIs w k v s) (h0 : s.2.1 ≠ 0) :
    Calls Try.prog 30 #[.pointer (some ⟨k, 0, none⟩)] w (Does k v w (.int .u32 0) s) := by
  have hf := faulty_yes k v s w h h0
  go_enter Try.func30, Try.ntmps30
  go_wp2_with fail
  refine hf.mono ?_
  rintro e1 w1 ⟨rfl, rfl⟩
  clear hf
  go_wp2
  go_ret
  exact ⟨rfl, h, Save.refl _ _⟩

theorem keepN {w w' : World} {x y : Value} {k : Nat} (c0 : w.cell? ⟨k, 0, none⟩ = some x) (c1 : w.cell? ⟨k, 1, none⟩ = some y) (hb : Below w.heap.size w w') :
    Below w.heap.size w w' ∧ w'.cell? ⟨k, 0, none⟩ = some x ∧ w'.cell? ⟨k, 1, none⟩ = some y := ⟨hb, keep hb c0, keep hb c1⟩

theorem number_end {w W : World} {k : Nat} {v : Value} {p x q : Int} (h : RdIs w k v (p, 0, 0)) (hb : Below w.heap.size w W) : Does k v w (.int .u32 x) (q, 0, 0) (.returned (.int .u32 x)) (W.setCell ⟨k, 1, none⟩ (.int .i64 q)) := by
  have h1 := h.below hb
  refine ⟨rfl, ?_, (Save.of_below hb).setCell (p := ⟨k, 1, none⟩) (.inl rfl) _⟩
  refine ⟨?_, ?_, ?_, ?_, ?_, ?_, ?_, ?_⟩ <;> simp [go_sem, h1.c0, h1.c1, h1.c2, h1.c3, h1.f0, h1.f1, h1.f2, h1.f3]

theorem Does.alloc {k : Nat} {v r : Value} {w w' : World} {s : Rd} {e : Ending} (h : Does k v w r s e w') (o : Obj) : Does k v w r s e (w'.alloc o) :=
  ⟨h.1, h.2.1.below ((Below.refl _ _).alloc (Nat.le_refl _) o), h.2.2.alloc o⟩

set_option maxHeartbeats 1600000 in
theorem number_ok (k : Nat) (av : Option Addr) (len cap : Nat) (p : Int) (zs : List Int) (x q e f : Int) (w : World) (h : RdIs w k (.slice av len cap) (p, 0, 0)) (hlen : zs.length = len) (hz : Bytes w av zs)
    (hG : getL false zs p = (x, q, e, f)) (he : e = 0) :
    Calls Try.prog 30 #[.pointer (some ⟨k, 0, none⟩)] w (Does k (.slice av len cap) w (.int .u32 x) (q, 0, 0)) := by
  subst he
  have hf := faulty_no k _ _ w h rfl
  have c0 := h.c0
  have c1 := h.c1
  have f1 := h.f1
  have hk : k < w.heap.size := World.block_lt_of_cell? w _ c0
  have hk' : k < w.heap.size + 1 := by omega
  simp only at c1
  have hgo : ∀ w', Below w.heap.size w w' → Calls Try.prog 38 #[.slice av len cap, .int .i64 p] w' (Got .u32 w' (x, q, 0, f)) := fun w' hb => hG ▸ GetU_any av len cap p zs w' hlen (hz.below hb)
  have HR := hid h
  clear h hz hlen hG
  go_enter Try.func30, Try.ntmps30
  go_wp2_with fail
  refine hf.mono ?_
  rintro e1 w1 ⟨rfl, rfl⟩
  clear hf
  go_wp2
  have hS := keepN (w := w) (w' := w.drew) c0 c1 (Below.refl _ _).drew
  go_region_held3 (fun w' => Below w.heap.size w w' ∧ w'.cell? ⟨k, 0, none⟩ = some (.slice av len cap) ∧ w'.cell? ⟨k, 1, none⟩ = some (.int .i64 p))
    (first
      | assumption
      | exact keepN c0 c1 hA2
      | exact keepN c0 c1 ((Below.refl _ _).drew.alloc (Nat.le_refl _) _)
      | exact keepN c0 c1 (thenA hA2 _)
      | exact keepN c0 c1 ((hA2.setCell (p := ⟨w.heap.size, 0, none⟩) (Nat.le_refl _) _).setCell (p := ⟨w.heap.size, 1, none⟩) (Nat.le_refl _) _))
    (first
      | (go_at_call 38; refine (hgo _ ?_).mono ?_; (exact box_out (x := .slice av len cap) (y := .int .i64 p) (k := k) (by assumption)); rintro e w2 ⟨rfl, hb2⟩; have hA2 := thenB (w := w) (box_out (x := .slice av len cap) (y := .int .i64 p) (k := k) (by assumption)) hb2; have hk2 : k < w2.heap.size := Nat.lt_of_lt_of_le hk hA2.size; have g1 : w2.frozen? ⟨k, 1, none⟩ = false := (hA2.frozen (p := ⟨k, 1, none⟩) hk).trans f1; obtain ⟨hc2, hf2⟩ := old hb2))
  all_goals go_wp2
  all_goals go_ret
  all_goals first
    | exact (number_end HR.out hA2).alloc _
    | exact number_end HR.out (box_out (x := .slice av len cap) (y := .int .i64 p) (k := k) ‹_›)

set_option maxHeartbeats 1600000 in
theorem number_no (k : Nat) (av : Option Addr) (len cap : Nat) (p : Int) (zs : List Int) (x q e f : Int) (w : World) (h : RdIs w k (.slice av len cap) (p, 0, 0)) (hlen : zs.length = len) (hz : Bytes w av zs)
    (hG : getL false zs p = (x, q, e, f)) (he : e ≠ 0) :
    Calls Try.prog 30 #[.pointer (some ⟨k, 0, none⟩)] w (Does k (.slice av len cap) w (.int .u32 0) (p, e, f)) := by
  have hf := faulty_no k _ _ w h rfl
  have c0 := h.c0
  have c1 := h.c1
  have hk : k < w.heap.size := World.block_lt_of_cell? w _ c0
  simp only at c1
  have hgo : ∀ w', Below w.heap.size w w' → Calls Try.prog 38 #[.slice av len cap, .int .i64 p] w' (Got .u32 w' (x, q, e, f)) := fun w' hb => hG ▸ GetU_any av len cap p zs w' hlen (hz.below hb)
  have HR := hid h
  have he1 : (e != 0) = true := by simp [he]
  have he2 : ¬ e = 0 := he
  clear h hz hlen hG he
  go_enter Try.func30, Try.ntmps30
  go_wp2_with fail
  refine hf.mono ?_
  rintro e1 w1 ⟨rfl, rfl⟩
  clear hf
  go_wp2
  have hS := keepN (w := w) (w' := w.drew) c0 c1 (Below.refl _ _).drew
  go_region_held3 (fun w' => Below w.heap.size w w' ∧ w'.cell? ⟨k, 0, none⟩ = some (.slice av len cap) ∧ w'.cell? ⟨k, 1, none⟩ = some (.int .i64 p))
    (first
      | assumption
      | exact keepN c0 c1 hA2
      | exact keepN c0 c1 ((Below.refl _ _).drew.alloc (Nat.le_refl _) _)
      | exact keepN c0 c1 (thenA hA2 _)
      | exact keepN c0 c1 ((hA2.setCell (p := ⟨w.heap.size, 0, none⟩) (Nat.le_refl _) _).setCell (p := ⟨w.heap.size, 1, none⟩) (Nat.le_refl _) _))
    (first
      | (go_at_call 38; refine (hgo _ ?_).mono ?_; (exact box_out (x := .slice av len cap) (y := .int .i64 p) (k := k) (by assumption)); rintro e w2 ⟨rfl, hb2⟩; have hA2 := thenB (w := w) (box_out (x := .slice av len cap) (y := .int .i64 p) (k := k) (by assumption)) hb2; obtain ⟨hc2, hf2⟩ := old hb2))
  all_goals go_wp2_with fail
  all_goals refine (refuse_any k _ _ e f _ (HR.out.below (box_out (x := .slice av len cap) (y := .int .i64 p) (k := k) (by assumption)))).mono ?_
  all_goals rintro e2 w5 ⟨rfl, h5, s5⟩
  all_goals go_wp2
  all_goals go_ret
  all_goals exact ⟨rfl, h5, (Save.of_below (box_out (x := .slice av len cap) (y := .int .i64 p) (k := k) (by assumption))).trans s5⟩
end Go.Proofs.Ytgndekmmeknfpaa.Kind
