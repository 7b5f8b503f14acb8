/-
  BODY: the reader's unsigned and signed, by contract. (tools/gen_bodynum.py)
-/
import Derived.Test.YtlfflomeaplidaaDoorBodyByte
import Derived.Test.YtlfflomeaplidaaDoorLebCalls
import Derived.Test.YtlfflomeaplidaaDoorLebCallsS
import Derived.Deep.RegionHeld3
namespace Go.Proofs.YtlfflomeaplidaaDoor.Body
open Go.RowKit Go.Proofs.YtlfflomeaplidaaDoor.Leb
open Go.Proofs.YtlfflomeaplidaaDoor.Kind (Rd numR refuseR startR numR_good numR_bounds refuseR_good getL_next)

theorem keepN {w w' : World} {x y : Value} {k : Nat} (c0 : w.cell? ⟨k, 0, none⟩ = some x) (c1 : w.cell? ⟨k, 1, none⟩ = some y) (hb : Below w.heap.size w w') :
    Below w.heap.size w w' ∧ w'.cell? ⟨k, 0, none⟩ = some x ∧ w'.cell? ⟨k, 1, none⟩ = some y := ⟨hb, keep hb c0, keep hb c1⟩
theorem box_out {w w1 : World} {x y : Value} {k : Nat} (h : Below w.heap.size w w1 ∧ w1.cell? ⟨k, 0, none⟩ = some x ∧ w1.cell? ⟨k, 1, none⟩ = some y) : Below w.heap.size w w1 := h.1
theorem number_end {w W : World} {k : Nat} {v r : Value} {p q : Int} (h : RdIs w k v (p, 0, 0)) (hb : Below w.heap.size w W) : Does k v w r (q, 0, 0) (.returned r) (W.setCell ⟨k, 1, none⟩ (.int .i64 q)) := by
  have h1 := h.below hb
  refine ⟨rfl, ?_, (Save.of_below hb).setCell (p := ⟨k, 1, none⟩) (.inl rfl) _⟩
  refine ⟨?_, ?_, ?_, ?_, ?_, ?_, ?_, ?_⟩ <;> simp [go_sem, h1.c0, h1.c1, h1.c2, h1.c3, h1.f0, h1.f1, h1.f2, h1.f3]
theorem Does.alloc {k : Nat} {v r : Value} {w w' : World} {s : Rd} {e : Ending} (h : Does k v w r s e w') (o : Obj) : Does k v w r s e (w'.alloc o) :=
  ⟨h.1, h.2.1.below ((Below.refl _ _).alloc (Nat.le_refl _) o), h.2.2.alloc o⟩

theorem numberU_bad (k : Nat) (v : Value) (s : Rd) (w : World) (h : RdIs w k v s) (h0 : s.2.1 ≠ 0) :
    Calls Tryd.prog 132 #[.pointer (some ⟨k, 0, none⟩), .func (.func 133) #[] #[]] w (Does k v w (.int .u32 0) s) := by
  have hf := faulty_yes k v s w h h0
  go_enter Tryd.func132, Tryd.ntmps132
  go_wp2_with fail
  refine hf.mono ?_
  rintro e1 w1 ⟨rfl, rfl⟩
  clear hf
  go_wp2
  go_ret
  exact ⟨rfl, h, Save.refl _ _⟩

set_option maxHeartbeats 1600000 in
theorem numberU_ok (k : Nat) (av : Option Addr) (len cap : Nat) (p : Int) (zs : List Int) (x q e f : Int) (w : World) (h : RdIs w k (.slice av len cap) (p, 0, 0)) (hlen : zs.length = len) (hz : Bytes w av zs)
    (hG : getL false zs p = (x, q, e, f)) (he : e = 0) :
    Calls Tryd.prog 132 #[.pointer (some ⟨k, 0, none⟩), .func (.func 133) #[] #[]] w (Does k (.slice av len cap) w (.int .u32 x) (q, 0, 0)) := by
  subst he
  have hf := faulty_no k _ _ w h rfl
  have c0 := h.c0
  have c1 := h.c1
  have f1 := h.f1
  have hk : k < w.heap.size := World.block_lt_of_cell? w _ c0
  have hk' : k < w.heap.size + 1 := by omega
  simp only at c1
  have hgo : ∀ w', Below w.heap.size w w' → Calls Tryd.prog 133 #[.slice av len cap, .int .i64 p] w' (Got .u32 w' (x, q, 0, f)) := fun w' hb => hG ▸ GetU_any av len cap p zs w' hlen (hz.below hb)
  have HR := hid h
  clear h hz hlen hG
  go_enter Tryd.func132, Tryd.ntmps132
  go_wp2_with fail
  refine hf.mono ?_
  rintro e1 w1 ⟨rfl, rfl⟩
  clear hf
  go_wp2
  have hS := keepN (w := w) (w' := w.drew) c0 c1 (Below.refl _ _).drew
  go_region_held3 (fun w' => Below w.heap.size w w' ∧ w'.cell? ⟨k, 0, none⟩ = some (.slice av len cap) ∧ w'.cell? ⟨k, 1, none⟩ = some (.int .i64 p))
    (first
      | assumption
      | exact keepN c0 c1 hA2
      | exact keepN c0 c1 ((Below.refl _ _).drew.alloc (Nat.le_refl _) _)
      | exact keepN c0 c1 (thenA hA2 _)
      | exact keepN c0 c1 ((hA2.setCell (p := ⟨w.heap.size, 0, none⟩) (Nat.le_refl _) _).setCell (p := ⟨w.heap.size, 1, none⟩) (Nat.le_refl _) _))
    (first
      | (go_at_call 133; refine (hgo _ ?_).mono ?_; (exact box_out (x := .slice av len cap) (y := .int .i64 p) (k := k) (by assumption)); rintro e w2 ⟨rfl, hb2⟩; have hA2 := thenB (w := w) (box_out (x := .slice av len cap) (y := .int .i64 p) (k := k) (by assumption)) hb2; have hk2 : k < w2.heap.size := Nat.lt_of_lt_of_le hk hA2.size; have g1 : w2.frozen? ⟨k, 1, none⟩ = false := (hA2.frozen (p := ⟨k, 1, none⟩) hk).trans f1; obtain ⟨hc2, hf2⟩ := old hb2))
  all_goals go_wp2
  all_goals go_ret
  all_goals first
    | exact (number_end HR.out hA2).alloc _
    | exact number_end HR.out (box_out (x := .slice av len cap) (y := .int .i64 p) (k := k) ‹_›)

set_option maxHeartbeats 1600000 in
theorem numberU_no (k : Nat) (av : Option Addr) (len cap : Nat) (p : Int) (zs : List Int) (x q e f : Int) (w : World) (h : RdIs w k (.slice av len cap) (p, 0, 0)) (hlen : zs.length = len) (hz : Bytes w av zs)
    (hG : getL false zs p = (x, q, e, f)) (he : e ≠ 0) :
    Calls Tryd.prog 132 #[.pointer (some ⟨k, 0, none⟩), .func (.func 133) #[] #[]] w (Does k (.slice av len cap) w (.int .u32 0) (p, e, f)) := by
  have hf := faulty_no k _ _ w h rfl
  have c0 := h.c0
  have c1 := h.c1
  have hk : k < w.heap.size := World.block_lt_of_cell? w _ c0
  simp only at c1
  have hgo : ∀ w', Below w.heap.size w w' → Calls Tryd.prog 133 #[.slice av len cap, .int .i64 p] w' (Got .u32 w' (x, q, e, f)) := fun w' hb => hG ▸ GetU_any av len cap p zs w' hlen (hz.below hb)
  have HR := hid h
  have he1 : (e != 0) = true := by simp [he]
  have he2 : ¬ e = 0 := he
  clear h hz hlen hG he
  go_enter Tryd.func132, Tryd.ntmps132
  go_wp2_with fail
  refine hf.mono ?_
  rintro e1 w1 ⟨rfl, rfl⟩
  clear hf
  go_wp2
  have hS := keepN (w := w) (w' := w.drew) c0 c1 (Below.refl _ _).drew
  go_region_held3 (fun w' => Below w.heap.size w w' ∧ w'.cell? ⟨k, 0, none⟩ = some (.slice av len cap) ∧ w'.cell? ⟨k, 1, none⟩ = some (.int .i64 p))
    (first
      | assumption
      | exact keepN c0 c1 hA2
      | exact keepN c0 c1 ((Below.refl _ _).drew.alloc (Nat.le_refl _) _)
      | exact keepN c0 c1 (thenA hA2 _)
      | exact keepN c0 c1 ((hA2.setCell (p := ⟨w.heap.size, 0, none⟩) (Nat.le_refl _) _).setCell (p := ⟨w.heap.size, 1, none⟩) (Nat.le_refl _) _))
    (first
      | (go_at_call 133; refine (hgo _ ?_).mono ?_; (exact box_out (x := .slice av len cap) (y := .int .i64 p) (k := k) (by assumption)); rintro e w2 ⟨rfl, hb2⟩; have hA2 := thenB (w := w) (box_out (x := .slice av len cap) (y := .int .i64 p) (k := k) (by assumption)) hb2; obtain ⟨hc2, hf2⟩ := old hb2))
  all_goals go_wp2_with fail
  all_goals refine (refuse_any k _ _ e f _ (HR.out.below (box_out (x := .slice av len cap) (y := .int .i64 p) (k := k) (by assumption)))).mono ?_
  all_goals rintro e2 w5 ⟨rfl, h5, s5⟩
  all_goals go_wp2
  all_goals go_ret
  all_goals exact ⟨rfl, h5, (Save.of_below (box_out (x := .slice av len cap) (y := .int .i64 p) (k := k) (by assumption))).trans s5⟩

theorem unsigned_any (k : Nat) (av : Option Addr) (len cap : Nat) (zs : List Int) (s : Rd) (w : World) (h : RdIs w k (.slice av len cap) s) (hg : Kind.Good zs s) (hlen : zs.length = len) (hz : Bytes w av zs) :
    Calls Tryd.prog 127 #[.pointer (some ⟨k, 0, none⟩)] w (Does k (.slice av len cap) w (.int .u32 (numR zs s).1) (numR zs s).2) := by
  have C : Calls Tryd.prog 132 #[.pointer (some ⟨k, 0, none⟩), .func (.func 133) #[] #[]] w (Does k (.slice av len cap) w (.int .u32 (numR zs s).1) (numR zs s).2) := by
    unfold numR
    by_cases h0 : s.2.1 = 0
    · rw [if_pos h0]
      obtain ⟨p, e, f⟩ := s
      obtain ⟨g1, g2, g3⟩ := hg h0
      simp only at h0 g1 g2 g3 ⊢
      subst h0 g3
      by_cases he : (getL false zs p).2.2.1 = 0
      · rw [if_pos he]
        exact numberU_ok k av len cap p zs _ _ _ _ w h hlen hz rfl he
      · rw [if_neg he]
        exact numberU_no k av len cap p zs _ _ _ _ w h hlen hz rfl he
    · rw [if_neg h0]
      exact numberU_bad k _ s w h h0
  generalize (numR zs s).1 = r1 at *
  generalize (numR zs s).2 = r2 at *
  clear h hg hlen hz
  go_enter Tryd.func127, Tryd.ntmps127
  go_wp2_with fail
  refine C.mono ?_
  rintro e1 w1 ⟨rfl, h1, s1⟩
  clear C
  go_wp2
  go_ret
  exact ⟨rfl, h1, s1⟩

theorem numberS_bad (k : Nat) (v : Value) (s : Rd) (w : World) (h : RdIs w k v s) (h0 : s.2.1 ≠ 0) :
    Calls Tryd.prog 134 #[.pointer (some ⟨k, 0, none⟩), .func (.func 135) #[] #[]] w (Does k v w (.int .i32 0) s) := by
  have hf := faulty_yes k v s w h h0
  go_enter Tryd.func134, Tryd.ntmps134
  go_wp2_with fail
  refine hf.mono ?_
  rintro e1 w1 ⟨rfl, rfl⟩
  clear hf
  go_wp2
  go_ret
  exact ⟨rfl, h, Save.refl _ _⟩

set_option maxHeartbeats 1600000 in
theorem numberS_ok (k : Nat) (av : Option Addr) (len cap : Nat) (p : Int) (zs : List Int) (x q e f : Int) (w : World) (h : RdIs w k (.slice av len cap) (p, 0, 0)) (hlen : zs.length = len) (hz : Bytes w av zs)
    (hG : getL true zs p = (x, q, e, f)) (he : e = 0) :
    Calls Tryd.prog 134 #[.pointer (some ⟨k, 0, none⟩), .func (.func 135) #[] #[]] w (Does k (.slice av len cap) w (.int .i32 x) (q, 0, 0)) := by
  subst he
  have hf := faulty_no k _ _ w h rfl
  have c0 := h.c0
  have c1 := h.c1
  have f1 := h.f1
  have hk : k < w.heap.size := World.block_lt_of_cell? w _ c0
  have hk' : k < w.heap.size + 1 := by omega
  simp only at c1
  have hgo : ∀ w', Below w.heap.size w w' → Calls Tryd.prog 135 #[.slice av len cap, .int .i64 p] w' (Got .i32 w' (x, q, 0, f)) := fun w' hb => hG ▸ GetS_any av len cap p zs w' hlen (hz.below hb)
  have HR := hid h
  clear h hz hlen hG
  go_enter Tryd.func134, Tryd.ntmps134
  go_wp2_with fail
  refine hf.mono ?_
  rintro e1 w1 ⟨rfl, rfl⟩
  clear hf
  go_wp2
  have hS := keepN (w := w) (w' := w.drew) c0 c1 (Below.refl _ _).drew
  go_region_held3 (fun w' => Below w.heap.size w w' ∧ w'.cell? ⟨k, 0, none⟩ = some (.slice av len cap) ∧ w'.cell? ⟨k, 1, none⟩ = some (.int .i64 p))
    (first
      | assumption
      | exact keepN c0 c1 hA2
      | exact keepN c0 c1 ((Below.refl _ _).drew.alloc (Nat.le_refl _) _)
      | exact keepN c0 c1 (thenA hA2 _)
      | exact keepN c0 c1 ((hA2.setCell (p := ⟨w.heap.size, 0, none⟩) (Nat.le_refl _) _).setCell (p := ⟨w.heap.size, 1, none⟩) (Nat.le_refl _) _))
    (first
      | (go_at_call 135; refine (hgo _ ?_).mono ?_; (exact box_out (x := .slice av len cap) (y := .int .i64 p) (k := k) (by assumption)); rintro e w2 ⟨rfl, hb2⟩; have hA2 := thenB (w := w) (box_out (x := .slice av len cap) (y := .int .i64 p) (k := k) (by assumption)) hb2; have hk2 : k < w2.heap.size := Nat.lt_of_lt_of_le hk hA2.size; have g1 : w2.frozen? ⟨k, 1, none⟩ = false := (hA2.frozen (p := ⟨k, 1, none⟩) hk).trans f1; obtain ⟨hc2, hf2⟩ := old hb2))
  all_goals go_wp2
  all_goals go_ret
  all_goals first
    | exact (number_end HR.out hA2).alloc _
    | exact number_end HR.out (box_out (x := .slice av len cap) (y := .int .i64 p) (k := k) ‹_›)

set_option maxHeartbeats 1600000 in
theorem numberS_no (k : Nat) (av : Option Addr) (len cap : Nat) (p : Int) (zs : List Int) (x q e f : Int) (w : World) (h : RdIs w k (.slice av len cap) (p, 0, 0)) (hlen : zs.length = len) (hz : Bytes w av zs)
    (hG : getL true zs p = (x, q, e, f)) (he : e ≠ 0) :
    Calls Tryd.prog 134 #[.pointer (some ⟨k, 0, none⟩), .func (.func 135) #[] #[]] w (Does k (.slice av len cap) w (.int .i32 0) (p, e, f)) := by
  have hf := faulty_no k _ _ w h rfl
  have c0 := h.c0
  have c1 := h.c1
  have hk : k < w.heap.size := World.block_lt_of_cell? w _ c0
  simp only at c1
  have hgo : ∀ w', Below w.heap.size w w' → Calls Tryd.prog 135 #[.slice av len cap, .int .i64 p] w' (Got .i32 w' (x, q, e, f)) := fun w' hb => hG ▸ GetS_any av len cap p zs w' hlen (hz.below hb)
  have HR := hid h
  have he1 : (e != 0) = true := by simp [he]
  have he2 : ¬ e = 0 := he
  clear h hz hlen hG he
  go_enter Tryd.func134, Tryd.ntmps134
  go_wp2_with fail
  refine hf.mono ?_
  rintro e1 w1 ⟨rfl, rfl⟩
  clear hf
  go_wp2
  have hS := keepN (w := w) (w' := w.drew) c0 c1 (Below.refl _ _).drew
  go_region_held3 (fun w' => Below w.heap.size w w' ∧ w'.cell? ⟨k, 0, none⟩ = some (.slice av len cap) ∧ w'.cell? ⟨k, 1, none⟩ = some (.int .i64 p))
    (first
      | assumption
      | exact keepN c0 c1 hA2
      | exact keepN c0 c1 ((Below.refl _ _).drew.alloc (Nat.le_refl _) _)
      | exact keepN c0 c1 (thenA hA2 _)
      | exact keepN c0 c1 ((hA2.setCell (p := ⟨w.heap.size, 0, none⟩) (Nat.le_refl _) _).setCell (p := ⟨w.heap.size, 1, none⟩) (Nat.le_refl _) _))
    (first
      | (go_at_call 135; refine (hgo _ ?_).mono ?_; (exact box_out (x := .slice av len cap) (y := .int .i64 p) (k := k) (by assumption)); rintro e w2 ⟨rfl, hb2⟩; have hA2 := thenB (w := w) (box_out (x := .slice av len cap) (y := .int .i64 p) (k := k) (by assumption)) hb2; obtain ⟨hc2, hf2⟩ := old hb2))
  all_goals go_wp2_with fail
  all_goals refine (refuse_any k _ _ e f _ (HR.out.below (box_out (x := .slice av len cap) (y := .int .i64 p) (k := k) (by assumption)))).mono ?_
  all_goals rintro e2 w5 ⟨rfl, h5, s5⟩
  all_goals go_wp2
  all_goals go_ret
  all_goals exact ⟨rfl, h5, (Save.of_below (box_out (x := .slice av len cap) (y := .int .i64 p) (k := k) (by assumption))).trans s5⟩

theorem signed_any (k : Nat) (av : Option Addr) (len cap : Nat) (zs : List Int) (s : Rd) (w : World) (h : RdIs w k (.slice av len cap) s) (hg : Kind.Good zs s) (hlen : zs.length = len) (hz : Bytes w av zs) :
    Calls Tryd.prog 128 #[.pointer (some ⟨k, 0, none⟩)] w (Does k (.slice av len cap) w (.int .i32 (sgnR zs s).1) (sgnR zs s).2) := by
  have C : Calls Tryd.prog 134 #[.pointer (some ⟨k, 0, none⟩), .func (.func 135) #[] #[]] w (Does k (.slice av len cap) w (.int .i32 (sgnR zs s).1) (sgnR zs s).2) := by
    unfold sgnR
    by_cases h0 : s.2.1 = 0
    · rw [if_pos h0]
      obtain ⟨p, e, f⟩ := s
      obtain ⟨g1, g2, g3⟩ := hg h0
      simp only at h0 g1 g2 g3 ⊢
      subst h0 g3
      by_cases he : (getL true zs p).2.2.1 = 0
      · rw [if_pos he]
        exact numberS_ok k av len cap p zs _ _ _ _ w h hlen hz rfl he
      · rw [if_neg he]
        exact numberS_no k av len cap p zs _ _ _ _ w h hlen hz rfl he
    · rw [if_neg h0]
      exact numberS_bad k _ s w h h0
  generalize (sgnR zs s).1 = r1 at *
  generalize (sgnR zs s).2 = r2 at *
  clear h hg hlen hz
  go_enter Tryd.func128, Tryd.ntmps128
  go_wp2_with fail
  refine C.mono ?_
  rintro e1 w1 ⟨rfl, h1, s1⟩
  clear C
  go_wp2
  go_ret
  exact ⟨rfl, h1, s1⟩
end Go.Proofs.YtlfflomeaplidaaDoor.Body
