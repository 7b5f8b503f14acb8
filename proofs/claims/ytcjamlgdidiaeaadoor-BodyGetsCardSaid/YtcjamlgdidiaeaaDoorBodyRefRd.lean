import Derived.Test.YtcjamlgdidiaeaaDoorBodyNum
import Derived.Test.YtcjamlgdidiaeaaDoorLebRefParts
/-
  BODY: the document's own reader, by contract: a byte; bad, fault, next, is.
-/
namespace Go.Proofs.YtcjamlgdidiaeaaDoor.Body
open Go.RowKit
open Go.Proofs.YtcjamlgdidiaeaaDoor.Kind (Rd numR refuseR startR numR_good numR_bounds refuseR_good getL_next)

/-- The document's own reader in block k: over the bytes of v, in the state s, behind n instructions. -/
structure RcIs (w : World) (k : Nat) (v : Value) (s : Rd) (n : Int) : Prop extends RdIs w k v s where
  c4 : w.cell? ⟨k, 4, none⟩ = some (.int .i64 n)
  f4 : w.frozen? ⟨k, 4, none⟩ = false
theorem RcIs.below {w w' : World} {k : Nat} {v : Value} {s : Rd} {n : Int} (h : RcIs w k v s n) (hb : Below w.heap.size w w') : RcIs w' k v s n :=
  ⟨h.toRdIs.below hb, keep hb h.c4, (hb.frozen (p := ⟨k, 4, none⟩) (World.block_lt_of_cell? w _ h.c4)).trans h.f4⟩
theorem RcIs.save {w w' : World} {k j : Nat} {v : Value} {s : Rd} {n : Int} (h : RcIs w k v s n) (hb : Save j w w') (hj : k ≠ j) : RcIs w' k v s n :=
  ⟨h.toRdIs.save hb hj, hb.cell hj h.c4, hb.frozen (World.block_lt_of_cell? w _ h.c4) hj h.f4⟩
/-- The fault is set. -/
theorem RcIs.fail {w : World} {k : Nat} {v : Value} {s : Rd} {n : Int} (h : RcIs w k v s n) (e f : Int) : RcIs ((w.setCell ⟨k, 2, none⟩ (.int .i64 e)).setCell ⟨k, 3, none⟩ (.int .i64 f)) k v (s.1, e, f) n := by
  refine ⟨⟨?_, ?_, ?_, ?_, ?_, ?_, ?_, ?_⟩, ?_, ?_⟩ <;> simp [go_sem, h.c0, h.c1, h.c2, h.c3, h.c4, h.f0, h.f1, h.f2, h.f3, h.f4]
/-- The place is set. -/
theorem RcIs.go {w : World} {k : Nat} {v : Value} {s : Rd} {n : Int} (h : RcIs w k v s n) (q : Int) : RcIs (w.setCell ⟨k, 1, none⟩ (.int .i64 q)) k v (q, s.2.1, s.2.2) n := by
  refine ⟨⟨?_, ?_, ?_, ?_, ?_, ?_, ?_, ?_⟩, ?_, ?_⟩ <;> simp [go_sem, h.c0, h.c1, h.c2, h.c3, h.c4, h.f0, h.f1, h.f2, h.f3, h.f4]
/-- One more. -/
theorem RcIs.count {w : World} {k : Nat} {v : Value} {s : Rd} {n : Int} (h : RcIs w k v s n) (m : Int) : RcIs (w.setCell ⟨k, 4, none⟩ (.int .i64 m)) k v s m := by
  refine ⟨⟨?_, ?_, ?_, ?_, ?_, ?_, ?_, ?_⟩, ?_, ?_⟩ <;> simp [go_sem, h.c0, h.c1, h.c2, h.c3, h.c4, h.f0, h.f1, h.f2, h.f3, h.f4]
theorem fail_save (w : World) (k : Nat) (u v : Value) : Save k w ((w.setCell ⟨k, 2, none⟩ u).setCell ⟨k, 3, none⟩ v) := ((Save.refl k w).setCell (p := ⟨k, 2, none⟩) (.inl rfl) _).setCell (p := ⟨k, 3, none⟩) (.inl rfl) _

/-- What a method does: this it hands back, in this state it leaves the reader; nothing else turns. -/
def Doc (k : Nat) (v : Value) (w : World) (n : Int) (r : Value) (s : Rd) (e : Ending) (w' : World) : Prop := e = .returned r ∧ RcIs w' k v s n ∧ Save k w w'

theorem bad_no (k : Nat) (v : Value) (s : Rd) (n : Int) (w : World) (h : RcIs w k v s n) (h0 : s.2.1 = 0) :
    Calls Tryd.prog 38 #[.pointer (some ⟨k, 0, none⟩)] w fun e w' => e = .returned (.bool false) ∧ w = w' := by
  have c2 := h.c2
  rw [h0] at c2
  clear h h0
  go_enter Tryd.func38, Tryd.ntmps38
  go_wp2
  go_ret
  exact ⟨rfl, rfl⟩
theorem bad_yes (k : Nat) (v : Value) (s : Rd) (n : Int) (w : World) (h : RcIs w k v s n) (h0 : s.2.1 ≠ 0) :
    Calls Tryd.prog 38 #[.pointer (some ⟨k, 0, none⟩)] w fun e w' => e = .returned (.bool true) ∧ w = w' := by
  have c2 := h.c2
  have hn : ¬ s.2.1 = 0 := h0
  have hb : (s.2.1 != 0) = true := by simp [h0]
  generalize s.2.1 = er at *
  clear h h0
  go_enter Tryd.func38, Tryd.ntmps38
  go_wp2
  go_ret
  exact ⟨ret_bool (by first | rfl | simpa using hn), rfl⟩
theorem bad_any (k : Nat) (v : Value) (s : Rd) (n : Int) (w : World) (h : RcIs w k v s n) :
    Calls Tryd.prog 38 #[.pointer (some ⟨k, 0, none⟩)] w fun e w' => e = .returned (.bool (decide (s.2.1 ≠ 0))) ∧ w = w' := by
  by_cases h0 : s.2.1 = 0
  · rw [show decide (s.2.1 ≠ 0) = false by simp [h0]]
    exact bad_no k v s n w h h0
  · rw [show decide (s.2.1 ≠ 0) = true by simp [h0]]
    exact bad_yes k v s n w h h0

theorem fault_any (k : Nat) (v : Value) (s : Rd) (n e f : Int) (w : World) (h : RcIs w k v s n) :
    Calls Tryd.prog 41 #[.pointer (some ⟨k, 0, none⟩), .int .i64 e, .int .i64 f] w (Doc k v w n (.tuple #[]) (refuseR s e f)) := by
  have h2 := h.f2
  have h3 := h.f3
  have k2 := h.c2
  have k3 := h.c3
  by_cases h0 : s.2.1 = 0
  · have hf := bad_no k v s n w h h0
    have HE : Hid (refuseR s e f = (s.1, e, f)) := by unfold refuseR; rw [if_pos h0]; rfl
    have H0 := hid h0
    clear h0
    go_enter Tryd.func41, Tryd.ntmps41
    go_wp2_with fail
    refine hf.mono ?_
    rintro e1 w1 ⟨rfl, rfl⟩
    clear hf
    go_wp2
    go_end0
    refine ⟨rfl, ?_, fail_save _ _ _ _⟩
    rw [HE.out]
    exact h.fail e f
  · have hf := bad_yes k v s n w h h0
    have HE : Hid (refuseR s e f = s) := by unfold refuseR; rw [if_neg h0]; rfl
    clear h0 h2 h3 k2 k3
    go_enter Tryd.func41, Tryd.ntmps41
    go_wp2_with fail
    refine hf.mono ?_
    rintro e1 w1 ⟨rfl, rfl⟩
    clear hf
    go_wp2
    go_end0
    exact ⟨rfl, by rw [HE.out]; exact h, Save.refl _ _⟩

/-- The document's own Byte, at a place of the bytes or their end. -/
def byteB (zs : List Int) (p : Int) : Int × Int × Int × Int := if p = zs.length then (0, 0, 4, p) else (zs.getD p.toNat 0, p + 1, 0, 0)
def GotByte (w : World) (r : Int × Int × Int × Int) (e : Ending) (w' : World) : Prop :=
  e = .returned (.tuple #[.int .u8 r.1, .int .i64 r.2.1, .agg #[.int .i64 r.2.2.1, .int .i64 r.2.2.2]]) ∧ Below w.heap.size w w'
set_option maxHeartbeats 1600000 in
theorem refByte_any (av : Option Addr) (len cap i : Nat) (zs : List Int) (w : World) (hlen : zs.length = len) (hz : Bytes w av zs) (hi : i ≤ len) :
    Calls Tryd.prog 85 #[.slice av len cap, .int .i64 i] w (GotByte w (byteB zs i)) := by
  have hmax := hz.size
  rw [hlen] at hmax
  by_cases he : i = len
  · have HF : Hid (byteB zs i = (0, 0, 4, (i : Int))) := by show _ = _; unfold byteB; rw [if_pos (by omega)]
    subst he
    clear hlen hz
    go_enter Tryd.func85, Tryd.ntmps85
    go_wp2
    refine bodyPost_ret (v := .tuple #[.int .u8 0, .int .i64 0, .agg #[.int .i64 4, .int .i64 i]]) (by simp [results, Tryd.results85, go_sem]) rfl ⟨by rw [HF.out], ?_⟩
    exact (Below.refl _ _).alloc (Nat.le_refl _) _
  · have HF : Hid (byteB zs i = (zs.getD i 0, (i : Int) + 1, 0, 0)) := by show _ = _; unfold byteB; rw [if_neg (by omega), Int.toNat_natCast]
    have hil : i < zs.length := by omega
    obtain ⟨b, off, rfl, hcell⟩ := (hz.alloc (.cells #[.int .i64 0, .int .i64 0] 38)).at (by omega)
    have hc := hcell i hil
    generalize zs.getD i 0 = y at *
    have hlt : (i : Int) < (len : Int) := by omega
    clear hcell hlen hz hil
    go_enter Tryd.func85, Tryd.ntmps85
    go_wp2
    refine bodyPost_ret (v := .tuple #[.int .u8 y, .int .i64 ((i : Int) + 1), .agg #[.int .i64 0, .int .i64 0]]) (by simp [results, Tryd.results85, go_sem]) rfl ⟨by rw [HF.out], ?_⟩
    first | exact (Below.refl _ _).alloc (Nat.le_refl _) _ | (have hA := (Below.refl w.heap.size w).alloc (Nat.le_refl _) (.cells #[.int .i64 0, .int .i64 0] 38); exact (hA.setCell (Nat.le_refl _) _).setCell (Nat.le_refl _) _)
end Go.Proofs.YtcjamlgdidiaeaaDoor.Body

/-
  BODY: the document's own reader's next, number, signed, is, by contract. (tools/gen_bodyrefn.py)
-/
namespace Go.Proofs.YtcjamlgdidiaeaaDoor.Body
open Go.RowKit Go.Proofs.YtcjamlgdidiaeaaDoor.Leb
open Go.Proofs.YtcjamlgdidiaeaaDoor.Kind (Rd numR refuseR startR numR_good numR_bounds refuseR_good getL_next)

/-- What a region that asks the bytes leaves: all that was there, and the reader's two cells. -/
def Asks (w : World) (k : Nat) (v : Value) (p : Int) (w' : World) : Prop := Below w.heap.size w w' ∧ w'.cell? ⟨k, 0, none⟩ = some v ∧ w'.cell? ⟨k, 1, none⟩ = some (.int .i64 p)
theorem RcIs.told {w W : World} {k : Nat} {v : Value} {p n : Int} (h : RcIs w k v (p, 0, 0) n) (hb : Below w.heap.size w W) (e f : Int) : RcIs ((W.setCell ⟨k, 2, none⟩ (.int .i64 e)).setCell ⟨k, 3, none⟩ (.int .i64 f)) k v (p, e, f) n := (h.below hb).fail e f
theorem rc_a {w w2 : World} {k : Nat} {v : Value} {p n : Int} (h : RcIs w k v (p, 0, 0) n) (hb : Below w.heap.size w w2) (e f : Int) (o : Obj) :
    RcIs (((w2.setCell ⟨k, 2, none⟩ (.int .i64 e)).setCell ⟨k, 3, none⟩ (.int .i64 f)).alloc o) k v (p, e, f) n ∧ Save k w (((w2.setCell ⟨k, 2, none⟩ (.int .i64 e)).setCell ⟨k, 3, none⟩ (.int .i64 f)).alloc o) :=
  ⟨((h.below hb).fail e f).below ((Below.refl _ _).alloc (Nat.le_refl _) o), ((Save.of_below hb).trans (fail_save _ _ _ _)).alloc o⟩
theorem rc_b {w w2 : World} {k : Nat} {v : Value} {p n : Int} (h : RcIs w k v (p, 0, 0) n) (hb : Below w.heap.size w w2) (e f : Int) (x y : Value) :
    RcIs ((((w2.setCell ⟨w.heap.size, 0, none⟩ x).setCell ⟨w.heap.size, 1, none⟩ y).setCell ⟨k, 2, none⟩ (.int .i64 e)).setCell ⟨k, 3, none⟩ (.int .i64 f)) k v (p, e, f) n ∧
      Save k w ((((w2.setCell ⟨w.heap.size, 0, none⟩ x).setCell ⟨w.heap.size, 1, none⟩ y).setCell ⟨k, 2, none⟩ (.int .i64 e)).setCell ⟨k, 3, none⟩ (.int .i64 f)) := by
  have hb' : Below w.heap.size w ((w2.setCell ⟨w.heap.size, 0, none⟩ x).setCell ⟨w.heap.size, 1, none⟩ y) := (hb.setCell (p := ⟨w.heap.size, 0, none⟩) (Nat.le_refl _) _).setCell (p := ⟨w.heap.size, 1, none⟩) (Nat.le_refl _) _
  exact ⟨(h.below hb').fail e f, (Save.of_below hb').trans (fail_save _ _ _ _)⟩
theorem Save.at1 {k : Nat} {w w' : World} (h : Save k w w') (u : Value) : Save k w (w'.setCell ⟨k, 1, none⟩ u) := h.setCell (p := ⟨k, 1, none⟩) (.inl rfl) u
theorem rc_c {w w2 : World} {k : Nat} {v : Value} {p n : Int} (h : RcIs w k v (p, 0, 0) n) (hb : Below w.heap.size w w2) {r : Value} (q f : Int) (o : Obj) :
    Doc k v w n r (q, 0, f) (.returned r) ((((w2.setCell ⟨k, 2, none⟩ (.int .i64 0)).setCell ⟨k, 3, none⟩ (.int .i64 f)).setCell ⟨k, 1, none⟩ (.int .i64 q)).alloc o) :=
  ⟨rfl, (((h.below hb).fail 0 f).go q).below ((Below.refl _ _).alloc (Nat.le_refl _) o), (Save.at1 ((Save.of_below hb).trans (fail_save _ _ _ _)) _).alloc o⟩
theorem told_save {w W : World} {k : Nat} (hb : Below w.heap.size w W) (u v : Value) : Save k w ((W.setCell ⟨k, 2, none⟩ u).setCell ⟨k, 3, none⟩ v) := (Save.of_below hb).trans (fail_save _ _ _ _)

theorem next_bad (k : Nat) (v : Value) (s : Rd) (n : Int) (w : World) (h : RcIs w k v s n) (h0 : s.2.1 ≠ 0) :
    Calls Tryd.prog 60 #[.pointer (some ⟨k, 0, none⟩)] w (Doc k v w n (.int .u8 0) s) := by
  have hf := bad_yes k v s n w h h0
  go_enter Tryd.func60, Tryd.ntmps60
  go_wp2_with fail
  refine hf.mono ?_
  rintro e1 w1 ⟨rfl, rfl⟩
  clear hf
  go_wp2
  go_ret
  exact ⟨rfl, h, Save.refl _ _⟩

set_option maxHeartbeats 1600000 in
theorem next_ok (k : Nat) (av : Option Addr) (len cap : Nat) (p n x q e f : Int) (w : World) (h : RcIs w k (.slice av len cap) (p, 0, 0) n) (he : e = 0)
    (hgo : ∀ w', Below w.heap.size w w' → Calls Tryd.prog 85 #[.slice av len cap, .int .i64 p] w' (Got .u8 w' (x, q, e, f))) :
    Calls Tryd.prog 60 #[.pointer (some ⟨k, 0, none⟩)] w (Doc k (.slice av len cap) w n (.int .u8 x) (q, 0, f)) := by
  have hf := bad_no k _ _ _ w h rfl
  have c0 := h.c0
  have c1 := h.c1
  have hk : k < w.heap.size := World.block_lt_of_cell? w _ c0
  simp only at c1
  have HR := hid h
  subst he
  clear h
  have F1 := hid (HR.out.f1)
  have F2 := hid (HR.out.f2)
  have F3 := hid (HR.out.f3)
  go_enter Tryd.func60, Tryd.ntmps60
  go_wp2_with fail
  refine hf.mono ?_
  rintro e1 w1 ⟨rfl, rfl⟩
  clear hf
  go_wp2
  have hS := keepN (w := w) (w' := w.drew) c0 c1 (Below.refl _ _).drew
  go_region_held3 (fun w' => Below w.heap.size w w' ∧ w'.cell? ⟨k, 0, none⟩ = some (.slice av len cap) ∧ w'.cell? ⟨k, 1, none⟩ = some (.int .i64 p))
    (first
      | assumption
      | exact keepN c0 c1 hA2
      | exact keepN c0 c1 ((Below.refl _ _).drew.alloc (Nat.le_refl _) _)
      | exact keepN c0 c1 (thenA hA2 _)
      | exact keepN c0 c1 ((hA2.setCell (p := ⟨w.heap.size, 0, none⟩) (Nat.le_refl _) _).setCell (p := ⟨w.heap.size, 1, none⟩) (Nat.le_refl _) _))
    (first
      | (go_at_call 85; refine (hgo _ ?_).mono ?_; (exact box_out (x := .slice av len cap) (y := .int .i64 p) (k := k) (by assumption)); rintro e w2 ⟨rfl, hb2⟩; have hA2 := thenB (w := w) (box_out (x := .slice av len cap) (y := .int .i64 p) (k := k) (by assumption)) hb2; have hk2 : k < w2.heap.size := Nat.lt_of_lt_of_le hk hA2.size; have g2 : w2.frozen? ⟨k, 2, none⟩ = false := (hA2.frozen (p := ⟨k, 2, none⟩) hk).trans F2.out; have g3 : w2.frozen? ⟨k, 3, none⟩ = false := (hA2.frozen (p := ⟨k, 3, none⟩) hk).trans F3.out; have k2 := keep hA2 HR.out.c2; have k3 := keep hA2 HR.out.c3; have k1 := keep hA2 HR.out.c1; simp only at k1 k2 k3; have g1 : w2.frozen? ⟨k, 1, none⟩ = false := (hA2.frozen (p := ⟨k, 1, none⟩) hk).trans F1.out; obtain ⟨hc2, hf2⟩ := old hb2))
  all_goals go_wp2_with fail
  · refine (bad_no k _ _ n _ (rc_a HR.out hA2 0 f _).1 rfl).mono ?_
    rintro e1 w5 ⟨rfl, rfl⟩
    go_wp2
    go_ret
    first | exact ⟨rfl, (rc_a HR.out hA2 0 f _).1.go q, Save.at1 (rc_a HR.out hA2 0 f _).2 _⟩ | exact rc_c HR.out hA2 q f _
  · refine (bad_no k _ _ n _ (rc_b HR.out hA2 0 f _ _).1 rfl).mono ?_
    rintro e1 w5 ⟨rfl, rfl⟩
    go_wp2
    go_ret
    exact ⟨rfl, (rc_b HR.out hA2 0 f _ _).1.go q, Save.at1 (rc_b HR.out hA2 0 f _ _).2 _⟩

set_option maxHeartbeats 1600000 in
theorem next_no (k : Nat) (av : Option Addr) (len cap : Nat) (p n x q e f : Int) (w : World) (h : RcIs w k (.slice av len cap) (p, 0, 0) n) (he : e ≠ 0)
    (hgo : ∀ w', Below w.heap.size w w' → Calls Tryd.prog 85 #[.slice av len cap, .int .i64 p] w' (Got .u8 w' (x, q, e, f))) :
    Calls Tryd.prog 60 #[.pointer (some ⟨k, 0, none⟩)] w (Doc k (.slice av len cap) w n (.int .u8 0) (p, e, f)) := by
  have hf := bad_no k _ _ _ w h rfl
  have c0 := h.c0
  have c1 := h.c1
  have hk : k < w.heap.size := World.block_lt_of_cell? w _ c0
  simp only at c1
  have HR := hid h
  have HE := hid he
  clear he
  clear h
  have F1 := hid (HR.out.f1)
  have F2 := hid (HR.out.f2)
  have F3 := hid (HR.out.f3)
  go_enter Tryd.func60, Tryd.ntmps60
  go_wp2_with fail
  refine hf.mono ?_
  rintro e1 w1 ⟨rfl, rfl⟩
  clear hf
  go_wp2
  have hS := keepN (w := w) (w' := w.drew) c0 c1 (Below.refl _ _).drew
  go_region_held3 (fun w' => Below w.heap.size w w' ∧ w'.cell? ⟨k, 0, none⟩ = some (.slice av len cap) ∧ w'.cell? ⟨k, 1, none⟩ = some (.int .i64 p))
    (first
      | assumption
      | exact keepN c0 c1 hA2
      | exact keepN c0 c1 ((Below.refl _ _).drew.alloc (Nat.le_refl _) _)
      | exact keepN c0 c1 (thenA hA2 _)
      | exact keepN c0 c1 ((hA2.setCell (p := ⟨w.heap.size, 0, none⟩) (Nat.le_refl _) _).setCell (p := ⟨w.heap.size, 1, none⟩) (Nat.le_refl _) _))
    (first
      | (go_at_call 85; refine (hgo _ ?_).mono ?_; (exact box_out (x := .slice av len cap) (y := .int .i64 p) (k := k) (by assumption)); rintro e w2 ⟨rfl, hb2⟩; have hA2 := thenB (w := w) (box_out (x := .slice av len cap) (y := .int .i64 p) (k := k) (by assumption)) hb2; have hk2 : k < w2.heap.size := Nat.lt_of_lt_of_le hk hA2.size; have g2 : w2.frozen? ⟨k, 2, none⟩ = false := (hA2.frozen (p := ⟨k, 2, none⟩) hk).trans F2.out; have g3 : w2.frozen? ⟨k, 3, none⟩ = false := (hA2.frozen (p := ⟨k, 3, none⟩) hk).trans F3.out; have k2 := keep hA2 HR.out.c2; have k3 := keep hA2 HR.out.c3; have k1 := keep hA2 HR.out.c1; simp only at k1 k2 k3; have g1 : w2.frozen? ⟨k, 1, none⟩ = false := (hA2.frozen (p := ⟨k, 1, none⟩) hk).trans F1.out; obtain ⟨hc2, hf2⟩ := old hb2))
  all_goals go_wp2_with fail
  · refine (bad_yes k _ _ n _ (rc_a HR.out hA2 e f _).1 HE.out).mono ?_
    rintro e1 w5 ⟨rfl, rfl⟩
    go_wp2
    go_ret
    exact ⟨rfl, rc_a HR.out hA2 e f _⟩
  · refine (bad_yes k _ _ n _ (rc_b HR.out hA2 e f _ _).1 HE.out).mono ?_
    rintro e1 w5 ⟨rfl, rfl⟩
    go_wp2
    go_ret
    exact ⟨rfl, rc_b HR.out hA2 e f _ _⟩

theorem nextC_any (k : Nat) (av : Option Addr) (len cap : Nat) (zs : List Int) (s : Rd) (n : Int) (w : World) (h : RcIs w k (.slice av len cap) s n) (hg : Kind.Good zs s) (hlen : zs.length = len) (hz : Bytes w av zs) :
    Calls Tryd.prog 60 #[.pointer (some ⟨k, 0, none⟩)] w (Doc k (.slice av len cap) w n (.int .u8 (byteR zs s).1) (byteR zs s).2) := by
  by_cases h0 : s.2.1 = 0
  · obtain ⟨p, e, f⟩ := s
    obtain ⟨g1, g2, g3⟩ := hg h0
    simp only at h0 g1 g2 g3
    subst h0 g3
    obtain ⟨i, rfl⟩ := Int.eq_ofNat_of_zero_le g1
    have hgo : ∀ w', Below w.heap.size w w' → Calls Tryd.prog 85 #[.slice av len cap, .int .i64 i] w' (Got .u8 w' (byteB zs i)) := fun w' hb => refByte_any av len cap i zs w' hlen (hz.below hb) (by omega)
    by_cases hi : (i : Int) = zs.length
    · have hb : byteB zs i = (0, 0, 4, (i : Int)) := by unfold byteB; rw [if_pos hi]
      have hr : byteR zs ((i : Int), 0, 0) = (0, (i : Int), 4, (i : Int)) := by unfold byteR; rw [if_pos rfl, if_pos hi]
      rw [hb] at hgo
      rw [hr]
      exact next_no k av len cap i n 0 0 4 i w h (by decide) hgo
    · have hb : byteB zs i = (zs.getD i 0, (i : Int) + 1, 0, 0) := by unfold byteB; rw [if_neg hi, Int.toNat_natCast]
      have hr : byteR zs ((i : Int), 0, 0) = (zs.getD i 0, (i : Int) + 1, 0, 0) := by unfold byteR; rw [if_pos rfl, if_neg hi, Int.toNat_natCast]
      rw [hb] at hgo
      rw [hr]
      exact next_ok k av len cap i n (zs.getD i 0) ((i : Int) + 1) 0 0 w h rfl hgo
  · have hr : byteR zs s = (0, s) := by unfold byteR; rw [if_neg h0]
    rw [hr]
    exact next_bad k _ s n w h h0

theorem number_bad (k : Nat) (v : Value) (s : Rd) (n : Int) (w : World) (h : RcIs w k v s n) (h0 : s.2.1 ≠ 0) :
    Calls Tryd.prog 40 #[.pointer (some ⟨k, 0, none⟩)] w (Doc k v w n (.int .u32 0) s) := by
  have hf := bad_yes k v s n w h h0
  go_enter Tryd.func40, Tryd.ntmps40
  go_wp2_with fail
  refine hf.mono ?_
  rintro e1 w1 ⟨rfl, rfl⟩
  clear hf
  go_wp2
  go_ret
  exact ⟨rfl, h, Save.refl _ _⟩

set_option maxHeartbeats 1600000 in
theorem number_ok (k : Nat) (av : Option Addr) (len cap : Nat) (p n x q e f : Int) (w : World) (h : RcIs w k (.slice av len cap) (p, 0, 0) n) (he : e = 0)
    (hgo : ∀ w', Below w.heap.size w w' → Calls Tryd.prog 65 #[.slice av len cap, .int .i64 p] w' (Got .u32 w' (x, q, e, f))) :
    Calls Tryd.prog 40 #[.pointer (some ⟨k, 0, none⟩)] w (Doc k (.slice av len cap) w n (.int .u32 x) (q, 0, f)) := by
  have hf := bad_no k _ _ _ w h rfl
  have c0 := h.c0
  have c1 := h.c1
  have hk : k < w.heap.size := World.block_lt_of_cell? w _ c0
  simp only at c1
  have HR := hid h
  subst he
  clear h
  have F1 := hid (HR.out.f1)
  have F2 := hid (HR.out.f2)
  have F3 := hid (HR.out.f3)
  go_enter Tryd.func40, Tryd.ntmps40
  go_wp2_with fail
  refine hf.mono ?_
  rintro e1 w1 ⟨rfl, rfl⟩
  clear hf
  go_wp2
  have hS := keepN (w := w) (w' := w.drew) c0 c1 (Below.refl _ _).drew
  go_region_held3 (fun w' => Below w.heap.size w w' ∧ w'.cell? ⟨k, 0, none⟩ = some (.slice av len cap) ∧ w'.cell? ⟨k, 1, none⟩ = some (.int .i64 p))
    (first
      | assumption
      | exact keepN c0 c1 hA2
      | exact keepN c0 c1 ((Below.refl _ _).drew.alloc (Nat.le_refl _) _)
      | exact keepN c0 c1 (thenA hA2 _)
      | exact keepN c0 c1 ((hA2.setCell (p := ⟨w.heap.size, 0, none⟩) (Nat.le_refl _) _).setCell (p := ⟨w.heap.size, 1, none⟩) (Nat.le_refl _) _))
    (first
      | (go_at_call 65; refine (hgo _ ?_).mono ?_; (exact box_out (x := .slice av len cap) (y := .int .i64 p) (k := k) (by assumption)); rintro e w2 ⟨rfl, hb2⟩; have hA2 := thenB (w := w) (box_out (x := .slice av len cap) (y := .int .i64 p) (k := k) (by assumption)) hb2; have hk2 : k < w2.heap.size := Nat.lt_of_lt_of_le hk hA2.size; have g2 : w2.frozen? ⟨k, 2, none⟩ = false := (hA2.frozen (p := ⟨k, 2, none⟩) hk).trans F2.out; have g3 : w2.frozen? ⟨k, 3, none⟩ = false := (hA2.frozen (p := ⟨k, 3, none⟩) hk).trans F3.out; have k2 := keep hA2 HR.out.c2; have k3 := keep hA2 HR.out.c3; have k1 := keep hA2 HR.out.c1; simp only at k1 k2 k3; have g1 : w2.frozen? ⟨k, 1, none⟩ = false := (hA2.frozen (p := ⟨k, 1, none⟩) hk).trans F1.out; obtain ⟨hc2, hf2⟩ := old hb2))
  all_goals go_wp2_with fail
  · refine (bad_no k _ _ n _ (rc_a HR.out hA2 0 f _).1 rfl).mono ?_
    rintro e1 w5 ⟨rfl, rfl⟩
    go_wp2
    go_ret
    first | exact ⟨rfl, (rc_a HR.out hA2 0 f _).1.go q, Save.at1 (rc_a HR.out hA2 0 f _).2 _⟩ | exact rc_c HR.out hA2 q f _
  · refine (bad_no k _ _ n _ (rc_b HR.out hA2 0 f _ _).1 rfl).mono ?_
    rintro e1 w5 ⟨rfl, rfl⟩
    go_wp2
    go_ret
    exact ⟨rfl, (rc_b HR.out hA2 0 f _ _).1.go q, Save.at1 (rc_b HR.out hA2 0 f _ _).2 _⟩

set_option maxHeartbeats 1600000 in
theorem number_no (k : Nat) (av : Option Addr) (len cap : Nat) (p n x q e f : Int) (w : World) (h : RcIs w k (.slice av len cap) (p, 0, 0) n) (he : e ≠ 0)
    (hgo : ∀ w', Below w.heap.size w w' → Calls Tryd.prog 65 #[.slice av len cap, .int .i64 p] w' (Got .u32 w' (x, q, e, f))) :
    Calls Tryd.prog 40 #[.pointer (some ⟨k, 0, none⟩)] w (Doc k (.slice av len cap) w n (.int .u32 0) (p, e, f)) := by
  have hf := bad_no k _ _ _ w h rfl
  have c0 := h.c0
  have c1 := h.c1
  have hk : k < w.heap.size := World.block_lt_of_cell? w _ c0
  simp only at c1
  have HR := hid h
  have HE := hid he
  clear he
  clear h
  have F1 := hid (HR.out.f1)
  have F2 := hid (HR.out.f2)
  have F3 := hid (HR.out.f3)
  go_enter Tryd.func40, Tryd.ntmps40
  go_wp2_with fail
  refine hf.mono ?_
  rintro e1 w1 ⟨rfl, rfl⟩
  clear hf
  go_wp2
  have hS := keepN (w := w) (w' := w.drew) c0 c1 (Below.refl _ _).drew
  go_region_held3 (fun w' => Below w.heap.size w w' ∧ w'.cell? ⟨k, 0, none⟩ = some (.slice av len cap) ∧ w'.cell? ⟨k, 1, none⟩ = some (.int .i64 p))
    (first
      | assumption
      | exact keepN c0 c1 hA2
      | exact keepN c0 c1 ((Below.refl _ _).drew.alloc (Nat.le_refl _) _)
      | exact keepN c0 c1 (thenA hA2 _)
      | exact keepN c0 c1 ((hA2.setCell (p := ⟨w.heap.size, 0, none⟩) (Nat.le_refl _) _).setCell (p := ⟨w.heap.size, 1, none⟩) (Nat.le_refl _) _))
    (first
      | (go_at_call 65; refine (hgo _ ?_).mono ?_; (exact box_out (x := .slice av len cap) (y := .int .i64 p) (k := k) (by assumption)); rintro e w2 ⟨rfl, hb2⟩; have hA2 := thenB (w := w) (box_out (x := .slice av len cap) (y := .int .i64 p) (k := k) (by assumption)) hb2; have hk2 : k < w2.heap.size := Nat.lt_of_lt_of_le hk hA2.size; have g2 : w2.frozen? ⟨k, 2, none⟩ = false := (hA2.frozen (p := ⟨k, 2, none⟩) hk).trans F2.out; have g3 : w2.frozen? ⟨k, 3, none⟩ = false := (hA2.frozen (p := ⟨k, 3, none⟩) hk).trans F3.out; have k2 := keep hA2 HR.out.c2; have k3 := keep hA2 HR.out.c3; have k1 := keep hA2 HR.out.c1; simp only at k1 k2 k3; have g1 : w2.frozen? ⟨k, 1, none⟩ = false := (hA2.frozen (p := ⟨k, 1, none⟩) hk).trans F1.out; obtain ⟨hc2, hf2⟩ := old hb2))
  all_goals go_wp2_with fail
  · refine (bad_yes k _ _ n _ (rc_a HR.out hA2 e f _).1 HE.out).mono ?_
    rintro e1 w5 ⟨rfl, rfl⟩
    go_wp2
    go_ret
    exact ⟨rfl, rc_a HR.out hA2 e f _⟩
  · refine (bad_yes k _ _ n _ (rc_b HR.out hA2 e f _ _).1 HE.out).mono ?_
    rintro e1 w5 ⟨rfl, rfl⟩
    go_wp2
    go_ret
    exact ⟨rfl, rc_b HR.out hA2 e f _ _⟩

theorem numberC_any (k : Nat) (av : Option Addr) (len cap : Nat) (zs : List Int) (s : Rd) (n : Int) (w : World) (h : RcIs w k (.slice av len cap) s n) (hg : Kind.Good zs s) (hlen : zs.length = len) (hz : Bytes w av zs) :
    Calls Tryd.prog 40 #[.pointer (some ⟨k, 0, none⟩)] w (Doc k (.slice av len cap) w n (.int .u32 (numR zs s).1) (numR zs s).2) := by
  by_cases h0 : s.2.1 = 0
  · obtain ⟨p, e, f⟩ := s
    obtain ⟨g1, g2, g3⟩ := hg h0
    simp only at h0 g1 g2 g3
    subst h0 g3
    obtain ⟨x, q, e, f, hG⟩ : ∃ x q e f, getL false zs p = (x, q, e, f) := ⟨_, _, _, _, rfl⟩
    have hgo : ∀ w', Below w.heap.size w w' → Calls Tryd.prog 65 #[.slice av len cap, .int .i64 p] w' (Got .u32 w' (x, q, e, f)) := fun w' hb => hG ▸ refGetU_any av len cap p zs w' hlen (hz.below hb)
    by_cases he : e = 0
    · have hf0 : f = 0 := (Kind.getL_next hG he).2.2.2
      have hr : numR zs (p, 0, 0) = (x, q, 0, f) := by subst hf0; unfold numR; rw [if_pos rfl, hG]; simp only; rw [if_pos he]
      rw [hr]
      exact number_ok k av len cap p n x q e f w h he hgo
    · have hr : numR zs (p, 0, 0) = (0, p, e, f) := by unfold numR; rw [if_pos rfl, hG]; simp only; rw [if_neg he]
      rw [hr]
      exact number_no k av len cap p n x q e f w h he hgo
  · have hr : numR zs s = (0, s) := by unfold numR; rw [if_neg h0]
    rw [hr]
    exact number_bad k _ s n w h h0

theorem signed_bad (k : Nat) (v : Value) (s : Rd) (n : Int) (w : World) (h : RcIs w k v s n) (h0 : s.2.1 ≠ 0) :
    Calls Tryd.prog 88 #[.pointer (some ⟨k, 0, none⟩)] w (Doc k v w n (.int .i32 0) s) := by
  have hf := bad_yes k v s n w h h0
  go_enter Tryd.func88, Tryd.ntmps88
  go_wp2_with fail
  refine hf.mono ?_
  rintro e1 w1 ⟨rfl, rfl⟩
  clear hf
  go_wp2
  go_ret
  exact ⟨rfl, h, Save.refl _ _⟩

set_option maxHeartbeats 1600000 in
theorem signed_ok (k : Nat) (av : Option Addr) (len cap : Nat) (p n x q e f : Int) (w : World) (h : RcIs w k (.slice av len cap) (p, 0, 0) n) (he : e = 0)
    (hgo : ∀ w', Below w.heap.size w w' → Calls Tryd.prog 101 #[.slice av len cap, .int .i64 p] w' (Got .i32 w' (x, q, e, f))) :
    Calls Tryd.prog 88 #[.pointer (some ⟨k, 0, none⟩)] w (Doc k (.slice av len cap) w n (.int .i32 x) (q, 0, f)) := by
  have hf := bad_no k _ _ _ w h rfl
  have c0 := h.c0
  have c1 := h.c1
  have hk : k < w.heap.size := World.block_lt_of_cell? w _ c0
  simp only at c1
  have HR := hid h
  subst he
  clear h
  have F1 := hid (HR.out.f1)
  have F2 := hid (HR.out.f2)
  have F3 := hid (HR.out.f3)
  go_enter Tryd.func88, Tryd.ntmps88
  go_wp2_with fail
  refine hf.mono ?_
  rintro e1 w1 ⟨rfl, rfl⟩
  clear hf
  go_wp2
  have hS := keepN (w := w) (w' := w.drew) c0 c1 (Below.refl _ _).drew
  go_region_held3 (fun w' => Below w.heap.size w w' ∧ w'.cell? ⟨k, 0, none⟩ = some (.slice av len cap) ∧ w'.cell? ⟨k, 1, none⟩ = some (.int .i64 p))
    (first
      | assumption
      | exact keepN c0 c1 hA2
      | exact keepN c0 c1 ((Below.refl _ _).drew.alloc (Nat.le_refl _) _)
      | exact keepN c0 c1 (thenA hA2 _)
      | exact keepN c0 c1 ((hA2.setCell (p := ⟨w.heap.size, 0, none⟩) (Nat.le_refl _) _).setCell (p := ⟨w.heap.size, 1, none⟩) (Nat.le_refl _) _))
    (first
      | (go_at_call 101; refine (hgo _ ?_).mono ?_; (exact box_out (x := .slice av len cap) (y := .int .i64 p) (k := k) (by assumption)); rintro e w2 ⟨rfl, hb2⟩; have hA2 := thenB (w := w) (box_out (x := .slice av len cap) (y := .int .i64 p) (k := k) (by assumption)) hb2; have hk2 : k < w2.heap.size := Nat.lt_of_lt_of_le hk hA2.size; have g2 : w2.frozen? ⟨k, 2, none⟩ = false := (hA2.frozen (p := ⟨k, 2, none⟩) hk).trans F2.out; have g3 : w2.frozen? ⟨k, 3, none⟩ = false := (hA2.frozen (p := ⟨k, 3, none⟩) hk).trans F3.out; have k2 := keep hA2 HR.out.c2; have k3 := keep hA2 HR.out.c3; have k1 := keep hA2 HR.out.c1; simp only at k1 k2 k3; have g1 : w2.frozen? ⟨k, 1, none⟩ = false := (hA2.frozen (p := ⟨k, 1, none⟩) hk).trans F1.out; obtain ⟨hc2, hf2⟩ := old hb2))
  all_goals go_wp2_with fail
  · refine (bad_no k _ _ n _ (rc_a HR.out hA2 0 f _).1 rfl).mono ?_
    rintro e1 w5 ⟨rfl, rfl⟩
    go_wp2
    go_ret
    first | exact ⟨rfl, (rc_a HR.out hA2 0 f _).1.go q, Save.at1 (rc_a HR.out hA2 0 f _).2 _⟩ | exact rc_c HR.out hA2 q f _
  · refine (bad_no k _ _ n _ (rc_b HR.out hA2 0 f _ _).1 rfl).mono ?_
    rintro e1 w5 ⟨rfl, rfl⟩
    go_wp2
    go_ret
    exact ⟨rfl, (rc_b HR.out hA2 0 f _ _).1.go q, Save.at1 (rc_b HR.out hA2 0 f _ _).2 _⟩

set_option maxHeartbeats 1600000 in
theorem signed_no (k : Nat) (av : Option Addr) (len cap : Nat) (p n x q e f : Int) (w : World) (h : RcIs w k (.slice av len cap) (p, 0, 0) n) (he : e ≠ 0)
    (hgo : ∀ w', Below w.heap.size w w' → Calls Tryd.prog 101 #[.slice av len cap, .int .i64 p] w' (Got .i32 w' (x, q, e, f))) :
    Calls Tryd.prog 88 #[.pointer (some ⟨k, 0, none⟩)] w (Doc k (.slice av len cap) w n (.int .i32 0) (p, e, f)) := by
  have hf := bad_no k _ _ _ w h rfl
  have c0 := h.c0
  have c1 := h.c1
  have hk : k < w.heap.size := World.block_lt_of_cell? w _ c0
  simp only at c1
  have HR := hid h
  have HE := hid he
  clear he
  clear h
  have F1 := hid (HR.out.f1)
  have F2 := hid (HR.out.f2)
  have F3 := hid (HR.out.f3)
  go_enter Tryd.func88, Tryd.ntmps88
  go_wp2_with fail
  refine hf.mono ?_
  rintro e1 w1 ⟨rfl, rfl⟩
  clear hf
  go_wp2
  have hS := keepN (w := w) (w' := w.drew) c0 c1 (Below.refl _ _).drew
  go_region_held3 (fun w' => Below w.heap.size w w' ∧ w'.cell? ⟨k, 0, none⟩ = some (.slice av len cap) ∧ w'.cell? ⟨k, 1, none⟩ = some (.int .i64 p))
    (first
      | assumption
      | exact keepN c0 c1 hA2
      | exact keepN c0 c1 ((Below.refl _ _).drew.alloc (Nat.le_refl _) _)
      | exact keepN c0 c1 (thenA hA2 _)
      | exact keepN c0 c1 ((hA2.setCell (p := ⟨w.heap.size, 0, none⟩) (Nat.le_refl _) _).setCell (p := ⟨w.heap.size, 1, none⟩) (Nat.le_refl _) _))
    (first
      | (go_at_call 101; refine (hgo _ ?_).mono ?_; (exact box_out (x := .slice av len cap) (y := .int .i64 p) (k := k) (by assumption)); rintro e w2 ⟨rfl, hb2⟩; have hA2 := thenB (w := w) (box_out (x := .slice av len cap) (y := .int .i64 p) (k := k) (by assumption)) hb2; have hk2 : k < w2.heap.size := Nat.lt_of_lt_of_le hk hA2.size; have g2 : w2.frozen? ⟨k, 2, none⟩ = false := (hA2.frozen (p := ⟨k, 2, none⟩) hk).trans F2.out; have g3 : w2.frozen? ⟨k, 3, none⟩ = false := (hA2.frozen (p := ⟨k, 3, none⟩) hk).trans F3.out; have k2 := keep hA2 HR.out.c2; have k3 := keep hA2 HR.out.c3; have k1 := keep hA2 HR.out.c1; simp only at k1 k2 k3; have g1 : w2.frozen? ⟨k, 1, none⟩ = false := (hA2.frozen (p := ⟨k, 1, none⟩) hk).trans F1.out; obtain ⟨hc2, hf2⟩ := old hb2))
  all_goals go_wp2_with fail
  · refine (bad_yes k _ _ n _ (rc_a HR.out hA2 e f _).1 HE.out).mono ?_
    rintro e1 w5 ⟨rfl, rfl⟩
    go_wp2
    go_ret
    exact ⟨rfl, rc_a HR.out hA2 e f _⟩
  · refine (bad_yes k _ _ n _ (rc_b HR.out hA2 e f _ _).1 HE.out).mono ?_
    rintro e1 w5 ⟨rfl, rfl⟩
    go_wp2
    go_ret
    exact ⟨rfl, rc_b HR.out hA2 e f _ _⟩

theorem signedC_any (k : Nat) (av : Option Addr) (len cap : Nat) (zs : List Int) (s : Rd) (n : Int) (w : World) (h : RcIs w k (.slice av len cap) s n) (hg : Kind.Good zs s) (hlen : zs.length = len) (hz : Bytes w av zs) :
    Calls Tryd.prog 88 #[.pointer (some ⟨k, 0, none⟩)] w (Doc k (.slice av len cap) w n (.int .i32 (sgnR zs s).1) (sgnR zs s).2) := by
  by_cases h0 : s.2.1 = 0
  · obtain ⟨p, e, f⟩ := s
    obtain ⟨g1, g2, g3⟩ := hg h0
    simp only at h0 g1 g2 g3
    subst h0 g3
    obtain ⟨x, q, e, f, hG⟩ : ∃ x q e f, getL true zs p = (x, q, e, f) := ⟨_, _, _, _, rfl⟩
    have hgo : ∀ w', Below w.heap.size w w' → Calls Tryd.prog 101 #[.slice av len cap, .int .i64 p] w' (Got .i32 w' (x, q, e, f)) := fun w' hb => hG ▸ refGetS_any av len cap p zs w' hlen (hz.below hb)
    by_cases he : e = 0
    · have hf0 : f = 0 := (Kind.getL_next hG he).2.2.2
      have hr : sgnR zs (p, 0, 0) = (x, q, 0, f) := by subst hf0; unfold sgnR; rw [if_pos rfl, hG]; simp only; rw [if_pos he]
      rw [hr]
      exact signed_ok k av len cap p n x q e f w h he hgo
    · have hr : sgnR zs (p, 0, 0) = (0, p, e, f) := by unfold sgnR; rw [if_pos rfl, hG]; simp only; rw [if_neg he]
      rw [hr]
      exact signed_no k av len cap p n x q e f w h he hgo
  · have hr : sgnR zs s = (0, s) := by unfold sgnR; rw [if_neg h0]
    rw [hr]
    exact signed_bad k _ s n w h h0

theorem is_any (k : Nat) (av : Option Addr) (len cap : Nat) (zs : List Int) (s : Rd) (n c : Int) (w : World) (h : RcIs w k (.slice av len cap) s n) (hg : Kind.Good zs s) (hlen : zs.length = len) (hz : Bytes w av zs) {ok : Int → Bool} (hok : ∀ x, ok x = decide (x = c)) :
    Calls Tryd.prog 42 #[.pointer (some ⟨k, 0, none⟩), .int .u8 c] w (Doc k (.slice av len cap) w n (.tuple #[]) (tagR zs ok s).2) := by
  have C1 := hid (nextC_any k av len cap zs s n w h hg hlen hz)
  have c1 := h.c1
  obtain ⟨p, hp⟩ : ∃ p, s.1 = p := ⟨_, rfl⟩
  rw [hp] at c1
  have HT : Hid ((tagR zs ok s).2 = if (byteR zs s).1 = c then (byteR zs s).2 else refuseR (byteR zs s).2 140 p) := by
    show _ = _
    unfold tagR
    rw [hok, hp]
    simp only [decide_eq_true_eq]
  obtain ⟨y, hy⟩ : ∃ y, (byteR zs s).1 = y := ⟨_, rfl⟩
  obtain ⟨s1, hs1⟩ : ∃ s1, (byteR zs s).2 = s1 := ⟨_, rfl⟩
  rw [hy, hs1] at C1 HT
  rw [HT.out]
  clear h hg hlen hz hp hy hs1 hok HT
  by_cases hb : s1.2.1 = 0
  · have HB := hid hb
    clear hb
    by_cases hc : y = c
    · subst hc
      rw [if_pos rfl]
      go_enter Tryd.func42, Tryd.ntmps42
      go_wp2_with fail
      refine C1.out.mono ?_
      clear C1
      rintro e1 w1 ⟨rfl, h1, sv1⟩
      go_wp2_with fail
      refine (bad_no k _ _ n _ h1 HB.out).mono ?_
      rintro e1 w2 ⟨rfl, rfl⟩
      go_wp2
      go_end0
      exact ⟨rfl, h1, sv1⟩
    · rw [if_neg hc]
      go_enter Tryd.func42, Tryd.ntmps42
      go_wp2_with fail
      refine C1.out.mono ?_
      clear C1
      rintro e1 w1 ⟨rfl, h1, sv1⟩
      go_wp2_with fail
      refine (bad_no k _ _ n _ h1 HB.out).mono ?_
      rintro e1 w2 ⟨rfl, rfl⟩
      go_wp2_with fail
      refine (fault_any k _ s1 n 140 p _ h1).mono ?_
      rintro e1 w2 ⟨rfl, h2, sv2⟩
      go_wp2
      go_end0
      exact ⟨rfl, h2, sv1.trans sv2⟩
  · have HE : (if y = c then s1 else refuseR s1 140 p) = s1 := by rw [refuseR_bad hb]; simp
    rw [HE]
    have HB := hid hb
    clear hb HE
    go_enter Tryd.func42, Tryd.ntmps42
    go_wp2_with fail
    refine C1.out.mono ?_
    clear C1
    rintro e1 w1 ⟨rfl, h1, sv1⟩
    go_wp2_with fail
    refine (bad_yes k _ _ n _ h1 HB.out).mono ?_
    rintro e1 w2 ⟨rfl, rfl⟩
    go_wp2
    go_end0
    exact ⟨rfl, h1, sv1⟩
end Go.Proofs.YtcjamlgdidiaeaaDoor.Body
