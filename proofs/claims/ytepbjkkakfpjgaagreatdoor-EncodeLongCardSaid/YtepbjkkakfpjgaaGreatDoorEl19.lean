import Derived.Test.YtepbjkkakfpjgaaGreatDoorEl18
import Derived.Test.YtepbjkkakfpjgaaGreatDoorEl04
import Derived.Deep.AppendLies
import Derived.KernelRfl
import Derived.RegionTactic
import Derived.BigRegion
import Derived.Deep.QuietTactic
import Derived.BigQuiet
import Derived.Laws.Tables
import Derived.Laws.AppendOwnNone
import Derived.Deep.WholeRow
import Derived.Laws.MakeOwn
namespace Go.Proofs.YtepbjkkakfpjgaaGreatDoor.Enc
open Go.RowKit Go.Shelf Go.Proofs.YtepbjkkakfpjgaaGreatDoor.Leb Go.Proofs.YtepbjkkakfpjgaaGreatDoor.Instr Go.Proofs.YtepbjkkakfpjgaaGreatDoor.Mod
open Go.Proofs.YtepbjkkakfpjgaaGreatDoor.Body (encL codeL PutP)

/-- All bytes, and the error. -/
def modR (m : Md) : List Int × Int := if m.check ≠ 0 then ([], m.check) else if 1048576 < (modB m).length then ([], 3) else (modB m, 0)
theorem upto_mono (m : Md) : ∀ (j k : Nat), (uptoB m k).length ≤ (uptoB m (k + j)).length
  | 0, _ => Nat.le_refl _
  | j + 1, k => by
    have := upto_mono m j k
    rw [show k + (j + 1) = (k + j) + 1 by omega, upto_succ, List.length_append]
    omega
theorem upto_long {m : Md} {k : Nat} (hk : k ≤ 11) (h : 1048576 < (uptoB m k).length) : 1048576 < (modB m).length := by
  have := upto_mono m (11 - k) k
  rw [show k + (11 - k) = 11 by omega] at this
  exact Nat.lt_of_lt_of_le h this
/-- What holds between two sections. -/
structure St (w : World) (m : Md) (go Bo gw Bw s : Nat) (vo : Value) (os : List Int) (vw : Value) (zs : List Int) (W : World) : Prop where
  o : Out go Bo vo os W
  wr : Wr w m gw Bw 1048576 vw zs W
  arr : ∀ j, j < 11 → W.cell? ⟨s, j, none⟩ = some (.func (.func (secF j)) #[.pointer (some ⟨gw, 0, none⟩)] #[])
  d1 : go ≠ gw
  d2 : s ≠ go
  d3 : s ≠ gw
  a1 : vo.ownBlock ≠ some gw
  a2 : vw.ownBlock ≠ some go
  a3 : ∀ q, vo.ownBlock = some q → vw.ownBlock ≠ some q
  a4 : vo.ownBlock ≠ some s
  a5 : vw.ownBlock ≠ some s
  hgo : w.heap.size < go
theorem St.s_lt {w : World} {m : Md} {go Bo gw Bw s : Nat} {vo vw : Value} {os zs : List Int} {W : World} (h : St w m go Bo gw Bw s vo os vw zs W) : s < W.heap.size := World.block_lt_of_cell? W _ (h.arr 0 (by omega))
theorem St.write {w : World} {m : Md} {go Bo gw Bw s : Nat} {vo vw v' : Value} {os zs ys : List Int} {W W' : World} (h : St w m go Bo gw Bw s vo os vw zs W) (hb : Buf gw Bw vw W v' ys W') : St w m go Bo gw Bw s vo os v' ys W' := by
  refine ⟨h.o.past hb h.d1 h.a2 h.a1 h.a3, ⟨hb.again, hb.deep h.wr.buf.own h.wr.low h.wr.hg, h.wr.hg, fun j x hx => (hb.rest (1 + j) (by omega)).trans (h.wr.box j x hx), (hb.rest 12 (by omega)).trans h.wr.most⟩,
    fun j hj => hb.far (p := ⟨s, j, none⟩) h.d3 h.a5 (h.arr j hj), h.d1, h.d2, h.d3, h.a1, fun e => ?_, fun q hq e => ?_, h.a4, fun e => ?_, h.hgo⟩
  · rcases hb.new _ e with e | e
    · exact h.a2 e
    · have := World.block_lt_of_cell? W _ h.o.c; simp at this; omega
  · rcases hb.new _ e with e | e
    · exact h.a3 q hq e
    · have := (h.o.lt q hq).2; omega
  · rcases hb.new _ e with e | e
    · exact h.a5 e
    · have := h.s_lt; omega
theorem St.out {w : World} {m : Md} {go Bo gw Bw s : Nat} {vo vw v' : Value} {os zs ys : List Int} {W W' : World} (h : St w m go Bo gw Bw s vo os vw zs W) (hb : Buf go Bo vo W v' ys W') (hz : ∀ z ∈ ys, 0 ≤ z ∧ z < 256) (hl : ys.length ≤ 2000000000) : St w m go Bo gw Bw s v' ys vw zs W' := by
  have far : ∀ {p : Addr} {x : Value}, p.block = gw → W.cell? p = some x → W'.cell? p = some x := fun {p x} hp hc => hb.far (by rw [hp]; exact fun e => h.d1 e.symm) (by rw [hp]; exact h.a1) hc
  refine ⟨Out.of hb hz hl, ⟨h.wr.buf.past hb (fun e => h.d1 e.symm) h.a1 h.a2 (fun q hq e => h.a3 q e hq), h.wr.low.trans (hb.below (Nat.le_of_lt h.hgo) (fun q hq => by have := (h.o.lt q hq).1; have := h.o.low; have := h.hgo; omega)), h.wr.hg, fun j x hx => far rfl (h.wr.box j x hx), far rfl h.wr.most⟩,
    fun j hj => hb.far (p := ⟨s, j, none⟩) h.d2 h.a4 (h.arr j hj), h.d1, h.d2, h.d3, fun e => ?_, h.a2, fun q hq e => ?_, fun e => ?_, h.a5, h.hgo⟩
  · rcases hb.new _ e with e | e
    · exact h.a1 e
    · have := h.wr.buf.lt; omega
  · rcases hb.new _ hq with e2 | e2
    · exact h.a3 q e2 e
    · have := (World.ownsRow.lt h.wr.buf.own q e).2; omega
  · rcases hb.new _ e with e | e
    · exact h.a4 e
    · have := h.s_lt; omega
theorem St.clear {w : World} {m : Md} {go Bo gw Bw s : Nat} {vo : Value} {os zs : List Int} {W : World} {a : Option Addr} {n c : Nat} (h : St w m go Bo gw Bw s vo os (.slice a n c) zs W) : St w m go Bo gw Bw s vo os (.slice a 0 c) [] (W.setCell ⟨gw, 0, none⟩ (.slice a 0 c)) := by
  have hf : ∀ {p : Addr} {x : Value}, p ≠ ⟨gw, 0, none⟩ → W.cell? p = some x → (W.setCell ⟨gw, 0, none⟩ (.slice a 0 c)).cell? p = some x := fun {p x} hp hc => (World.cell?_setCell_other _ _ _ _ (fun e => hp e.symm)).trans hc
  have ht : Touch (fun j => j = gw) W (W.setCell ⟨gw, 0, none⟩ (.slice a 0 c)) := (Touch.refl (fun j => j = gw) W).setCell (.inl rfl) _
  have hs : (Value.slice a 0 c).ownBlock = (Value.slice a n c).ownBlock := by cases a <;> rfl
  refine ⟨?_, ⟨h.wr.buf.clear, h.wr.low.setCell (Nat.le_of_lt h.wr.hg) _, h.wr.hg, fun j x hx => hf (by intro e; simp only [Addr.mk.injEq, true_and, and_true] at e; omega) (h.wr.box j x hx), hf (by simp) h.wr.most⟩,
    fun j hj => hf (by intro e; simp only [Addr.mk.injEq] at e; exact h.d3 e.1) (h.arr j hj), h.d1, h.d2, h.d3, h.a1, by rw [hs]; exact h.a2, fun q hq => by rw [hs]; exact h.a3 q hq, h.a4, by rw [hs]; exact h.a5, h.hgo⟩
  have ho := h.o
  refine ⟨hf (by intro e; simp only [Addr.mk.injEq] at e; exact h.d1 e.1) ho.c, by rw [World.frozen?_setCell]; exact ho.f, ho.sep, ho.low, by have := ho.lowB; simpa [World.setCell] using this, fun q hq => by have := ho.lt q hq; simpa [World.setCell] using this, ?_, ?_⟩
  · obtain ⟨a, n, c, he, hn, hb, h0⟩ := ho.byt
    refine ⟨a, n, c, he, hn, Bytes.touchE hb ht (fun b off ha _ e => ?_), h0⟩
    subst ha
    exact h.a1 (by rw [he, ← e]; rfl)
  · rcases ho.kind with h1 | h1
    · exact .inl (touch_row h1 ht (fun q hq e => h.a1 (by rw [hq, e])))
    · exact .inr h1
/-- Bytes that a call told, and an error. -/
def ModP (w : World) (zs : List Int) (er : Int) (e : Ending) (w' : World) : Prop := ∃ a n c, e = .returned (.tuple #[.slice a n c, .int .i64 er]) ∧ zs.length = n ∧ Bytes w' a zs ∧ (a = none → c = 0) ∧ Below w.heap.size w w'
theorem modP_none {w w' : World} {er : Int} (hb : Below w.heap.size w w') : ModP w [] er (.returned (.tuple #[.slice none 0 0, .int .i64 er])) w' := ⟨none, 0, 0, rfl, rfl, ⟨by simp, by simp, .inl rfl⟩, fun _ => rfl, hb⟩
theorem piece_none {m : Md} {k : Nat} (h : secB m k = []) : uptoB m (k + 1) = uptoB m k := by rw [upto_succ]; unfold pieceB; rw [if_pos h, List.append_nil]
theorem piece_some {m : Md} {k : Nat} (h : secB m k ≠ []) : uptoB m (k + 1) = (uptoB m k ++ [((k + 1 : Nat) : Int)]) ++ (encU (secB m k).length ++ secB m k) := by rw [upto_succ]; unfold pieceB; rw [if_neg h]; simp
theorem new_at (W : World) (C : Array Value) (t : TypeId) (m : Nat × Nat) (i : Nat) (x : Value) (h : C[i]? = some x) : (W.alloc (.cells C t m)).cell? ⟨W.heap.size, i, none⟩ = some x := by
  have hh : (W.alloc (.cells C t m)).heap[W.heap.size]? = some (.cells C t m) := heap_alloc_new W _
  unfold World.cell?
  rw [hh]
  exact h
theorem St.start {w W : World} {m : Md} (t1 t2 t3 : TypeId) (hB : Below w.heap.size w W) (hl : w.heap.size < W.heap.size) :
    St w m (W.heap.size + 1) W.heap.size (W.heap.size + 2) (W.heap.size + 3) (W.heap.size + 3) (.slice (some ⟨W.heap.size, 0, none⟩) 8 8) headB (.slice none 0 0) []
      ((((W.alloc (.cells #[.int .u8 0, .int .u8 97, .int .u8 115, .int .u8 109, .int .u8 1, .int .u8 0, .int .u8 0, .int .u8 0] 5 (8, 9))).alloc (.cells #[.slice (some ⟨W.heap.size, 0, none⟩) 8 8] t1)).alloc (.cells (wrV m 1048576) t2)).alloc (.cells (secsV (W.heap.size + 2)) t3)) := by
  have by1 : Bytes (W.alloc (.cells #[.int .u8 0, .int .u8 97, .int .u8 115, .int .u8 109, .int .u8 1, .int .u8 0, .int .u8 0, .int .u8 0] 5 (8, 9))) (some ⟨W.heap.size, 0, none⟩) headB := by
    refine ⟨by unfold headB; intro z hz; simp at hz; omega, by simp [headB], .inr ⟨_, 0, rfl, fun i hi => ?_⟩⟩
    have hi8 : i < 8 := hi
    match i, hi8 with
    | 0, _ | 1, _ | 2, _ | 3, _ | 4, _ | 5, _ | 6, _ | 7, _ => exact new_at W _ _ _ _ _ rfl
  obtain ⟨W1, hW1⟩ : ∃ W1, W1 = W.alloc (.cells #[.int .u8 0, .int .u8 97, .int .u8 115, .int .u8 109, .int .u8 1, .int .u8 0, .int .u8 0, .int .u8 0] 5 (8, 9)) := ⟨_, rfl⟩
  have s1 : W1.heap.size = W.heap.size + 1 := by rw [hW1]; simp
  have b1 : Below W.heap.size W W1 := by rw [hW1]; exact (Below.refl _ _).alloc (Nat.le_refl _) _
  rw [← hW1] at by1 ⊢
  clear hW1
  have hal : ∀ (w : World) (o : Obj), Below w.heap.size w (w.alloc o) := fun w o => (Below.refl _ _).alloc (Nat.le_refl _) o
  have s2 : (W1.alloc (.cells #[.slice (some ⟨W.heap.size, 0, none⟩) 8 8] t1)).heap.size = W.heap.size + 2 := by simp [s1]
  have b2 : Below W.heap.size W (W1.alloc (.cells #[.slice (some ⟨W.heap.size, 0, none⟩) 8 8] t1)) := b1.alloc b1.size _
  obtain ⟨W2, hW2⟩ : ∃ W2, W2 = W1.alloc (.cells #[.slice (some ⟨W.heap.size, 0, none⟩) 8 8] t1) := ⟨_, rfl⟩
  have by2 := by1.below (hal W1 (.cells #[.slice (some ⟨W.heap.size, 0, none⟩) 8 8] t1))
  have c2 : (W1.alloc (.cells #[.slice (some ⟨W.heap.size, 0, none⟩) 8 8] t1)).cell? ⟨W.heap.size + 1, 0, none⟩ = some (.slice (some ⟨W.heap.size, 0, none⟩) 8 8) := by rw [← s1]; simp [go_sem]
  have f2 : (W1.alloc (.cells #[.slice (some ⟨W.heap.size, 0, none⟩) 8 8] t1)).frozen? ⟨W.heap.size + 1, 0, none⟩ = false := by rw [← s1]; simp [go_sem]
  rw [← hW2] at s2 b2 by2 c2 f2 ⊢
  clear hW2
  have r3 := wr_new w W2 m 1048576 t2 (hB.trans (b2.mono hB.size)) (by have := hl; omega)
  rw [s2] at r3
  have b3 := hal W2 (.cells (wrV m 1048576) t2)
  have s3 : (W2.alloc (.cells (wrV m 1048576) t2)).heap.size = W.heap.size + 3 := by simp [s2]
  obtain ⟨W3, hW3⟩ : ∃ W3, W3 = W2.alloc (.cells (wrV m 1048576) t2) := ⟨_, rfl⟩
  rw [← hW3] at b3 r3 s3 ⊢
  clear hW3
  have r4 := r3.on ((Below.refl W3.heap.size W3).alloc (Nat.le_refl _) (.cells (secsV (W.heap.size + 2)) t3))
  have b4 := thenB b3 (hal W3 (.cells (secsV (W.heap.size + 2)) t3))
  have o4 : Out (W.heap.size + 1) W.heap.size (.slice (some ⟨W.heap.size, 0, none⟩) 8 8) headB (W3.alloc (.cells (secsV (W.heap.size + 2)) t3)) :=
    ⟨Go.Proofs.YtepbjkkakfpjgaaGreatDoor.keep b4 c2, (b4.frozen (p := ⟨W.heap.size + 1, 0, none⟩) (by show W.heap.size + 1 < W2.heap.size; omega)).trans f2, by simp [Value.ownBlock], Nat.le_refl _, by simp; omega, fun q hq => by simp [Value.ownBlock] at hq; subst hq; simp; omega, ⟨_, 8, 8, rfl, rfl, by2.below b4, fun e => by cases e⟩, .inr ⟨_, rfl⟩⟩
  have a4 := fun j hj => secs_at (W.heap.size + 2) W3 t3 j hj
  rw [s3] at a4
  exact ⟨o4, r4, a4, by omega, by omega, by omega, by simp [Value.ownBlock], by simp [Value.ownBlock], fun _ _ => by simp [Value.ownBlock], by simp [Value.ownBlock], by simp [Value.ownBlock], by omega⟩
theorem St.begin {w W : World} {m : Md} (t1 t2 t3 : TypeId) (hB : Below w.heap.size w W) (hl : w.heap.size < W.heap.size) :
    St w m (W.heap.size + 1) W.heap.size (W.heap.size + 1 + 1) (W.heap.size + 1 + 1 + 1) (W.heap.size + 1 + 1 + 1) (.slice (some ⟨W.heap.size, 0, none⟩) 8 8) headB (.slice none 0 0) []
      ((((W.alloc (.cells #[.int .u8 0, .int .u8 97, .int .u8 115, .int .u8 109, .int .u8 1, .int .u8 0, .int .u8 0, .int .u8 0] 5 (8, 9))).alloc (.cells #[.slice (some ⟨W.heap.size, 0, none⟩) 8 8] t1)).alloc (.cells (wrV m 1048576) t2)).alloc (.cells (secsV (W.heap.size + 1 + 1)) t3)) := St.start t1 t2 t3 hB hl
theorem St.full {w : World} {m : Md} {go Bo gw Bw s : Nat} {vo vw : Value} {os zs : List Int} {W : World} (h : St w m go Bo gw Bw s vo os vw zs W) : ∃ a n c, vo = .slice a n c ∧ os.length = n ∧ Bytes W a os ∧ (a = none → c = 0) := h.o.byt
theorem secB_bytes {w0 : World} {m : Md} (FI : Fine w0 m) (k : Nat) : ∀ z ∈ secB m k, 0 ≤ z ∧ z < 256 := by
  have F := facts_of FI.chk
  have lst : ∀ {α : Type} (f : α → List Int) (l : List α), (∀ x ∈ l, ∀ z ∈ f x, 0 ≤ z ∧ z < 256) → ∀ z ∈ lstB f l, 0 ≤ z ∧ z < 256 := by
    intro α f l hf z hz
    unfold lstB at hz
    split at hz
    · simp at hz
    · rcases List.mem_append.1 hz with h | h
      · exact encU_bytes _ z h
      · obtain ⟨x, hx, hzx⟩ := List.mem_flatMap.1 h
        exact hf x hx z hzx
  have app : ∀ (a b : List Int), (∀ z ∈ a, 0 ≤ z ∧ z < 256) → (∀ z ∈ b, 0 ≤ z ∧ z < 256) → ∀ z ∈ a ++ b, 0 ≤ z ∧ z < 256 := fun a b ha hb z hz => (List.mem_append.1 hz).elim (ha z) (hb z)
  have cns : ∀ (a : Int) (b : List Int), (0 ≤ a ∧ a < 256) → (∀ z ∈ b, 0 ≤ z ∧ z < 256) → ∀ z ∈ a :: b, 0 ≤ z ∧ z < 256 := fun a b ha hb z hz => by
    rcases List.mem_cons.1 hz with rfl | h
    · exact ha
    · exact hb z h
  have ins : ∀ l ∈ m.codes, ∀ z ∈ insB l, 0 ≤ z ∧ z < 256 := fun l hl => insB_bytes (FI.at_.ls l hl) (F.ck l hl)
  match k with
  | 0 => simp only [secB]; exact lst tyB m.ty (fun x _ => Kind.typeL_bytes _ _)
  | 1 => simp only [secB]; exact lst impB m.im (fun x _ => app _ _ (nameB_bytes _) (app _ _ (nameB_bytes _) (cns _ _ (by omega) (encU_bytes _))))
  | 2 => simp only [secB]; exact lst fnB m.fu (fun x _ => encU_bytes _)
  | 3 => simp only [secB]; exact lst tbB m.tb (fun x _ => cns _ _ (by omega) (Kind.limL_bytes _ _ _))
  | 4 => simp only [secB]; exact lst meB m.me (fun x _ => Kind.limL_bytes _ _ _)
  | 5 => simp only [secB]; exact lst glB m.gl (fun x hx => cns _ _ (by omega) (cns _ _ (by split <;> omega) (ins _ (mem_gl hx))))
  | 6 => simp only [secB]; exact lst exB m.ex (fun x hx => app _ _ (nameB_bytes _) (cns _ _ (by have := F.ex x hx; omega) (encU_bytes _)))
  | 7 =>
    simp only [secB]
    split
    · exact encU_bytes _
    · simp
  | 8 => simp only [secB]; exact lst elB m.el (fun x hx => cns _ _ (by omega) (app _ _ (ins _ (mem_el hx)) (app _ _ (encU_bytes _) (fun z hz => by obtain ⟨y, _, hy⟩ := List.mem_flatMap.1 hz; exact encU_bytes _ z hy))))
  | 9 => simp only [secB]; exact lst coB m.fu (fun x hx => app _ _ (encU_bytes _) (app _ _ (Go.Proofs.YtepbjkkakfpjgaaGreatDoor.Body.loc_bytes _) (ins _ (mem_fu hx))))
  | 10 => simp only [secB]; exact lst daB m.da (fun x hx => cns _ _ (by omega) (app _ _ (ins _ (mem_da hx)) (app _ _ (encU_bytes _) (FI.siz.db x hx))))
  | n + 11 => simp [secB]
theorem upto_bytes {w0 : World} {m : Md} (FI : Fine w0 m) : ∀ (k : Nat), k ≤ 11 → ∀ z ∈ uptoB m k, 0 ≤ z ∧ z < 256
  | 0, _ => by
    intro z hz
    unfold uptoB headB at hz
    simp at hz
    omega
  | k + 1, hk => by
    intro z hz
    rw [upto_succ] at hz
    rcases List.mem_append.1 hz with h | h
    · exact upto_bytes FI k (by omega) z h
    · unfold pieceB at h
      split at h
      · simp at h
      · rcases List.mem_cons.1 h with rfl | h
        · omega
        · rcases List.mem_append.1 h with h | h
          · exact encU_bytes _ z h
          · exact secB_bytes FI k z h
theorem cut_nil {k : Nat} {m : Md} {ys : List Int} (h : Cut 1048576 (secB m k) ys) (hl : ys.length = 0) : secB m k = [] := by
  rcases h.2 with e | e
  · rw [← e]; exact List.eq_nil_of_length_eq_zero hl
  · omega
theorem upto_cut {m : Md} {k q : Nat} {ys : List Int} (hU : uptoB m (k + 1) = (uptoB m k ++ [((k + 1 : Nat) : Int)]) ++ (encU (secB m k).length ++ secB m k)) (hc : Cut 1048576 (secB m k) ys) (hq : ys.length = q) :
    (1048576 < (uptoB m k ++ [(k : Int) + 1] ++ (encU q ++ ys)).length → 1048576 < (uptoB m (k + 1)).length) ∧ ((uptoB m k ++ [(k : Int) + 1] ++ (encU q ++ ys)).length ≤ 1048576 → uptoB m k ++ [(k : Int) + 1] ++ (encU q ++ ys) = uptoB m (k + 1)) := by
  rcases hc.2 with e | e
  · have h : uptoB m k ++ [(k : Int) + 1] ++ (encU q ++ ys) = uptoB m (k + 1) := by rw [hU, ← e, hq]; simp
    exact ⟨fun g => by rw [← h]; exact g, fun _ => h⟩
  · have h1 := hc.1.length_le
    have h2 := congrArg List.length hU
    simp only [List.length_append, List.length_cons, List.length_nil] at h2 ⊢
    exact ⟨fun _ => by omega, fun g => by omega⟩
set_option maxRecDepth 100000 in
set_option maxHeartbeats 8000000 in
theorem Module_any (m : Md) (w : World) (h : Ready w m) (ht : m.check = 0 → FitAll m 1048576) :
    Calls Tryz.prog 10 #[.agg m.v] w (ModP w (modR m).1 (modR m).2) := by
  have hb0 := (Below.refl w.heap.size w).alloc (Nat.le_refl _) (.cells m.v 32)
  have CK := hid (ModCheck_any m _ (h.nam.below hb0) (h.tab.below hb0) (h.at_.on hb0) h.few)
  have HB := hid hb0
  have X0 := BoxAt.made w m.v 32
  have HX := hid X0
  by_cases hc : m.check = 0
  · rw [hc] at CK
    have FI := hid (h.fine hc)
    have FA := hid (ht hc)
    have EL := hid (fun (k : Nat) (hk : k ≤ 11) (hl : 1048576 < (uptoB m k).length) => show modR m = ([], 3) by unfold modR; rw [if_neg (by simpa using hc), if_pos (upto_long hk hl)])
    have EN := hid (fun (hl : (uptoB m 11).length ≤ 1048576) => show modR m = (uptoB m 11, 0) by unfold modR modB; rw [if_neg (by simpa using hc), if_neg (by omega)])
    have SK := hid (fun (k : Nat) (hk : k < 11) (W : World) (g B : Nat) (v : Value) (H : Wr w m g B 1048576 v [] W) => sec_any k hk w W m g B v 1048576 FI.out H FA.out)
    have ST := hid (fun (W : World) (hb : Below w.heap.size w W) (hl : w.heap.size < W.heap.size) => St.begin (m := m) 76 79 1 hb hl)
    have HLT := hid (show w.heap.size < (w.alloc (.cells m.v 32)).heap.size by simp)
    have SA := hid (fun g w => sections_any g w)
    have PN := hid (fun k => piece_none (m := m) (k := k))
    have PS := hid (fun k => piece_some (m := m) (k := k))
    have UB := hid (fun k hk => upto_bytes FI.out k hk)
    have SB := hid (fun k => secB_bytes FI.out k)
    have SF := hid (fun (k : Nat) (hk : k < 11) => secB_few (k := k) FA.out hk)
    have UM := hid (fun (k : Nat) => show (uptoB m k).length ≤ (uptoB m (k + 1)).length from upto_mono m 1 k)
    clear h ht hc FI FA hb0
    unfold Md.v at CK HB HX X0 HLT ⊢
    have x0 := X0 0 _ rfl
    have x1 := X0 1 _ rfl
    have x2 := X0 2 _ rfl
    have x3 := X0 3 _ rfl
    have x4 := X0 4 _ rfl
    have x5 := X0 5 _ rfl
    have x6 := X0 6 _ rfl
    have x7 := X0 7 _ rfl
    have x8 := X0 8 _ rfl
    have x9 := X0 9 _ rfl
    have x10 := X0 10 _ rfl
    clear X0
    go_enter Tryz.func10, Tryz.ntmps10
    go_wp2_with fail
    refine CK.out.mono ?_
    rintro e1 w1 ⟨rfl, hb⟩
    have HB1 := hid (HB.out.trans (hb.mono HB.out.size))
    have HX1 := hid (HX.out.keep hb)
    have HS := hid (ST.out w1 HB1.out (Nat.lt_of_lt_of_le HLT.out hb.size))
    clear CK hb ST HLT HB HX x0 x1 x2 x3 x4 x5 x6 x7 x8 x9 x10
    have x0 := HX1.out 0 _ rfl
    have x1 := HX1.out 1 _ rfl
    have x2 := HX1.out 2 _ rfl
    have x3 := HX1.out 3 _ rfl
    have x4 := HX1.out 4 _ rfl
    have x5 := HX1.out 5 _ rfl
    have x6 := HX1.out 6 _ rfl
    have x7 := HX1.out 7 _ rfl
    have x8 := HX1.out 8 _ rfl
    have x9 := HX1.out 9 _ rfl
    have x10 := HX1.out 10 _ rfl
    have y0 := Lib.cell?_alloc_marked (.cells #[.int .u8 0, .int .u8 97, .int .u8 115, .int .u8 109, .int .u8 1, .int .u8 0, .int .u8 0, .int .u8 0] 5 (8, 9)) x0
    have z0 := keepA y0 (.cells #[.slice (some ⟨w1.heap.size, 0, none⟩) 8 8] 76)
    have y1 := Lib.cell?_alloc_marked (.cells #[.int .u8 0, .int .u8 97, .int .u8 115, .int .u8 109, .int .u8 1, .int .u8 0, .int .u8 0, .int .u8 0] 5 (8, 9)) x1
    have z1 := keepA y1 (.cells #[.slice (some ⟨w1.heap.size, 0, none⟩) 8 8] 76)
    have y2 := Lib.cell?_alloc_marked (.cells #[.int .u8 0, .int .u8 97, .int .u8 115, .int .u8 109, .int .u8 1, .int .u8 0, .int .u8 0, .int .u8 0] 5 (8, 9)) x2
    have z2 := keepA y2 (.cells #[.slice (some ⟨w1.heap.size, 0, none⟩) 8 8] 76)
    have y3 := Lib.cell?_alloc_marked (.cells #[.int .u8 0, .int .u8 97, .int .u8 115, .int .u8 109, .int .u8 1, .int .u8 0, .int .u8 0, .int .u8 0] 5 (8, 9)) x3
    have z3 := keepA y3 (.cells #[.slice (some ⟨w1.heap.size, 0, none⟩) 8 8] 76)
    have y4 := Lib.cell?_alloc_marked (.cells #[.int .u8 0, .int .u8 97, .int .u8 115, .int .u8 109, .int .u8 1, .int .u8 0, .int .u8 0, .int .u8 0] 5 (8, 9)) x4
    have z4 := keepA y4 (.cells #[.slice (some ⟨w1.heap.size, 0, none⟩) 8 8] 76)
    have y5 := Lib.cell?_alloc_marked (.cells #[.int .u8 0, .int .u8 97, .int .u8 115, .int .u8 109, .int .u8 1, .int .u8 0, .int .u8 0, .int .u8 0] 5 (8, 9)) x5
    have z5 := keepA y5 (.cells #[.slice (some ⟨w1.heap.size, 0, none⟩) 8 8] 76)
    have y6 := Lib.cell?_alloc_marked (.cells #[.int .u8 0, .int .u8 97, .int .u8 115, .int .u8 109, .int .u8 1, .int .u8 0, .int .u8 0, .int .u8 0] 5 (8, 9)) x6
    have z6 := keepA y6 (.cells #[.slice (some ⟨w1.heap.size, 0, none⟩) 8 8] 76)
    have y7 := Lib.cell?_alloc_marked (.cells #[.int .u8 0, .int .u8 97, .int .u8 115, .int .u8 109, .int .u8 1, .int .u8 0, .int .u8 0, .int .u8 0] 5 (8, 9)) x7
    have z7 := keepA y7 (.cells #[.slice (some ⟨w1.heap.size, 0, none⟩) 8 8] 76)
    have y8 := Lib.cell?_alloc_marked (.cells #[.int .u8 0, .int .u8 97, .int .u8 115, .int .u8 109, .int .u8 1, .int .u8 0, .int .u8 0, .int .u8 0] 5 (8, 9)) x8
    have z8 := keepA y8 (.cells #[.slice (some ⟨w1.heap.size, 0, none⟩) 8 8] 76)
    have y9 := Lib.cell?_alloc_marked (.cells #[.int .u8 0, .int .u8 97, .int .u8 115, .int .u8 109, .int .u8 1, .int .u8 0, .int .u8 0, .int .u8 0] 5 (8, 9)) x9
    have z9 := keepA y9 (.cells #[.slice (some ⟨w1.heap.size, 0, none⟩) 8 8] 76)
    have y10 := Lib.cell?_alloc_marked (.cells #[.int .u8 0, .int .u8 97, .int .u8 115, .int .u8 109, .int .u8 1, .int .u8 0, .int .u8 0, .int .u8 0] 5 (8, 9)) x10
    have z10 := keepA y10 (.cells #[.slice (some ⟨w1.heap.size, 0, none⟩) 8 8] 76)
    have hcv : _ = Result.ok _ (w1.alloc (.cells #[.int .u8 0, .int .u8 97, .int .u8 115, .int .u8 109, .int .u8 1, .int .u8 0, .int .u8 0, .int .u8 0] 5 (8, 9))) := Lib.run_convert_bytes_const w1 76 5 #[.int .u8 0, .int .u8 97, .int .u8 115, .int .u8 109, .int .u8 1, .int .u8 0, .int .u8 0, .int .u8 0] 8 8 Tryz.underlying76 Tryz.underlying5
    go_wp2_with fail
    refine (SA.out _ _).mono ?_
    rintro e2 w2 ⟨rfl, rfl⟩
    unfold wrV at HS
    clear SA hcv x0 x1 x2 x3 x4 x5 x6 x7 x8 x9 x10 y0 z0 y1 z1 y2 z2 y3 z3 y4 z4 y5 z5 y6 z6 y7 z7 y8 z8 y9 z9 y10 z10
    go_wp2
    go_loopw [22] (fun vi wr => ∃ (k : Nat) (vo vw : Value) (zs : List Int), vi = .int .i64 k ∧ k ≤ 11 ∧ Hid ((uptoB m k).length ≤ 1048576) ∧ Hid (St w m (w1.heap.size + 1) w1.heap.size (w1.heap.size + 1 + 1) (w1.heap.size + 1 + 1 + 1) (w1.heap.size + 1 + 1 + 1) vo (uptoB m k) vw zs wr)) (fun vi _ => 11 - (intOf vi).toNat)
    case atStart => exact ⟨0, _, _, _, rfl, Nat.zero_le _, hid (show (8 : Nat) ≤ 1048576 by omega), HS⟩
    case round =>
      clear HS
      obtain ⟨k, vo, vw, zs, rfl, hk, HL, HT⟩ := hrel
      by_cases hlt : k < 11
      · have hki : (k : Int) < 11 := by omega
        have eg := sec_enters k hlt
        have c := HT.out.arr k hlt
        obtain ⟨G, hG⟩ : ∃ G, secF k = G := ⟨_, rfl⟩
        have SK1 := hid (SK.out k hlt)
        rw [hG] at eg c SK1
        clear hG
        obtain ⟨nz, hnz⟩ : ∃ n, zs.length = n := ⟨_, rfl⟩
        have ho := HT.out.wr.buf.own
        obtain ⟨aw, cw, rfl⟩ := ho.sliceN hnz
        have d := HT.out.wr.buf.c
        have f := HT.out.wr.buf.f
        have HC := hid HT.out.clear
        have CS := hid (SK1.out _ _ _ _ HC.out.wr)
        clear ho hnz HT SK1
        go_wp2_with fail
        refine CS.out.mono ?_
        rintro e3 w3 ⟨ys, hys, rfl, v3, hb3⟩
        have HYS := hid hys
        have H3 := hid (HC.out.write hb3)
        have hn3 := hb3.own
        obtain ⟨q, hq⟩ : ∃ n, ys.length = n := ⟨_, rfl⟩
        have HQ := hid hq
        have HYB := hid (fun z (hz : z ∈ ys) => SB.out k z (hys.1.subset hz))
        have HYL := hid (show q ≤ 1000000000 by have h1 := hys.1.length_le; have h2 := SF.out k hlt; omega)
        obtain ⟨a3, c3, rfl⟩ := hn3.sliceN hq
        have d3 := H3.out.wr.buf.c
        clear CS HC hb3 hn3 hq c d f hys
        by_cases hq0 : q = 0
        · subst hq0
          have HU := hid (PN.out k (cut_nil HYS.out HQ.out))
          obtain ⟨ao, no, co, rfl, hno, hbo, _⟩ := H3.out.o.byt
          have c0 := H3.out.o.c
          have hno2 : no ≤ 1048576 := by have := HL.out; omega
          have hni : ¬ (1048576 : Int) < (no : Int) := by omega
          clear hno hbo
          go_wp2
          go_roundw
          case rel => exact ⟨k + 1, _, _, _, by go_num, by omega, hid (by rw [HU.out]; exact HL.out), hid (by rw [HU.out]; exact H3.out)⟩
          case measure => simp [intOf]; omega
        · have hqi : (0 : Int) < (q : Int) := by omega
          have HU := hid (PS.out k (fun e => hq0 (by have h1 := HYS.out.1.length_le; rw [e, List.length_nil] at h1; have h2 := HQ.out; omega)))
          have hw : IntKind.u8.wrap ((k : Int) + 1) = (k : Int) + 1 := by rw [IntKind.wrap_u8]; omega
          have HUK := hid (UB.out k hk)
          have CB := hid (byte_out _ _ vo (uptoB m k) ((k : Int) + 1) w3 H3.out.o (by omega) (by have := HL.out; omega))
          go_wp2_with fail
          refine CB.out.mono ?_
          rintro e4 w4 ⟨rfl, v4, hb4⟩
          have HB4 := hid hb4
          have H4 := hid (H3.out.out hb4 (fun z hz => by
            rcases List.mem_append.1 hz with h | h
            · exact HUK.out z h
            · simp at h; omega) (by rw [List.length_append]; have := HL.out; simp; omega))
          have d4 := H4.out.wr.buf.c
          have CZ := hid (sized_any _ _ v4 (uptoB m k ++ [(k : Int) + 1]) ys a3 q c3 w4 hb4.again HQ.out (H4.out.wr.buf.own.bytes HYB.out (by have := HYL.out; have := HQ.out; omega)) (by rw [List.length_append]; have := HL.out; have := HYL.out; have := HQ.out; simp; omega) (fun b off ha _ hs => by
            subst ha
            rcases hs with e | e
            · exact H4.out.a2 (by rw [← e]; rfl)
            · exact H4.out.a3 b e rfl))
          clear CB hb4 d3 hw
          go_wp2_with fail
          refine CZ.out.mono ?_
          rintro e5 w5 ⟨rfl, v5, hb5⟩
          have HX5 := hid (fun z (hz : z ∈ uptoB m k ++ [(k : Int) + 1] ++ (encU q ++ ys)) => show 0 ≤ z ∧ z < 256 by
            rcases List.mem_append.1 hz with h | h
            · rcases List.mem_append.1 h with h | h
              · exact HUK.out z h
              · simp at h; omega
            · rcases List.mem_append.1 h with h | h
              · exact encU_bytes _ z h
              · exact HYB.out z h)
          have HXB := hid (upto_cut HU.out HYS.out HQ.out).1
          have HXE := hid (upto_cut HU.out HYS.out HQ.out).2
          obtain ⟨X, hX⟩ : ∃ X, uptoB m k ++ [(k : Int) + 1] ++ (encU q ++ ys) = X := ⟨_, rfl⟩
          have hXL := congrArg List.length hX
          rw [hX] at hb5 HX5 HXB HXE
          obtain ⟨N, hN⟩ : ∃ n, X.length = n := ⟨_, rfl⟩
          have HN := hid hN
          have HLT5 := hid (show N ≤ 1100000000 by
            simp only [List.length_append, List.length_cons, List.length_nil] at hXL
            have h1 := HL.out
            have h2 := HYL.out
            have h3 := HQ.out
            have h4 : (encU q).length ≤ 5 := by rw [encU_length]; exact (sizeU_pos q).2
            omega)
          have H5 := hid (H4.out.out hb5 HX5.out (by have := HLT5.out; have := HN.out; omega))
          have ho5 := hb5.own
          obtain ⟨a5, c5, rfl⟩ := ho5.sliceN hN
          have c0 := H5.out.o.c
          clear CZ hb5 ho5 hN d4 H4 H3 hX hXL HYS HYB HYL HU
          by_cases hbig : 1048576 < N
          · have hbi : (1048576 : Int) < (N : Int) := by omega
            have HR := hid (EL.out (k + 1) (by omega) (HXB.out (by rw [HN.out]; exact hbig)))
            go_wp2
            exact bodyPost_ret (v := .tuple #[.slice none 0 0, .int .i64 3]) (by simp [results, Tryz.results10, go_sem]) rfl (by rw [HR.out]; exact modP_none H5.out.wr.low)
          · have hbi : ¬ (1048576 : Int) < (N : Int) := by omega
            go_wp2
            go_roundw
            case rel => exact ⟨k + 1, _, _, _, by go_num, by omega, hid (by rw [← HXE.out (by rw [HN.out]; omega), HN.out]; omega), hid (by rw [← HXE.out (by rw [HN.out]; omega)]; exact H5.out)⟩
            case measure => simp [intOf]; omega
      · obtain rfl : k = 11 := by omega
        have HR := hid (EN.out HL.out)
        obtain ⟨ao, no, co, rfl, hno, hbo, h0⟩ := HT.out.o.byt
        have c0 := HT.out.o.c
        have HN := hid hno
        have HBO := hid hbo
        have H0 := hid h0
        clear hno hbo h0
        go_wp2
        exact bodyPost_ret (v := .tuple #[.slice ao no co, .int .i64 0]) (by simp [results, Tryz.results10, go_sem]) rfl (by rw [HR.out]; exact ⟨ao, no, co, rfl, HN.out, HBO.out, H0.out, HT.out.wr.low⟩)
  · have HE : Hid (modR m = ([], m.check)) := by show _ = _; unfold modR; rw [if_pos hc]
    rw [HE.out]
    obtain ⟨q, hq⟩ : ∃ q, m.check = q := ⟨_, rfl⟩
    rw [hq] at CK hc ⊢
    have hq1 : (q == 0) = false := by simpa using hc
    have hq2 : (q != 0) = true := by simpa using hc
    clear h ht HE hb0 hq
    unfold Md.v at CK HB HX X0 ⊢
    have x0 := X0 0 _ rfl
    have x1 := X0 1 _ rfl
    have x2 := X0 2 _ rfl
    have x3 := X0 3 _ rfl
    have x4 := X0 4 _ rfl
    have x5 := X0 5 _ rfl
    have x6 := X0 6 _ rfl
    have x7 := X0 7 _ rfl
    have x8 := X0 8 _ rfl
    have x9 := X0 9 _ rfl
    have x10 := X0 10 _ rfl
    clear X0
    go_enter Tryz.func10, Tryz.ntmps10
    go_wp2_with fail
    refine CK.out.mono ?_
    rintro e1 w1 ⟨rfl, hb⟩
    have HB1 := hid (HB.out.trans (hb.mono HB.out.size))
    clear CK hb x0 x1 x2 x3 x4 x5 x6 x7 x8 x9 x10
    go_wp2
    exact bodyPost_ret (v := .tuple #[.slice none 0 0, .int .i64 q]) (by simp [results, Tryz.results10, go_sem]) rfl (modP_none HB1.out)
end Go.Proofs.YtepbjkkakfpjgaaGreatDoor.Enc

namespace Go.Proofs.YtepbjkkakfpjgaaGreatDoor.Enc
open Go.RowKit Go.Proofs.YtepbjkkakfpjgaaGreatDoor.Leb Go.Proofs.YtepbjkkakfpjgaaGreatDoor.Instr Go.Proofs.YtepbjkkakfpjgaaGreatDoor.Mod
open Go.Proofs.YtepbjkkakfpjgaaGreatDoor.Body (encL codeL PutP)
set_option linter.unusedVariables false
set_option linter.unusedSimpArgs false

section
variable {ops : Array Oper} {rest : List Oper} {o : Oper} {act : Act} {Q : Exit → Act → World → Prop}
/-- Bytes are appended: what is touched, and where the row lies then. -/
theorem append_new (hgd : o.guard = none) (s x : Operand) (ho : o.op = .call { callee := .builtin .append, args := #[s, x], argTypes := #[35, 35] })
    {W0 wr : World} {v : Value} {xs ys : List Int} (hs : act.eval s = v) (hA : Acc W0 v xs wr)
    (a2 : Option Addr) (n c : Nat) (hx : act.eval x = .slice a2 n c) (hn : ys.length = n) (h0 : 0 < n) (hy : Bytes wr a2 ys) (hl : xs.length + ys.length ≤ 140737488355328)
    (h : ∀ v' w', Acc W0 v' (xs ++ ys) w' → Touch (fun j => v.ownBlock = some j) wr w' → (∀ g, v'.ownBlock = some g → v.ownBlock = some g ∨ g = wr.heap.size) → wpList Tryz.prog ops Q rest (act.put o.dst v') w') :
    wpList Tryz.prog ops Q (o :: rest) act wr := by
  obtain ⟨i0, hi, hz0, hz1, hz2⟩ := info_parts infoByte
  subst hn
  rcases hy.at_ with h2 | ⟨b, off, rfl, hc⟩
  · subst h2; simp at h0
  refine wpList_append_lies _ hgd s x 35 ho W0.heap.size 5 i0 (.int .u8 0) 1 1 Tryz.underlying35 hi hz0 hz1 hz2 rfl (by decide) v xs.length _ hs hA.own ⟨b, off, none⟩ ys.length c (ys.map (Value.int .u8)) hx (by simp)
    ?_ ?_ h0 ?_ ?_ hA.base wr.heap.size rfl (fun g cap w' hown' hgrow hat _ => h _ _ ⟨?_, hA.bel.grown hgrow hA.base (fun k hk => (World.ownsRow.lt hA.own k hk).1), ?_⟩ (Touch.of_grown hgrow) (fun q hq => ?_))
  · intro j u hj
    have hjl : j < ys.length := by
      rcases Nat.lt_or_ge j ys.length with h | h
      · exact h
      · rw [List.getElem?_eq_none (by simpa using h)] at hj; cases hj
    have hplain : (⟨b, off, none⟩ : Addr).add j = ⟨b, off + j, none⟩ := by unfold Addr.add; split <;> simp_all
    rw [hplain, hc j hjl]
    rw [← hj, getD_lt hjl]; simp [hjl]
  · intro u hu
    obtain ⟨n, _, rfl⟩ := List.mem_map.1 hu
    rfl
  · unfold maxLen; omega
  · omega
  · unfold Own; rw [List.length_append, List.map_append]; exact hown'
  · have := hgrow.size; have := hA.base; omega
  · simp only [Value.ownBlock, Option.some.injEq] at hq
    subst hq
    exact hat
end
theorem lit_one (W : World) (z : Int) (hz : 0 ≤ z ∧ z < 256) (t : TypeId) : Bytes (W.alloc (.cells #[.int .u8 z] t)) (some ⟨W.heap.size, 0, none⟩) [z] := by
  refine ⟨fun y hy => ?_, by simp, .inr ⟨W.heap.size, 0, rfl, fun i hi => ?_⟩⟩
  · rw [List.mem_singleton] at hy; subst hy; exact hz
  · obtain rfl : i = 0 := by simpa using hi
    simp [go_sem]
theorem own_lit8 (W : World) : Own W.heap.size (W.alloc (.cells #[.int .u8 0, .int .u8 97, .int .u8 115, .int .u8 109, .int .u8 1, .int .u8 0, .int .u8 0, .int .u8 0] 5)) (.slice (some ⟨W.heap.size, 0, none⟩) 8 8) headB := by
  refine ⟨rfl, .inr ⟨W.heap.size, 8, #[.int .u8 0, .int .u8 97, .int .u8 115, .int .u8 109, .int .u8 1, .int .u8 0, .int .u8 0, .int .u8 0], rfl, Nat.le_refl _, ?_, Nat.le_refl _, by unfold maxLen; omega, rfl, rfl⟩⟩
  show (W.heap.push _)[W.heap.size]? = _
  simp
theorem upto_few {m : Md} {most : Int} (h : FitAll m most) : ∀ (k : Nat), k ≤ 11 → (uptoB m k).length ≤ 8 + k * 1000000010
  | 0, _ => by show (headB ++ []).length ≤ _; simp [headB]
  | k + 1, hk => by
    have h1 := upto_few h k (by omega)
    have h2 := secB_few (k := k) h (by omega)
    have h3 := encU_few ((secB m k).length : Int)
    rw [upto_succ, List.length_append]
    have h4 : (pieceB m k).length ≤ 1000000010 := by
      unfold pieceB
      split
      · simp
      · rw [List.length_cons, List.length_append]; omega
    omega
theorem modR_no {m : Md} (hc : m.check ≠ 0) : modR m = ([], m.check) := by unfold modR; rw [if_pos hc]
set_option maxRecDepth 100000 in
set_option maxHeartbeats 8000000 in
theorem refModule_any (m : Md) (w : World) (h : Ready w m) (hna : ∀ s ∈ m.names, s.size ≤ 1000000) (ht : m.check = 0 → FitAll m 0) :
    Calls Tryz.prog 14 #[.agg m.v] w (ModP w (modR m).1 (modR m).2) := by
  have hb0 := (Below.refl w.heap.size w).alloc (Nat.le_refl _) (.cells m.v 32)
  have CK := hid (refChk_any m _ (h.at_.on hb0) h.few hna)
  have HB := hid hb0
  have X0 := BoxAt.made w m.v 32
  have HX := hid X0
  by_cases hc : m.check = 0
  rotate_left
  · rw [modR_no hc]
    obtain ⟨ck, hck⟩ : ∃ z, m.check = z := ⟨_, rfl⟩
    rw [hck] at CK hc ⊢
    have q1 : (ck == 0) = false := by simpa using hc
    have q2 : (ck != 0) = true := by simpa using hc
    clear h ht hb0 hck hna hc
    unfold Md.v at CK HB HX X0 ⊢
    have x0 := X0 0 _ rfl
    have x1 := X0 1 _ rfl
    have x2 := X0 2 _ rfl
    have x3 := X0 3 _ rfl
    have x4 := X0 4 _ rfl
    have x5 := X0 5 _ rfl
    have x6 := X0 6 _ rfl
    have x7 := X0 7 _ rfl
    have x8 := X0 8 _ rfl
    have x9 := X0 9 _ rfl
    have x10 := X0 10 _ rfl
    clear X0
    go_enter Tryz.func14, Tryz.ntmps14
    go_wp2_with fail
    refine CK.out.mono ?_
    rintro e1 w1 ⟨rfl, hb⟩
    have HB1 := hid (HB.out.trans (hb.mono HB.out.size))
    have HX1 := hid (HX.out.keep hb)
    clear CK hb
    clear x0 x1 x2 x3 x4 x5 x6 x7 x8 x9 x10
    have x0 := HX1.out 0 _ rfl
    have x1 := HX1.out 1 _ rfl
    have x2 := HX1.out 2 _ rfl
    have x3 := HX1.out 3 _ rfl
    have x4 := HX1.out 4 _ rfl
    have x5 := HX1.out 5 _ rfl
    have x6 := HX1.out 6 _ rfl
    have x7 := HX1.out 7 _ rfl
    have x8 := HX1.out 8 _ rfl
    have x9 := HX1.out 9 _ rfl
    have x10 := HX1.out 10 _ rfl
    go_wp2
    exact bodyPost_ret (v := .tuple #[.slice none 0 0, .int .i64 ck]) (by simp [results, Tryz.results14, go_sem]) rfl (modP_none HB1.out)
  rw [hc] at CK
  have HH := hid h
  have HNA := hid hna
  have HTT := hid ht
  have HC := hid hc
  have FI := hid (h.fine hc)
  have FA := hid (ht hc)
  have EL := hid (fun (hl : 1048576 < (uptoB m 11).length) => show modR m = ([], 3) by unfold modR; rw [if_neg (by simpa using hc), if_pos (show 1048576 < (modB m).length from hl)])
  have EN := hid (fun (hl : (uptoB m 11).length ≤ 1048576) => show modR m = (uptoB m 11, 0) by unfold modR modB; rw [if_neg (by simpa using hc), if_neg (by omega)])
  have LF := hid (fun (k : Nat) (hk : k < 11) (W : World) => left_any m k hk W)
  have SC := hid (fun (k : Nat) (hk : k < 11) (W : World) (hb : Below w.heap.size w W) => refSection_any m ((k : Int) + 1) W (HH.out.on hb) HNA.out (by omega) HTT.out)
  have SR := hid (fun (k : Nat) (hk : k < 11) => show secR m ((k : Int) + 1) = (secB m k, 0) by unfold secR; rw [if_neg (by simpa using hc), if_neg (by omega)]; simp)
  have PN := hid (fun k => piece_none (m := m) (k := k))
  have PS := hid (fun k => piece_some (m := m) (k := k))
  have SB := hid (fun k => secB_bytes FI.out k)
  have UB := hid (fun k hk => upto_bytes FI.out k hk)
  have SF := hid (fun (k : Nat) (hk : k < 11) => secB_few (k := k) FA.out hk)
  have LS := hid (fun (k : Nat) (hk : k < 11) => left_sec m hk)
  have UL := hid (fun (k : Nat) (hk : k ≤ 11) => upto_few FA.out k hk)
  clear h ht hb0 hna hc
  unfold Md.v at CK HB HX X0 LF SC ⊢
  have x0 := X0 0 _ rfl
  have x1 := X0 1 _ rfl
  have x2 := X0 2 _ rfl
  have x3 := X0 3 _ rfl
  have x4 := X0 4 _ rfl
  have x5 := X0 5 _ rfl
  have x6 := X0 6 _ rfl
  have x7 := X0 7 _ rfl
  have x8 := X0 8 _ rfl
  have x9 := X0 9 _ rfl
  have x10 := X0 10 _ rfl
  clear X0
  go_enter Tryz.func14, Tryz.ntmps14
  go_wp2_with fail
  refine CK.out.mono ?_
  rintro e1 w1 ⟨rfl, hb⟩
  have HB1 := hid (HB.out.trans (hb.mono HB.out.size))
  have HX1 := hid (HX.out.keep hb)
  clear CK hb
  clear x0 x1 x2 x3 x4 x5 x6 x7 x8 x9 x10
  have x0 := HX1.out 0 _ rfl
  have x1 := HX1.out 1 _ rfl
  have x2 := HX1.out 2 _ rfl
  have x3 := HX1.out 3 _ rfl
  have x4 := HX1.out 4 _ rfl
  have x5 := HX1.out 5 _ rfl
  have x6 := HX1.out 6 _ rfl
  have x7 := HX1.out 7 _ rfl
  have x8 := HX1.out 8 _ rfl
  have x9 := HX1.out 9 _ rfl
  have x10 := HX1.out 10 _ rfl
  have A0 := hid (show Acc w1 (.slice (some ⟨w1.heap.size, 0, none⟩) 8 8) (uptoB m 0) (w1.alloc (.cells #[.int .u8 0, .int .u8 97, .int .u8 115, .int .u8 109, .int .u8 1, .int .u8 0, .int .u8 0, .int .u8 0] 5)) from ⟨by have := own_lit8 w1; simpa [uptoB] using this, (Below.refl _ _).alloc (Nat.le_refl _) _, by simp⟩)
  clear x0 x1 x2 x3 x4 x5 x6 x7 x8 x9 x10
  go_wp2
  go_loopw [5, 6, 7, 8] (fun vo vi y7 y8 wr => ∃ k : Nat, vi = .int .i64 ((k : Int) + 1) ∧ k ≤ 11 ∧ Hid (Acc w1 vo (uptoB m k) wr)) (fun _ vi _ _ _ => 12 - (intOf vi).toNat)
  case atStart => exact ⟨0, rfl, by omega, A0⟩
  case round =>
    clear A0
    obtain ⟨k, rfl, hk, AK⟩ := hrel
    by_cases hlt : k < 11
    · have hki : (k : Int) + 1 ≤ 11 := by omega
      have HXK := hid (fun (X : World) (h : Below w1.heap.size w1 X) => HX1.out.keep h)
      have X1 := HXK.out _ AK.out.bel
      have x0 := X1 0 _ rfl
      have x1 := X1 1 _ rfl
      have x2 := X1 2 _ rfl
      have x3 := X1 3 _ rfl
      have x4 := X1 4 _ rfl
      have x5 := X1 5 _ rfl
      have x6 := X1 6 _ rfl
      have x7 := X1 7 _ rfl
      have x8 := X1 8 _ rfl
      have x9 := X1 9 _ rfl
      have x10 := X1 10 _ rfl
      clear X1
      have L := hid (LF.out k hlt)
      have LE := hid (LS.out k hlt)
      by_cases hne : secB m k = []
      · rw [LE.out, hne] at L
        have HU := hid (PN.out k hne)
        go_wp2_with fail
        refine (L.out _).mono ?_
        rintro e2 w2 ⟨rfl, hb⟩
        have A2 := hid (AK.out.call hb)
        clear hb AK L
        clear x0 x1 x2 x3 x4 x5 x6 x7 x8 x9 x10
        go_wp2
        go_roundw
        case rel => exact ⟨k + 1, by go_num, by omega, by rw [HU.out]; exact A2⟩
        case measure => simp [intOf]; omega
      rw [LE.out, decide_eq_false hne] at L
      have HU := hid (PS.out k hne)
      have HUL := hid (UL.out k (by omega))
      go_wp2_with fail
      refine (L.out _).mono ?_
      rintro e2 w2 ⟨rfl, hb⟩
      have A2 := hid (AK.out.call hb)
      have BB2 := hid (HB1.out.trans (A2.out.bel.mono HB1.out.size))
      clear hb AK L
      clear x0 x1 x2 x3 x4 x5 x6 x7 x8 x9 x10
      have X2 := HXK.out _ A2.out.bel
      have x0 := X2 0 _ rfl
      have x1 := X2 1 _ rfl
      have x2 := X2 2 _ rfl
      have x3 := X2 3 _ rfl
      have x4 := X2 4 _ rfl
      have x5 := X2 5 _ rfl
      have x6 := X2 6 _ rfl
      have x7 := X2 7 _ rfl
      have x8 := X2 8 _ rfl
      have x9 := X2 9 _ rfl
      have x10 := X2 10 _ rfl
      clear X2
      have S := hid (SC.out k hlt w2 BB2.out)
      rw [SR.out k hlt] at S
      dsimp only at S
      have HVO := hid (fun q hq => (World.ownsRow.lt A2.out.own q hq).2)
      obtain ⟨q, hq⟩ : ∃ n, (secB m k).length = n := ⟨_, rfl⟩
      have HQ := hid hq
      have HQN := hid (show 0 < q by rw [← hq]; exact List.length_pos_iff.2 hne)
      have HQL := hid (show q ≤ 1000000000 by rw [← hq]; exact SF.out k hlt)
      have hqi : (q : Int) < 4294967296 := by have := HQL.out; omega
      have hq0 : 0 ≤ (q : Int) := by omega
      go_wp2_with fail
      refine S.out.mono ?_
      rintro e3 w3 ⟨v3, rfl, ho, hb⟩
      obtain ⟨a3, c3, rfl⟩ := ho.sliceN hq
      have A3 := hid (A2.out.call hb)
      have HO3 := hid (fun b (hb3 : (Value.slice a3 q c3).ownBlock = some b) => World.ownsRow.lt ho b hb3)
      have HY3 := hid (ho.bytes (SB.out k) (by have := HQL.out; omega))
      clear ho hb hq S A2
      clear x0 x1 x2 x3 x4 x5 x6 x7 x8 x9 x10
      have hw : IntKind.u8.wrap ((k : Int) + 1) = (k : Int) + 1 := by rw [IntKind.wrap_u8]; omega
      have AL := hid (A3.out.call ((Below.refl _ _).alloc (Nat.le_refl _) (.cells #[.int .u8 ((k : Int) + 1)] 5)))
      have HY2 := hid (lit_one w3 ((k : Int) + 1) (by omega) 5)
      go_wp2_with (first | (at_builtin; go_loud (refine append_new rfl (.tmp 28) (.tmp 31) rfl rfl AL.out (some ⟨w3.heap.size, 0, none⟩) 1 1 rfl rfl (by omega) HY2.out (by have := HUL.out; simp only [List.length_cons, List.length_nil]; omega) ?_); intro v4 z4 ha4 ht4 hn4; refine Hid.out ?_))
      refine hid ?_
      have A4 := hid ha4
      have HY4 := hid (Bytes.touchE (HY3.out.alloc (.cells #[.int .u8 ((k : Int) + 1)] 5)) ht4 (fun b3 o3 h3 _ h4 => by have h5 := HVO.out b3 h4; have h6 := (HO3.out b3 (by rw [h3]; rfl)).1; omega))
      have HV4 := hid (fun g hg => show g < w2.heap.size ∨ w3.heap.size ≤ g from (hn4 g hg).elim (fun h => .inl (HVO.out g h)) (fun h => .inr (by rw [h]; simp)))
      have hB34 := hid (AL.out)
      clear ha4 ht4 hn4 AL HY2 HY3 A3 hw
      go_wp2_with fail
      refine (u8_tl (q : Int) _ hq0 hqi).mono ?_
      rintro e5 u5 ⟨pa, pn, pc, rfl, hpn, hpy, hpz, hb⟩
      have B5 := hid (A4.out.call hb)
      have HPN := hid hpn
      have HPY := hid hpy
      have HY5 := hid (HY4.out.below hb)
      have HPL := hid (encU_few (q : Int))
      clear hpn hpy hpz hb A4 HY4
      go_wp2_with (first | (at_builtin; go_loud (refine append_tch rfl (.tmp 33) (.tmp 36) rfl rfl B5.out pa pn pc rfl HPN.out HPY.out (by have := HUL.out; have := HPL.out; rw [List.length_append]; simp only [List.length_cons, List.length_nil]; omega) ?_); intro v6 z6 ha6 ht6; refine Hid.out ?_))
      refine hid ?_
      have A6 := hid ha6
      have HY6 := hid (Bytes.touchE HY5.out ht6 (fun b3 o3 h3 _ h4 => by have h6 := HO3.out b3 (by rw [h3]; rfl); rcases HV4.out b3 h4 with h5 | h5 <;> omega))
      clear ha6 ht6 B5 HPN HPY HY5
      go_wp2_with (first | (at_builtin; go_loud (refine append_lie rfl (.tmp 38) (.tmp 39) rfl rfl A6.out a3 q c3 rfl HQ.out HY6.out (by have h1 := HUL.out; have h2 := HPL.out; have h3 := HQ.out; have h4 := HQL.out; rw [List.length_append, List.length_append]; simp only [List.length_cons, List.length_nil]; omega) ?_); intro v8 z8 ha8; refine Hid.out ?_))
      refine hid ?_
      have A8 := hid ha8
      clear ha8 A6 HY6
      go_wp2
      go_roundw
      case rel => exact ⟨k + 1, by go_num, by omega, by rw [HU.out]; have h9 := A8; rw [← HQ.out] at h9; simpa [List.append_assoc] using h9⟩
      case measure => simp [intOf]; omega
    · obtain rfl : k = 11 := by omega
      have hko : ¬ ((11 : Nat) : Int) + 1 ≤ 11 := by omega
      obtain ⟨L, hL⟩ : ∃ n, (uptoB m 11).length = n := ⟨_, rfl⟩
      have HBY := hid (AK.out.own)
      obtain ⟨ao, co, rfl⟩ := AK.out.own.sliceN hL
      have HLL := hid hL
      have HUL := hid (UL.out 11 (by omega))
      have HE := hid (HB1.out.trans (AK.out.bel.mono HB1.out.size))
      by_cases hbig : 1048576 < L
      · have hbi : (1048576 : Int) < (L : Int) := by omega
        have HR := hid (EL.out (by rw [HLL.out]; exact hbig))
        clear hL AK hbig
        go_wp2
        exact bodyPost_ret (v := .tuple #[.slice none 0 0, .int .i64 3]) (by simp [results, Tryz.results14, go_sem]) rfl (by rw [HR.out]; exact modP_none HE.out)
      have hbi : ¬ (1048576 : Int) < (L : Int) := by omega
      have HR := hid (EN.out (by rw [HLL.out]; omega))
      have HY := hid (HBY.out.bytes (UB.out 11 (by omega)) (by have := HUL.out; omega))
      have HZ := hid HBY.out.nil.out
      clear hL AK hbig
      go_wp2
      exact bodyPost_ret (v := .tuple #[.slice ao L co, .int .i64 0]) (by simp [results, Tryz.results14, go_sem]) rfl (by rw [HR.out]; exact ⟨ao, L, co, rfl, HLL.out, HY.out, HZ.out, HE.out⟩)
end Go.Proofs.YtepbjkkakfpjgaaGreatDoor.Enc

namespace Go.Proofs.YtepbjkkakfpjgaaGreatDoor.Enc
open Go.RowKit Go.Shelf Go.Proofs.YtepbjkkakfpjgaaGreatDoor.Leb Go.Proofs.YtepbjkkakfpjgaaGreatDoor.Instr Go.Proofs.YtepbjkkakfpjgaaGreatDoor.Mod
open Go.Proofs.YtepbjkkakfpjgaaGreatDoor.Body (encL codeL PutP)

def noneM : Md where
  ty := []
  im := []
  fu := []
  tb := []
  me := []
  gl := []
  ex := []
  st := false
  sn := 0
  el := []
  da := []
  ty' := ⟨none, 0⟩
  im' := ⟨none, 0⟩
  fu' := ⟨none, 0⟩
  tb' := ⟨none, 0⟩
  me' := ⟨none, 0⟩
  gl' := ⟨none, 0⟩
  ex' := ⟨none, 0⟩
  el' := ⟨none, 0⟩
  da' := ⟨none, 0⟩
theorem noneM_few : noneM.few := ⟨⟨by simp [noneM], by simp [noneM], by simp [noneM], by simp [noneM], by simp [noneM], by simp [noneM], by simp [noneM], by simp [noneM], by simp [noneM], by simp [noneM, Md.codes], by simp [noneM], by simp [noneM], by simp [noneM], by simp [noneM]⟩, by simp [noneM, Md.codes], by simp [noneM]⟩
theorem noneM_at (w : World) : ModAt w.heap.size w noneM := ⟨.inl rfl, .inl rfl, .inl rfl, .inl rfl, .inl rfl, .inl rfl, .inl rfl, .inl rfl, .inl rfl, by simp [noneM, Md.codes], by simp [noneM], by simp [noneM]⟩
theorem noneM_ready (w : World) (hT : Nams w) (hU : Utf.Tabs w) : Ready w noneM := ⟨hT, hU, noneM_at w, noneM_few, ⟨by simp [noneM], by simp [noneM], by simp [noneM], by simp [noneM], by simp [noneM]⟩, by simp [noneM, Md.codes]⟩
theorem fit_nil {α : Type} (f : α → List Int) (most : Int) : FitP f [] most := by
  unfold FitP
  rw [List.flatMap_nil, List.append_nil, encU_length]
  have := (sizeU_pos (([] : List α).length : Int)).2
  omega
theorem fit_small {α : Type} (f : α → List Int) (l : List α) (most : Int) (_hm : ((encU l.length ++ l.flatMap f).length : Int) ≤ most) (h : (encU l.length ++ l.flatMap f).length ≤ 1000000000) : FitP f l most := h
theorem noneM_fit (most : Int) : FitAll noneM most := ⟨fit_nil _ _, fit_nil _ _, fit_nil _ _, fit_nil _ _, fit_nil _ _, fit_nil _ _, fit_nil _ _, fit_nil _ _, fit_nil _ _, fit_nil _ _⟩
theorem noneM_mod : modR noneM = (headB, 0) := by kernel_rfl
theorem mod_none (w : World) (hT : Nams w) (hU : Utf.Tabs w) :
    Calls Tryz.prog 10 #[.agg #[.slice none 0 0, .slice none 0 0, .slice none 0 0, .slice none 0 0, .slice none 0 0, .slice none 0 0, .slice none 0 0, .bool false, .int .u32 0, .slice none 0 0, .slice none 0 0]] w (ModP w headB 0) := by
  have := Module_any noneM w (noneM_ready w hT hU) (fun _ => noneM_fit _)
  rw [noneM_mod] at this
  exact this
/-- A module of these memories alone. -/
def memsM (b : Nat) (l : List Li) : Md := { noneM with me := l, me' := ⟨some ⟨b, 0, none⟩, l.length⟩ }
theorem memsM_ready (b : Nat) (l : List Li) (w : World) (hT : Nams w) (hU : Utf.Tabs w) (hr : Mod.Rows w.heap.size w (some ⟨b, 0, none⟩) 3 (l.map Li.v)) (hl : l.length ≤ 1000) (h0 : ∀ x ∈ l, 0 ≤ x.n) : Ready w (memsM b l) := by
  have A := noneM_at w
  have F := noneM_few
  refine ⟨hT, hU, ⟨A.ty, A.im, A.fu, A.tb, hr, A.gl, A.ex, A.el, A.da, A.ls, A.fs, A.bs⟩, ⟨⟨F.fit.ty, F.fit.im, F.fit.fu, F.fit.tb, by simp [memsM]; omega, F.fit.gl, F.fit.ex, F.fit.el, F.fit.da, F.fit.ls, F.fit.fs, F.fit.bs, F.fit.iS, F.fit.eS⟩, F.cs, by simp [memsM, noneM]; omega⟩, ⟨?_, by simp [memsM, noneM], by simp [memsM, noneM], by simp [memsM, noneM], by simp [memsM, noneM]⟩, by simp [memsM, noneM, Md.codes]⟩
  intro x hx
  have : x ∈ l := by simpa [memsM, noneM] using hx
  exact h0 x this
theorem rows_one (w : World) (b : Nat) (x : Li) (h : BoxAt w b #[.int .u32 x.n, .int .u32 x.x, .bool x.c]) : Mod.Rows w.heap.size w (some ⟨b, 0, none⟩) 3 ([x].map Li.v) := by
  have hb := World.block_lt_of_cell? w _ (h 0 _ rfl)
  refine .inr ⟨b, 0, rfl, hb, fun i hi j hj v hv => ?_⟩
  have hi' : i = 0 := by simpa using hi
  subst hi'
  have hj' : j = 0 ∨ j = 1 ∨ j = 2 := by omega
  rcases hj' with rfl | rfl | rfl <;> simp [Li.v] at hv <;> subst hv
  · exact h 0 _ rfl
  · exact h 1 _ rfl
  · exact h 2 _ rfl
def oneMem : List Int := [0, 97, 115, 109, 1, 0, 0, 0, 5, 4, 1, 1, 1, 2]
theorem oneMem_mod (b : Nat) : modR (memsM b [⟨1, 2, true⟩]) = (oneMem, 0) := by kernel_rfl
theorem oneMem_fit (b : Nat) : FitAll (memsM b [⟨1, 2, true⟩]) 1048576 := ⟨fit_nil _ _, fit_nil _ _, fit_nil _ _, fit_nil _ _, fit_small meB [⟨1, 2, true⟩] _ (by decide +kernel) (by decide +kernel), fit_nil _ _, fit_nil _ _, fit_nil _ _, fit_nil _ _, fit_nil _ _⟩
theorem mod_mem (b : Nat) (w : World) (hT : Nams w) (hU : Utf.Tabs w) (h : BoxAt w b #[.int .u32 1, .int .u32 2, .bool true]) :
    Calls Tryz.prog 10 #[.agg #[.slice none 0 0, .slice none 0 0, .slice none 0 0, .slice none 0 0, .slice (some ⟨b, 0, none⟩) 1 1, .slice none 0 0, .slice none 0 0, .bool false, .int .u32 0, .slice none 0 0, .slice none 0 0]] w (ModP w oneMem 0) := by
  have := Module_any (memsM b [⟨1, 2, true⟩]) w (memsM_ready b _ w hT hU (rows_one w b ⟨1, 2, true⟩ h) (by simp) (by simp)) (fun _ => oneMem_fit b)
  rw [oneMem_mod] at this
  exact this
set_option maxHeartbeats 1000000 in
theorem first_any (w : World) : Calls Tryz.prog 31 #[] w fun e w' => e = .returned (.slice (some ⟨w.heap.size, 0, none⟩) 8 8) ∧ Own w.heap.size w' (.slice (some ⟨w.heap.size, 0, none⟩) 8 8) headB ∧ Below w.heap.size w w' := by
  go_enter Tryz.func31, Tryz.ntmps31
  go_wp2
  go_ret
  exact ⟨rfl, World.ownsRow_lit (base := w.heap.size) (e := 5) (size := 1) w #[.int .u8 0, .int .u8 97, .int .u8 115, .int .u8 109, .int .u8 1, .int .u8 0, .int .u8 0, .int .u8 0] 8 (Nat.le_refl _) (by decide) rfl, (Below.refl _ _).alloc (Nat.le_refl _) _⟩
section
variable {ops : Array Oper} {rest : List Oper} {o : Oper} {act : Act} {Q : Exit → Act → World → Prop}
/-- An append of bytes whose guard says yes. -/
theorem bytes_wanted (hw : Region.wanted o (yielded ops act.tmps) = true) (s x : Operand) (ho : o.op = .call { callee := .builtin .append, args := #[s, x], argTypes := #[35, 35] })
    {base : Nat} {w0 wr : World} {v : Value} {xs ys : List Int} (hs : act.eval s = v) (hown : Own base wr v xs) (hb : Below base w0 wr) (hbase : base ≤ wr.heap.size)
    (ad : Addr) (n c : Nat) (hx : act.eval x = .slice (some ad) n c) (hn : ys.length = n) (hy : Bytes wr (some ad) ys) (hl : xs.length + ys.length ≤ 140737488351232)
    (h : ∀ v' w', Own base w' v' (xs ++ ys) → Below base w0 w' → base ≤ w'.heap.size → wpList Tryz.prog ops Q rest (act.put o.dst v') w') :
    wpList Tryz.prog ops Q (o :: rest) act wr := by
  obtain ⟨i0, hi, hz0, hz1, hz2⟩ := info_parts infoByte
  subst hn
  refine BigFrame.wpList_want hw fun K hK => ?_
  refine wp_append_own _ s x 35 ho base 5 i0 (.int .u8 0) 1 1 Tryz.underlying35 hi hz0 hz1 hz2 rfl (by decide) v xs.length _ hs hown ad ys.length c (ys.map (Value.int .u8)) hx (by simp)
    (fun j u hj => ?_) (fun u hu => by obtain ⟨n, _, rfl⟩ := List.mem_map.1 hu; rfl) (by unfold maxLen; omega) (by omega) hbase (fun v' w' hown' hgrow _ => hK _ _ (h v' w' ?_ (hb.grown hgrow hbase (fun k hk => (World.ownsRow.lt hown k hk).1)) (by have := hgrow.size; omega)))
  · have hjl : j < ys.length := by
      rcases Nat.lt_or_ge j ys.length with h | h
      · exact h
      · rw [List.getElem?_eq_none (by simpa using h)] at hj; cases hj
    obtain ⟨b, off, he, hc⟩ := hy.at (by omega)
    obtain rfl := Option.some.inj he
    have hplain : (⟨b, off, none⟩ : Addr).add j = ⟨b, off + j, none⟩ := by unfold Addr.add; split <;> simp_all
    rw [hplain, hc j hjl]
    rw [← hj, getD_lt hjl]; simp [hjl]
  · unfold Own; rw [List.length_append, List.map_append]; exact hown'
end
theorem headB_bytes : ∀ z ∈ headB, 0 ≤ z ∧ z < 256 := by intro z hz; unfold headB at hz; simp at hz; omega
set_option maxRecDepth 100000 in
set_option maxHeartbeats 4000000 in
theorem awake8 (w : World) (hT : Nams w) (hU : Utf.Tabs w) : Calls Tryz.prog 8 #[] w fun e w' => e = .returned (.bool true) ∧ Below w.heap.size w w' := by
  have HT := hid hT
  have HU := hid hU
  have C := hid (mod_none w hT hU)
  clear hT hU
  go_enter Tryz.func8, Tryz.ntmps8
  go_wp2_with fail
  refine C.out.mono ?_
  rintro e w1 ⟨a1, n1, c1, rfl, hn1, hy1, _, hb1⟩
  have HY1 := hid hy1
  have HN1 := hid hn1
  have HB1 := hid hb1
  clear C hn1 hy1 hb1
  have hb2 := (Below.refl w1.heap.size w1).alloc (Nat.le_refl _) (.cells #[.int .u32 1, .int .u32 2, .bool true] 60)
  have HB2 := hid (thenB HB1.out hb2)
  have HY2 := hid (HY1.out.below hb2)
  have C := hid (mod_mem w1.heap.size _ (HT.out.below HB2.out) (HU.out.below HB2.out) (BoxAt.made w1 #[.int .u32 1, .int .u32 2, .bool true] 60))
  clear hb2 HB1 HY1
  go_wp2_with fail
  refine C.out.mono ?_
  rintro e w2 ⟨a2, n2, c2, rfl, hn2, hy2, _, hb3⟩
  have HZ2 := hid hy2
  have HN2 := hid hn2
  have HB3 := hid (thenB HB2.out hb3)
  have HY3 := hid (HY2.out.below hb3)
  clear C hn2 hy2 hb3 HB2 HY2
  have C := hid (first_any w2)
  go_wp2_with fail
  refine C.out.mono ?_
  rintro e w3 ⟨rfl, ho3, hb4⟩
  have HB4 := hid (thenB HB3.out hb4)
  have HY4 := hid (HY3.out.below hb4)
  have HZ4 := hid (HZ2.out.below hb4)
  have C2 := hid (SameBytes_any a1 _ n1 c1 8 8 headB headB w3 HN1.out rfl HY4.out (ho3.bytes headB_bytes (by decide)))
  clear C ho3 hb4 HB3 HY3 HZ2
  go_wp2_with fail
  refine C2.out.mono ?_
  rintro e w4 ⟨rfl, rfl⟩
  clear C2
  have C := hid (first_any w3)
  go_wp2_with fail
  refine C.out.mono ?_
  rintro e w5 ⟨rfl, ho5, hb5⟩
  have HB5 := hid (thenB HB4.out hb5)
  have hb6 := (Below.refl w5.heap.size w5).alloc (Nat.le_refl _) (.cells #[.int .u8 5, .int .u8 4, .int .u8 1, .int .u8 1, .int .u8 1, .int .u8 2] 5)
  have HO6 := hid (ho5.alloc (.cells #[.int .u8 5, .int .u8 4, .int .u8 1, .int .u8 1, .int .u8 1, .int .u8 2] 5))
  have HS6 := hid (show w3.heap.size ≤ (w5.alloc (.cells #[.int .u8 5, .int .u8 4, .int .u8 1, .int .u8 1, .int .u8 1, .int .u8 2] 5)).heap.size by have := hb5.size; simp; omega)
  have HR6 := hid (hb5.trans (hb6.mono hb5.size))
  have HL6 := hid (show Bytes (w5.alloc (.cells #[.int .u8 5, .int .u8 4, .int .u8 1, .int .u8 1, .int .u8 1, .int .u8 2] 5)) (some ⟨w5.heap.size, 0, none⟩) [5, 4, 1, 1, 1, 2] from ⟨by intro z hz; simp at hz; omega, by simp, .inr ⟨_, 0, rfl, fun i hi => by
    have hi6 : i < 6 := hi
    match i, hi6 with
    | 0, _ | 1, _ | 2, _ | 3, _ | 4, _ | 5, _ => simp [go_sem]⟩⟩)
  clear C ho5 hb5 hb6 HY4
  have C2 := hid (fun (a7 : Option Addr) (c7 : Nat) (w7 : World) (h1 : Own w3.heap.size w7 (.slice a7 14 c7) oneMem) (h2 : Below w3.heap.size w3 w7) => SameBytes_any a2 a7 n2 c2 14 c7 oneMem oneMem w7 HN2.out rfl (HZ4.out.below h2) (h1.bytes (by intro z hz; unfold oneMem at hz; simp at hz; omega) (by decide)))
  clear HZ4
  go_wp2_with (first
    | (at_builtin; refine bytes_wanted (ys := [5, 4, 1, 1, 1, 2]) (by first | rfl | simp [Region.wanted, yielded]) (.tmp 30) (.tmp 31) rfl rfl HO6.out HR6.out HS6.out _ 6 6 rfl rfl HL6.out (by decide) ?_; intro v7 w7 ho7 hb7 hs7; have HO7 := hid ho7; have HB7 := hid hb7; clear ho7 hb7 hs7; obtain ⟨a7, c7, rfl⟩ := HO7.out.sliceN (n := 14) rfl; have C3 := hid (C2.out a7 c7 w7 HO7.out HB7.out))
    | (go_at_call 11; refine C3.out.mono ?_; rintro e w8 ⟨rfl, rfl⟩))
  go_ret
  exact ⟨by simp, HB4.out.trans (HB7.out.mono HB4.out.size)⟩
end Go.Proofs.YtepbjkkakfpjgaaGreatDoor.Enc

namespace Go.Proofs.YtepbjkkakfpjgaaGreatDoor.Enc
open Go.RowKit Go.Shelf Go.Proofs.YtepbjkkakfpjgaaGreatDoor.Leb Go.Proofs.YtepbjkkakfpjgaaGreatDoor.Instr Go.Proofs.YtepbjkkakfpjgaaGreatDoor.Mod
open Go.Proofs.YtepbjkkakfpjgaaGreatDoor.Body (encL codeL PutP)
set_option linter.unusedVariables false

theorem own_heap {e : TypeId} {k : IntKind} {g : Nat} {w : World} {L : List Int} {base : Nat} (h : OwnK e k base w (.slice (some ⟨g, 0, none⟩) L.length L.length) L) : w.heap[g]? = some (.cells (L.map (Value.int k)).toArray e (0, 0)) := by
  rcases h.2 with ⟨h0, _⟩ | ⟨g', cap, cur, hv, hb, hh, h1, h2, h3, h4⟩
  · simp at h0
  · simp only [Value.slice.injEq, Option.some.injEq, Addr.mk.injEq, and_true, true_and] at hv
    obtain ⟨rfl, rfl⟩ := hv
    rw [hh]
    have hc : cur.toList = L.map (Value.int k) := by
      rw [← h4]
      exact (List.take_of_length_le (by simp at h3 ⊢; omega)).symm
    congr 2
    rw [← hc]
/-- make([]byte, n). -/
theorem zeros8 (w : World) (n : Nat) (hl : n ≤ 140737488355328) :
    ∃ w', (∀ x : Int, x = n → (Instr.makeSlice 35 (.int .i64 x) (.int .i64 x)).run Tryz.prog w = .ok (.slice (some ⟨w.heap.size, 0, none⟩) n n) w') ∧ BytesAt w'.heap.size w' (some ⟨w.heap.size, 0, none⟩) (List.replicate n 0) ∧ Below w.heap.size w w' ∧ w.heap.size < w'.heap.size := by
  obtain ⟨i0, hi, hz0, hz1, hz2⟩ := info_parts infoByte
  obtain ⟨w', h1, h2, h3⟩ := run_make_full w w.heap.size 35 5 i0 (.int .u8 0) 1 Tryz.underlying35 hi hz0 hz1 .i64 .i64 n (by rw [hz2]; omega) (by unfold maxLen; omega) (Nat.le_refl _)
  have hcells : (Value.int .u8 0).cells = #[Value.int .u8 0] := rfl
  rw [hcells, toList_madeCells_one] at h2
  have h4 : OwnK 5 .u8 w.heap.size w' (.slice (some ⟨w.heap.size, 0, none⟩) (List.replicate n (0 : Int)).length (List.replicate n (0 : Int)).length) (List.replicate n 0) := by
    unfold OwnK
    simpa using h2
  have h5 := own_heap h4
  have h6 := (World.ownsRow.lt h4 w.heap.size rfl).2
  refine ⟨w', fun x hx => by rw [hx]; exact h1, .inr ⟨_, 0, rfl, h6, fun i hi => ?_⟩, (Below.refl _ _).grown h3 (Nat.le_refl _) (fun k h => by cases h), h6⟩
  simp only [List.length_replicate] at hi
  simp [World.cell?, h5, hi]
theorem Pick100_any (x : Int) (w : World) (hx : -9223372036854775808 ≤ x ∧ x ≤ 9223372036854775807) : Calls Tryz.prog 18 #[.int .i64 x, .int .i64 100] w fun e w' => ∃ p : Int, e = .returned (.int .i64 p) ∧ 0 ≤ p ∧ p < 100 ∧ w = w' := by
  obtain ⟨hx1, hx2⟩ := hx
  obtain ⟨r, hr⟩ : ∃ r, x.tmod 100 = r := ⟨_, rfl⟩
  have h1 : -100 < r ∧ r < 100 := by
    by_cases h : 0 ≤ x
    · have : x.tmod 100 = x % 100 := Int.tmod_eq_emod_of_nonneg h
      omega
    · have : x.tmod 100 = -((-x) % 100) := by rw [← Int.tmod_eq_emod_of_nonneg (by omega : 0 ≤ -x), Int.neg_tmod, Int.neg_neg]
      omega
  obtain ⟨h2, h3⟩ := h1
  by_cases h4 : r < 0
  · go_enter Tryz.func18, Tryz.ntmps18
    go_wp2
    go_ret
    exact ⟨_, rfl, by omega, by omega, rfl⟩
  · go_enter Tryz.func18, Tryz.ntmps18
    go_wp2
    go_ret
    exact ⟨_, rfl, by omega, by omega, rfl⟩
/-- A module of one data alone. -/
def longM (b g n : Nat) : Md := { noneM with da := [⟨⟨none, 0, .nil⟩, some ⟨b, 0, none⟩, n, List.replicate n 0⟩], da' := ⟨some ⟨g, 0, none⟩, 1⟩ }
theorem longM_v (b g n : Nat) : (longM b g n).v = #[.slice none 0 0, .slice none 0 0, .slice none 0 0, .slice none 0 0, .slice none 0 0, .slice none 0 0, .slice none 0 0, .bool false, .int .u32 0, .slice none 0 0, .slice (some ⟨g, 0, none⟩) 1 1] := rfl
theorem longM_ready (b g n : Nat) (w : World) (hn : n ≤ 1048576) (hT : Nams w) (hU : Utf.Tabs w) (hg : BoxAt w g #[.slice none 0 0, .slice (some ⟨b, 0, none⟩) n n]) (hb : BytesAt w.heap.size w (some ⟨b, 0, none⟩) (List.replicate n 0)) : Ready w (longM b g n) := by
  have A := noneM_at w
  have F := noneM_few
  have hgl := World.block_lt_of_cell? w _ (hg 0 _ rfl)
  refine ⟨hT, hU, ⟨A.ty, A.im, A.fu, A.tb, A.me, A.gl, A.ex, A.el, .inr ⟨g, 0, rfl, hgl, fun i hi j hj v hv => ?_⟩, fun l hl => ?_, A.fs, fun d hd => ?_⟩, ⟨⟨F.fit.ty, F.fit.im, F.fit.fu, F.fit.tb, F.fit.me, F.fit.gl, F.fit.ex, F.fit.el, by simp [longM], fun l hl => ?_, F.fit.fs, fun d hd => ?_, F.fit.iS, F.fit.eS⟩, fun l hl => ?_, by simp [longM, noneM]⟩, ⟨by simp [longM, noneM], by simp [longM, noneM], by simp [longM, noneM], fun d hd z hz => ?_, by simp [longM, noneM]⟩, fun l hl => ?_⟩
  · have hi' : i = 0 := by simpa [longM] using hi
    subst hi'
    have hj' : j = 0 ∨ j = 1 := by omega
    rcases hj' with rfl | rfl <;> simp [longM, Da.v, Lst.val, Il.len] at hv <;> subst hv
    · exact hg 0 _ rfl
    · exact hg 1 _ rfl
  · have : l = ⟨none, 0, .nil⟩ := by simpa [longM, noneM, Md.codes] using hl
    subst this
    exact ⟨rfl, .inl rfl⟩
  · have : d = ⟨⟨none, 0, .nil⟩, some ⟨b, 0, none⟩, n, List.replicate n 0⟩ := by simpa [longM] using hd
    subst this
    exact hb
  · have : l = ⟨none, 0, .nil⟩ := by simpa [longM, noneM, Md.codes] using hl
    subst this
    simp [Il.len]
  · have : d = ⟨⟨none, 0, .nil⟩, some ⟨b, 0, none⟩, n, List.replicate n 0⟩ := by simpa [longM] using hd
    subst this
    simp; omega
  · have : l = ⟨none, 0, .nil⟩ := by simpa [longM, noneM, Md.codes] using hl
    subst this
    simp [Il.count]
  · have : d = ⟨⟨none, 0, .nil⟩, some ⟨b, 0, none⟩, n, List.replicate n 0⟩ := by simpa [longM] using hd
    subst this
    have := List.eq_of_mem_replicate hz
    omega
  · have : l = ⟨none, 0, .nil⟩ := by simpa [longM, noneM, Md.codes] using hl
    subst this
    simp [encL]
theorem longM_fit (b g n : Nat) (most : Int) (hn : n ≤ 1048576) : FitAll (longM b g n) most := by
  have F := noneM_fit most
  refine ⟨F.ty, F.im, F.fn, F.tb, F.me, F.gl, F.ex, F.el, F.co, ?_⟩
  unfold FitP
  have h1 := encU_few ((longM b g n).da.length : Int)
  have h2 := encU_few ((List.replicate n (0 : Int)).length : Int)
  have h3 : ((longM b g n).da.flatMap daB).length ≤ 1048600 := by
    simp only [longM, List.flatMap_cons, List.flatMap_nil, List.append_nil]
    unfold daB insB Go.Proofs.YtepbjkkakfpjgaaGreatDoor.Body.encP
    simp only [List.length_cons, List.length_append, encL, List.length_nil, List.length_replicate] at h2 ⊢
    omega
  rw [List.length_append]
  omega
theorem longM_names (b g n : Nat) : ∀ s ∈ (longM b g n).names, s.size ≤ 1000000 := by
  intro s hs
  simp [longM, noneM, Md.names, twoR] at hs
set_option maxRecDepth 100000 in
set_option maxHeartbeats 4000000 in
theorem encodeLong_walk (w : World) (x : Int) (hx : -9223372036854775808 ≤ x ∧ x ≤ 9223372036854775807) (hT : Nams w ∧ Utf.Tabs w) :
    Calls Tryz.prog 5 #[.int .i64 x] w fun e w' => e = .returned (.bool true) ∧ Below w.heap.size w w' := by
  have C := hid (Pick100_any x w hx)
  have HT := hid hT.1
  have HU := hid hT.2
  clear hx hT
  go_enter Tryz.func5, Tryz.ntmps5
  go_wp2_with fail
  refine C.out.mono ?_
  rintro e0 w0 ⟨p, rfl, hp0, hp1, rfl⟩
  clear C
  obtain ⟨n, hn⟩ : ∃ n : Nat, 1048576 - p = (n : Int) := ⟨(1048576 - p).toNat, by omega⟩
  have hn5 : n ≤ 1048576 := by omega
  obtain ⟨w1, hmk, hz1, hb1, hl1⟩ := zeros8 w n (by omega)
  have hmk := hmk (1048576 - p) hn
  have hb2 := ((Below.refl w1.heap.size w1).alloc (Nat.le_refl _) (.cells #[.slice none 0 0, .slice (some ⟨w.heap.size, 0, none⟩) n n] 47)).alloc (by simp) (.cells #[.slice none 0 0, .slice none 0 0, .slice none 0 0, .slice none 0 0, .slice none 0 0, .slice none 0 0, .slice none 0 0, .bool false, .int .u32 0, .slice none 0 0, .slice (some ⟨w1.heap.size, 0, none⟩) 1 1] 32)
  have HB := hid (thenB hb1 hb2)
  have HX := hid (BoxAt.made (w1.alloc (.cells #[.slice none 0 0, .slice (some ⟨w.heap.size, 0, none⟩) n n] 47)) #[.slice none 0 0, .slice none 0 0, .slice none 0 0, .slice none 0 0, .slice none 0 0, .slice none 0 0, .slice none 0 0, .bool false, .int .u32 0, .slice none 0 0, .slice (some ⟨w1.heap.size, 0, none⟩) 1 1] 32)
  have RD := hid (longM_ready w.heap.size w1.heap.size n ((w1.alloc (.cells #[.slice none 0 0, .slice (some ⟨w.heap.size, 0, none⟩) n n] 47)).alloc (.cells #[.slice none 0 0, .slice none 0 0, .slice none 0 0, .slice none 0 0, .slice none 0 0, .slice none 0 0, .slice none 0 0, .bool false, .int .u32 0, .slice none 0 0, .slice (some ⟨w1.heap.size, 0, none⟩) 1 1] 32)) hn5 (HT.out.below HB.out) (HU.out.below HB.out) ((BoxAt.made w1 #[.slice none 0 0, .slice (some ⟨w.heap.size, 0, none⟩) n n] 47).keep ((Below.refl _ _).alloc (Nat.le_refl _) _)) ((hz1.below hb2).more hb2.size))
  have FT := hid (fun most => longM_fit w.heap.size w1.heap.size n most hn5)
  have NM := hid (longM_names w.heap.size w1.heap.size n)
  have C := hid (Module_any _ _ RD.out (fun _ => FT.out _))
  have K := hid (fun W (hb : Below _ _ W) => refModule_any _ W (RD.out.on hb) NM.out (fun _ => FT.out _))
  obtain ⟨⟨zs, er⟩, hR⟩ : ∃ R, modR (longM w.heap.size w1.heap.size n) = R := ⟨_, rfl⟩
  rw [hR, longM_v] at C
  rw [hR, longM_v] at K
  dsimp only at C K
  rw [World.size_alloc] at HX
  go_wp2_with fail
  refine C.out.mono ?_
  rintro e3 w3 ⟨a3, n3, c3, rfl, hn3, hy3, hz3, hb3⟩
  have HB3 := hid (thenB HB.out hb3)
  have HX3 := hid (HX.out.keep hb3)
  have K3 := hid (K.out _ hb3)
  have HN3 := hid hn3
  clear C K HX HB hn3 hy3 hz3 hb3 hmk hz1 hb1 hl1 hb2 RD FT NM hR
  have x0 := HX3.out 0 _ rfl
  have x1 := HX3.out 1 _ rfl
  have x2 := HX3.out 2 _ rfl
  have x3 := HX3.out 3 _ rfl
  have x4 := HX3.out 4 _ rfl
  have x5 := HX3.out 5 _ rfl
  have x6 := HX3.out 6 _ rfl
  have x7 := HX3.out 7 _ rfl
  have x8 := HX3.out 8 _ rfl
  have x9 := HX3.out 9 _ rfl
  have x10 := HX3.out 10 _ rfl
  go_wp2_with fail
  refine K3.out.mono ?_
  rintro e4 w4 ⟨a4, n4, c4, rfl, hn4, hy4, hz4, hb4⟩
  obtain rfl : n3 = n4 := HN3.out.symm.trans hn4
  have HB4 := hid (thenB HB3.out hb4)
  have C := hid (awake8 w4 (HT.out.below HB4.out) (HU.out.below HB4.out))
  clear K3 hn4 hy4 hz4 hb4 HB3 HX3 HN3 x0 x1 x2 x3 x4 x5 x6 x7 x8 x9 x10
  go_wp2_with fail
  refine C.out.mono ?_
  rintro e5 w5 ⟨rfl, hb5⟩
  have HB5 := hid (thenB HB4.out hb5)
  clear C hb5 HB4
  go_wp2
  go_ret
  exact ⟨rfl, HB5.out⟩
end Go.Proofs.YtepbjkkakfpjgaaGreatDoor.Enc
namespace Go.Proofs.YtepbjkkakfpjgaaGreatDoor
open Go.RowKit
theorem encodeLong_walk (w : World) (x : Int) (hx : -9223372036854775808 ≤ x ∧ x ≤ 9223372036854775807) (hT : Instr.Nams w ∧ Utf.Tabs w) :
    Calls Tryz.prog 5 #[.int .i64 x] w fun e w' => e = .returned (.bool true) ∧ Below w.heap.size w w' := Enc.encodeLong_walk w x hx hT
end Go.Proofs.YtepbjkkakfpjgaaGreatDoor
