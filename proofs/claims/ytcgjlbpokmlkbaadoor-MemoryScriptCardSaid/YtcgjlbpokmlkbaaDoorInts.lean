/-
  Rows of numbers of any kind: read; a call's own; appended to by one; made; an iterator that stands beside them.
-/
import Derived.Test.YtcgjlbpokmlkbaaDoorBase2
import Derived.Laws.AppendOwnNone
import Derived.Lib.OthersKept
import Derived.Laws.MakeOwn
namespace Go.Proofs.YtcgjlbpokmlkbaaDoor
open Go.RowKit

/-- What a slice value at address 'a' reads as: these numbers. -/
structure Nums (k : IntKind) (w : World) (a : Option Addr) (zs : List Int) : Prop where
  at_ : zs = [] ∨ ∃ b off, a = some ⟨b, off, none⟩ ∧ ∀ i, i < zs.length → w.cell? ⟨b, off + i, none⟩ = some (.int k (zs.getD i 0))
theorem Nums.at {k : IntKind} {w : World} {a : Option Addr} {zs : List Int} (h : Nums k w a zs) (hi : 0 < zs.length) : ∃ b off, a = some ⟨b, off, none⟩ ∧ ∀ i, i < zs.length → w.cell? ⟨b, off + i, none⟩ = some (.int k (zs.getD i 0)) := by
  rcases h.at_ with h | h
  · rw [h] at hi; simp at hi
  · exact h
theorem Nums.below {k : IntKind} {w w' : World} {a : Option Addr} {zs : List Int} (h : Nums k w a zs) (hb : Below w.heap.size w w') : Nums k w' a zs := by
  refine ⟨?_⟩
  rcases h.at_ with h0 | ⟨b, off, rfl, hc⟩
  · exact .inl h0
  · exact .inr ⟨b, off, rfl, fun i hi => (hb.cell (World.block_lt_of_cell? w _ (hc i hi))).trans (hc i hi)⟩
theorem Nums.alloc {k : IntKind} {w : World} {a : Option Addr} {zs : List Int} (h : Nums k w a zs) (o : Obj) : Nums k (w.alloc o) a zs := h.below ((Below.refl _ _).alloc (Nat.le_refl _) o)
theorem Bytes.nums {w : World} {a : Option Addr} {zs : List Int} (h : Bytes w a zs) : Nums .u8 w a zs := ⟨h.at_⟩

/-- A row of numbers that a call made itself. -/
def OwnK (e : TypeId) (k : IntKind) (base : Nat) (w : World) (v : Value) (zs : List Int) : Prop := w.ownsRow base e 1 v zs.length (zs.map (Value.int k))
theorem OwnK.sliceN {e : TypeId} {k : IntKind} {base n : Nat} {w : World} {v : Value} {zs : List Int} (h : OwnK e k base w v zs) (hn : zs.length = n) : ∃ a c, v = .slice a n c := by
  subst hn
  rcases h.2 with ⟨rfl, h0⟩ | ⟨g, cap, cur, rfl, _⟩
  · exact ⟨none, 0, by rw [h0]⟩
  · exact ⟨_, cap, rfl⟩
theorem OwnK.nil {e : TypeId} {k : IntKind} {base n c : Nat} {w : World} {a : Option Addr} {zs : List Int} (h : OwnK e k base w (.slice a n c) zs) : Hid (a = none → c = 0) := by
  refine hid fun ha => ?_
  subst ha
  rcases h.2 with ⟨h', _⟩ | ⟨g, cap, cur, h', _⟩
  · simp at h'; exact h'.2
  · simp at h'
theorem OwnK.nums {e : TypeId} {k : IntKind} {base n cap : Nat} {w : World} {a : Option Addr} {zs : List Int} (h : OwnK e k base w (.slice a n cap) zs) : Nums k w a zs := by
  refine ⟨?_⟩
  rcases h.2 with ⟨_, h0⟩ | ⟨g, cap', cur, hv, _, hh, _, _, _, ht⟩
  · exact .inl (List.eq_nil_of_length_eq_zero h0)
  · simp only [Value.slice.injEq] at hv
    obtain ⟨rfl, _, _⟩ := hv
    refine .inr ⟨g, 0, rfl, fun i hi => ?_⟩
    have hj : (zs.map (Value.int k))[i]? = some (.int k (zs.getD i 0)) := by rw [getD_lt hi]; simp [hi]
    have := World.ownsRow.cells (show w.ownsRow base e 1 (.slice (some ⟨g, 0, none⟩) n cap) zs.length (zs.map (Value.int k)) from h) (g := g) rfl i _ hj
    have hplain : (⟨g, 0, none⟩ : Addr).add i = ⟨g, 0 + i, none⟩ := by unfold Addr.add; split <;> simp_all
    rw [hplain] at this
    exact this
theorem OwnK.mono {e : TypeId} {k : IntKind} {base base' : Nat} {w : World} {v : Value} {zs : List Int} (h : OwnK e k base w v zs) (hb : base' ≤ base) : OwnK e k base' w v zs := by
  refine ⟨h.1, ?_⟩
  rcases h.2 with h0 | ⟨g, cap, cur, hv, hg, rest⟩
  · exact .inl h0
  · exact .inr ⟨g, cap, cur, hv, Nat.le_trans hb hg, rest⟩
/-- A store below it turns no row. -/
theorem OwnK.setCell {e : TypeId} {k : IntKind} {base : Nat} {w : World} {v : Value} {zs : List Int} (h : OwnK e k base w v zs) {p : Addr} (hp : p.block < base) (u : Value) : OwnK e k base (w.setCell p u) v zs := by
  refine ⟨h.1, ?_⟩
  rcases h.2 with h0 | ⟨g, cap, cur, hv, hg, hh, rest⟩
  · exact .inl h0
  · exact .inr ⟨g, cap, cur, hv, hg, (Below.heap_setCell w p u g (by omega)).trans hh, rest⟩
/-- A call that leaves all that was there turns no row. -/
theorem OwnK.below {e : TypeId} {k : IntKind} {base : Nat} {w w' : World} {v : Value} {zs : List Int} (h : OwnK e k base w v zs) (hb : Below w.heap.size w w') : OwnK e k base w' v zs := by
  refine ⟨h.1, ?_⟩
  rcases h.2 with h0 | ⟨g, cap, cur, hv, hg, hh, rest⟩
  · exact .inl h0
  · exact .inr ⟨g, cap, cur, hv, hg, (hb.block g (Array.getElem?_eq_some_iff.1 hh).1).trans hh, rest⟩
theorem OwnK.alloc {e : TypeId} {k : IntKind} {base : Nat} {w : World} {v : Value} {zs : List Int} (h : OwnK e k base w v zs) (o : Obj) : OwnK e k base (w.alloc o) v zs := h.below ((Below.refl _ _).alloc (Nat.le_refl _) o)
/-- An iterator's step turns no row. -/
theorem OwnK.iterAt {e : TypeId} {k : IntKind} {base j : Nat} {w : World} {v : Value} {zs : List Int} {s : ByteArray} {p : Nat} (h : OwnK e k base w v zs) (hk : w.heap[j]? = some (.stringIter s p)) (p' : Nat) : OwnK e k base (w.iterAt j s p') v zs := by
  refine ⟨h.1, ?_⟩
  rcases h.2 with h0 | ⟨g, cap, cur, hv, hg, hh, rest⟩
  · exact .inl h0
  · refine .inr ⟨g, cap, cur, hv, hg, (Lib.iterAt_other w j g s p' (fun hgj => ?_)).trans hh, rest⟩
    subst hgj
    rw [hh] at hk
    cases hk
/-- What an append leaves of an iterator. -/
theorem iter_kept {e : TypeId} {k : IntKind} {base : Nat} {w w' : World} {v : Value} {zs : List Int} (h : OwnK e k base w v zs) (o : Obj) (hg : (w.alloc o).grownBy w' v.ownBlock) (j : Nat) (s : ByteArray) (p : Nat)
    (hk : w.heap[j]? = some (.stringIter s p)) : w'.heap[j]? = some (.stringIter s p) := by
  have hj : j < w.heap.size := (Array.getElem?_eq_some_iff.1 hk).1
  refine (hg.block j (by simp; omega) ?_).trans ((Below.heap_alloc w o j hj).trans hk)
  intro he
  rcases h.2 with ⟨rfl, _⟩ | ⟨g, cap, cur, rfl, _, hh, _⟩
  · cases he
  · simp [Value.ownBlock] at he
    subst he
    rw [hh] at hk
    cases hk

section
variable {ops : Array Oper} {rest : List Oper} {o : Oper} {act : Act} {Q : Exit → Act → World → Prop}

theorem append_num {e ts : TypeId} {k : IntKind} {nb : Nat} (inf : (Tryd.prog.info? e).map (fun i => (i.zero, i.size, i.bytes)) = some (some (.int k 0), 1, nb)) (ut : Tryd.prog.underlying ts = some (.slice e))
    (hgd : o.guard = none) (s x : Operand) (ho : o.op = .call { callee := .builtin .append, args := #[s, x], argTypes := #[ts, ts] })
    {base : Nat} {w0 wr : World} {v : Value} {xs : List Int} (z : Int) (hs : act.eval s = v) (hown : OwnK e k base wr v xs) (hb : Below base w0 wr) (hbase : base ≤ wr.heap.size)
    (hx : act.eval x = .slice (some ⟨wr.heap.size, 0, none⟩) 1 1) (hl : (xs.length + 1) * nb ≤ 140737488355328) (hl' : xs.length ≤ 140737488351232)
    (h : ∀ v' w', OwnK e k base w' v' (xs ++ [z]) → Below base w0 w' → base ≤ w'.heap.size → (∀ (j : Nat) (t : ByteArray) (p : Nat), wr.heap[j]? = some (Obj.stringIter t p) → w'.heap[j]? = some (Obj.stringIter t p)) → wpList Tryd.prog ops Q rest (act.put o.dst v') w') :
    wpList Tryd.prog ops Q (o :: rest) act (wr.alloc (.cells #[.int k z] e)) := by
  obtain ⟨i0, hi, hz0, hz1, hz2⟩ := info_parts inf
  refine wpList_append_own _ hgd s x ts ho base e i0 (.int k 0) 1 nb ut hi hz0 hz1 hz2 rfl (by decide) v xs.length _ hs (World.ownsRow.alloc hown _) ⟨wr.heap.size, 0, none⟩ 1 1 [.int k z] hx rfl
    ?_ ?_ ?_ ?_ ?_ (fun v' w' hown' hgrow _ => ?_)
  · intro j u hj
    match j, hj with
    | 0, hj => simp at hj; subst hj; simp [Addr.add]
  · intro u hu; simp at hu; subst hu; rfl
  · unfold maxLen; omega
  · exact hl
  · simp; omega
  · have hb' : Below base w0 w' := (hb.alloc hbase _).grown hgrow (by simp; omega) (fun k h => (World.ownsRow.lt hown k h).1)
    refine h v' w' (by unfold OwnK; simpa using hown') hb' ?_ (fun j t p => iter_kept hown _ hgrow j t p)
    have := hgrow.size; simp at this; omega
end

/-- make([]T, 0, c). -/
theorem make_none {e ts : TypeId} {k : IntKind} {nb : Nat} (inf : (Tryd.prog.info? e).map (fun i => (i.zero, i.size, i.bytes)) = some (some (.int k 0), 1, nb)) (ut : Tryd.prog.underlying ts = some (.slice e)) (w : World) (c : Nat)
    (hl : nb * c ≤ 281474976710656) (hc : c ≤ 281474976710656) :
    ∃ w', (Instr.makeSlice ts (.int .i64 0) (.int .i64 (c : Int))).run Tryd.prog w = .ok (.slice (some ⟨w.heap.size, 0, none⟩) 0 c) w' ∧ OwnK e k w.heap.size w' (.slice (some ⟨w.heap.size, 0, none⟩) 0 c) [] ∧ Below w.heap.size w w' ∧ w.heap.size ≤ w'.heap.size := by
  obtain ⟨i0, hi, hz0, hz1, hz2⟩ := info_parts inf
  obtain ⟨w', h1, h2, h3⟩ := run_make_own w w.heap.size ts e i0 (.int k 0) 1 ut hi hz0 hz1 .i64 .i64 c (by rw [hz2]; exact hl) (by unfold maxLen; omega) (Nat.le_refl _)
  exact ⟨w', h1, h2, (Below.refl _ _).grown h3 (Nat.le_refl _) (fun k h => by cases h), h3.size⟩
end Go.Proofs.YtcgjlbpokmlkbaaDoor
