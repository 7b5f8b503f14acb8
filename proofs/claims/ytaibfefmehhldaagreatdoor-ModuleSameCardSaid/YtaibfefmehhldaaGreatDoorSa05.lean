import Derived.Test.YtaibfefmehhldaaGreatDoorSa01
import Derived.Test.YtaibfefmehhldaaGreatDoorSa04
import Derived.BigQuiet
import Derived.Deep.QuietTactic
import Derived.Deep.RegionHeld3
import Derived.Laws.AppendOwnNone
import Derived.Lib.OthersKept
import Derived.Laws.MakeOwn
import Derived.RegionTactic
import Derived.ChangeAlike
import Derived.Deep.RegionWith
import Derived.Laws.OwnMore
import Derived.WalkSmall
import Derived.Deep.AppendLies
import Derived.Deep.RegionHeldLaw
import Derived.Deep.RegionLaw
import Derived.Shelf.Abstract
import Derived.Shelf.RegionOpen
import Derived.OwnWalkIn
import Derived.TacticsInMore
import Derived.LoopNIn
import Derived.LoopIn
import Derived.Laws.Tables
import Derived.Deep.WholeRow
import Derived.Deep.RegionHeld
import Derived.BigRegion
namespace Go.Proofs.YtaibfefmehhldaaGreatDoor.Kind
end Go.Proofs.YtaibfefmehhldaaGreatDoor.Kind
namespace Go.Proofs.YtaibfefmehhldaaGreatDoor.Leb
end Go.Proofs.YtaibfefmehhldaaGreatDoor.Leb
namespace Go.Proofs.YtaibfefmehhldaaGreatDoor.Instr
end Go.Proofs.YtaibfefmehhldaaGreatDoor.Instr
namespace Go.Proofs.YtaibfefmehhldaaGreatDoor.Body
open Go.RowKit
open Go.Proofs.YtaibfefmehhldaaGreatDoor.Kind (Rd)

/-- The reader in block k: over the bytes of v, in the state s. -/
structure RdIs (w : World) (k : Nat) (v : Value) (s : Rd) : Prop where
  c0 : w.cell? ⟨k, 0, none⟩ = some v
  c1 : w.cell? ⟨k, 1, none⟩ = some (.int .i64 s.1)
  c2 : w.cell? ⟨k, 2, none⟩ = some (.int .i64 s.2.1)
  c3 : w.cell? ⟨k, 3, none⟩ = some (.int .i64 s.2.2)
  f0 : w.frozen? ⟨k, 0, none⟩ = false
  f1 : w.frozen? ⟨k, 1, none⟩ = false
  f2 : w.frozen? ⟨k, 2, none⟩ = false
  f3 : w.frozen? ⟨k, 3, none⟩ = false
theorem RdIs.below {w w' : World} {k : Nat} {v : Value} {s : Rd} (h : RdIs w k v s) (hb : Below w.heap.size w w') : RdIs w' k v s := by
  have hk := World.block_lt_of_cell? w _ h.c0
  exact ⟨keep hb h.c0, keep hb h.c1, keep hb h.c2, keep hb h.c3, (hb.frozen (p := ⟨k, 0, none⟩) hk).trans h.f0, (hb.frozen (p := ⟨k, 1, none⟩) hk).trans h.f1, (hb.frozen (p := ⟨k, 2, none⟩) hk).trans h.f2, (hb.frozen (p := ⟨k, 3, none⟩) hk).trans h.f3⟩
theorem RdIs.save {w w' : World} {k j : Nat} {v : Value} {s : Rd} (h : RdIs w k v s) (hb : Save j w w') (hj : k ≠ j) : RdIs w' k v s := by
  have hk := World.block_lt_of_cell? w _ h.c0
  exact ⟨hb.cell hj h.c0, hb.cell hj h.c1, hb.cell hj h.c2, hb.cell hj h.c3, hb.frozen hk hj h.f0, hb.frozen hk hj h.f1, hb.frozen hk hj h.f2, hb.frozen hk hj h.f3⟩

/-- What a method does: this it hands back, in this state it leaves the reader; nothing else turns. -/
def Does (k : Nat) (v : Value) (w : World) (r : Value) (s : Rd) (e : Ending) (w' : World) : Prop := e = .returned r ∧ RdIs w' k v s ∧ Save k w w'

end Go.Proofs.YtaibfefmehhldaaGreatDoor.Body

/-
  BODY: the reader's one, oneOf, newReader, by contract.
-/
namespace Go.Proofs.YtaibfefmehhldaaGreatDoor.Body
open Go.RowKit
open Go.Proofs.YtaibfefmehhldaaGreatDoor.Kind (Rd)

theorem Does.of_save {k : Nat} {v r : Value} {w w0 w' : World} {s : Rd} {e : Ending} (h0 : Save k w w0) (h : Does k v w0 r s e w') : Does k v w r s e w' := ⟨h.1, h.2.1, h0.trans h.2.2⟩

end Go.Proofs.YtaibfefmehhldaaGreatDoor.Body

namespace Go.Proofs.YtaibfefmehhldaaGreatDoor.Body
open Go.RowKit Go.Proofs.YtaibfefmehhldaaGreatDoor.Leb
open Go.Proofs.YtaibfefmehhldaaGreatDoor.Kind (Rd)

theorem Does.alloc {k : Nat} {v r : Value} {w w' : World} {s : Rd} {e : Ending} (h : Does k v w r s e w') (o : Obj) : Does k v w r s e (w'.alloc o) :=
  ⟨h.1, h.2.1.below ((Below.refl _ _).alloc (Nat.le_refl _) o), h.2.2.alloc o⟩

end Go.Proofs.YtaibfefmehhldaaGreatDoor.Body

namespace Go.Proofs.YtaibfefmehhldaaGreatDoor
open Go.RowKit

/-- What a slice value at address 'a' reads as: these numbers. -/
structure Nums (k : IntKind) (w : World) (a : Option Addr) (zs : List Int) : Prop where
  at_ : zs = [] ∨ ∃ b off, a = some ⟨b, off, none⟩ ∧ ∀ i, i < zs.length → w.cell? ⟨b, off + i, none⟩ = some (.int k (zs.getD i 0))
theorem Nums.below {k : IntKind} {w w' : World} {a : Option Addr} {zs : List Int} (h : Nums k w a zs) (hb : Below w.heap.size w w') : Nums k w' a zs := by
  refine ⟨?_⟩
  rcases h.at_ with h0 | ⟨b, off, rfl, hc⟩
  · exact .inl h0
  · exact .inr ⟨b, off, rfl, fun i hi => (hb.cell (World.block_lt_of_cell? w _ (hc i hi))).trans (hc i hi)⟩
theorem Nums.alloc {k : IntKind} {w : World} {a : Option Addr} {zs : List Int} (h : Nums k w a zs) (o : Obj) : Nums k (w.alloc o) a zs := h.below ((Below.refl _ _).alloc (Nat.le_refl _) o)
/-- A row of numbers that a call made itself. -/
def OwnK (e : TypeId) (k : IntKind) (base : Nat) (w : World) (v : Value) (zs : List Int) : Prop := w.ownsRow base e 1 v zs.length (zs.map (Value.int k))
theorem OwnK.sliceN {e : TypeId} {k : IntKind} {base n : Nat} {w : World} {v : Value} {zs : List Int} (h : OwnK e k base w v zs) (hn : zs.length = n) : ∃ a c, v = .slice a n c := by
  subst hn
  rcases h.2 with ⟨rfl, h0⟩ | ⟨g, cap, cur, rfl, _⟩
  · exact ⟨none, 0, by rw [h0]⟩
  · exact ⟨_, cap, rfl⟩
theorem OwnK.nil {e : TypeId} {k : IntKind} {base n c : Nat} {w : World} {a : Option Addr} {zs : List Int} (h : OwnK e k base w (.slice a n c) zs) : Hid (a = none → c = 0) := by
  refine hid fun ha => ?_
  subst ha
  rcases h.2 with ⟨h', _⟩ | ⟨g, cap, cur, h', _⟩
  · simp at h'; exact h'.2
  · simp at h'
theorem OwnK.nums {e : TypeId} {k : IntKind} {base n cap : Nat} {w : World} {a : Option Addr} {zs : List Int} (h : OwnK e k base w (.slice a n cap) zs) : Nums k w a zs := by
  refine ⟨?_⟩
  rcases h.2 with ⟨_, h0⟩ | ⟨g, cap', cur, hv, _, hh, _, _, _, ht⟩
  · exact .inl (List.eq_nil_of_length_eq_zero h0)
  · simp only [Value.slice.injEq] at hv
    obtain ⟨rfl, _, _⟩ := hv
    refine .inr ⟨g, 0, rfl, fun i hi => ?_⟩
    have hj : (zs.map (Value.int k))[i]? = some (.int k (zs.getD i 0)) := by rw [getD_lt hi]; simp [hi]
    have := World.ownsRow.cells (show w.ownsRow base e 1 (.slice (some ⟨g, 0, none⟩) n cap) zs.length (zs.map (Value.int k)) from h) (g := g) rfl i _ hj
    have hplain : (⟨g, 0, none⟩ : Addr).add i = ⟨g, 0 + i, none⟩ := by unfold Addr.add; split <;> simp_all
    rw [hplain] at this
    exact this
theorem OwnK.mono {e : TypeId} {k : IntKind} {base base' : Nat} {w : World} {v : Value} {zs : List Int} (h : OwnK e k base w v zs) (hb : base' ≤ base) : OwnK e k base' w v zs := by
  refine ⟨h.1, ?_⟩
  rcases h.2 with h0 | ⟨g, cap, cur, hv, hg, rest⟩
  · exact .inl h0
  · exact .inr ⟨g, cap, cur, hv, Nat.le_trans hb hg, rest⟩
/-- A store below it turns no row. -/
theorem OwnK.setCell {e : TypeId} {k : IntKind} {base : Nat} {w : World} {v : Value} {zs : List Int} (h : OwnK e k base w v zs) {p : Addr} (hp : p.block < base) (u : Value) : OwnK e k base (w.setCell p u) v zs := by
  refine ⟨h.1, ?_⟩
  rcases h.2 with h0 | ⟨g, cap, cur, hv, hg, hh, rest⟩
  · exact .inl h0
  · exact .inr ⟨g, cap, cur, hv, hg, (Below.heap_setCell w p u g (by omega)).trans hh, rest⟩
/-- A call that leaves all that was there turns no row. -/
theorem OwnK.below {e : TypeId} {k : IntKind} {base : Nat} {w w' : World} {v : Value} {zs : List Int} (h : OwnK e k base w v zs) (hb : Below w.heap.size w w') : OwnK e k base w' v zs := by
  refine ⟨h.1, ?_⟩
  rcases h.2 with h0 | ⟨g, cap, cur, hv, hg, hh, rest⟩
  · exact .inl h0
  · exact .inr ⟨g, cap, cur, hv, hg, (hb.block g (Array.getElem?_eq_some_iff.1 hh).1).trans hh, rest⟩
theorem OwnK.alloc {e : TypeId} {k : IntKind} {base : Nat} {w : World} {v : Value} {zs : List Int} (h : OwnK e k base w v zs) (o : Obj) : OwnK e k base (w.alloc o) v zs := h.below ((Below.refl _ _).alloc (Nat.le_refl _) o)
/-- An iterator's step turns no row. -/
theorem OwnK.iterAt {e : TypeId} {k : IntKind} {base j : Nat} {w : World} {v : Value} {zs : List Int} {s : ByteArray} {p : Nat} (h : OwnK e k base w v zs) (hk : w.heap[j]? = some (.stringIter s p)) (p' : Nat) : OwnK e k base (w.iterAt j s p') v zs := by
  refine ⟨h.1, ?_⟩
  rcases h.2 with h0 | ⟨g, cap, cur, hv, hg, hh, rest⟩
  · exact .inl h0
  · refine .inr ⟨g, cap, cur, hv, hg, (Lib.iterAt_other w j g s p' (fun hgj => ?_)).trans hh, rest⟩
    subst hgj
    rw [hh] at hk
    cases hk
section
variable {ops : Array Oper} {rest : List Oper} {o : Oper} {act : Act} {Q : Exit → Act → World → Prop}

end

end Go.Proofs.YtaibfefmehhldaaGreatDoor

namespace Go.Proofs.YtaibfefmehhldaaGreatDoor.Body
open Go.RowKit
open Go.Proofs.YtaibfefmehhldaaGreatDoor.Kind (Rd)

/-- The document's own reader in block k: over the bytes of v, in the state s, behind n instructions. -/
structure RcIs (w : World) (k : Nat) (v : Value) (s : Rd) (n : Int) : Prop extends RdIs w k v s where
  c4 : w.cell? ⟨k, 4, none⟩ = some (.int .i64 n)
  f4 : w.frozen? ⟨k, 4, none⟩ = false
theorem RcIs.below {w w' : World} {k : Nat} {v : Value} {s : Rd} {n : Int} (h : RcIs w k v s n) (hb : Below w.heap.size w w') : RcIs w' k v s n :=
  ⟨h.toRdIs.below hb, keep hb h.c4, (hb.frozen (p := ⟨k, 4, none⟩) (World.block_lt_of_cell? w _ h.c4)).trans h.f4⟩
theorem RcIs.save {w w' : World} {k j : Nat} {v : Value} {s : Rd} {n : Int} (h : RcIs w k v s n) (hb : Save j w w') (hj : k ≠ j) : RcIs w' k v s n :=
  ⟨h.toRdIs.save hb hj, hb.cell hj h.c4, hb.frozen (World.block_lt_of_cell? w _ h.c4) hj h.f4⟩
/-- One more. -/
theorem RcIs.count {w : World} {k : Nat} {v : Value} {s : Rd} {n : Int} (h : RcIs w k v s n) (m : Int) : RcIs (w.setCell ⟨k, 4, none⟩ (.int .i64 m)) k v s m := by
  refine ⟨⟨?_, ?_, ?_, ?_, ?_, ?_, ?_, ?_⟩, ?_, ?_⟩ <;> simp [go_sem, h.c0, h.c1, h.c2, h.c3, h.c4, h.f0, h.f1, h.f2, h.f3, h.f4]
end Go.Proofs.YtaibfefmehhldaaGreatDoor.Body

/-
  BODY: the document's own reader's next, number, signed, is, by contract. (tools/gen_bodyrefn.py)
-/
namespace Go.Proofs.YtaibfefmehhldaaGreatDoor.Body
open Go.RowKit Go.Proofs.YtaibfefmehhldaaGreatDoor.Leb
open Go.Proofs.YtaibfefmehhldaaGreatDoor.Kind (Rd)

end Go.Proofs.YtaibfefmehhldaaGreatDoor.Body

namespace Go.Proofs.YtaibfefmehhldaaGreatDoor.Body
open Go.RowKit Go.Proofs.YtaibfefmehhldaaGreatDoor.Instr
open Go.Proofs.YtaibfefmehhldaaGreatDoor.Kind (Rd)

end Go.Proofs.YtaibfefmehhldaaGreatDoor.Body

/-
  BODY: the reader's labels, by contract: new memory that holds them.
-/
namespace Go.Proofs.YtaibfefmehhldaaGreatDoor.Body
open Go.RowKit Go.Proofs.YtaibfefmehhldaaGreatDoor.Instr
open Go.Proofs.YtaibfefmehhldaaGreatDoor.Kind (Rd)

theorem infoU32 : (Tryz.prog.info? 28).map (fun i => (i.zero, i.size, i.bytes)) = some (some (.int .u32 0), 1, 4) := by kernel_rfl
theorem RdIs.belowB {B : Nat} {w w' : World} {k : Nat} {v : Value} {s : Rd} (h : RdIs w k v s) (hb : Below B w w') (hk : k < B) : RdIs w' k v s :=
  ⟨(hb.cell hk).trans h.c0, (hb.cell hk).trans h.c1, (hb.cell hk).trans h.c2, (hb.cell hk).trans h.c3, (hb.frozen hk).trans h.f0, (hb.frozen hk).trans h.f1, (hb.frozen hk).trans h.f2, (hb.frozen hk).trans h.f3⟩
theorem save_under {k : Nat} {a b c : World} (h : Save k a b) (g : Below a.heap.size b c) : Save k a c :=
  ⟨g.os.trans h.os, g.tape.trans h.tape, g.output.trans h.output, Nat.le_trans h.size g.size, fun j hj hk => (g.block j hj).trans (h.block j hj hk)⟩

end Go.Proofs.YtaibfefmehhldaaGreatDoor.Body

namespace Go.Proofs.YtaibfefmehhldaaGreatDoor.Body
open Go.RowKit Go.Proofs.YtaibfefmehhldaaGreatDoor.Instr
open Go.Proofs.YtaibfefmehhldaaGreatDoor.Kind (Rd)

/-- An instruction in a block of its own, that can be written. -/
structure Bx (g : Nat) (x : Ix) (w : World) : Prop where
  at_ : At x g w
  f0 : w.frozen? ⟨g, 0, none⟩ = false
  f1 : w.frozen? ⟨g, 1, none⟩ = false
  f2 : w.frozen? ⟨g, 2, none⟩ = false
  f3 : w.frozen? ⟨g, 3, none⟩ = false
  f4 : w.frozen? ⟨g, 4, none⟩ = false
  f5 : w.frozen? ⟨g, 5, none⟩ = false
  f6 : w.frozen? ⟨g, 6, none⟩ = false
  f7 : w.frozen? ⟨g, 7, none⟩ = false
theorem Bx.save {g k : Nat} {x : Ix} {w w' : World} (h : Bx g x w) (hs : Save k w w') (hk : g ≠ k) : Bx g x w' := by
  have hl : g < w.heap.size := World.block_lt_of_cell? w _ h.at_.c0
  exact ⟨h.at_.save hs hk, hs.frozen hl hk h.f0, hs.frozen hl hk h.f1, hs.frozen hl hk h.f2, hs.frozen hl hk h.f3, hs.frozen hl hk h.f4, hs.frozen hl hk h.f5, hs.frozen hl hk h.f6, hs.frozen hl hk h.f7⟩
theorem bx_made (x : Ix) (w : World) : Bx w.heap.size x (w.alloc (.cells x.vals 87)) := by
  refine ⟨At.made x w, ?_, ?_, ?_, ?_, ?_, ?_, ?_, ?_⟩ <;> go_simp
theorem Bx.alloc {g : Nat} {x : Ix} {w : World} (h : Bx g x w) (o : Obj) : Bx g x (w.alloc o) := by
  have hb : Below w.heap.size w (w.alloc o) := (Below.refl _ _).alloc (Nat.le_refl _) o
  have hl : g < w.heap.size := World.block_lt_of_cell? w _ h.at_.c0
  exact ⟨h.at_.below hb, (hb.frozen (p := ⟨g, 0, none⟩) hl).trans h.f0, (hb.frozen (p := ⟨g, 1, none⟩) hl).trans h.f1, (hb.frozen (p := ⟨g, 2, none⟩) hl).trans h.f2, (hb.frozen (p := ⟨g, 3, none⟩) hl).trans h.f3, (hb.frozen (p := ⟨g, 4, none⟩) hl).trans h.f4, (hb.frozen (p := ⟨g, 5, none⟩) hl).trans h.f5, (hb.frozen (p := ⟨g, 6, none⟩) hl).trans h.f6, (hb.frozen (p := ⟨g, 7, none⟩) hl).trans h.f7⟩
def zeroX : Ix := plainX 0 0 0 0 0 []
theorem Bx.other {g : Nat} {x : Ix} {w : World} (h : Bx g x w) {p : Addr} (hp : p.block ≠ g) (v : Value) : Bx g x (w.setCell p v) := by
  have hl : g < w.heap.size := World.block_lt_of_cell? w _ h.at_.c0
  have hs : Save p.block w (w.setCell p v) := (Save.refl _ _).setCell (.inl rfl) _
  exact h.save hs (fun e => hp e.symm)
theorem Bx.setT {g : Nat} {x : Ix} {w : World} (h : Bx g x w) (l : List Int) (ta : Option Addr) (tc : Nat) : Bx g ⟨x.op, x.res, x.a, x.b, x.n, l, ta, tc, x.la, x.ln, x.lc, x.ea, x.en, x.ec⟩ (w.setCell ⟨g, 5, none⟩ (.slice ta l.length tc)) := by
  obtain ⟨⟨c0, c1, c2, c3, c4, c5, c6, c7⟩, f0, f1, f2, f3, f4, f5, f6, f7⟩ := h
  refine ⟨⟨?_, ?_, ?_, ?_, ?_, ?_, ?_, ?_⟩, ?_, ?_, ?_, ?_, ?_, ?_, ?_, ?_⟩ <;> simp [go_sem, *]
end Go.Proofs.YtaibfefmehhldaaGreatDoor.Body

namespace Go.Proofs.YtaibfefmehhldaaGreatDoor.Body
open Go.RowKit Go.Proofs.YtaibfefmehhldaaGreatDoor.Instr
open Go.Proofs.YtaibfefmehhldaaGreatDoor.Kind (Rd)
/-- An open list: its owner, the owner's first list if this is its second, what has been read, the slice that holds that. -/
structure Og where
  x : Ix
  fl : Il
  t : Il
  v : Value
  oth : Bool
def Og.cells (o : Og) : List Value := o.x.vals.toList ++ [o.v, .bool o.oth]
def rowBlk (v : Value) : List Nat := match v.ownBlock with
  | some g => [g]
  | none => []
/-- Its blocks, but for that of its row. -/
def Og.inner (o : Og) : List Nat := o.t.foot ++ (blkOf o.x.ln o.x.la ++ o.fl.foot)
def Og.foot (o : Og) : List Nat := rowBlk o.v ++ o.inner
/-- What the plain reading knows of it. -/
def Og.fr (o : Og) : Fr := ⟨plainX o.x.op o.x.res 0 0 0 [], o.fl.bare, o.t.bare, o.oth⟩
/-- All but the row of what has been read. -/
structure Half (base : Nat) (w : World) (o : Og) : Prop where
  kids : o.t.kids w
  own : ListAt w.heap.size w o.x.la o.x.ln o.fl
  tags : o.x.tags = []
  zero : o.x.a = 0 ∧ o.x.b = 0 ∧ o.x.n = 0
  ok : o.x.ok
  en : o.x.ea = none ∧ o.x.en = 0 ∧ o.x.ec = 0
  first : o.oth = false → o.x.la = none ∧ o.x.ln = 0 ∧ o.x.lc = 0
  low : ∀ q ∈ o.inner, base ≤ q
  few : o.t.len ≤ 4000000
  soft : ∀ q ∈ o.inner, Soft w q
structure OpenOk (base : Nat) (w : World) (o : Og) : Prop where
  half : Half base w o
  row : w.ownsRow base 87 8 o.v o.t.len o.t.cells
theorem Half.touch {base : Nat} {S : Nat → Prop} {w w' : World} {o : Og} (h : Half base w o) (ht : Touch S w w') (hk : ∀ q ∈ o.inner, ¬ S q) : Half base w' o := by
  obtain ⟨h1, h2, h3, h4, h5, h6, h7, h8, h9, h10⟩ := h
  have hs : ∀ q ∈ o.inner, Soft w' q := fun q hq => (h10 q hq).touch ht (hk q hq)
  unfold Og.inner at hk
  exact ⟨kids_touch ht h1 (fun q hq => hk q (List.mem_append_left _ hq)), ListAt.more ht.size (h2.touch ht (fun q hq => hk q (List.mem_append_right _ hq))), h3, h4, h5, h6, h7, h8, h9, hs⟩
theorem OpenOk.touch {base : Nat} {S : Nat → Prop} {w w' : World} {o : Og} (h : OpenOk base w o) (ht : Touch S w w') (hk : ∀ q ∈ o.foot, ¬ S q) : OpenOk base w' o :=
  ⟨h.half.touch ht (fun q hq => hk q (List.mem_append_right _ hq)), touch_row h.row ht (fun g hg => hk g (List.mem_append_left _ (by simp [rowBlk, hg])))⟩
theorem OpenOk.low {base : Nat} {w : World} {o : Og} (h : OpenOk base w o) : ∀ q ∈ o.foot, base ≤ q := by
  intro q hq
  rcases List.mem_append.1 hq with hq | hq
  · unfold rowBlk at hq
    split at hq
    · rename_i g hg
      simp at hq
      subst hq
      exact (World.ownsRow.lt h.row q hg).1
    · simp at hq
  · exact h.half.low q hq
theorem OpenOk.soft {base : Nat} {w : World} {o : Og} (h : OpenOk base w o) : ∀ q ∈ o.foot, Soft w q := by
  intro q hq
  rcases List.mem_append.1 hq with hq | hq
  · unfold rowBlk at hq
    split at hq
    · rename_i g hg
      simp at hq
      subst hq
      exact soft_row h.row hg
    · simp at hq
  · exact h.half.soft q hq
theorem Half.lt {base : Nat} {w : World} {o : Og} (h : Half base w o) : ∀ q ∈ o.inner, q < w.heap.size := by
  intro q hq
  rcases List.mem_append.1 hq with hq | hq
  · exact kids_lt h.kids q hq
  · exact list_lt h.own q hq
theorem OpenOk.lt {base : Nat} {w : World} {o : Og} (h : OpenOk base w o) : ∀ q ∈ o.foot, q < w.heap.size := by
  intro q hq
  rcases List.mem_append.1 hq with hq | hq
  · unfold rowBlk at hq
    split at hq
    · rename_i g hg
      simp at hq
      subst hq
      exact (World.ownsRow.lt h.row q hg).2
    · simp at hq
  · exact h.half.lt q hq

end Go.Proofs.YtaibfefmehhldaaGreatDoor.Body

namespace Go.Proofs.YtaibfefmehhldaaGreatDoor.Body
open Go.RowKit Go.Proofs.YtaibfefmehhldaaGreatDoor.Instr
open Go.Proofs.YtaibfefmehhldaaGreatDoor.Kind (Rd)

def zeroI : Value := .agg #[.int .i64 0, .int .i64 0, .int .u32 0, .int .u32 0, .int .i32 0, .slice none 0 0, .slice none 0 0, .slice none 0 0]
theorem infoI : (Tryz.prog.info? 87).map (fun i => (i.zero, i.size, i.bytes)) = some (some zeroI, 8, 104) := by kernel_rfl

section
variable {ops : Array Oper} {o : Oper} {act : Act} {K : Act → World → Prop} {Q : Exit → Act → World → Prop} {E : Prop}
end
end Go.Proofs.YtaibfefmehhldaaGreatDoor.Body

/-
  BODY: closeTop, by contract.
-/
namespace Go.Proofs.YtaibfefmehhldaaGreatDoor.Body
open Go.RowKit Go.Proofs.YtaibfefmehhldaaGreatDoor.Instr
open Go.Proofs.YtaibfefmehhldaaGreatDoor.Kind (Rd)

/-- The cells that an append to an open list's slice reads: that slice, and the instruction. -/
def Tops (gs p T : Nat) (gv : Value) (y : Ix) (w : World) : Prop := w.cell? ⟨gs, p, none⟩ = some gv ∧ At y T w
theorem Tops.touch {gs p T : Nat} {gv : Value} {y : Ix} {S : Nat → Prop} {w w' : World} (h : Tops gs p T gv y w) (ht : Touch S w w') (h1 : ¬ S gs) (h2 : ¬ S T) : w'.cell? ⟨gs, p, none⟩ = some gv ∧ w'.cell? ⟨T, 0, none⟩ = some (.int .i64 y.op) ∧ w'.cell? ⟨T, 1, none⟩ = some (.int .i64 y.res) ∧
    w'.cell? ⟨T, 2, none⟩ = some (.int .u32 y.a) ∧ w'.cell? ⟨T, 3, none⟩ = some (.int .u32 y.b) ∧ w'.cell? ⟨T, 4, none⟩ = some (.int .i32 y.n) ∧ w'.cell? ⟨T, 5, none⟩ = some (.slice y.ta y.tags.length y.tc) ∧ w'.cell? ⟨T, 6, none⟩ = some (.slice y.la y.ln y.lc) ∧ w'.cell? ⟨T, 7, none⟩ = some (.slice y.ea y.en y.ec) := by
  obtain ⟨h0, ⟨c0, c1, c2, c3, c4, c5, c6, c7⟩⟩ := h
  exact ⟨ht.cell h1 h0, ht.cell h2 c0, ht.cell h2 c1, ht.cell h2 c2, ht.cell h2 c3, ht.cell h2 c4, ht.cell h2 c5, ht.cell h2 c6, ht.cell h2 c7⟩
/-- What an item more leaves: the top list's slice, its cells, and the stack's cell. -/
def Itemed (base gs p : Nat) (y : Ix) (ga : Option Addr) (gc : Nat) (gt : Il) (w w' : World) : Prop :=
  ∃ w1 g' cap', Touch (fun j => Value.ownBlock (.slice ga gt.len gc) = some j) w w1 ∧ w1.ownsRow base 87 8 (.slice (some ⟨g', 0, none⟩) (gt.len + 1) cap') (gt.len + 1) (gt.cells ++ zeroX.vals.toList) ∧ (Value.ownBlock (.slice ga gt.len gc) = some g' ∨ w.heap.size ≤ g') ∧
    w' = (store8 w1 g' (gt.len * 8) y).setCell ⟨gs, p, none⟩ (.slice (some ⟨g', 0, none⟩) (gt.len + 1) cap')
end Go.Proofs.YtaibfefmehhldaaGreatDoor.Body

/-
  BODY: closeTop, by contract, on the stack of open lists.
-/
namespace Go.Proofs.YtaibfefmehhldaaGreatDoor.Body
open Go.RowKit Go.Proofs.YtaibfefmehhldaaGreatDoor.Instr
open Go.Proofs.YtaibfefmehhldaaGreatDoor.Kind (Rd)

end Go.Proofs.YtaibfefmehhldaaGreatDoor.Body

namespace Go.Proofs.YtaibfefmehhldaaGreatDoor.Body
open Go.RowKit Go.Proofs.YtaibfefmehhldaaGreatDoor.Instr
open Go.Proofs.YtaibfefmehhldaaGreatDoor.Kind (Rd)

theorem tags_of {w : World} {B : Nat} {ta : Option Addr} {tc : Nat} {tags : List Int} (h : OwnK 28 .u32 B w (.slice ta tags.length tc) tags) : TagsAt w.heap.size w ta tags ∧ (∀ q ∈ blkOf tags.length ta, B ≤ q) ∧ (blkOf tags.length ta).Nodup := by
  refine ⟨?_, ?_, ?_⟩
  · rcases (OwnK.nums h).at_ with h0 | ⟨b, off, rfl, hc⟩
    · exact .inl h0
    · by_cases h0 : tags = []
      · exact .inl h0
      · exact .inr ⟨b, off, rfl, World.block_lt_of_cell? w _ (hc 0 (List.length_pos_iff.2 h0)), hc⟩
  · intro q hq
    rcases h.2 with ⟨h0, _⟩ | ⟨g, cap, cur, hv, hg, _⟩
    · simp only [Value.slice.injEq] at h0
      simp [h0.1, blkOf] at hq
    · simp only [Value.slice.injEq] at hv
      obtain ⟨rfl, _, _⟩ := hv
      unfold blkOf at hq
      split at hq
      · simp at hq
      · simp at hq; omega
  · unfold blkOf
    split
    · exact List.nodup_nil
    · split <;> simp
end Go.Proofs.YtaibfefmehhldaaGreatDoor.Body

namespace Go.Proofs.YtaibfefmehhldaaGreatDoor.Body
open Go.RowKit Go.Proofs.YtaibfefmehhldaaGreatDoor.Instr
open Go.Proofs.YtaibfefmehhldaaGreatDoor.Kind (Rd)

section
variable {zs : List Int} {m : Nat} {f : Fr} {fs : List Fr} {cnt : Int} {s s1 : Rd} {y : Int}
end

theorem Itemed.below {base gs p : Nat} {y : Ix} {ga : Option Addr} {gc : Nat} {gt : Il} {w w' : World} (h : Itemed base gs p y ga gc gt w w') (hb : base ≤ w.heap.size) (hlow : ∀ q, Value.ownBlock (.slice ga gt.len gc) = some q → base ≤ q) (hgs : base ≤ gs) : Below base w w' := by
  obtain ⟨w1, g', cap', ht, _, hat, rfl⟩ := h
  have h1 : Below base w w1 := ht.below hb (fun j hj => hlow j hj)
  have hg' : base ≤ g' := by
    rcases hat with h | h
    · exact hlow g' h
    · omega
  exact (h1.trans ((store8_touch w1 g' (gt.len * 8) y).below (Nat.le_trans hb ht.size) (fun j hj => by have hj' : j = g' := hj; omega))).setCell hgs _
end Go.Proofs.YtaibfefmehhldaaGreatDoor.Body

/-
  BODY: the reader's list, by contract.
-/
namespace Go.Proofs.YtaibfefmehhldaaGreatDoor.Body
open Go.RowKit Go.Proofs.YtaibfefmehhldaaGreatDoor.Instr
open Go.Proofs.YtaibfefmehhldaaGreatDoor.Kind (Rd)

end Go.Proofs.YtaibfefmehhldaaGreatDoor.Body

namespace Go.Proofs.YtaibfefmehhldaaGreatDoor.Body
open Go.RowKit Go.Proofs.YtaibfefmehhldaaGreatDoor.Instr
open Go.Proofs.YtaibfefmehhldaaGreatDoor.Kind (Rd)

/-- Instructions in memory of their own. -/
structure Fresh (B : Nat) (w : World) (a : Option Addr) (n : Nat) (t : Il) : Prop where
  lst : ListAt w.heap.size w a n t
  nodup : (blkOf n a ++ t.foot).Nodup
  low : ∀ q ∈ blkOf n a ++ t.foot, B ≤ q
  soft : ∀ q ∈ blkOf n a ++ t.foot, Soft w q
theorem Fresh.nil (B : Nat) (w : World) : Fresh B w none 0 .nil := ⟨⟨rfl, .inl rfl⟩, by simp [blkOf, Il.foot], fun q hq => by simp [blkOf, Il.foot] at hq, fun q hq => by simp [blkOf, Il.foot] at hq⟩
theorem Fresh.touch {B : Nat} {S : Nat → Prop} {w w' : World} {a : Option Addr} {n : Nat} {t : Il} (h : Fresh B w a n t) (ht : Touch S w w') (hs : ∀ q ∈ blkOf n a ++ t.foot, ¬ S q) : Fresh B w' a n t := ⟨ListAt.more ht.size (h.lst.touch ht hs), h.nodup, h.low, fun q hq => (h.soft q hq).touch ht (hs q hq)⟩
theorem Fresh.mono {B B' : Nat} {w : World} {a : Option Addr} {n : Nat} {t : Il} (h : Fresh B w a n t) (hb : B' ≤ B) : Fresh B' w a n t := ⟨h.lst, h.nodup, fun q hq => Nat.le_trans hb (h.low q hq), h.soft⟩
theorem Fresh.below {B : Nat} {w w' : World} {a : Option Addr} {n : Nat} {t : Il} (h : Fresh B w a n t) (hb : Below w.heap.size w w') : Fresh B w' a n t := h.touch (S := fun _ => False) (.of_below hb) (fun _ _ h => h)
end Go.Proofs.YtaibfefmehhldaaGreatDoor.Body

namespace Go.Proofs.YtaibfefmehhldaaGreatDoor.Body
set_option linter.unusedVariables false
open Go.RowKit Go.Proofs.YtaibfefmehhldaaGreatDoor.Instr
open Go.Proofs.YtaibfefmehhldaaGreatDoor.Kind (Rd)

theorem RcIs.belowB {B : Nat} {w w' : World} {k : Nat} {v : Value} {s : Rd} {n : Int} (h : RcIs w k v s n) (hb : Below B w w') (hk : k < B) : RcIs w' k v s n :=
  ⟨h.toRdIs.belowB hb hk, (hb.cell hk).trans h.c4, (hb.frozen hk).trans h.f4⟩
theorem Bx.belowB {B : Nat} {w w' : World} {g : Nat} {x : Ix} (h : Bx g x w) (hb : Below B w w') (hg : g < B) : Bx g x w' :=
  ⟨⟨(hb.cell hg).trans h.at_.c0, (hb.cell hg).trans h.at_.c1, (hb.cell hg).trans h.at_.c2, (hb.cell hg).trans h.at_.c3, (hb.cell hg).trans h.at_.c4, (hb.cell hg).trans h.at_.c5, (hb.cell hg).trans h.at_.c6, (hb.cell hg).trans h.at_.c7⟩,
    (hb.frozen hg).trans h.f0, (hb.frozen hg).trans h.f1, (hb.frozen hg).trans h.f2, (hb.frozen hg).trans h.f3, (hb.frozen hg).trans h.f4, (hb.frozen hg).trans h.f5, (hb.frozen hg).trans h.f6, (hb.frozen hg).trans h.f7⟩
theorem below_put (W : World) (b o : Nat) (u : Value) : Below b W (W.setCell ⟨b, o, none⟩ u) := (Below.refl b W).setCell (p := ⟨b, o, none⟩) (Nat.le_refl _) u
/-- While an instruction is read: the reader, the result's block, the instruction's block behind it. -/
structure Mid (w : World) (k : Nat) (v : Value) (n : Int) (s : Rd) (x : Ix) (W : World) : Prop where
  r : RcIs W k v s n
  sv : Save k w W
  res : Bx w.heap.size zeroX W
  box : Bx (w.heap.size + 1) x W
  lt : k < w.heap.size
section
variable {w W W' : World} {k : Nat} {v : Value} {n : Int} {s s' : Rd} {x : Ix}
theorem Mid.call {n' : Int} (M : Mid w k v n s x W) (h : RcIs W' k v s' n') (hs : Save k W W') : Mid w k v n' s' x W' := ⟨h, M.sv.trans hs, M.res.save hs (by have := M.lt; omega), M.box.save hs (by have := M.lt; omega), M.lt⟩
end
/-- An instruction is written into the result's block. -/
def fin (w : World) (g : Nat) (x : Ix) : World :=
  (((((((w.setCell ⟨g, 0, none⟩ (.int .i64 x.op)).setCell ⟨g, 1, none⟩ (.int .i64 x.res)).setCell ⟨g, 2, none⟩ (.int .u32 x.a)).setCell ⟨g, 3, none⟩ (.int .u32 x.b)).setCell ⟨g, 4, none⟩ (.int .i32 x.n)).setCell ⟨g, 5, none⟩ (.slice x.ta x.tags.length x.tc)).setCell ⟨g, 6, none⟩ (.slice x.la x.ln x.lc)).setCell ⟨g, 7, none⟩ (.slice x.ea x.en x.ec)
end Go.Proofs.YtaibfefmehhldaaGreatDoor.Body

/-
  BODY: the document's own reading of an instruction with labels, by contract.
-/
namespace Go.Proofs.YtaibfefmehhldaaGreatDoor.Body
set_option linter.unusedVariables false
open Go.RowKit Go.Proofs.YtaibfefmehhldaaGreatDoor.Instr
open Go.Proofs.YtaibfefmehhldaaGreatDoor.Kind (Rd)

theorem Mid.more {w W W' : World} {k : Nat} {v : Value} {n : Int} {s : Rd} {x : Ix} (M : Mid w k v n s x W) (hB : Below (w.heap.size + 2) W W') : Mid w k v n s x W' :=
  ⟨M.r.belowB hB (by have := M.lt; omega), save_under M.sv (hB.mono (by omega)), M.res.belowB hB (by omega), M.box.belowB hB (by omega), M.lt⟩
end Go.Proofs.YtaibfefmehhldaaGreatDoor.Body

/-
  BODY: the document's own reading of lists: what a list, and an instruction with lists, give; the list that is read so far (plain, and in memory).
-/
namespace Go.Proofs.YtaibfefmehhldaaGreatDoor.Body
set_option linter.unusedVariables false
open Go.RowKit Go.Proofs.YtaibfefmehhldaaGreatDoor.Instr
open Go.Proofs.YtaibfefmehhldaaGreatDoor.Kind (Rd)

/-- The list that has been read so far, in memory of its own. -/
structure LOk (w : World) (out : Value) (t : Il) (W : World) : Prop where
  row : W.ownsRow w.heap.size 87 8 out t.len t.cells
  kids : t.kids W
  low : ∀ q ∈ t.foot, w.heap.size ≤ q
  apart : ∀ q ∈ t.foot, out.ownBlock ≠ some q
theorem LOk.start (w W : World) : LOk w (.slice none 0 0) .nil W := ⟨World.ownsRow_nil _ _ _ _, trivial, by simp [Il.foot], by simp [Il.foot]⟩
theorem LOk.touch {S : Nat → Prop} {w W W' : World} {out : Value} {t : Il} (h : LOk w out t W) (ht : Touch S W W') (hs : ∀ q, w.heap.size ≤ q → ¬ S q) : LOk w out t W' :=
  ⟨touch_row h.row ht (fun g hg => hs g (World.ownsRow.lt h.row g hg).1), kids_touch ht h.kids (fun q hq => hs q (h.low q hq)), h.low, h.apart⟩
theorem LOk.save {k : Nat} {w W W' : World} {out : Value} {t : Il} (h : LOk w out t W) (hs : Save k W W') (hk : k < w.heap.size) : LOk w out t W' :=
  h.touch (.of_save hs) (fun q hq e => by omega)
theorem LOk.value {w W : World} {out : Value} {t : Il} (h : LOk w out t W) : ∃ a c, out = .slice a t.len c ∧ ListAt W.heap.size W a t.len t ∧ ∀ q ∈ blkOf t.len a ++ t.foot, w.heap.size ≤ q := by
  obtain ⟨a, c, e1, e2, e3⟩ := list_of_row h.row h.kids
  refine ⟨a, c, e1, e2, fun q hq => ?_⟩
  rcases List.mem_append.1 hq with hq | hq
  · rw [e3] at hq
    split at hq
    · simp at hq
    · split at hq
      · rename_i g hg
        simp at hq
        subst hq
        exact (World.ownsRow.lt h.row q hg).1
      · simp at hq
  · exact h.low q hq
theorem LOk.snoc {w W W2 W3 : World} {out : Value} {t : Il} {y : Ix} {l f : Il} {g cap : Nat} {o : Obj} (h : LOk w out t W) (h2 : LOk w out t W2) (hk : (Il.cons y l f .nil).kids W2) (hlo : ∀ q ∈ (Il.cons y l f .nil).foot, W.heap.size ≤ q) (hw : w.heap.size ≤ W.heap.size)
    (hown : W3.ownsRow w.heap.size 87 8 (.slice (some ⟨g, 0, none⟩) (t.len + 1) cap) (t.len + 1) (t.cells ++ y.vals.toList)) (hg : (W2.alloc o).grownBy W3 out.ownBlock) (hat : out.ownBlock = some g ∨ g = (W2.alloc o).heap.size) :
    LOk w (.slice (some ⟨g, 0, none⟩) (t.len + 1) cap) (t.app (.cons y l f .nil)) W3 := by
  have ht : Touch (fun j => out.ownBlock = some j) W2 W3 := (Touch.of_below (thenA (Below.refl _ _) o)).trans (Touch.of_grown hg)
  have hne : ∀ q ∈ (Il.cons y l f .nil).foot, out.ownBlock ≠ some q := fun q hq e => by
    have h1 := hlo q hq
    have h3 := (World.ownsRow.lt h.row q e).2
    omega
  have hlt : ∀ q ∈ t.foot, q < W2.heap.size := kids_lt h2.kids
  have hlt2 : ∀ q ∈ (Il.cons y l f .nil).foot, q < W2.heap.size := kids_lt hk
  have hsz : (W2.alloc o).heap.size = W2.heap.size + 1 := by simp
  refine ⟨?_, kids_app _ _ (kids_touch ht h2.kids h2.apart) (kids_touch ht hk hne), ?_, ?_⟩
  · rw [app_len, cells_app]
    simp only [Il.len, Il.cells, List.append_nil, Nat.zero_add]
    exact hown
  · intro q hq
    rw [foot_app] at hq
    rcases List.mem_append.1 hq with hq | hq
    · exact h2.low q hq
    · exact Nat.le_trans hw (hlo q hq)
  · intro q hq e
    simp only [Value.ownBlock, Option.some.injEq] at e
    subst e
    rw [foot_app] at hq
    rcases hat with hat | hat
    · rcases List.mem_append.1 hq with hq | hq
      · exact h2.apart g hq hat
      · exact hne g hq hat
    · rcases List.mem_append.1 hq with hq | hq
      · have := hlt g hq; omega
      · have := hlt2 g hq; omega
section
variable {ops : Array Oper} {rest : List Oper} {o : Oper} {act : Act} {Q : Exit → Act → World → Prop}
/-- An instruction is appended. -/
theorem append_ins (hgd : o.guard = none) (s x : Operand) (ho : o.op = .call { callee := .builtin .append, args := #[s, x], argTypes := #[39, 39] })
    {base n : Nat} {wr : World} {v : Value} {xs : List Value} (y : Ix) (hs : act.eval s = v) (hown : wr.ownsRow base 87 8 v n xs) (hbase : base ≤ wr.heap.size)
    (hx : act.eval x = .slice (some ⟨wr.heap.size, 0, none⟩) 1 1) (hn : n ≤ 1000000)
    (h : ∀ g cap w', w'.ownsRow base 87 8 (.slice (some ⟨g, 0, none⟩) (n + 1) cap) (n + 1) (xs ++ y.vals.toList) → (wr.alloc (.cells y.vals 87)).grownBy w' v.ownBlock → (v.ownBlock = some g ∨ g = (wr.alloc (.cells y.vals 87)).heap.size) → wpList Tryz.prog ops Q rest (act.put o.dst (.slice (some ⟨g, 0, none⟩) (n + 1) cap)) w') :
    wpList Tryz.prog ops Q (o :: rest) act (wr.alloc (.cells y.vals 87)) := by
  obtain ⟨i0, hi, hz0, hz1, hz2⟩ := info_parts infoI
  refine wpList_append_lies _ hgd s x 39 ho base 87 i0 zeroI 8 104 Tryz.underlying39 hi hz0 hz1 hz2 rfl (by decide) v n xs hs (World.ownsRow.alloc hown _) ⟨wr.heap.size, 0, none⟩ 1 1 y.vals.toList hx rfl
    (World.news_of_block (heap_alloc_new wr _)) ?_ (by omega) ?_ ?_ ?_ _ rfl (fun g cap w' h1 h2 h3 _ => h g cap w' h1 h2 h3)
  · intro u hu
    simp only [Ix.vals, List.mem_cons, List.not_mem_nil, or_false] at hu
    rcases hu with rfl | rfl | rfl | rfl | rfl | rfl | rfl | rfl <;> rfl
  · unfold maxLen; omega
  · omega
  · simp; omega
end
end Go.Proofs.YtaibfefmehhldaaGreatDoor.Body

/-
  BODY: the document's own reading of an instruction that has lists, by contract. (tools/gen_bodyrefb.py)
-/
namespace Go.Proofs.YtaibfefmehhldaaGreatDoor.Body
set_option linter.unusedVariables false
open Go.RowKit Go.Proofs.YtaibfefmehhldaaGreatDoor.Instr
open Go.Proofs.YtaibfefmehhldaaGreatDoor.Kind (Rd)

theorem Bx.setL {g : Nat} {x : Ix} {w : World} (h : Bx g x w) (a : Option Addr) (n c : Nat) : Bx g ⟨x.op, x.res, x.a, x.b, x.n, x.tags, x.ta, x.tc, a, n, c, x.ea, x.en, x.ec⟩ (w.setCell ⟨g, 6, none⟩ (.slice a n c)) := by
  obtain ⟨⟨c0, c1, c2, c3, c4, c5, c6, c7⟩, f0, f1, f2, f3, f4, f5, f6, f7⟩ := h
  refine ⟨⟨?_, ?_, ?_, ?_, ?_, ?_, ?_, ?_⟩, ?_, ?_, ?_, ?_, ?_, ?_, ?_, ?_⟩ <;> simp [go_sem, *]
theorem Bx.setE {g : Nat} {x : Ix} {w : World} (h : Bx g x w) (a : Option Addr) (n c : Nat) : Bx g ⟨x.op, x.res, x.a, x.b, x.n, x.tags, x.ta, x.tc, x.la, x.ln, x.lc, a, n, c⟩ (w.setCell ⟨g, 7, none⟩ (.slice a n c)) := by
  obtain ⟨⟨c0, c1, c2, c3, c4, c5, c6, c7⟩, f0, f1, f2, f3, f4, f5, f6, f7⟩ := h
  refine ⟨⟨?_, ?_, ?_, ?_, ?_, ?_, ?_, ?_⟩, ?_, ?_, ?_, ?_, ?_, ?_, ?_, ?_⟩ <;> simp [go_sem, *]
/-- While an instruction with lists is read: the reader, the instruction's block, the result's behind it. -/
structure Blk (w : World) (k : Nat) (v : Value) (n : Int) (s : Rd) (x : Ix) (W : World) : Prop where
  r : RcIs W k v s n
  sv : Save k w W
  box : Bx w.heap.size x W
  res : Bx (w.heap.size + 1) zeroX W
  lt : k < w.heap.size
section
variable {w W W' : World} {k : Nat} {v : Value} {n : Int} {s s' : Rd} {x : Ix}
theorem Blk.call {n' : Int} (M : Blk w k v n s x W) (h : RcIs W' k v s' n') (hs : Save k W W') : Blk w k v n' s' x W' := ⟨h, M.sv.trans hs, M.box.save hs (by have := M.lt; omega), M.res.save hs (by have := M.lt; omega), M.lt⟩
theorem Blk.put {x' : Ix} (M : Blk w k v n s x W) (o : Nat) (u : Value) (hbox : Bx w.heap.size x' (W.setCell ⟨w.heap.size, o, none⟩ u)) : Blk w k v n s x' (W.setCell ⟨w.heap.size, o, none⟩ u) :=
  ⟨M.r.belowB (below_put W _ _ _) M.lt, save_under M.sv (below_put W _ _ _), hbox, M.res.other (by simp) _, M.lt⟩
theorem Blk.size (M : Blk w k v n s x W) : w.heap.size + 2 ≤ W.heap.size := by
  have := World.block_lt_of_cell? W _ M.res.at_.c0
  simp only at this
  omega
end
end Go.Proofs.YtaibfefmehhldaaGreatDoor.Body

/-
  BODY: the document's own one and list, by contract. (tools/gen_bodyrefl.py)
-/
namespace Go.Proofs.YtaibfefmehhldaaGreatDoor.Body
set_option linter.unusedVariables false
open Go.RowKit Go.Proofs.YtaibfefmehhldaaGreatDoor.Instr
open Go.Proofs.YtaibfefmehhldaaGreatDoor.Kind (Rd)

theorem Mid.size {w W : World} {k : Nat} {v : Value} {n : Int} {s : Rd} {x : Ix} (M : Mid w k v n s x W) : w.heap.size + 2 ≤ W.heap.size := by
  have := World.block_lt_of_cell? W _ M.box.at_.c0
  simp only at this
  omega
end Go.Proofs.YtaibfefmehhldaaGreatDoor.Body

/-
  BODY: the document's own list, by contract. (tools/gen_bodyrefm.py)
-/
namespace Go.Proofs.YtaibfefmehhldaaGreatDoor.Body
set_option linter.unusedVariables false
open Go.RowKit Go.Proofs.YtaibfefmehhldaaGreatDoor.Instr
open Go.Proofs.YtaibfefmehhldaaGreatDoor.Kind (Rd)

theorem below_grown {w W W' : World} {out : Value} {n : Nat} {xs : List Value} {o : Obj} (h : W.ownsRow w.heap.size 87 8 out n xs) (hw : w.heap.size ≤ W.heap.size) (hg : (W.alloc o).grownBy W' out.ownBlock) : Below w.heap.size W W' :=
  ((Below.refl w.heap.size W).alloc hw o).grown hg (by simp; omega) (fun j hj => (World.ownsRow.lt h j hj).1)

end Go.Proofs.YtaibfefmehhldaaGreatDoor.Body

/-
  BODY: the document's own Get, by contract.
-/
namespace Go.Proofs.YtaibfefmehhldaaGreatDoor.Body
set_option linter.unusedVariables false
open Go.RowKit Go.Proofs.YtaibfefmehhldaaGreatDoor.Instr
open Go.Proofs.YtaibfefmehhldaaGreatDoor.Kind (Rd)

/-- Two cells that are there. -/
structure Duq (T : Nat) (x y : Value) (w : World) : Prop where
  c0 : w.cell? ⟨T, 0, none⟩ = some x
  c1 : w.cell? ⟨T, 1, none⟩ = some y
  f0 : w.frozen? ⟨T, 0, none⟩ = false
  f1 : w.frozen? ⟨T, 1, none⟩ = false
theorem Duq.save {k T : Nat} {x y : Value} {w w' : World} (h : Duq T x y w) (hs : Save k w w') (hk : T ≠ k) : Duq T x y w' :=
  have hl := World.block_lt_of_cell? w _ h.c0
  ⟨hs.cell hk h.c0, hs.cell hk h.c1, hs.frozen hl hk h.f0, hs.frozen hl hk h.f1⟩
theorem Duq.below {T : Nat} {x y : Value} {w w' : World} (h : Duq T x y w) (hb : Below w.heap.size w w') : Duq T x y w' :=
  h.save (k := w.heap.size) (Save.of_below hb) (by have := World.block_lt_of_cell? w _ h.c0; simp at this; omega)
theorem alloc_bq (w : World) (o : Obj) : Below w.heap.size w (w.alloc o) := (Below.refl _ _).alloc (Nat.le_refl _) o
end Go.Proofs.YtaibfefmehhldaaGreatDoor.Body

namespace Go.Proofs.YtaibfefmehhldaaGreatDoor.Instr
open Go.RowKit Go.Shelf

attribute [local go_sem] Oper.semAt_some

theorem RoundIn.anyD {m m' : Nat} {P : Program} {l : Nat} {f : FuncId} {tmps : Array Value} {assign body : Code} {w : World} {R : Ending → World → Prop}
    (h : RoundIn Fence.wide m P l f tmps assign body w R) : RoundIn Fence.wide m' P l f tmps assign body w R := ⟨h.1, fun c cs _ => h.2 c cs (fun d h => by cases h)⟩
theorem YieldAt.anyD {m m' : Nat} {P : Program} {l : Nat} {args : Array Value} {W : World} {R : Ending → World → Prop} (h : YieldAt Fence.wide m P l args W R) : YieldAt Fence.wide m' P l args W R := by
  obtain ⟨fn, tmps, assign, body, hy, hR⟩ := h
  exact ⟨fn, tmps, assign, body, hy, RoundIn.anyD hR⟩

def encs (p : Int × Ix) : Array Value := #[.int .i64 p.1, .agg p.2.vals]

set_option maxHeartbeats 4000000 in
set_option maxRecDepth 100000 in
theorem descend_in (l n₀ n₁ N : Nat) (J Jx : List (Int × Ix) → World → Prop) (B : Nat) (hJ : AbidesFrom B J) (hn : n₀ ≤ n₁)
    (hY : ∀ m pre x W, J pre W → pre.length < N → n₁ ≤ W.heap.size → YieldAt Fence.wide m Tryz.prog l (encs x) W fun e W' =>
      (e = .returned (.bool true) ∧ J (pre ++ [x]) W' ∧ Kept n₀ n₁ W W') ∨ (e = .returned (.bool false) ∧ Jx (pre ++ [x]) W')) :
    ∀ (m : Nat) (t : Il) (n : Nat) (a : Option Addr) (len cap : Nat) (d : Int) (pre : List (Int × Ix)) (W : World), t.count ≤ m → ListAt n₀ W a len t → J pre W → pre.length + t.count ≤ N → n₁ ≤ W.heap.size → 0 ≤ d → d + t.deep ≤ 4611686018427387904 → len ≤ 140737488351232 →
      CallsIn Fence.wide n Tryz.prog 119 #[.slice a len cap, .int .i64 d, .func (.yield l) #[] #[]] W fun e W' =>
        (e = .returned (.bool true) ∧ J (pre ++ t.walk d) W' ∧ Kept n₀ n₁ W W') ∨ (e = .returned (.bool false) ∧ ∃ q, q <+: t.walk d ∧ Jx (pre ++ q) W') := by
  intro m
  induction m with
  | zero =>
    intro t n a len cap d pre W hm hl hJ0 hN hW hd0 hd1 hlen
    cases t with
    | cons x l e r => simp only [Il.count] at hm; omega
    | nil =>
      have h0 : len = 0 := hl.1.symm
      subst h0
      clear hm hl hN hd1
      refine callsIn_of_wp Tryz.func119 rfl trivial ?_ rfl
      simp only [Tryz.ntmps119, List.size_toArray, List.length_cons, List.length_nil, Nat.reduceAdd, Nat.reduceSub, Array.replicate_succ, Array.replicate_zero, List.push_toArray, List.append_toArray, List.nil_append, List.cons_append]
      gi_wp2
      gi_loopw [11] (fun i wr => i = .int .i64 0 ∧ J pre wr ∧ Kept n₀ n₁ W wr) (fun _ _ => 0)
      case atStart => exact ⟨rfl, hJ0, Kept.refl _ _ _⟩
      case round =>
        obtain ⟨rfl, hJs, hk⟩ := hrel
        gi_wp2
        go_ret
        exact .inl ⟨rfl, by simpa [Il.walk] using hJs, hk⟩
  | succ m ih =>
    intro t n a len cap d pre W hm hl hJ0 hN hW hd0 hd1 hlen
    have hA : ∀ s W, J s W → ∀ o, J s (W.alloc o) := fun s W h o => hJ s W _ none h (World.grownBy_alloc W o none) (fun r e => by cases e)
    obtain ⟨hl1, hl2⟩ := hl
    have HT := hid hm
    have HN := hid hN
    have HD := hid hd1
    have HL := hid hl1
    clear hm hN hd1 hl1
    rcases hl2 with rfl | ⟨b, off, rfl, hi⟩
    · have h0 : len = 0 := HL.out.symm
      subst h0
      refine callsIn_of_wp Tryz.func119 rfl trivial ?_ rfl
      simp only [Tryz.ntmps119, List.size_toArray, List.length_cons, List.length_nil, Nat.reduceAdd, Nat.reduceSub, Array.replicate_succ, Array.replicate_zero, List.push_toArray, List.append_toArray, List.nil_append, List.cons_append]
      gi_wp2
      gi_loopw [11] (fun i wr => i = .int .i64 0 ∧ J pre wr ∧ Kept n₀ n₁ W wr) (fun _ _ => 0)
      case atStart => exact ⟨rfl, hJ0, Kept.refl _ _ _⟩
      case round =>
        obtain ⟨rfl, hJs, hk⟩ := hrel
        gi_wp2
        go_ret
        exact .inl ⟨rfl, by simpa [Il.walk] using hJs, hk⟩
    · refine callsIn_of_wp Tryz.func119 rfl trivial ?_ rfl
      simp only [Tryz.ntmps119, List.size_toArray, List.length_cons, List.length_nil, Nat.reduceAdd, Nat.reduceSub, Array.replicate_succ, Array.replicate_zero, List.push_toArray, List.append_toArray, List.nil_append, List.cons_append]
      gi_wp2
      gi_loopw [11] (fun i wr => ∃ (k : Nat) (done : List (Int × Ix)) (rest : Il), i = .int .i64 k ∧ k ≤ len ∧ Hid (k + rest.len = len ∧ done ++ rest.walk d = t.walk d ∧ rest.count ≤ t.count ∧ rest.deep ≤ t.deep) ∧ Items n₀ wr b (off + k * 8) rest ∧ J (pre ++ done) wr ∧ Kept n₀ n₁ W wr)
        (fun i _ => len - (intOf i).toNat)
      case atStart => exact ⟨0, [], t, rfl, Nat.zero_le _, ⟨by have := HL.out; omega, rfl, Nat.le_refl _, Nat.le_refl _⟩, by simpa using hi, by simpa using hJ0, Kept.refl _ _ _⟩
      case round =>
        obtain ⟨k, done, rest, rfl, hk, HR, hir, hJs, hkw⟩ := hrel
        cases rest with
        | nil =>
          obtain ⟨r1, r2, _, _⟩ := HR.out
          have hkl : k = len := by simpa [Il.len] using r1
          subst hkl
          gi_wp2
          go_ret
          exact .inl ⟨rfl, by rw [← r2]; simpa [Il.walk] using hJs, hkw⟩
        | cons x tl te r =>
          obtain ⟨hbn, hx, ⟨c0, c1, c2, c3, c4, c5, c6, c7⟩, ht, hLl, hLe, hir'⟩ := hir
          have hlt : k < len := by have := HR.out.1; simp only [Il.len] at this; omega
          obtain ⟨fn, tmps, assign, body, hy, hR⟩ := hY (n - 1) (pre ++ done) (d, x) (wr.alloc (.cells x.vals 87)) (hA _ _ hJs _) (by
            have h1 := congrArg List.length HR.out.2.1
            have h2 := walk_length t d
            have h3 := HN.out
            simp only [List.length_append, Il.walk, List.length_cons] at h1 ⊢
            omega) (by have := hkw.below.size; simp; omega)
          simp only [encs, Ix.vals] at hy hR
          have hbx := At.made x wr
          have hg : n₁ ≤ wr.heap.size := Nat.le_trans hW hkw.below.size
          have hw1 : IntKind.i64.wrap (d + 1) = d + 1 := by have := HD.out; rw [IntKind.wrap_i64]; omega
          have hB1 : Kept n₀ n₁ W (wr.alloc (.cells x.vals 87)) := hkw.alloc _ (Nat.le_trans hn hg)
          have hcounts : tl.count + te.count + r.count + 1 ≤ m + 1 ∧ tl.deep + 1 ≤ t.deep ∧ te.deep + 1 ≤ t.deep := by
            have h1 := HR.out.2.2
            have h2 := HT.out
            simp only [Il.count, Il.deep] at h1
            omega
          have HC := hid hcounts
          clear hcounts
          have hlens : (pre ++ done).length + 1 + tl.count + te.count + r.count ≤ N := by
            have h1 := congrArg List.length HR.out.2.1
            have h2 := HN.out
            simp only [List.length_append, Il.walk, List.length_cons, walk_length] at h1 ⊢
            omega
          have HLN := hid hlens
          clear hlens
          gi_wp2_with fail
          refine ⟨fun h => (by cases h), ?_⟩
          refine hR.mono ?_
          clear hR hy
          rintro e W2 (⟨rfl, hJ2, hk2⟩ | ⟨rfl, hx2⟩)
          · have hb2 := hbx.kept hk2 hg
            obtain ⟨d0, d1, d2, d3, d4, d5, d6, d7⟩ := hb2
            gi_wp2_with fail
            refine ⟨trivial, fun h => (by cases h), ?_⟩
            have hL2 : ListAt n₀ W2 x.la x.ln tl := ListAt.below (((Below.refl _ wr).alloc (Nat.le_trans hn hg) _).trans hk2.below) hLl
            refine (ih tl (n - 1) x.la x.ln x.lc (d + 1) (pre ++ done ++ [(d, x)]) W2 (by have := HC.out; omega) hL2 hJ2 (by have := HLN.out; simp only [List.length_append, List.length_cons, List.length_nil] at this ⊢; omega)
              (by have := hk2.below.size; simp at this; omega) (by omega) (by have := HC.out; have := HD.out; omega) hx.ln).mono ?_
            rintro e W3 (⟨rfl, hJ3, hk3⟩ | ⟨rfl, q, hq, hx3⟩)
            · have hb3 := hbx.kept (hk2.trans hk3) hg
              clear d0 d1 d2 d3 d4 d5 d6 d7
              obtain ⟨d0, d1, d2, d3, d4, d5, d6, d7⟩ := hb3
              gi_wp2_with fail
              refine ⟨trivial, fun h => (by cases h), ?_⟩
              have hL3 : ListAt n₀ W3 x.ea x.en te := ListAt.below ((((Below.refl _ wr).alloc (Nat.le_trans hn hg) _).trans hk2.below).trans hk3.below) hLe
              refine (ih te (n - 1) x.ea x.en x.ec (d + 1) (pre ++ done ++ [(d, x)] ++ tl.walk (d + 1)) W3 (by have := HC.out; omega) hL3 hJ3 (by have := HLN.out; simp only [List.length_append, List.length_cons, List.length_nil, walk_length] at this ⊢; omega)
                (by have := (hk2.trans hk3).below.size; simp at this; omega) (by omega) (by have := HC.out; have := HD.out; omega) hx.en).mono ?_
              rintro e W4 (⟨rfl, hJ4, hk4⟩ | ⟨rfl, q, hq, hx4⟩)
              · clear d0 d1 d2 d3 d4 d5 d6 d7
                gi_wp2
                have hkz : Kept n₀ n₁ W W4 := hB1.trans ((hk2.trans hk3).trans hk4)
                go_roundw
                case rel =>
                  refine ⟨k + 1, done ++ [(d, x)] ++ tl.walk (d + 1) ++ te.walk (d + 1), r, by simp, by omega, ?_, ?_, ?_, hkz⟩
                  · have h1 := HR.out
                    refine ⟨by simp only [Il.len] at h1; omega, ?_, by simp only [Il.count] at h1; omega, by simp only [Il.deep] at h1; omega⟩
                    rw [← h1.2.1]; simp [Il.walk, List.append_assoc]
                  · have := Items.below ((((((Below.refl _ wr).alloc (Nat.le_trans hn hg) (.cells x.vals 87)).trans hk2.below).trans hk3.below)).trans hk4.below) hir'
                    rw [show off + (k + 1) * 8 = off + k * 8 + 8 by omega]
                    exact this
                  · simpa [List.append_assoc] using hJ4
                case measure => simp [intOf]; omega
              · gi_wp2
                go_ret
                refine .inr ⟨rfl, done ++ [(d, x)] ++ tl.walk (d + 1) ++ q, ?_, by simpa [List.append_assoc] using hx4⟩
                rw [← HR.out.2.1]
                obtain ⟨z, hz⟩ := hq
                exact ⟨z ++ r.walk d, by rw [Il.walk, ← hz]; simp [List.append_assoc]⟩
            · gi_wp2
              refine ⟨trivial, ?_⟩
              gi_wp2
              go_ret
              refine .inr ⟨rfl, done ++ [(d, x)] ++ q, ?_, by simpa [List.append_assoc] using hx3⟩
              rw [← HR.out.2.1]
              obtain ⟨z, hz⟩ := hq
              exact ⟨z ++ (te.walk (d + 1) ++ r.walk d), by rw [Il.walk, ← hz]; simp [List.append_assoc]⟩
          · gi_wp2
            refine ⟨trivial, ?_⟩
            gi_wp2
            refine ⟨trivial, ?_⟩
            gi_wp2
            go_ret
            refine .inr ⟨rfl, done ++ [(d, x)], ?_, by simpa [List.append_assoc] using hx2⟩
            rw [← HR.out.2.1]
            exact ⟨tl.walk (d + 1) ++ (te.walk (d + 1) ++ r.walk d), by simp [Il.walk, List.append_assoc]⟩

set_option maxHeartbeats 1000000 in
/-- The function that within hands back. -/
theorem within_stops (n n₀ n₁ Bs : Nat) (a : Option Addr) (len cap : Nat) (t : Il) (w : World) (hBs : Bs < w.heap.size) (hn : n₀ ≤ n₁) (hw : n₁ ≤ w.heap.size)
    (hc : w.cell? ⟨Bs, 0, none⟩ = some (.slice a len cap)) (hl : ListAt n₀ w a len t) (hd : t.deep ≤ 4611686018427387900) (hlen : len ≤ 140737488351232) :
    SeqStopsK Fence.wide n Tryz.prog 118 #[.pointer (some ⟨Bs, 0, none⟩)] encs (Kept n₀ n₁) (fun ys => ys = t.walk 1) (fun pre => pre <+: t.walk 1) t.count w := fun l J Jx W hW hJ _ hY h0 => by
  have hc' := (hW.cell (p := ⟨Bs, 0, none⟩) hBs).trans hc
  have hp := descend_in l n₀ n₁ t.count J Jx W.heap.size hJ hn (fun m pre x W1 hj hl1 _ => YieldAt.anyD (hY pre x W1 hj hl1)) t.count t (n - 1) a len cap 1 [] W (Nat.le_refl _) (hl.below (hW.mono (Nat.le_trans hn hw))) h0 (by simp) (Nat.le_trans hw hW.size) (by omega) (by omega) hlen
  have C := hid hp
  clear hp hl hd hc hY
  refine callsIn_of_wp Tryz.func118 rfl trivial ?_ rfl
  simp only [Tryz.ntmps118, List.size_toArray, List.length_cons, List.length_nil, Nat.reduceAdd, Nat.reduceSub, Array.replicate_succ, Array.replicate_zero, List.push_toArray, List.append_toArray, List.nil_append, List.cons_append]
  gi_wp2_with fail
  refine ⟨trivial, fun h => (by cases h), ?_⟩
  refine C.out.mono ?_
  clear C
  rintro e W1 (⟨rfl, hJ1, _⟩ | ⟨rfl, q, hq, hx⟩)
  · gi_wp2
    go_end0
    exact ⟨⟨_, rfl⟩, .inl ⟨_, rfl, by simpa using hJ1⟩⟩
  · gi_wp2
    go_end0
    exact ⟨⟨_, rfl⟩, .inr ⟨q, hq, by simpa using hx⟩⟩
theorem within_in (n : Nat) (a : Option Addr) (len cap : Nat) (w : World) :
    CallsIn Fence.wide n Tryz.prog 109 #[.slice a len cap] w fun e w' => e = .returned (.func (.func 118) #[] #[.pointer (some ⟨w.heap.size, 0, none⟩)]) ∧ w' = w.alloc (.cells #[.slice a len cap] 39) := by
  refine callsIn_of_wp Tryz.func109 rfl trivial ?_ rfl
  simp only [Tryz.ntmps109, List.size_toArray, List.length_cons, List.length_nil, Nat.reduceAdd, Nat.reduceSub, Array.replicate_succ, Array.replicate_zero, List.push_toArray, List.append_toArray, List.nil_append, List.cons_append]
  gi_wp2
  go_ret
  exact ⟨rfl, rfl⟩
end Go.Proofs.YtaibfefmehhldaaGreatDoor.Instr

namespace Go.Proofs.YtaibfefmehhldaaGreatDoor.Instr
open Go.RowKit

def Il.weight : Il → Nat
  | .nil => 0
  | .cons x l e r => 1 + x.tags.length + l.weight + e.weight + r.weight
def tagsMin (x : Ix) (most : Int) : Int := min (x.tags.length : Int) most
/-- Counted on from n, no further than beyond 'most'. -/
def Il.go : Il → Int → Int → Int
  | .nil, n, _ => n
  | .cons x l e r, n, most =>
    if n ≤ most then
      r.go (if (if n + 1 + tagsMin x most ≤ most then n + 1 + tagsMin x most + l.go 0 (most - (n + 1 + tagsMin x most)) else n + 1 + tagsMin x most) ≤ most
        then (if n + 1 + tagsMin x most ≤ most then n + 1 + tagsMin x most + l.go 0 (most - (n + 1 + tagsMin x most)) else n + 1 + tagsMin x most) + e.go 0 (most - (if n + 1 + tagsMin x most ≤ most then n + 1 + tagsMin x most + l.go 0 (most - (n + 1 + tagsMin x most)) else n + 1 + tagsMin x most))
        else (if n + 1 + tagsMin x most ≤ most then n + 1 + tagsMin x most + l.go 0 (most - (n + 1 + tagsMin x most)) else n + 1 + tagsMin x most)) most
    else n
/-- Behind one of them. -/
def next1 (n m : Int) (most : Int) : Int := if n ≤ most then n + m else n
theorem next1_pos {n m most : Int} (h : n ≤ most) : next1 n m most = n + m := if_pos h
theorem next1_neg {n m most : Int} (h : ¬ n ≤ most) : next1 n m most = n := if_neg h
theorem go_cons (x : Ix) (l e r : Il) (n most : Int) (h : n ≤ most) : (Il.cons x l e r).go n most =
    r.go (next1 (next1 (n + 1 + tagsMin x most) (l.go 0 (most - (n + 1 + tagsMin x most))) most) (e.go 0 (most - next1 (n + 1 + tagsMin x most) (l.go 0 (most - (n + 1 + tagsMin x most))) most)) most) most := by
  rw [Il.go, if_pos h]; rfl
theorem go_over (t : Il) (n most : Int) (h : most < n) : t.go n most = n := by
  cases t with
  | nil => rfl
  | cons x l e r => rw [Il.go, if_neg (by omega)]
theorem tagsMin_bounds (x : Ix) (most : Int) (h : 0 ≤ most) : 0 ≤ tagsMin x most ∧ tagsMin x most ≤ most ∧ tagsMin x most ≤ x.tags.length := by unfold tagsMin; omega
theorem go_bounds : ∀ (t : Il) (n most : Int), 0 ≤ n → 0 ≤ most → n ≤ 2 * most + 1 → n ≤ t.go n most ∧ t.go n most ≤ 2 * most + 1 ∧ (t.go n most ≤ most → n + t.weight ≤ t.go n most)
  | .nil, n, most, h0, h1, h2 => by simp [Il.go, Il.weight, h2]
  | .cons x l e r, n, most, h0, h1, h2 => by
    by_cases h : n ≤ most
    · rw [go_cons x l e r n most h]
      have hT := tagsMin_bounds x most h1
      obtain ⟨T, hTT⟩ : ∃ T, tagsMin x most = T := ⟨_, rfl⟩
      have hx : T = most ∨ T = x.tags.length := by rw [← hTT]; unfold tagsMin; omega
      rw [hTT] at hT ⊢
      have A : ∀ (N2 : Int), next1 (n + 1 + T) (l.go 0 (most - (n + 1 + T))) most = N2 → n + 1 + T ≤ N2 ∧ N2 ≤ 2 * most + 1 ∧ (N2 ≤ most → n + 1 + T + l.weight ≤ N2 ∧ n + 1 + T ≤ most) := by
        intro N2 h
        subst h
        unfold next1
        split
        · have := go_bounds l 0 (most - (n + 1 + T)) (by omega) (by omega) (by omega)
          refine ⟨by omega, by omega, fun hh => ⟨?_, by omega⟩⟩
          have := this.2.2 (by omega)
          omega
        · exact ⟨by omega, by omega, fun hh => by omega⟩
      obtain ⟨N2, h2'⟩ : ∃ N2, next1 (n + 1 + T) (l.go 0 (most - (n + 1 + T))) most = N2 := ⟨_, rfl⟩
      have a := A N2 h2'
      rw [h2']
      have B : ∀ (N3 : Int), next1 N2 (e.go 0 (most - N2)) most = N3 → N2 ≤ N3 ∧ N3 ≤ 2 * most + 1 ∧ (N3 ≤ most → N2 + e.weight ≤ N3 ∧ N2 ≤ most) := by
        intro N3 h
        subst h
        unfold next1
        split
        · have := go_bounds e 0 (most - N2) (by omega) (by omega) (by omega)
          refine ⟨by omega, by omega, fun hh => ⟨?_, by omega⟩⟩
          have := this.2.2 (by omega)
          omega
        · exact ⟨by omega, by omega, fun hh => by omega⟩
      obtain ⟨N3, h3'⟩ : ∃ N3, next1 N2 (e.go 0 (most - N2)) most = N3 := ⟨_, rfl⟩
      have b := B N3 h3'
      rw [h3']
      have c := go_bounds r N3 most (by omega) h1 (by omega)
      refine ⟨by omega, c.2.1, fun hh => ?_⟩
      have c3 := c.2.2 hh
      have b3 := b.2.2 (by omega)
      have a3 := a.2.2 (by omega)
      simp only [Il.weight]
      omega
    · rw [go_over _ _ _ (by omega)]
      exact ⟨by omega, by omega, fun hh => by omega⟩
set_option maxRecDepth 100000 in
set_option maxHeartbeats 1600000 in
theorem Instrs_any : ∀ (m : Nat) (t : Il) (a : Option Addr) (len c : Nat) (most : Int) (w : World), t.count ≤ m → ListAt w.heap.size w a len t → len ≤ 140737488351232 → 0 ≤ most → most ≤ 5000 →
    Calls Tryz.prog 11 #[.slice a len c, .int .i64 most] w fun e w' => e = .returned (.int .i64 (t.go 0 most)) ∧ w = w' := by
  intro m
  induction m with
  | zero =>
    intro t a len c most w hm hL hlen hm0 hm1
    cases t with
    | cons x l e r => simp only [Il.count] at hm; omega
    | nil =>
      have h0 : len = 0 := hL.1.symm
      subst h0
      clear hm hL
      go_enter Tryz.func11, Tryz.ntmps11
      go_wp2
      go_loopw [5, 6] (fun sn si wr => si = .int .i64 0 ∧ sn = .int .i64 0 ∧ wr = w) (fun _ _ _ => 0)
      case atStart => exact ⟨rfl, rfl, rfl⟩
      case round =>
        obtain ⟨rfl, rfl, rfl⟩ := hrel
        go_wp2
        go_ret
        exact ⟨rfl, rfl⟩
  | succ m ih =>
    intro t a len c most w hm hL hlen hm0 hm1
    obtain ⟨hL1, hL2⟩ := hL
    have HM := hid hm
    have HL1 := hid hL1
    have HG : Hid (t.go 0 most = t.go 0 most) := hid rfl
    clear hm hL1
    rcases hL2 with rfl | ⟨b, off, rfl, hi⟩
    · have h0 : len = 0 := HL1.out.symm
      subst h0
      clear ih
      go_enter Tryz.func11, Tryz.ntmps11
      go_wp2
      go_loopw [5, 6] (fun sn si wr => si = .int .i64 0 ∧ sn = .int .i64 0 ∧ wr = w) (fun _ _ _ => 0)
      case atStart => exact ⟨rfl, rfl, rfl⟩
      case round =>
        obtain ⟨rfl, rfl, rfl⟩ := hrel
        go_wp2
        go_ret
        exact ⟨rfl, rfl⟩
    · go_enter Tryz.func11, Tryz.ntmps11
      go_wp2
      go_loopw [5, 6] (fun sn si wr => ∃ (k : Nat) (n : Int) (rest : Il), si = .int .i64 k ∧ sn = .int .i64 n ∧ k ≤ len ∧ 0 ≤ n ∧ n ≤ 2 * most + 1 ∧ Hid (k + rest.len = len ∧ rest.go n most = t.go 0 most ∧ rest.count ≤ t.count) ∧ Items w.heap.size w b (off + k * 8) rest ∧ wr = w)
        (fun _ si _ => len - (intOf si).toNat)
      case atStart => exact ⟨0, 0, t, rfl, rfl, Nat.zero_le _, by omega, by omega, ⟨by have := HL1.out; omega, rfl, Nat.le_refl _⟩, by simpa using hi, rfl⟩
      case round =>
        obtain ⟨k, n, rest, rfl, rfl, hk, hn0, hn1, HR, hir, rfl⟩ := hrel
        cases rest with
        | nil =>
          obtain ⟨r1, r2, _⟩ := HR.out
          have hkl : k = len := by simpa [Il.len] using r1
          subst hkl
          have R2 : Hid (n = t.go 0 most) := by show _ = _; rw [← r2]; rfl
          clear r2
          go_wp2
          go_ret
          exact ⟨ret_int R2.out, rfl⟩
        | cons x tl te r =>
          obtain ⟨hbn, hx, ⟨c0, c1, c2, c3, c4, c5, c6, c7⟩, ht, hLl, hLe, hir'⟩ := hir
          have hlt : k < len := by have := HR.out.1; simp only [Il.len] at this; omega
          by_cases hnm : n ≤ most
          · have hcnt : tl.count + te.count + 1 ≤ m + 1 := by have h1 := HR.out.2.2; have h2 := HM.out; simp only [Il.count] at h1; omega
            have htn := hx.tn
            have hLn := hx.ln
            have hEn := hx.en
            have hTb := tagsMin_bounds x most hm0
            rcases (Int.lt_or_le most (x.tags.length : Int)).symm with hle | hle
            · have hT : min (x.tags.length : Int) most = (x.tags.length : Int) := by omega
              have HT : Hid (tagsMin x most = (x.tags.length : Int)) := hid (show tagsMin x most = _ from hT)
              rw [HT.out] at hTb
              obtain ⟨tb0, tb1, _⟩ := hTb
              by_cases c1 : n + 1 + (x.tags.length : Int) ≤ most
              · have ih1 := ih tl x.la x.ln x.lc (most - (n + 1 + (x.tags.length : Int))) wr (by omega) hLl hLn (by omega) (by omega)
                have b1 := go_bounds tl 0 (most - (n + 1 + (x.tags.length : Int))) (by omega) (by omega) (by omega)
                obtain ⟨g1, hg1⟩ : ∃ g1, tl.go 0 (most - (n + 1 + (x.tags.length : Int))) = g1 := ⟨_, rfl⟩
                rw [hg1] at ih1 b1
                obtain ⟨b10, b11, _⟩ := b1
                have G1 := hid hg1
                have I1 := hid ih1
                clear hg1 ih1
                by_cases c2 : n + 1 + (x.tags.length : Int) + g1 ≤ most
                · have ih2 := ih te x.ea x.en x.ec (most - (n + 1 + (x.tags.length : Int) + g1)) wr (by omega) hLe hEn (by omega) (by omega)
                  have b2 := go_bounds te 0 (most - (n + 1 + (x.tags.length : Int) + g1)) (by omega) (by omega) (by omega)
                  obtain ⟨g2, hg2⟩ : ∃ g2, te.go 0 (most - (n + 1 + (x.tags.length : Int) + g1)) = g2 := ⟨_, rfl⟩
                  rw [hg2] at ih2 b2
                  obtain ⟨b20, b21, _⟩ := b2
                  have G2 := hid hg2
                  have I2 := hid ih2
                  clear hg2 ih2
                  go_wp2_with fail
                  refine I1.out.mono ?_
                  clear I1
                  rintro e1 w1 ⟨rfl, rfl⟩
                  go_wp2_with fail
                  refine I2.out.mono ?_
                  clear I2
                  rintro e1 w1 ⟨rfl, rfl⟩
                  go_wp2
                  go_roundw
                  case rel =>
                    refine ⟨k + 1, n + 1 + (x.tags.length : Int) + g1 + g2, r, by simp, by first | rfl | simp, by omega, by omega, by omega, ⟨by have := HR.out.1; simp only [Il.len] at this; omega, ?_, by have := HR.out.2.2; simp only [Il.count] at this; omega⟩, by rw [show off + (k + 1) * 8 = off + k * 8 + 8 by omega]; exact hir', by first | rfl | trivial⟩
                    rw [← HR.out.2.1, go_cons x tl te r n most hnm]
                    rw [HT.out, G1.out, next1_pos c1, G2.out, next1_pos c2]
                  case measure => simp [intOf]; omega

                · have c2' : most < n + 1 + (x.tags.length : Int) + g1 := by omega
                  clear ih
                  go_wp2_with fail
                  refine I1.out.mono ?_
                  clear I1
                  rintro e1 w1 ⟨rfl, rfl⟩
                  go_wp2
                  go_roundw
                  case rel =>
                    refine ⟨k + 1, n + 1 + (x.tags.length : Int) + g1, r, by simp, by first | rfl | simp, by omega, by omega, by omega, ⟨by have := HR.out.1; simp only [Il.len] at this; omega, ?_, by have := HR.out.2.2; simp only [Il.count] at this; omega⟩, by rw [show off + (k + 1) * 8 = off + k * 8 + 8 by omega]; exact hir', by first | rfl | trivial⟩
                    rw [← HR.out.2.1, go_cons x tl te r n most hnm]
                    rw [HT.out, G1.out, next1_pos c1, next1_neg (n := n + 1 + (x.tags.length : Int) + g1) (by omega)]
                  case measure => simp [intOf]; omega

              · have c1' : most < n + 1 + (x.tags.length : Int) := by omega
                clear ih
                go_wp2
                go_roundw
                case rel =>
                  refine ⟨k + 1, n + 1 + (x.tags.length : Int), r, by simp, by first | rfl | simp, by omega, by omega, by omega, ⟨by have := HR.out.1; simp only [Il.len] at this; omega, ?_, by have := HR.out.2.2; simp only [Il.count] at this; omega⟩, by rw [show off + (k + 1) * 8 = off + k * 8 + 8 by omega]; exact hir', by first | rfl | trivial⟩
                  rw [← HR.out.2.1, go_cons x tl te r n most hnm]
                  rw [HT.out, next1_neg (n := n + 1 + (x.tags.length : Int)) (by omega), next1_neg (n := n + 1 + (x.tags.length : Int)) (by omega)]
                case measure => simp [intOf]; omega
            · have hT : min (x.tags.length : Int) most = most := by omega
              have HT : Hid (tagsMin x most = most) := hid (show tagsMin x most = _ from hT)
              rw [HT.out] at hTb
              obtain ⟨tb0, tb1, _⟩ := hTb
              have c1 : ¬ n + 1 + most ≤ most := by omega
              have c1' : most < n + 1 + most := by omega
              clear ih
              go_wp2
              go_roundw
              case rel =>
                refine ⟨k + 1, n + 1 + most, r, by simp, by first | rfl | simp, by omega, by omega, by omega, ⟨by have := HR.out.1; simp only [Il.len] at this; omega, ?_, by have := HR.out.2.2; simp only [Il.count] at this; omega⟩, by rw [show off + (k + 1) * 8 = off + k * 8 + 8 by omega]; exact hir', by first | rfl | trivial⟩
                rw [← HR.out.2.1, go_cons x tl te r n most hnm]
                rw [HT.out, next1_neg (n := n + 1 + most) (by omega), next1_neg (n := n + 1 + most) (by omega)]
              case measure => simp [intOf]; omega
          · have R2 : Hid (n = t.go 0 most) := by show _ = _; rw [← HR.out.2.1, go_over _ _ _ (by omega)]
            have hnm' : most < n := by omega
            go_wp2
            go_ret
            exact ⟨ret_int R2.out, rfl⟩
end Go.Proofs.YtaibfefmehhldaaGreatDoor.Instr

namespace Go.Proofs.YtaibfefmehhldaaGreatDoor.Body
set_option linter.unusedVariables false
open Go.RowKit Go.Proofs.YtaibfefmehhldaaGreatDoor.Instr

theorem run_append_none (w : World) (base : Nat) (t ty e : TypeId) (i : TypeInfo) (size c : Nat) (ht : Tryz.prog.underlying t = some (.slice e)) (hi : Tryz.prog.info? e = some i)
    (v : Value) (n : Nat) (xs : List Value) (hown : w.ownsRow base e size v n xs) :
    (Builtin.append_ #[t, t] ty #[v, .slice none 0 c]).run Tryz.prog w = .ok v w := by
  rcases hown.2 with ⟨rfl, rfl⟩ | ⟨g, cap, cur, rfl, _, _, hnc, _⟩
  · simp [Builtin.append_, run_underlying ht, sizeOf, typeInfo, hi, Builtin.lenOf, Builtin.firstCells]
  · simp [Builtin.append_, run_underlying ht, sizeOf, typeInfo, hi, Builtin.lenOf, Builtin.firstCells, hnc, storeCells]
section
variable {ops : Array Oper} {rest : List Oper} {o : Oper} {act : Act} {Q : Exit → Act → World → Prop}
theorem append_none (hgd : o.guard = none) (s x : Operand) (t : TypeId) (ho : o.op = .call { callee := .builtin .append, args := #[s, x], argTypes := #[t, t] })
    {w : World} (base : Nat) (e : TypeId) (i : TypeInfo) (size c : Nat) (ht : Tryz.prog.underlying t = some (.slice e)) (hi : Tryz.prog.info? e = some i)
    (v : Value) (n : Nat) (xs : List Value) (hs : act.eval s = v) (hown : w.ownsRow base e size v n xs) (hx : act.eval x = .slice none 0 c)
    (h : wpList Tryz.prog ops Q rest (act.put o.dst v) w) : wpList Tryz.prog ops Q (o :: rest) act w := by
  refine wpList_plain hgd fun K hK => ?_
  have hrun := run_append_none w base t o.type e i size c ht hi v n xs hown
  unfold Oper.wp
  simp [execOp, ho, resolve, invoke, builtin, hs, hx, hrun, Result.andThen]
  exact hK _ _ h
theorem append_u32s (hgd : o.guard = none) (s x : Operand) (ho : o.op = .call { callee := .builtin .append, args := #[s, x], argTypes := #[46, 46] })
    {base : Nat} {w0 wr : World} {v : Value} {xs ys : List Int} (hs : act.eval s = v) (hown : OwnK 28 .u32 base wr v xs) (hb : Below base w0 wr) (hbase : base ≤ wr.heap.size)
    (a2 : Option Addr) (n c : Nat) (hx : act.eval x = .slice a2 n c) (hn : ys.length = n) (hy : TagsAt wr.heap.size wr a2 ys) (hl : xs.length + ys.length ≤ 8796093022208)
    (h : ∀ v' w', OwnK 28 .u32 base w' v' (xs ++ ys) → Below base w0 w' → base ≤ w'.heap.size → wpList Tryz.prog ops Q rest (act.put o.dst v') w') :
    wpList Tryz.prog ops Q (o :: rest) act wr := by
  obtain ⟨i0, hi, hz0, hz1, hz2⟩ := info_parts infoU32
  subst hn
  have fin : ∀ v' w', w'.ownsRow base 28 1 v' (xs.length + ys.length) (xs.map (Value.int .u32) ++ ys.map (Value.int .u32)) → wr.grownBy w' v.ownBlock → wpList Tryz.prog ops Q rest (act.put o.dst v') w' := by
    intro v' w' hown' hgrow
    refine h v' w' ?_ (hb.grown hgrow (by omega) (fun k hk => (World.ownsRow.lt hown k hk).1)) (by have := hgrow.size; omega)
    unfold OwnK; rw [List.length_append, List.map_append]; exact hown'
  rcases hy with h0 | ⟨b, off, rfl, hlt, hc⟩
  · subst h0
    cases a2 with
    | none => exact append_none hgd s x 46 ho base 28 i0 1 c Tryz.underlying46 hi v xs.length _ hs hown hx (h v wr (by simpa using hown) hb hbase)
    | some ad =>
      refine wpList_append_own _ hgd s x 46 ho base 28 i0 (.int .u32 0) 1 4 Tryz.underlying46 hi hz0 hz1 hz2 rfl (by decide) v xs.length _ hs hown ad 0 c [] hx rfl
        (by simp) (by simp) ?_ ?_ hbase (fun v' w' hown' hgrow _ => fin v' w' (by simpa using hown') hgrow)
      · unfold maxLen; simp at hl; omega
      · simp at hl; omega
  · refine wpList_append_own _ hgd s x 46 ho base 28 i0 (.int .u32 0) 1 4 Tryz.underlying46 hi hz0 hz1 hz2 rfl (by decide) v xs.length _ hs hown ⟨b, off, none⟩ ys.length c (ys.map (Value.int .u32)) hx (by simp)
      ?_ ?_ ?_ ?_ hbase (fun v' w' hown' hgrow _ => fin v' w' hown' hgrow)
    · intro j u hj
      have hjl : j < ys.length := by
        rcases Nat.lt_or_ge j ys.length with h | h
        · exact h
        · rw [List.getElem?_eq_none (by simpa using h)] at hj; cases hj
      have hplain : (⟨b, off, none⟩ : Addr).add j = ⟨b, off + j, none⟩ := by unfold Addr.add; split <;> simp_all
      rw [hplain, hc j hjl]
      rw [← hj, getD_lt hjl]; simp [hjl]
    · intro u hu
      obtain ⟨n, _, rfl⟩ := List.mem_map.1 hu
      rfl
    · unfold maxLen; omega
    · omega
end
section
variable {ops : Array Oper} {rest : List Oper} {o : Oper} {act : Act} {Q : Exit → Act → World → Prop}
theorem append_insG (hgd : o.guard = none) (s x : Operand) (ho : o.op = .call { callee := .builtin .append, args := #[s, x], argTypes := #[39, 39] })
    {base n : Nat} {wr : World} {v : Value} {xs : List Value} (y : Ix) (hs : act.eval s = v) (hown : wr.ownsRow base 87 8 v n xs) (hbase : base ≤ wr.heap.size) (g0 : Nat) (hg0 : g0 = wr.heap.size)
    (hx : act.eval x = .slice (some ⟨g0, 0, none⟩) 1 1) (hn : n ≤ 1000000)
    (h : ∀ g cap w', w'.ownsRow base 87 8 (.slice (some ⟨g, 0, none⟩) (n + 1) cap) (n + 1) (xs ++ y.vals.toList) → (wr.alloc (.cells y.vals 87)).grownBy w' v.ownBlock → (v.ownBlock = some g ∨ g = (wr.alloc (.cells y.vals 87)).heap.size) → wpList Tryz.prog ops Q rest (act.put o.dst (.slice (some ⟨g, 0, none⟩) (n + 1) cap)) w') :
    wpList Tryz.prog ops Q (o :: rest) act (wr.alloc (.cells y.vals 87)) := by
  subst hg0
  exact append_ins hgd s x ho y hs hown hbase hx hn h
end
theorem own_none32 (w : World) : OwnK 28 .u32 w.heap.size (w.alloc (.cells #[] 28)) (.slice (some ⟨w.heap.size, 0, none⟩) 0 0) [] := World.ownsRow_made w #[] 0 (Nat.le_refl _) (by unfold maxLen; omega) rfl
/-- What is still to be copied. -/
def Left (w : World) (a : Option Addr) (k : Nat) (r : Il) : Prop := r = .nil ∨ ∃ b off, a = some ⟨b, off, none⟩ ∧ Items w.heap.size w b (off + k * 8) r

end Go.Proofs.YtaibfefmehhldaaGreatDoor.Body

namespace Go.Proofs.YtaibfefmehhldaaGreatDoor.Mod
open Go.RowKit Go.Proofs.YtaibfefmehhldaaGreatDoor.Instr
set_option linter.unusedVariables false

theorem infoTy : (Tryz.prog.info? 59).map (fun i => (i.zero, i.size, i.bytes)) = some (some (.agg #[.int .i64 0, .int .i64 0]), 2, 16) := by kernel_rfl
theorem infoIm : (Tryz.prog.info? 53).map (fun i => (i.zero, i.size, i.bytes)) = some (some (.agg #[.string ⟨#[]⟩, .string ⟨#[]⟩, .int .i64 0]), 3, 40) := by kernel_rfl
theorem infoFn : (Tryz.prog.info? 43).map (fun i => (i.zero, i.size, i.bytes)) = some (some (.agg #[.int .i64 0, .int .i64 0, .slice none 0 0]), 3, 40) := by kernel_rfl
theorem infoLi : (Tryz.prog.info? 68).map (fun i => (i.zero, i.size, i.bytes)) = some (some (.agg #[.int .u32 0, .int .u32 0, .bool false]), 3, 12) := by kernel_rfl
theorem infoGl : (Tryz.prog.info? 45).map (fun i => (i.zero, i.size, i.bytes)) = some (some (.agg #[.bool false, .slice none 0 0]), 2, 32) := by kernel_rfl
theorem infoEx : (Tryz.prog.info? 55).map (fun i => (i.zero, i.size, i.bytes)) = some (some (.agg #[.string ⟨#[]⟩, .int .i64 0, .int .u32 0]), 3, 32) := by kernel_rfl
theorem infoEl : (Tryz.prog.info? 48).map (fun i => (i.zero, i.size, i.bytes)) = some (some (.agg #[.slice none 0 0, .slice none 0 0]), 2, 48) := by kernel_rfl
theorem infoDa : (Tryz.prog.info? 51).map (fun i => (i.zero, i.size, i.bytes)) = some (some (.agg #[.slice none 0 0, .slice none 0 0]), 2, 48) := by kernel_rfl
theorem BoxAt.set {W : World} {g : Nat} {v : Array Value} (h : BoxAt W g v) (j : Nat) (hj : j < v.size) (u : Value) : BoxAt (W.setCell ⟨g, j, none⟩ u) g (v.setIfInBounds j u) := by
  intro i x hi
  by_cases e : i = j
  · subst e
    rw [Array.getElem?_setIfInBounds_self_of_lt hj] at hi
    cases hi
    exact World.cell?_setCell_same _ _ _ (h i _ (Array.getElem?_eq_getElem hj))
  · rw [Array.getElem?_setIfInBounds_ne (fun k => e k.symm)] at hi
    exact (World.cell?_setCell_other _ _ _ _ (fun k => e (by injection k with _ k2 _; exact k2.symm))).trans (h i x hi)
theorem BoxAt.belowB {W W' : World} {B g : Nat} {v : Array Value} (h : BoxAt W g v) (hb : Below B W W') (hg : g < B) : BoxAt W' g v := fun j x hj => (hb.cell (p := ⟨g, j, none⟩) hg).trans (h j x hj)
theorem BoxAt.setFar {W : World} {g : Nat} {v : Array Value} (h : BoxAt W g v) {p : Addr} (hp : p.block ≠ g) (u : Value) : BoxAt (W.setCell p u) g v := fun j x hj => (World.cell?_setCell_far W p ⟨g, j, none⟩ u hp).trans (h j x hj)
def zeroM : Array Value := #[.slice none 0 0, .slice none 0 0, .slice none 0 0, .slice none 0 0, .slice none 0 0, .slice none 0 0, .slice none 0 0, .bool false, .int .u32 0, .slice none 0 0, .slice none 0 0]
structure Cp (w : World) (mv o : Array Value) (W : World) : Prop where
  below : Below w.heap.size w W
  size : w.heap.size + 3 ≤ W.heap.size
  mod : BoxAt W w.heap.size mv
  res : BoxAt W (w.heap.size + 1) zeroM
  resf : ∀ j, W.frozen? ⟨w.heap.size + 1, j, none⟩ = false
  out : BoxAt W (w.heap.size + 2) o
  outf : ∀ j, W.frozen? ⟨w.heap.size + 2, j, none⟩ = false
theorem Cp.on {w : World} {mv o : Array Value} {W W' : World} (h : Cp w mv o W) (hb : Below (w.heap.size + 3) W W') : Cp w mv o W' :=
  ⟨h.below.trans (hb.mono (by omega)), Nat.le_trans h.size hb.size, h.mod.belowB hb (by omega), h.res.belowB hb (by omega), fun j => (hb.frozen (p := ⟨w.heap.size + 1, j, none⟩) (by simp)).trans (h.resf j), h.out.belowB hb (by omega), fun j => (hb.frozen (p := ⟨w.heap.size + 2, j, none⟩) (by simp)).trans (h.outf j)⟩
theorem Cp.go {w : World} {mv o : Array Value} {W W' : World} (h : Cp w mv o W) (hb : Below W.heap.size W W') : Cp w mv o W' := h.on (hb.mono h.size)
theorem Cp.set {w : World} {mv o : Array Value} {W : World} (h : Cp w mv o W) (j : Nat) (hj : j < o.size) (u : Value) : Cp w mv (o.setIfInBounds j u) (W.setCell ⟨w.heap.size + 2, j, none⟩ u) :=
  ⟨h.below.setCell (by simp) _, by simpa [World.setCell] using h.size, h.mod.setFar (by simp) _, h.res.setFar (by simp) _, fun j => by rw [World.frozen?_setCell]; exact h.resf j, h.out.set j hj u, fun j => by rw [World.frozen?_setCell]; exact h.outf j⟩
theorem Cp.start (w : World) (mv : Array Value) : Cp w mv mv (((w.alloc (.cells mv 32)).alloc (.cells zeroM 32)).alloc (.cells mv 32)) := by
  have h0 := (Below.refl w.heap.size w).alloc (Nat.le_refl _) (.cells mv 32)
  have a1 := BoxAt.made w mv 32
  have a2 := BoxAt.made (w.alloc (.cells mv 32)) zeroM 32
  have a3 := BoxAt.made ((w.alloc (.cells mv 32)).alloc (.cells zeroM 32)) mv 32
  have b1 := fun W o => (Below.refl (World.heap W).size W).alloc (Nat.le_refl _) o
  rw [World.size_alloc] at a2
  rw [World.size_alloc, World.size_alloc] at a3
  refine ⟨(h0.alloc (by simp) _).alloc (by simp; omega) _, by simp, (a1.keep (b1 _ _)).keep (b1 _ _), a2.keep (b1 _ _), fun j => ?_, a3, fun j => ?_⟩
  · refine ((b1 ((w.alloc (.cells mv 32)).alloc (.cells zeroM 32)) (.cells mv 32)).frozen (p := ⟨w.heap.size + 1, j, none⟩) (by simp)).trans ?_
    have h := heap_alloc_new (w.alloc (.cells mv 32)) (.cells zeroM 32)
    rw [World.size_alloc] at h
    exact Soft.frozen ⟨_, _, h⟩ j
  · have h := heap_alloc_new ((w.alloc (.cells mv 32)).alloc (.cells zeroM 32)) (.cells mv 32)
    rw [World.size_alloc, World.size_alloc] at h
    exact Soft.frozen (q := w.heap.size + 2) ⟨_, _, h⟩ j

section
variable {ops : Array Oper} {rest : List Oper} {o : Oper} {act : Act} {Q : Exit → Act → World → Prop}
/-- A whole list that lies somewhere is appended. -/
theorem append_list {e ts : TypeId} {sz nb : Nat} {z : Value} (inf : (Tryz.prog.info? e).map (fun i => (i.zero, i.size, i.bytes)) = some (some z, sz, nb)) (hz : z.cells.size = sz) (h0 : 0 < sz) (hnb : nb ≤ 1000) (ut : Tryz.prog.underlying ts = some (.slice e))
    (hgd : o.guard = none) (s x : Operand) (ho : o.op = .call { callee := .builtin .append, args := #[s, x], argTypes := #[ts, ts] })
    {base : Nat} {wr : World} {v : Value} (hs : act.eval s = v) (hown : OwnR e sz base wr v []) (hbase : base ≤ wr.heap.size)
    (a2 : Option Addr) (n c : Nat) (hx : act.eval x = .slice a2 n c) (ys : List (List Value)) (hn : ys.length = n) (hy : Rows wr.heap.size wr a2 sz ys) (hlen : ∀ r ∈ ys, r.length = sz) (h1 : ∀ r ∈ ys, ∀ u ∈ r, u.oneCell' = true)
    (hl : ys.length ≤ 1000000000)
    (h : ∀ v' w', OwnR e sz base w' v' ys → Below base wr w' → base ≤ w'.heap.size → wpList Tryz.prog ops Q rest (act.put o.dst v') w') :
    wpList Tryz.prog ops Q (o :: rest) act wr := by
  obtain ⟨i0, hi, hz0, hz1, hz2⟩ := info_parts inf
  subst hn
  have hb0 := Below.refl base wr
  rcases hy with h2 | ⟨b, off, rfl, hlt, hc⟩
  · subst h2
    cases a2 with
    | none => exact Body.append_none hgd s x ts ho base e i0 sz c ut hi v _ _ hs hown.row hx (h v wr hown hb0 hbase)
    | some ad =>
      refine append_rows inf hz h0 hnb ut hgd s x ho (xs := []) [] hs hown hb0 hbase ad 0 c rfl hx (by simp) (by simp) (by simp) (by simp) (fun v' w' h3 h4 h5 _ => h v' w' h3 h4 h5)
  · refine append_rows inf hz h0 hnb ut hgd s x ho (xs := []) ys hs hown hb0 hbase ⟨b, off, none⟩ ys.length c rfl hx hlen (fun j u hj => ?_) h1 (by simpa using hl) (fun v' w' h3 h4 h5 _ => h v' w' h3 h4 h5)
    have hfl := flat_length ys hlen
    have hjl : j < ys.length * sz := by
      rcases Nat.lt_or_ge j (ys.length * sz) with h | h
      · exact h
      · rw [List.getElem?_eq_none (by omega)] at hj; cases hj
    have hq : j / sz < ys.length := (Nat.div_lt_iff_lt_mul h0).2 hjl
    have hr : j % sz < sz := Nat.mod_lt _ h0
    have hjj : j / sz * sz + j % sz = j := by rw [Nat.mul_comm]; exact Nat.div_add_mod j sz
    have hg := flat_get ys hlen (j / sz) (j % sz) hq hr
    rw [hjj, hj] at hg
    have := hc (j / sz) hq (j % sz) hr u hg.symm
    rw [Nat.add_assoc, hjj] at this
    have hplain : (⟨b, off, none⟩ : Addr).add j = ⟨b, off + j, none⟩ := by unfold Addr.add; split <;> simp_all
    rw [hplain]
    exact this
end
section
variable {α : Type}
theorem OwnR.madeG {W : World} (e : TypeId) (sz g : Nat) (hg : g = W.heap.size) : OwnR e sz g (W.alloc (.cells #[] e)) (.slice (some ⟨g, 0, none⟩) 0 0) [] := by
  subst hg; exact OwnR.made e sz W
theorem OwnR.alloc {e : TypeId} {sz base : Nat} {w : World} {v : Value} {rs : List (List Value)} (h : OwnR e sz base w v rs) (o : Obj) : OwnR e sz base (w.alloc o) v rs := h.below ((Below.refl _ _).alloc (Nat.le_refl _) o)
/-- What an append of one item gives. -/
theorem Got.more {e : TypeId} {sz nb base n0 : Nat} {f : α → List Value} {p : α → Part} {W w' : World} {v : Value} {us : List α} (x0 : α) (hG : Got e sz base f p W v us) (hlen : (f x0).length = sz) (hlie : (p x0).lies W) (hlo : ∀ q ∈ (p x0).foot, n0 ≤ q) (hb : base ≤ n0) (hv : ∀ g, v.ownBlock = some g → g < n0) {g cap : Nat}
    (hown : w'.ownsRow base e sz (.slice (some ⟨g, 0, none⟩) (us.length + 1) cap) (us.length + 1) ((us.map f).flatten ++ f x0)) (hgrow : (W.alloc (.cells (f x0).toArray e)).grownBy w' v.ownBlock) (hat : v.ownBlock = some g ∨ g = W.heap.size + 1) :
    Got e sz base f p w' (.slice (some ⟨g, 0, none⟩) (us.length + 1) cap) (us ++ [x0]) := by
  have hb1 := (Below.refl W.heap.size W).alloc (Nat.le_refl _) (.cells (f x0).toArray e)
  have hG1 := hG.below hb1
  have hs1 : (W.alloc (.cells (f x0).toArray e)).heap.size = W.heap.size + 1 := by simp
  refine Got.snoc (n0 := n0) hG1 (Part.touch (S := fun _ => False) hlie (.of_below hb1) (fun _ _ h => h)) hlo (fun q hq => by have := foot_lt hlie q hq; omega) hb hv ⟨?_, ?_⟩ hgrow (fun q hq => ?_)
  · rw [List.flatten_append, List.length_append, List.length_map]
    simpa using hown
  · intro r hr
    rcases List.mem_append.1 hr with hr | hr
    · exact hG.row.len r hr
    · rw [List.mem_singleton] at hr; subst hr; exact hlen
  · simp only [Value.ownBlock, Option.some.injEq] at hq
    subst hq
    rcases hat with h | h
    · exact .inl h
    · right; omega
theorem Got.len {e : TypeId} {sz base : Nat} {f : α → List Value} {p : α → Part} {W : World} {v : Value} {us : List α} (h : Got e sz base f p W v us) : ∃ a c, v = .slice a us.length c ∧ (a = none → c = 0) := by
  rcases h.row.row.2 with ⟨rfl, h0⟩ | ⟨g, cap, cur, rfl, _⟩
  · exact ⟨none, 0, by simpa using h0.symm, fun _ => rfl⟩
  · exact ⟨_, cap, by rw [List.length_map], fun h => by cases h⟩
end
section
variable {ops : Array Oper} {rest : List Oper} {o : Oper} {act : Act} {Q : Exit → Act → World → Prop} {α : Type}
end
end Go.Proofs.YtaibfefmehhldaaGreatDoor.Mod

namespace Go.Proofs.YtaibfefmehhldaaGreatDoor.Mod
open Go.RowKit Go.Proofs.YtaibfefmehhldaaGreatDoor.Instr
set_option linter.unusedVariables false

theorem OwnR.rowsN {α : Type} {e : TypeId} {sz base : Nat} {f : α → List Value} {W : World} {v : Value} {us : List α} (h : OwnR e sz base W v (us.map f)) : ∃ a c, v = .slice a us.length c ∧ Rows W.heap.size W a sz (us.map f) := by
  obtain ⟨a, c, hv, hr, _⟩ := h.rows
  rw [List.length_map] at hv
  exact ⟨a, c, hv, hr⟩
theorem map_snoc {α : Type} (f : α → α) {us l : List α} {k : Nat} {x : α} (h : us.map f = (l.take k).map f) (hk : k < l.length) (hx : f x = f l[k]) : (us ++ [x]).map f = (l.take (k + 1)).map f := by
  rw [List.take_succ_eq_append_getElem hk, List.map_append, List.map_append, h]
  simp [hx]
theorem OwnR.save {e : TypeId} {sz base k : Nat} {W W' : World} {v : Value} {rs : List (List Value)} (h : OwnR e sz base W v rs) (hs : Save k W W') (hk : k < base) : OwnR e sz base W' v rs :=
  h.touch (.of_save hs) (fun g hg e => by have := (World.ownsRow.lt h.row g hg).1; omega)
theorem OwnR.slc {α : Type} {e : TypeId} {sz base n : Nat} {f : α → List Value} {W : World} {v : Value} {us : List α} (h : OwnR e sz base W v (us.map f)) (hn : us.length = n) : ∃ a c, v = .slice a n c := by
  obtain ⟨a, c, rfl, _⟩ := h.rowsN
  exact ⟨a, c, by rw [hn]⟩
theorem Save.thenB {k : Nat} {a b c : World} (h : Save k a b) (g : Below a.heap.size b c) : Save k a c :=
  ⟨g.os.trans h.os, g.tape.trans h.tape, g.output.trans h.output, Nat.le_trans h.size g.size, fun j hj hk => (g.block j hj).trans (h.block j hj hk)⟩
/-- The five lists that are taken over whole. -/
structure Five (m : Md) (B : Nat) (W : World) (v1 v2 v4 v5 v7 : Value) : Prop where
  ty : OwnR 59 2 B W v1 (m.ty.map tyV)
  im : OwnR 53 3 B W v2 (m.im.map Imp.v)
  tb : OwnR 68 3 B W v4 (m.tb.map Li.v)
  me : OwnR 68 3 B W v5 (m.me.map Li.v)
  ex : OwnR 55 3 B W v7 (m.ex.map Ex.v)
theorem Five.save {m : Md} {B k : Nat} {W W' : World} {v1 v2 v4 v5 v7 : Value} (h : Five m B W v1 v2 v4 v5 v7) (hs : Save k W W') (hk : k < B) : Five m B W' v1 v2 v4 v5 v7 :=
  ⟨h.ty.save hs hk, h.im.save hs hk, h.tb.save hs hk, h.me.save hs hk, h.ex.save hs hk⟩
end Go.Proofs.YtaibfefmehhldaaGreatDoor.Mod

namespace Go.Proofs.YtaibfefmehhldaaGreatDoor.Mod
open Go.RowKit Go.Proofs.YtaibfefmehhldaaGreatDoor.Instr
set_option linter.unusedVariables false

theorem held_mk3 {k : Nat} {V W : World} {p0 p1 p2 : Addr} {v0 v1 v2 : Value} (h0 : V.cell? p0 = some v0) (h1 : V.cell? p1 = some v1) (h2 : V.cell? p2 = some v2) (n0 : p0.block ≠ k) (n1 : p1.block ≠ k) (n2 : p2.block ≠ k) (h : Save k V W) :
    Save k V W ∧ W.cell? p0 = some v0 ∧ W.cell? p1 = some v1 ∧ W.cell? p2 = some v2 := ⟨h, h.cell n0 h0, h.cell n1 h1, h.cell n2 h2⟩
theorem held_ms {A B C D : Prop} {p : Addr} {v : Value} {W X : World} (h : A ∧ B ∧ C ∧ D) (e : X.cell? p = W.cell? p) (hv : W.cell? p = some v) : A ∧ B ∧ C ∧ D ∧ X.cell? p = some v := ⟨h.1, h.2.1, h.2.2.1, h.2.2.2, e.trans hv⟩
section
variable {ops : Array Oper} {rest : List Oper} {o : Oper} {act : Act} {Q : Exit → Act → World → Prop}
theorem step_none {E : Prop} {K : Act → World → Prop} (hgd : o.guard = none) (s x : Operand) (t : TypeId) (ho : o.op = .call { callee := .builtin .append, args := #[s, x], argTypes := #[t, t] })
    {w : World} (base : Nat) (e : TypeId) (i : TypeInfo) (size c : Nat) (ht : Tryz.prog.underlying t = some (.slice e)) (hi : Tryz.prog.info? e = some i)
    (v : Value) (n : Nat) (xs : List Value) (hs : act.eval s = v) (hown : w.ownsRow base e size v n xs) (hx : act.eval x = .slice none 0 c)
    (h : K (act.put o.dst v) w) : if Region.wanted o (yielded ops act.tmps) = true then Oper.wp Tryz.prog o act w K Q else E := by
  have hw : Region.wanted o (yielded ops act.tmps) = true := by simp [Region.wanted, hgd]
  rw [if_pos hw]
  have hrun := Go.Proofs.YtaibfefmehhldaaGreatDoor.Body.run_append_none w base t o.type e i size c ht hi v n xs hown
  unfold Oper.wp
  simp [execOp, ho, resolve, invoke, builtin, hs, hx, hrun, Result.andThen]
  exact h
/-- A whole list that lies somewhere is appended, at a step of a region that draws its order. -/
theorem step_list {e ts : TypeId} {sz nb : Nat} {z : Value} {E : Prop} {K : Act → World → Prop} (inf : (Tryz.prog.info? e).map (fun i => (i.zero, i.size, i.bytes)) = some (some z, sz, nb)) (hz : z.cells.size = sz) (h0 : 0 < sz) (hnb : nb ≤ 1000) (ut : Tryz.prog.underlying ts = some (.slice e))
    (hgd : o.guard = none) (s x : Operand) (ho : o.op = .call { callee := .builtin .append, args := #[s, x], argTypes := #[ts, ts] })
    {base : Nat} {wr : World} {v : Value} (hs : act.eval s = v) (hown : OwnR e sz base wr v []) (hbase : base ≤ wr.heap.size)
    (a2 : Option Addr) (n c : Nat) (hx : act.eval x = .slice a2 n c) (ys : List (List Value)) (hn : ys.length = n) (hy : Rows wr.heap.size wr a2 sz ys) (hlen : ∀ r ∈ ys, r.length = sz) (h1 : ∀ r ∈ ys, ∀ u ∈ r, u.oneCell' = true)
    (hl : ys.length ≤ 1000000000)
    (h : ∀ v' w', OwnR e sz base w' v' ys → Touch (fun j => v.ownBlock = some j) wr w' → K (act.put o.dst v') w') :
    if Region.wanted o (yielded ops act.tmps) = true then Oper.wp Tryz.prog o act wr K Q else E := by
  obtain ⟨i0, hi, hz0, hz1, hz2⟩ := info_parts inf
  subst hn
  have hb0 := Below.refl base wr
  rcases hy with h2 | ⟨b, off, rfl, hlt, hc⟩
  · subst h2
    cases a2 with
    | none => exact step_none hgd s x ts ho base e i0 sz c ut hi v _ _ hs hown.row hx (h v wr hown (Touch.refl _ _))
    | some ad =>
      refine step_rows inf hz h0 hnb ut hgd s x ho (xs := []) [] hs hown hb0 hbase ad 0 c rfl hx (by simp) (by simp) (by simp) (by simp) (fun v' w' h3 h4 h5 h6 => h v' w' h3 (Touch.of_grown h6))
  · refine step_rows inf hz h0 hnb ut hgd s x ho (xs := []) ys hs hown hb0 hbase ⟨b, off, none⟩ ys.length c rfl hx hlen (fun j u hj => ?_) h1 (by simpa using hl) (fun v' w' h3 h4 h5 h6 => h v' w' h3 (Touch.of_grown h6))
    have hfl := flat_length ys hlen
    have hjl : j < ys.length * sz := by
      rcases Nat.lt_or_ge j (ys.length * sz) with h | h
      · exact h
      · rw [List.getElem?_eq_none (by omega)] at hj; cases hj
    have hq : j / sz < ys.length := (Nat.div_lt_iff_lt_mul h0).2 hjl
    have hr : j % sz < sz := Nat.mod_lt _ h0
    have hjj : j / sz * sz + j % sz = j := by rw [Nat.mul_comm]; exact Nat.div_add_mod j sz
    have hg := flat_get ys hlen (j / sz) (j % sz) hq hr
    rw [hjj, hj] at hg
    have := hc (j / sz) hq (j % sz) hr u hg.symm
    rw [Nat.add_assoc, hjj] at this
    have hplain : (⟨b, off, none⟩ : Addr).add j = ⟨b, off + j, none⟩ := by unfold Addr.add; split <;> simp_all
    rw [hplain]
    exact this
end
def oneI (z : Int) : List Value := [.int .u32 z]
theorem oneI_one : ∀ x, ∀ u ∈ oneI x, u.oneCell' = true := by intro x u hu; simp only [oneI, List.mem_cons, List.not_mem_nil, or_false] at hu; subst hu; rfl
theorem infoI32 : (Tryz.prog.info? 28).map (fun i => (i.zero, i.size, i.bytes)) = some (some (.int .u32 0), 1, 4) := by kernel_rfl
theorem rows_of_tags {n₀ : Nat} {w : World} {a : Option Addr} {zs : List Int} (h : TagsAt n₀ w a zs) : Rows n₀ w a 1 (zs.map oneI) := by
  rcases h with h | ⟨b, off, ha, hl, hc⟩
  · exact .inl (by rw [h]; rfl)
  · refine .inr ⟨b, off, ha, hl, fun i hi j hj v hv => ?_⟩
    have hi' : i < zs.length := by simpa using hi
    obtain rfl : j = 0 := by omega
    have := hc i hi'
    rw [List.getD_eq_getElem?_getD, List.getElem?_map, List.getElem?_eq_getElem hi'] at hv
    simp only [oneI, Option.map_some, Option.getD_some, List.getElem?_cons_zero, Option.some.injEq] at hv
    subst hv
    rw [List.getD_eq_getElem?_getD, List.getElem?_eq_getElem hi'] at this
    simpa using this
theorem tags_of_rows {n₀ : Nat} {w : World} {a : Option Addr} {zs : List Int} (h : Rows n₀ w a 1 (zs.map oneI)) : TagsAt n₀ w a zs := by
  rcases h with h | ⟨b, off, ha, hl, hc⟩
  · exact .inl (by simpa using h)
  · refine .inr ⟨b, off, ha, hl, fun i hi => ?_⟩
    have := hc i (by simpa using hi) 0 (by omega) (.int .u32 (zs.getD i 0)) (by rw [List.getD_eq_getElem?_getD, List.getElem?_map, List.getElem?_eq_getElem hi]; simp [oneI, List.getD_eq_getElem?_getD, List.getElem?_eq_getElem hi])
    simpa using this
/-- What a list of labels or bytes that was taken over gives. -/
theorem own_list {e : TypeId} {sz base : Nat} {W : World} {v : Value} {zs : List Int} {f : Int → List Value} (h : OwnR e sz base W v (zs.map f)) : ∃ a c, v = .slice a zs.length c ∧ Rows W.heap.size W a sz (zs.map f) ∧ ∀ q ∈ blkOf zs.length a, base ≤ q := by
  obtain ⟨a, c, hv, hr, hl⟩ := h.rows
  rw [List.length_map] at hv
  refine ⟨a, c, hv, hr, fun q hq => ?_⟩
  unfold blkOf at hq
  split at hq
  · simp at hq
  · rename_i hne
    cases a with
    | none => simp at hq
    | some ad =>
      simp only [List.mem_singleton] at hq
      subst hq
      exact hl _ (by rw [hv]; rfl)
theorem part_own {w8 W : World} {a8 : Option Addr} {u8 : Il} (hl8 : ListAt w8.heap.size w8 a8 u8.len u8) {S : Nat → Prop} (ht : Touch S w8 W) (hne : ∀ q ∈ blkOf u8.len a8 ++ u8.foot, ¬ S q) : ListAt W.heap.size W a8 u8.len u8 := (hl8.touch ht hne).more ht.size
/-- A module's box that is written all over. -/
theorem box_stored {V : World} {g : Nat} (h : BoxAt V g zeroM) (v0 v1 v2 v3 v4 v5 v6 v7 v8 v9 v10 : Value) : BoxAt (((((((((((V.setCell ⟨g, 0, none⟩ v0).setCell ⟨g, 1, none⟩ v1).setCell ⟨g, 2, none⟩ v2).setCell ⟨g, 3, none⟩ v3).setCell ⟨g, 4, none⟩ v4).setCell ⟨g, 5, none⟩ v5).setCell ⟨g, 6, none⟩ v6).setCell ⟨g, 7, none⟩ v7).setCell ⟨g, 8, none⟩ v8).setCell ⟨g, 9, none⟩ v9).setCell ⟨g, 10, none⟩ v10) g #[v0, v1, v2, v3, v4, v5, v6, v7, v8, v9, v10] := by
  have h2 := (((((((((((h.set 0 (by simp [zeroM]) v0).set 1 (by simp [zeroM]) v1).set 2 (by simp [zeroM]) v2).set 3 (by simp [zeroM]) v3).set 4 (by simp [zeroM]) v4).set 5 (by simp [zeroM]) v5).set 6 (by simp [zeroM]) v6).set 7 (by simp [zeroM]) v7).set 8 (by simp [zeroM]) v8).set 9 (by simp [zeroM]) v9).set 10 (by simp [zeroM]) v10)
  unfold zeroM at h2
  simpa only [List.setIfInBounds_toArray, List.set_cons_zero, List.set_cons_succ] using h2
end Go.Proofs.YtaibfefmehhldaaGreatDoor.Mod

namespace Go.Proofs.YtaibfefmehhldaaGreatDoor.Mod
open Go.RowKit Go.Proofs.YtaibfefmehhldaaGreatDoor.Instr

/-- All in it together is little. -/
structure Md.small (m : Md) (most : Nat) : Prop where
  lens : m.ty.length + m.im.length + m.fu.length + m.tb.length + m.me.length + m.gl.length + m.ex.length + m.el.length + m.da.length ≤ most
  ls : ∀ l ∈ m.codes, l.t.weight ≤ most
  fs : ∀ e ∈ m.el, e.fs.length ≤ most
  bs : ∀ d ∈ m.da, d.bs.length ≤ most
  iS : ∀ i ∈ m.im, i.mo.size ≤ most ∧ i.na.size ≤ most
  eS : ∀ e ∈ m.ex, e.na.size ≤ most
theorem drewQ {B : Nat} {w w' : World} (h : Below B w w') (n : Nat) : Below B w (w'.drewN n) := ⟨h.os, h.tape, h.output, h.size, h.block⟩
end Go.Proofs.YtaibfefmehhldaaGreatDoor.Mod
